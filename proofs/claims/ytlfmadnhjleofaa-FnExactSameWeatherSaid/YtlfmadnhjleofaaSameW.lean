/- SameWeather, of the program and of the model. -/
import Derived.Test.YtlfmadnhjleofaaAsked
import Derived.Test.YtlfmadnhjleofaaZC
import Derived.Test.YtlfmadnhjleofaaZF
namespace Go.Proofs.Ytlfmadnhjleofaa
open Go.RowKit
set_option linter.unusedVariables false
set_option linter.unusedSimpArgs false

theorem heldWeather : Try.prog.stoodInHeld 192 = false := by kernel_rfl
theorem neqWeather (a b : Int × Int) (w : World) : (binOp .neq 192 (.agg #[.int .i8 a.1, .int .i8 a.2]) (.agg #[.int .i8 b.1, .int .i8 b.2])).run Try.prog w = .ok (.bool (!decide (a = b))) w := by
  have h : (Op.equalIn 10000 192 (cellV a.1 a.2) (cellV b.1 b.2)).run Try.prog w = .ok (decide (a = b)) w :=
    equal_cell_of (P := Try.prog) Try.underlying192 rfl heldWeather (by decide) (by decide) Try.underlying24 Try.underlying24 rfl rfl 9998 a b w
  unfold cellV at h
  simp only [binOp]
  simp [Op.equal, Op.maxDepth, h]

def pairZ (zs : List Int) (i : Nat) : Int × Int := (rainZ zs i, warmZ zs i)
def sameB (N M : Nat) (zs ys : List Int) : Bool := decide (N = M) && decide (zs = ys)
theorem pairs_eq {N : Nat} {zs ys : List Int} (hz : zs.length = N * 2) (hy : ys.length = N * 2) (h : ∀ i, i < N → pairZ zs i = pairZ ys i) : zs = ys := by
  apply List.ext_getElem?
  intro j
  rcases Nat.lt_or_ge j (N * 2) with hj | hj
  · have h1 := h (j / 2) (by omega)
    simp only [pairZ, Prod.mk.injEq, rainZ, warmZ] at h1
    have g1 : zs[j]? = some (zs.getD j 0) := by simp [List.getElem?_eq_getElem (show j < zs.length by omega)]
    have g2 : ys[j]? = some (ys.getD j 0) := by simp [List.getElem?_eq_getElem (show j < ys.length by omega)]
    rw [g1, g2]
    rcases Nat.mod_two_eq_zero_or_one j with e | e
    · rw [show j = j / 2 * 2 by omega, h1.1]
    · rw [show j = j / 2 * 2 + 1 by omega, h1.2]
  · rw [List.getElem?_eq_none (by omega), List.getElem?_eq_none (by omega)]
theorem pair_cells {W : World} {B N : Nat} {g cap : Nat} {zs : List Int} (hz : zs.length = N * 2) (ho : W.ownsRow B 192 2 (.slice (some ⟨g, 0, none⟩) N cap) N (intsV .i8 zs)) {k : Nat} (hk : k < N) :
    W.cell? ⟨g, k * 2, none⟩ = some (.int .i8 (pairZ zs k).1) ∧ W.cell? ⟨g, k * 2 + 1, none⟩ = some (.int .i8 (pairZ zs k).2) :=
  ⟨own_cell ho _ _ (intsV_get (k := .i8) (by simp [pairZ, rainZ, List.getElem?_eq_getElem (show k * 2 < zs.length by omega)])), own_cell ho _ _ (intsV_get (k := .i8) (by simp [pairZ, warmZ, List.getElem?_eq_getElem (show k * 2 + 1 < zs.length by omega)]))⟩

set_option maxRecDepth 100000 in
set_option maxHeartbeats 2000000 in
theorem equalW_any (B N : Nat) (v : Value) (zs : List Int) (hz : zs.length = N * 2) (B2 M : Nat) (x : Value) (ys : List Int) (hy : ys.length = M * 2) (hN : N ≤ 2000000) (hM : M ≤ 2000000) (r : Bool) (hr : sameB N M zs ys = r) (w : World) (ho : w.ownsRow B 192 2 v N (intsV .i8 zs)) (hx : w.ownsRow B2 192 2 x M (intsV .i8 ys)) :
    Calls Try.prog 146 #[v, x] w fun e w' => e = .returned (.bool r) ∧ Below w.heap.size w w' := by
  obtain ⟨av, cv, rfl⟩ := own_slice ho
  obtain ⟨ax, cx, rfl⟩ := own_slice hx
  have HO := Lib.hid ho
  have HX := Lib.hid hx
  have HRR := Lib.hid hr
  clear ho hx hr
  by_cases hNM : N = M
  · subst hNM
    have HE := Lib.hid (show r = decide (zs = ys) by rw [← HRR.out, sameB, decide_eq_true rfl, Bool.true_and])
    clear HRR
    go_enter Try.func146, Try.ntmps146
    go_wp2_with fail
    go_loopw [13] (fun i wr => ∃ k : Nat, k ≤ N ∧ i = .int .i64 k ∧ (∀ j, j < k → pairZ zs j = pairZ ys j) ∧ Below w.heap.size w wr) (fun i _ => N - (intOf i).toNat)
    case atStart => exact ⟨0, by omega, rfl, fun j h => by omega, Below.refl _ _⟩
    case round =>
      obtain ⟨k, hk, rfl, hall, hb⟩ := hrel
      have HL := Lib.hid hall
      clear hall
      by_cases hlt : k < N
      · have hd : decide ((k : Int) < (N : Int)) = true := by simp; omega
        have hkN : (k : Int) < (N : Int) := by omega
        have ho := own_below HO.out hb
        have hx := own_below HX.out hb
        obtain ⟨g, cap, he, -, hg⟩ := own_form ho (by omega)
        obtain ⟨g2, cap2, he2, -, hg2⟩ := own_form hx (by omega)
        simp only [Value.slice.injEq, true_and] at he he2
        obtain ⟨rfl, rfl⟩ := he
        obtain ⟨rfl, rfl⟩ := he2
        obtain ⟨c0, c1⟩ := pair_cells hz ho hlt
        obtain ⟨d0, d1⟩ := pair_cells hy hx hlt
        obtain ⟨p, hp⟩ : ∃ p, pairZ zs k = p := ⟨_, rfl⟩
        obtain ⟨q, hq⟩ : ∃ q, pairZ ys k = q := ⟨_, rfl⟩
        rw [hp] at c0 c1
        rw [hq] at d0 d1
        have HP := Lib.hid (And.intro hp hq)
        have hneq := neqWeather p q
        clear ho hx hp hq
        by_cases e : p = q
        · have hde : decide (p = q) = true := by simpa using e
          rw [hde] at hneq
          have HEQ := Lib.hid e
          clear e hde
          go_wp2_with fail
          go_quiet (fail)
          go_wp2_with fail
          go_roundw
          case rel => exact ⟨k + 1, by omega, by go_num, fun j hj => by
            by_cases e : j = k
            · subst e; rw [HP.out.1, HP.out.2, HEQ.out]
            · exact HL.out j (by omega), below_drewN hb _⟩
          case measure => simp [intOf]; omega
        · have hde : decide (p = q) = false := by simpa using e
          rw [hde] at hneq
          have HF := Lib.hid (show r = false by
            rw [HE.out, decide_eq_false_iff_not]
            intro h
            apply e
            rw [← HP.out.1, ← HP.out.2, h])
          clear e hde
          go_wp2_with fail
          go_quiet (fail)
          go_wp2_with fail
          go_ret
          exact ⟨by rw [HF.out]; rfl, below_drewN hb _⟩
      · have hd : decide ((k : Int) < (N : Int)) = false := by simp; omega
        obtain rfl : k = N := by omega
        have HF := Lib.hid (show r = true by rw [HE.out]; simpa using pairs_eq hz hy HL.out)
        go_wp2_with fail
        go_ret
        exact ⟨by rw [HF.out]; rfl, hb⟩
  · have hd : decide ((N : Int) = (M : Int)) = false := by simp; omega
    have hd2 : ((N : Int) == (M : Int)) = false := by simp; omega
    have HF := Lib.hid (show r = false by rw [← HRR.out, sameB, decide_eq_false hNM, Bool.false_and])
    go_enter Try.func146, Try.ntmps146
    go_wp2_with fail
    go_ret
    exact ⟨by rw [HF.out]; rfl, Below.refl _ _⟩
set_option maxRecDepth 100000 in
set_option maxHeartbeats 2000000 in
theorem specSameW_any (B N : Nat) (v : Value) (zs : List Int) (hz : zs.length = N * 2) (B2 M : Nat) (x : Value) (ys : List Int) (hy : ys.length = M * 2) (hN : N ≤ 2000000) (hM : M ≤ 2000000) (r : Bool) (hr : sameB N M zs ys = r) (w : World) (ho : w.ownsRow B 192 2 v N (intsV .i8 zs)) (hx : w.ownsRow B2 192 2 x M (intsV .i8 ys)) :
    Calls Try.prog 72 #[v, x] w fun e w' => e = .returned (.bool r) ∧ Below w.heap.size w w' := by
  obtain ⟨av, cv, rfl⟩ := own_slice ho
  obtain ⟨ax, cx, rfl⟩ := own_slice hx
  have HO := Lib.hid ho
  have HX := Lib.hid hx
  have HRR := Lib.hid hr
  clear ho hx hr
  by_cases hNM : N = M
  · subst hNM
    have HE := Lib.hid (show r = decide (zs = ys) by rw [← HRR.out, sameB, decide_eq_true rfl, Bool.true_and])
    clear HRR
    go_enter Try.func72, Try.ntmps72
    go_wp2_with fail
    go_loopw [5] (fun i wr => ∃ k : Nat, k ≤ N ∧ i = .int .i64 k ∧ (∀ j, j < k → pairZ zs j = pairZ ys j) ∧ Below w.heap.size w wr) (fun i _ => N - (intOf i).toNat)
    case atStart => exact ⟨0, by omega, rfl, fun j h => by omega, Below.refl _ _⟩
    case round =>
      obtain ⟨k, hk, rfl, hall, hb⟩ := hrel
      have HL := Lib.hid hall
      clear hall
      by_cases hlt : k < N
      · have hd : decide ((k : Int) < (N : Int)) = true := by simp; omega
        have hkN : (k : Int) < (N : Int) := by omega
        have ho := own_below HO.out hb
        have hx := own_below HX.out hb
        obtain ⟨g, cap, he, -, hg⟩ := own_form ho (by omega)
        obtain ⟨g2, cap2, he2, -, hg2⟩ := own_form hx (by omega)
        simp only [Value.slice.injEq, true_and] at he he2
        obtain ⟨rfl, rfl⟩ := he
        obtain ⟨rfl, rfl⟩ := he2
        obtain ⟨c0, c1⟩ := pair_cells hz ho hlt
        obtain ⟨d0, d1⟩ := pair_cells hy hx hlt
        obtain ⟨p, hp⟩ : ∃ p, pairZ zs k = p := ⟨_, rfl⟩
        obtain ⟨q, hq⟩ : ∃ q, pairZ ys k = q := ⟨_, rfl⟩
        rw [hp] at c0 c1
        rw [hq] at d0 d1
        have HP := Lib.hid (And.intro hp hq)
        have hneq := neqWeather p q
        clear ho hx hp hq
        by_cases e : p = q
        · have hde : decide (p = q) = true := by simpa using e
          rw [hde] at hneq
          have HEQ := Lib.hid e
          clear e hde
          go_wp2_with fail
          go_quiet (fail)
          go_wp2_with fail
          go_roundw
          case rel => exact ⟨k + 1, by omega, by go_num, fun j hj => by
            by_cases e : j = k
            · subst e; rw [HP.out.1, HP.out.2, HEQ.out]
            · exact HL.out j (by omega), below_drewN hb _⟩
          case measure => simp [intOf]; omega
        · have hde : decide (p = q) = false := by simpa using e
          rw [hde] at hneq
          have HF := Lib.hid (show r = false by
            rw [HE.out, decide_eq_false_iff_not]
            intro h
            apply e
            rw [← HP.out.1, ← HP.out.2, h])
          clear e hde
          go_wp2_with fail
          go_quiet (fail)
          go_wp2_with fail
          go_ret
          exact ⟨by rw [HF.out]; rfl, below_drewN hb _⟩
      · have hd : decide ((k : Int) < (N : Int)) = false := by simp; omega
        obtain rfl : k = N := by omega
        have HF := Lib.hid (show r = true by rw [HE.out]; simpa using pairs_eq hz hy HL.out)
        go_wp2_with fail
        go_ret
        exact ⟨by rw [HF.out]; rfl, hb⟩
  · have hd : decide ((N : Int) = (M : Int)) = false := by simp; omega
    have hd2 : ((N : Int) == (M : Int)) = false := by simp; omega
    have HF := Lib.hid (show r = false by rw [← HRR.out, sameB, decide_eq_false hNM, Bool.false_and])
    go_enter Try.func72, Try.ntmps72
    go_wp2_with fail
    go_ret
    exact ⟨by rw [HF.out]; rfl, Below.refl _ _⟩

set_option maxRecDepth 100000 in
theorem implSameW_any (B N : Nat) (v : Value) (zs : List Int) (hz : zs.length = N * 2) (B2 M : Nat) (x : Value) (ys : List Int) (hy : ys.length = M * 2) (hN : N ≤ 2000000) (hM : M ≤ 2000000) (r : Bool) (hr : sameB N M zs ys = r) (w : World) (ho : w.ownsRow B 192 2 v N (intsV .i8 zs)) (hx : w.ownsRow B2 192 2 x M (intsV .i8 ys)) :
    Calls Try.prog 74 #[v, x] w fun e w' => e = .returned (.bool r) ∧ Below w.heap.size w w' := by
  have HE := Lib.hid (equalW_any B N v zs hz B2 M x ys hy hN hM r hr w ho hx)
  obtain ⟨av, cv, rfl⟩ := own_slice ho
  obtain ⟨ax, cx, rfl⟩ := own_slice hx
  clear ho hx hr
  go_enter Try.func74, Try.ntmps74
  go_wp2_with fail
  refine HE.out.mono ?_
  rintro e w1 ⟨rfl, hb1⟩
  go_wp2_with fail
  go_ret
  exact ⟨rfl, hb1⟩
end Go.Proofs.Ytlfmadnhjleofaa
