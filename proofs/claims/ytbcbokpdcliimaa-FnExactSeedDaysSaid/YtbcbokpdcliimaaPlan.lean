/- Plans: whether a list of days is one, and whether a day is in it. -/
import Derived.Test.YtbcbokpdcliimaaAsked
namespace Go.Proofs.Ytbcbokpdcliimaa
open Go.RowKit
set_option linter.unusedVariables false
set_option linter.unusedSimpArgs false

/-- The day ahead of an index; -1 ahead of the first. -/
def prevZ (ps : List Int) : Nat → Int
  | 0 => -1
  | i + 1 => ps.getD i 0
def goodB (N : Nat) (ps : List Int) (i : Nat) : Bool := decide (prevZ ps i < ps.getD i 0) && decide (ps.getD i 0 < N)
theorem prevZ_ge {N : Nat} {ps : List Int} : ∀ i, (∀ j, j < i → goodB N ps j = true) → -1 ≤ prevZ ps i
  | 0, _ => Int.le_refl _
  | i + 1, h => by
    have h1 := prevZ_ge (N := N) i (fun j hj => h j (by omega))
    have h2 := h i (by omega)
    simp only [goodB, Bool.and_eq_true, decide_eq_true_eq] at h2
    simp only [prevZ]
    omega
theorem goodB_spec {N : Nat} {ps : List Int} {i : Nat} (h : ∀ j, j < i → goodB N ps j = true) : goodB N ps i = ((decide (0 ≤ ps.getD i 0) && decide (ps.getD i 0 ≤ (N : Int) - 1)) && !(decide (0 < i) && decide (ps.getD i 0 ≤ ps.getD (i - 1) 0))) := by
  cases i with
  | zero =>
    rw [Bool.eq_iff_iff]
    simp [goodB, prevZ]
    omega
  | succ i =>
    have h1 := prevZ_ge i (fun j hj => h j (by omega))
    have h2 := h i (by omega)
    simp only [goodB, Bool.and_eq_true, decide_eq_true_eq] at h2
    rw [Bool.eq_iff_iff]
    simp [goodB, prevZ]
    simp at h2
    omega

set_option maxRecDepth 100000 in
set_option maxHeartbeats 1000000 in
theorem isPlan_any (B H : Nat) (v : Value) (hH : H ≤ 2000000) (ps : List Int) (hl : ps.length = H) (N : Nat) (q : Nat) (hq : FirstNo (goodB N ps) H q) (w : World) (ho : w.ownsRow B 2 1 v H (intsV .i64 ps)) :
    Calls Try.prog 74 #[v, .int .i64 N] w fun e w' => e = .returned (.bool (decide (q = H))) ∧ w' = w := by
  obtain ⟨av, cv, rfl⟩ := own_slice ho
  have HO := Lib.hid ho
  have HQ := Lib.hid hq
  clear ho hq
  go_enter Try.func74, Try.ntmps74
  go_wp2_with fail
  go_loopw [5, 10] (fun b i wr => ∃ k : Nat, k ≤ H ∧ i = .int .i64 k ∧ b = .int .i64 (prevZ ps k) ∧ (∀ j, j < k → goodB N ps j = true) ∧ wr = w) (fun _ i _ => H - (intOf i).toNat)
  case atStart => exact ⟨0, by omega, rfl, rfl, fun j h => by omega, rfl⟩
  case round =>
    obtain ⟨k, hk, rfl, rfl, hall, rfl⟩ := hrel
    have HA := Lib.hid hall
    clear hall
    by_cases hlt : k < H
    · have hd : decide ((k : Int) < (H : Int)) = true := by simp; omega
      have hzk : ps[k]? = some (ps.getD k 0) := by simp [List.getElem?_eq_getElem (show k < ps.length by omega)]
      have ho := HO.out
      obtain ⟨ga, cap, he, hBg, hg⟩ := own_form ho (by omega)
      simp only [Value.slice.injEq, true_and] at he
      obtain ⟨rfl, rfl⟩ := he
      have c0 := own_cell ho _ _ (intsV_get (k := .i64) hzk)
      have hP : prevZ ps (k + 1) = ps.getD k 0 := rfl
      have hG : goodB N ps k = (decide (prevZ ps k < ps.getD k 0) && decide (ps.getD k 0 < N)) := rfl
      obtain ⟨p, hp⟩ : ∃ p, ps.getD k 0 = p := ⟨_, rfl⟩
      obtain ⟨r, hr⟩ : ∃ r, prevZ ps k = r := ⟨_, rfl⟩
      rw [hp] at c0 hP hG
      rw [hr] at hG ⊢
      have HP := Lib.hid hP
      have HG := Lib.hid hG
      clear ho hzk hp hr hP hG
      by_cases h1 : p ≤ r
      · have d1 : decide (p ≤ r) = true := by simpa using h1
        have HQ2 := Lib.hid (show decide (q = H) = false by
          have := firstNo_at HQ.out HA.out hlt (by rw [HG.out, decide_eq_false (by omega : ¬ r < p)]; rfl)
          simp; omega)
        go_wp2_with fail
        go_ret
        exact ⟨by rw [HQ2.out]; rfl, rfl⟩
      · have d1 : decide (p ≤ r) = false := by simpa using h1
        by_cases h2 : p < N
        · have d2 : decide ((N : Int) ≤ p) = false := by simp; omega
          have HB := Lib.hid (show goodB N ps k = true by rw [HG.out, decide_eq_true (by omega : r < p), decide_eq_true h2]; rfl)
          clear h1 h2
          go_wp2_with fail
          go_roundw
          case rel => exact ⟨k + 1, by omega, by go_num, by rw [HP.out], fun j hj => by
            by_cases e : j = k
            · subst e; exact HB.out
            · exact HA.out j (by omega), trivial⟩
          case measure => simp [intOf]; omega
        · have d2 : decide ((N : Int) ≤ p) = true := by simp; omega
          have HQ2 := Lib.hid (show decide (q = H) = false by
            have := firstNo_at HQ.out HA.out hlt (by rw [HG.out, decide_eq_false h2, Bool.and_false])
            simp; omega)
          clear h1 h2
          go_wp2_with fail
          go_ret
          exact ⟨by rw [HQ2.out]; rfl, rfl⟩
    · have hd : decide ((k : Int) < (H : Int)) = false := by simp; omega
      obtain rfl : k = H := by omega
      have HQ2 := Lib.hid (show decide (q = k) = true by
        have h1 := HQ.out.le
        rcases Nat.lt_or_ge q k with h' | h'
        · have h2 := HQ.out.stop h'; rw [HA.out q h'] at h2; cases h2
        · simp; omega)
      go_wp2_with fail
      go_ret
      exact ⟨by rw [HQ2.out]; rfl, rfl⟩

theorem contains_iff {ps : List Int} {d : Int} : ps.contains d = true ↔ d ∈ ps := by simp
set_option maxRecDepth 100000 in
theorem index_any (B H : Nat) (v : Value) (hH : H ≤ 2000000) (ps : List Int) (hl : ps.length = H) (d : Int) (w : World) (ho : w.ownsRow B 2 1 v H (intsV .i64 ps)) :
    Calls Try.prog 78 #[v, .int .i64 d] w fun e w' => (∃ x : Int, e = .returned (.int .i64 x) ∧ decide (0 ≤ x) = ps.contains d) ∧ w' = w := by
  obtain ⟨av, cv, rfl⟩ := own_slice ho
  have HO := Lib.hid ho
  clear ho
  go_enter Try.func78, Try.ntmps78
  go_wp2_with fail
  go_loopw [8] (fun i wr => ∃ k : Nat, k ≤ H ∧ i = .int .i64 k ∧ (∀ j z, j < k → ps[j]? = some z → z ≠ d) ∧ wr = w) (fun i _ => H - (intOf i).toNat)
  case atStart => exact ⟨0, by omega, rfl, fun j z h _ => by omega, rfl⟩
  case round =>
    obtain ⟨k, hk, rfl, hall, rfl⟩ := hrel
    have HA := Lib.hid hall
    clear hall
    by_cases hlt : k < H
    · have hd : decide ((k : Int) < (H : Int)) = true := by simp; omega
      obtain ⟨z, hzk⟩ : ∃ z, ps[k]? = some z := ⟨_, List.getElem?_eq_getElem (by omega)⟩
      have ho := HO.out
      obtain ⟨ga, cap, he, hBg, hg⟩ := own_form ho (by omega)
      simp only [Value.slice.injEq, true_and] at he
      obtain ⟨rfl, rfl⟩ := he
      have c0 := own_cell ho _ _ (intsV_get (k := .i64) hzk)
      have HZK := Lib.hid hzk
      clear ho hzk
      by_cases e : d = z
      · subst e
        go_wp2_with fail
        go_ret
        refine ⟨⟨k, rfl, ?_⟩, rfl⟩
        rw [contains_iff.2 (List.mem_of_getElem? HZK.out)]
        simp
      · have hde : decide (d = z) = false := by simpa using e
        have hde2 : (d == z) = false := by simpa using e
        have HE := Lib.hid e
        clear e
        go_wp2_with fail
        go_roundw
        case rel => exact ⟨k + 1, by omega, by go_num, fun j y hj hy => by
          by_cases e : j = k
          · subst e; rw [HZK.out] at hy; cases hy; exact fun h => HE.out h.symm
          · exact HA.out j y (by omega) hy, trivial⟩
        case measure => simp [intOf]; omega
    · have hd : decide ((k : Int) < (H : Int)) = false := by simp; omega
      obtain rfl : k = H := by omega
      have HF := Lib.hid (show ps.contains d = false by
        rw [← Bool.not_eq_true, contains_iff]
        intro hm
        obtain ⟨j, hj⟩ := List.mem_iff_getElem?.1 hm
        exact HA.out j d (by have := (List.getElem?_eq_some_iff.1 hj).1; omega) hj rfl)
      go_wp2_with fail
      go_ret
      exact ⟨⟨-1, rfl, by rw [HF.out]; rfl⟩, rfl⟩
theorem contains_any (B H : Nat) (v : Value) (hH : H ≤ 2000000) (ps : List Int) (hl : ps.length = H) (d : Int) (c : Bool) (hc : ps.contains d = c) (w : World) (ho : w.ownsRow B 2 1 v H (intsV .i64 ps)) :
    Calls Try.prog 75 #[v, .int .i64 d] w fun e w' => e = .returned (.bool c) ∧ w' = w := by
  have HI := Lib.hid (index_any B H v hH ps hl d w ho)
  obtain ⟨av, cv, rfl⟩ := own_slice ho
  have HC := Lib.hid hc
  clear ho hc hl
  go_enter Try.func75, Try.ntmps75
  go_wp2_with fail
  refine HI.out.mono ?_
  rintro e w2 ⟨⟨x, rfl, hx⟩, rfl⟩
  rw [HC.out] at hx
  go_wp2_with fail
  go_ret
  first
    | exact ⟨rfl, rfl⟩
    | exact ⟨by rw [← hx]; rfl, rfl⟩

set_option maxRecDepth 100000 in
theorem l00Has_any (B H : Nat) (v : Value) (hH : H ≤ 2000000) (ps : List Int) (hl : ps.length = H) (d : Int) (c : Bool) (hc : ps.contains d = c) (w : World) (ho : w.ownsRow B 2 1 v H (intsV .i64 ps)) :
    Calls Try.prog 72 #[v, .int .i64 d] w fun e w' => e = .returned (.bool c) ∧ w' = w := by
  obtain ⟨av, cv, rfl⟩ := own_slice ho
  have HO := Lib.hid ho
  have HC := Lib.hid hc
  clear ho hc
  go_enter Try.func72, Try.ntmps72
  go_wp2_with fail
  go_loopw [5] (fun i wr => ∃ k : Nat, k ≤ H ∧ i = .int .i64 k ∧ (∀ j z, j < k → ps[j]? = some z → z ≠ d) ∧ wr = w) (fun i _ => H - (intOf i).toNat)
  case atStart => exact ⟨0, by omega, rfl, fun j z h _ => by omega, rfl⟩
  case round =>
    obtain ⟨k, hk, rfl, hall, rfl⟩ := hrel
    have HA := Lib.hid hall
    clear hall
    by_cases hlt : k < H
    · have hd : decide ((k : Int) < (H : Int)) = true := by simp; omega
      obtain ⟨z, hzk⟩ : ∃ z, ps[k]? = some z := ⟨_, List.getElem?_eq_getElem (by omega)⟩
      have ho := HO.out
      obtain ⟨ga, cap, he, hBg, hg⟩ := own_form ho (by omega)
      simp only [Value.slice.injEq, true_and] at he
      obtain ⟨rfl, rfl⟩ := he
      have c0 := own_cell ho _ _ (intsV_get (k := .i64) hzk)
      have HZK := Lib.hid hzk
      clear ho hzk
      by_cases e : z = d
      · subst e
        go_wp2_with fail
        go_ret
        refine ⟨?_, rfl⟩
        rw [← HC.out, contains_iff.2 (List.mem_of_getElem? HZK.out)]
        rfl
      · have hde : decide (z = d) = false := by simpa using e
        have hde2 : (z == d) = false := by simpa using e
        have HE := Lib.hid e
        clear e
        go_wp2_with fail
        go_roundw
        case rel => exact ⟨k + 1, by omega, by go_num, fun j y hj hy => by
          by_cases e : j = k
          · subst e; rw [HZK.out] at hy; cases hy; exact HE.out
          · exact HA.out j y (by omega) hy, trivial⟩
        case measure => simp [intOf]; omega
    · have hd : decide ((k : Int) < (H : Int)) = false := by simp; omega
      obtain rfl : k = H := by omega
      have HF := Lib.hid (show c = false by
        rw [← HC.out, ← Bool.not_eq_true, contains_iff]
        intro hm
        obtain ⟨j, hj⟩ := List.mem_iff_getElem?.1 hm
        exact HA.out j d (by have := (List.getElem?_eq_some_iff.1 hj).1; omega) hj rfl)
      go_wp2_with fail
      go_ret
      exact ⟨by rw [HF.out]; rfl, rfl⟩

set_option maxRecDepth 100000 in
set_option maxHeartbeats 2000000 in
theorem l03Plan_any (av : Option Addr) (N cv : Nat) (hN : N ≤ 2000000) (B H : Nat) (v : Value) (hH : H ≤ 2000000) (ps : List Int) (hl : ps.length = H) (q : Nat) (hq : FirstNo (goodB N ps) H q) (w : World) (ho : w.ownsRow B 2 1 v H (intsV .i64 ps)) :
    Calls Try.prog 71 #[.slice av N cv, v] w fun e w' => e = .returned (.bool (decide (q = H))) ∧ Below w.heap.size w w' := by
  obtain ⟨au, cu, rfl⟩ := own_slice ho
  have HO := Lib.hid ho
  have HQ := Lib.hid hq
  have e1 : wrap64 ((N : Int) - 1) = N - 1 := by unfold wrap64; omega
  clear ho hq
  go_enter Try.func71, Try.ntmps71
  go_wp2_with fail
  go_loopw [5] (fun i wr => ∃ k : Nat, k ≤ H ∧ i = .int .i64 k ∧ (∀ j, j < k → goodB N ps j = true) ∧ Below w.heap.size w wr) (fun i _ => H - (intOf i).toNat)
  case atStart => exact ⟨0, by omega, rfl, fun j h => by omega, Below.refl _ _⟩
  case round =>
    obtain ⟨k, hk, rfl, hall, hb⟩ := hrel
    have HA := Lib.hid hall
    have hgs := goodB_spec hall
    clear hall
    by_cases hlt : k < H
    · have hd : decide ((k : Int) < (H : Int)) = true := by simp; omega
      have hzk : ps[k]? = some (ps.getD k 0) := by simp [List.getElem?_eq_getElem (show k < ps.length by omega)]
      have ho := own_below HO.out hb
      obtain ⟨ga, cap, he, hBg, hg⟩ := own_form ho (by omega)
      simp only [Value.slice.injEq, true_and] at he
      obtain ⟨rfl, rfl⟩ := he
      have c0 := own_cell ho _ _ (intsV_get (k := .i64) hzk)
      have hkH : (k : Int) < (H : Int) := by omega
      obtain ⟨p, hp⟩ : ∃ p, ps.getD k 0 = p := ⟨_, rfl⟩
      rw [hp] at c0 hgs
      cases hin : (decide (0 ≤ p) && decide (p ≤ (N : Int) - 1))
      · rw [hin, Bool.false_and] at hgs
        have HQ2 := Lib.hid (show decide (q = H) = false by
          have := firstNo_at HQ.out HA.out hlt hgs
          simp; omega)
        clear ho hgs hzk hp
        go_wp2_with fail
        go_quiet ((go_at_call 64; exact Calls.quiet_of_same (l00In_is _ _ _ _ hin _)))
        go_wp2_with fail
        go_ret
        exact ⟨by rw [HQ2.out]; rfl, below_drewN hb _⟩
      · rw [hin, Bool.true_and] at hgs
        cases k with
        | zero =>
          have HB := Lib.hid (show goodB N ps 0 = true by rw [hgs]; rfl)
          clear ho hgs hzk hp
          go_wp2_with fail
          go_quiet ((go_at_call 64; exact Calls.quiet_of_same (l00In_is _ _ _ _ hin _)))
          go_wp2_with fail
          go_roundw
          case rel => exact ⟨1, by omega, by go_num, fun j hj => by obtain rfl : j = 0 := by omega
                                                                    exact HB.out, below_drewN hb _⟩
          case measure => simp [intOf]; omega
        | succ j =>
          have hzj : ps[j]? = some (ps.getD j 0) := by simp [List.getElem?_eq_getElem (show j < ps.length by omega)]
          have c1 := own_cell ho _ _ (intsV_get (k := .i64) hzj)
          rw [Nat.add_sub_cancel] at hgs
          obtain ⟨r, hr⟩ : ∃ r, ps.getD j 0 = r := ⟨_, rfl⟩
          rw [hr] at c1 hgs
          have dk : decide ((0 : Int) < (j : Int) + 1) = true := decide_eq_true (by omega)
          have hjH : (j : Int) < (H : Int) := by omega
          rw [decide_eq_true (by omega : 0 < j + 1), Bool.true_and] at hgs
          by_cases hpr : p ≤ r
          · have d1 : decide (p ≤ r) = true := by simpa using hpr
            have HQ2 := Lib.hid (show decide (q = H) = false by
              have := firstNo_at HQ.out HA.out hlt (by rw [hgs, d1]; rfl)
              simp; omega)
            clear ho hgs hzk hp hzj hr hpr
            go_wp2_with fail
            go_quiet ((go_at_call 64; exact Calls.quiet_of_same (l00In_is _ _ _ _ hin _)))
            go_wp2_with fail
            go_ret
            exact ⟨by rw [HQ2.out]; rfl, below_drewN hb _⟩
          · have d1 : decide (p ≤ r) = false := by simpa using hpr
            have HB := Lib.hid (show goodB N ps (j + 1) = true by rw [hgs, d1]; rfl)
            clear ho hgs hzk hp hzj hr hpr
            go_wp2_with fail
            go_quiet ((go_at_call 64; exact Calls.quiet_of_same (l00In_is _ _ _ _ hin _)))
            go_wp2_with fail
            go_roundw
            case rel => exact ⟨j + 1 + 1, by omega, by go_num, fun i hi => by
              by_cases e : i = j + 1
              · subst e; exact HB.out
              · exact HA.out i (by omega), below_drewN hb _⟩
            case measure => simp [intOf]; omega
    · have hd : decide ((k : Int) < (H : Int)) = false := by simp; omega
      obtain rfl : k = H := by omega
      have HQ2 := Lib.hid (show decide (q = k) = true by
        have h1 := HQ.out.le
        rcases Nat.lt_or_ge q k with h' | h'
        · have h2 := HQ.out.stop h'; rw [HA.out q h'] at h2; cases h2
        · simp; omega)
      go_wp2_with fail
      go_ret
      exact ⟨by rw [HQ2.out]; rfl, hb⟩

def planC (N m : Nat) (fine : Bool) (H q : Nat) : Int := if askB N m fine then (if q = H then 0 else 4) else askC N m fine
def planB (N m : Nat) (fine : Bool) (H q : Nat) : Bool := askB N m fine && decide (q = H)
theorem plan_good {N m H q : Nat} {b : Bool} (h : planB N m b H q = true) : m = N ∧ b = true ∧ q = H ∧ planC N m b H q = 0 := by
  simp only [planB, Bool.and_eq_true, decide_eq_true_eq] at h
  obtain ⟨h1, h2, -⟩ := ask_good h.1
  exact ⟨h1, h2, h.2, by rw [planC, if_pos h.1, if_pos h.2]⟩

set_option maxRecDepth 100000 in
set_option maxHeartbeats 2000000 in
theorem l03Planned_any (B N : Nat) (v : Value) (hN : N ≤ 2000000) (zs : List Int) (hz : zs.length = N * 2) (hzr : ∀ z ∈ zs, -128 ≤ z ∧ z ≤ 127) (m : Nat) (hm : FirstNo (dayP zs) N m) (B2 H : Nat) (u : Value) (hH : H ≤ 2000000) (ps : List Int) (hl : ps.length = H) (q : Nat) (hq : FirstNo (goodB N ps) H q) (fine : Bool) (w : World) (ho : w.ownsRow B 40 2 v N (intsV .i8 zs)) (hp : w.ownsRow B2 2 1 u H (intsV .i64 ps)) :
    Calls Try.prog 52 #[v, u, .bool fine] w fun e w' => e = .returned (.int .i64 (planC N m fine H q)) ∧ Below w.heap.size w w' := by
  have HK := Lib.hid (l03Asked_any B N v hN zs hz hzr m hm fine w ho)
  have HO := Lib.hid ho
  have HP := Lib.hid hp
  obtain ⟨av, cv, rfl⟩ := own_slice ho
  obtain ⟨au, cu, rfl⟩ := own_slice hp
  have HL := Lib.hid (fun W hW => l03Plan_any av N cv hN B2 H (.slice au H cu) hH ps hl q hq W hW)
  clear ho hp hm hz hzr hl hq
  cases hab : askB N m fine
  · have hc := ask_bad hab
    have HC := Lib.hid (show planC N m fine H q = askC N m fine by simp [planC, hab])
    clear hab
    rcases hc with hc | hc <;> rw [hc] at HK HC
    all_goals
      clear hc
      go_enter Try.func52, Try.ntmps52
      go_wp2_with fail
      refine HK.out.mono ?_
      rintro e w1 ⟨rfl, hb1⟩
      go_wp2_with fail
      go_ret
      exact ⟨by rw [HC.out]; rfl, hb1⟩
  · obtain ⟨-, -, hc⟩ := ask_good hab
    have HC := Lib.hid (show planC N m fine H q = if q = H then 0 else 4 by simp [planC, hab])
    rw [hc] at HK
    clear hab hc
    obtain ⟨d, hd⟩ : ∃ d, decide (q = H) = d := ⟨_, rfl⟩
    rw [hd] at HL
    cases d
    · have HD := Lib.hid (show planC N m fine H q = 4 by rw [HC.out, if_neg (of_decide_eq_false hd)])
      clear hd HC
      go_enter Try.func52, Try.ntmps52
      go_wp2_with fail
      refine HK.out.mono ?_
      rintro e w1 ⟨rfl, hb1⟩
      have HP1 := Lib.hid (own_below HP.out hb1)
      go_wp2_with fail
      refine (HL.out _ HP1.out).mono ?_
      rintro e w2 ⟨rfl, hb2⟩
      have hb3 := below_onto hb1 hb2
      go_wp2_with fail
      go_ret
      exact ⟨by rw [HD.out]; rfl, hb3⟩
    · have HD := Lib.hid (show planC N m fine H q = 0 by rw [HC.out, if_pos (of_decide_eq_true hd)])
      clear hd HC
      go_enter Try.func52, Try.ntmps52
      go_wp2_with fail
      refine HK.out.mono ?_
      rintro e w1 ⟨rfl, hb1⟩
      have HP1 := Lib.hid (own_below HP.out hb1)
      go_wp2_with fail
      refine (HL.out _ HP1.out).mono ?_
      rintro e w2 ⟨rfl, hb2⟩
      have hb3 := below_onto hb1 hb2
      go_wp2_with fail
      go_ret
      exact ⟨by rw [HD.out]; rfl, hb3⟩
end Go.Proofs.Ytbcbokpdcliimaa
