/- Functions of the library and of the program that are told by a closure over cells: best, IndexFunc, DeleteFunc; for every closure whose answers are known. -/
import Derived.Test.YteaajkkhbflmdaaDoorDelete
namespace Go.Proofs.YteaajkkhbflmdaaDoor
open Go.RowKit
set_option linter.unusedVariables false
set_option linter.unusedSimpArgs false
attribute [local go_sem ↓] loadRow loadGrid loadLawn loadMirror storeRow storeGrid storeLawn allocRow allocGrid allocLawn buildZero buildSides

theorem results_cell2_tmp {P : Program} {fn : Func} {p u : Tmp} {ty : TypeId} {n : Nat} (h : fn.results = #[.cell p ty, .tmp u]) (hw : wideB P ty n = true) (tmps : Array Value) {w : World} {g : Nat} {cs : Array Value}
    (hp : tmps.getD p undef = .pointer (some ⟨g, 0, none⟩)) (hg : Holds w g cs) (hn : cs.size = n) : (results fn tmps).run P w = .ok (.tuple #[.agg cs, tmps.getD u undef]) w := results_cell_tmp_holds h hw tmps hp hg hn
/-- A cell's two numbers. -/
def cellC {W H : Nat} (c : Fin W × Fin H) : Array Value := #[.int .i8 c.1.val, .int .i8 c.2.val]
def cellO {W H : Nat} (o : Option (Fin W × Fin H)) : Array Value := match o with
  | none => #[.int .i8 0, .int .i8 0]
  | some c => #[.int .i8 c.1.val, .int .i8 c.2.val]
def pickL {α : Type} (lt : α → α → Bool) (o : Option α) (c : α) : Option α := match o with
  | none => some c
  | some d => if lt c d then some c else some d
/-- The best one of the first i, the first one of several. -/
def bestL {α : Type} (lt : α → α → Bool) (l : List α) (i : Nat) : Option α := (l.take i).foldl (pickL lt) none
theorem bestL_zero {α : Type} (lt : α → α → Bool) (l : List α) : bestL lt l 0 = none := rfl
theorem bestL_succ {α : Type} (lt : α → α → Bool) {l : List α} {i : Nat} {c : α} (h : l[i]? = some c) : bestL lt l (i + 1) = pickL lt (bestL lt l i) c := by
  unfold bestL
  rw [List.take_add_one, h]
  simp
theorem bestL_some {α : Type} (lt : α → α → Bool) {l : List α} : ∀ {i : Nat}, 0 < i → i ≤ l.length → ∃ c, bestL lt l i = some c
  | 0, h, _ => absurd h (by omega)
  | i + 1, _, h => by
    have hc : l[i]? = some l[i] := List.getElem?_eq_getElem (by omega)
    rw [bestL_succ lt hc]
    cases bestL lt l i with
    | none => exact ⟨_, rfl⟩
    | some d =>
      simp only [pickL]
      split
      · exact ⟨_, rfl⟩
      · exact ⟨_, rfl⟩
theorem own_setAt2 {W : World} {B n ga cap : Nat} {e : TypeId} {size : Nat} {xs : List Value} (h : W.ownsRow B e size (.slice (some ⟨ga, 0, none⟩) n cap) n xs) (g k : Nat) (u : Value) (hg : ga ≠ g) : (W.setCell ⟨g, k, none⟩ u).ownsRow B e size (.slice (some ⟨ga, 0, none⟩) n cap) n xs := by
  refine ⟨h.1, ?_⟩
  rcases h.2 with h2 | ⟨b, cap', cur, hv, hbg, hb, r⟩
  · exact .inl h2
  · have : b = ga := by simp at hv; exact hv.1.symm
    exact .inr ⟨b, cap', cur, hv, hbg, (heap_setCell_other W ⟨g, k, none⟩ b u (by dsimp only; omega)).trans hb, r⟩

set_option maxRecDepth 100000 in
set_option maxHeartbeats 4000000 in
theorem bestC_any {W H : Nat} (lt : Fin W × Fin H → Fin W × Fin H → Bool) (f : Nat) (caps : Array Value) (hE : ∀ args w, (callFunc f args).run Tryd.prog w = .ok (.enter f args) w) (B n : Nat) (v : Value) (hn : n ≤ 100) (l : List (Fin W × Fin H)) (hl : l.length = n) (w : World)
    (hC : ∀ (c d : Fin W × Fin H) (w1 : World), Below w.heap.size w w1 → Calls Tryd.prog f (#[.agg #[.int .i8 c.1.val, .int .i8 c.2.val], .agg #[.int .i8 d.1.val, .int .i8 d.2.val]] ++ caps) w1 fun e w' => e = .returned (.bool (lt c d)) ∧ Below w1.heap.size w1 w') (ho : w.ownsRow B 39 2 v n (flatV l)) :
    Calls Tryd.prog 79 #[v, .func (.func f) #[] caps] w fun e w' => e = .returned (.tuple #[.agg (cellO (bestL lt l n)), .bool (decide (0 < n))]) ∧ Below w.heap.size w w' := by
  obtain ⟨av, cv, rfl⟩ := own_slice ho
  have HO := Lib.hid ho
  have HBT := Lib.hid hC
  clear ho hC
  go_enter Tryd.func79, Tryd.ntmps79
  go_wp2_with fail
  obtain ⟨W0, hW0⟩ : ∃ W0, (w.alloc (.cells #[.int .i8 0, .int .i8 0] 39)).alloc (.cells #[.int .i8 0, .int .i8 0] 39) = W0 := ⟨_, rfl⟩
  have g0 : Holds W0 w.heap.size #[.int .i8 0, .int .i8 0] := by rw [← hW0]; exact (Holds.new _ _ _).alloc _
  have g1 : Holds W0 (w.heap.size + 1) #[.int .i8 0, .int .i8 0] := by rw [← hW0]; exact Holds.new' _ _ _ _ (by simp)
  have hb0 : Below w.heap.size w W0 := by rw [← hW0]; exact ((Below.refl w.heap.size w).alloc (Nat.le_refl _) _).alloc (by simp) _
  have HO0 := Lib.hid (own_below HO.out hb0)
  rw [hW0]
  clear hW0
  obtain ⟨s, hs⟩ : ∃ s, w.heap.size = s := ⟨_, rfl⟩
  have hfar : ∀ g, (Value.slice av n cv).ownBlock = some g → g < s := fun g hg => by have := (HO.out.lt g hg).2; omega
  have HFA := Lib.hid hfar
  rw [hs] at g0 g1 hb0 HBT ⊢
  have HS := Lib.hid hs
  clear hs hfar HO
  go_loopw [11] (fun q wr => ∃ i : Nat, i ≤ n ∧ q = .int .i64 i ∧ Holds wr s #[.int .i8 0, .int .i8 0] ∧ Holds wr (s + 1) (cellO (bestL lt l i)) ∧ wr.ownsRow B 39 2 (.slice av n cv) n (flatV l) ∧ Below s w wr) (fun q _ => n - (intOf q).toNat)
  case atStart => exact ⟨0, by omega, rfl, g0, g1, HO0.out, hb0⟩
  case round =>
    obtain ⟨i, hi, rfl, k0, k1, ho, hb⟩ := hrel
    have HOW := Lib.hid ho
    have hsz := k1.lt
    clear g0 g1 hb0 HO0 ho
    by_cases hlt : i < n
    · have hd : decide ((i : Int) < (n : Int)) = true := by simp; omega
      obtain ⟨c, hc⟩ : ∃ c, l[i]? = some c := ⟨_, List.getElem?_eq_getElem (by omega)⟩
      have HSU := Lib.hid (bestL_succ lt hc)
      obtain ⟨fa, fb⟩ := flatV_get _ _ _ hc
      obtain ⟨ga, cap, he, hBg, hgw⟩ := own_form HOW.out (by omega)
      simp only [Value.slice.injEq, true_and] at he
      obtain ⟨rfl, rfl⟩ := he
      have hgs := HFA.out ga rfl
      have ca := own_cell HOW.out _ _ fa
      have cb := own_cell HOW.out _ _ fb
      clear hc fa fb
      have n0 := Holds.new wr #[.int .i8 c.1.val, .int .i8 c.2.val] 39
      have j0 := k0.alloc (.cells #[.int .i8 c.1.val, .int .i8 c.2.val] 39)
      have j1 := k1.alloc (.cells #[.int .i8 c.1.val, .int .i8 c.2.val] 39)
      have hb2 := hb.alloc (by omega) (.cells #[.int .i8 c.1.val, .int .i8 c.2.val] 39)
      have HO2 := Lib.hid (own_below HOW.out ((Below.refl wr.heap.size wr).alloc (Nat.le_refl _) (.cells #[.int .i8 c.1.val, .int .i8 c.2.val] 39)))
      obtain ⟨W2, hW2⟩ : ∃ W2, wr.alloc (.cells #[.int .i8 c.1.val, .int .i8 c.2.val] 39) = W2 := ⟨_, rfl⟩
      obtain ⟨m, hm⟩ : ∃ m, wr.heap.size = m := ⟨_, rfl⟩
      rw [hW2] at n0 j0 j1 hb2 HO2
      rw [hm] at n0 hsz
      clear k0 k1 hb HOW
      obtain ⟨-, -, dn, -, -⟩ := n0.facts
      cases hbi : bestL lt l i
      case none =>
        rw [hbi] at HSU j1
        have hi0 : ((i : Int) == 0) = true := by
          rcases Nat.eq_zero_or_pos i with h | h
          · simp [h]
          · obtain ⟨d, hd⟩ := bestL_some lt (l := l) h (by omega)
            rw [hd] at hbi; cases hbi
        clear hbi
        have j1 : Holds W2 (s + 1) #[.int .i8 0, .int .i8 0] := j1
        obtain ⟨-, -, d1, f1, l1⟩ := j1.facts
        have q1 := (j1.setCell 0 (.int .i8 c.1.val)).setCell 1 (.int .i8 c.2.val)
        go_wp2_with fail
        go_roundw
        case rel => exact ⟨i + 1, by omega, by go_num, (j0.setCell_other _ _ (by dsimp only; omega)).setCell_other _ _ (by dsimp only; omega), by rw [HSU.out]; exact q1, own_setAt2 (own_setAt2 HO2.out (s + 1) 0 _ (by omega)) (s + 1) 1 _ (by omega), (hb2.setCell (p := ⟨s + 1, 0, none⟩) (by dsimp only; omega) _).setCell (p := ⟨s + 1, 1, none⟩) (by dsimp only; omega) _⟩
        case measure => simp [intOf]; omega
      case some d =>
        rw [hbi] at HSU j1
        have hi0 : ((i : Int) == 0) = false := by
          rcases Nat.eq_zero_or_pos i with h | h
          · subst h; rw [bestL_zero] at hbi; cases hbi
          · simp; omega
        clear hbi
        have j1 : Holds W2 (s + 1) #[.int .i8 d.1.val, .int .i8 d.2.val] := j1
        obtain ⟨-, -, d1, f1, l1⟩ := j1.facts
        have HBB := Lib.hid (HBT.out c d)
        go_wp2_with fail
        clear hW2 hm
        refine (HBB.out _ hb2).mono ?_
        rintro e w5 ⟨rfl, hb5⟩
        have n0 := n0.below hb5 n0.lt
        have j0 := j0.below hb5 j0.lt
        have j1 := j1.below hb5 j1.lt
        have HO2 := Lib.hid (own_below HO2.out hb5)
        have hb2 := hb2.trans (hb5.mono (by omega))
        obtain ⟨-, -, d1, f1, l1⟩ := j1.facts
        obtain ⟨-, -, dn, -, -⟩ := n0.facts
        have q1 := (j1.setCell 0 (.int .i8 c.1.val)).setCell 1 (.int .i8 c.2.val)
        obtain ⟨r, hr⟩ : ∃ r, lt c d = r := ⟨_, rfl⟩
        have HR := Lib.hid hr
        rw [hr]
        clear hr
        cases r
        · have HSU := Lib.hid (show bestL lt l (i + 1) = some d by rw [HSU.out]; simp only [pickL]; rw [HR.out]; rfl)
          go_wp2_with fail
          go_roundw
          case rel => exact ⟨i + 1, by omega, by go_num, j0, by rw [HSU.out]; exact j1, HO2.out, hb2⟩
          case measure => simp [intOf]; omega
        · have HSU := Lib.hid (show bestL lt l (i + 1) = some c by rw [HSU.out]; simp only [pickL]; rw [HR.out]; rfl)
          go_wp2_with fail
          go_roundw
          case rel => exact ⟨i + 1, by omega, by go_num, (j0.setCell_other _ _ (by dsimp only; omega)).setCell_other _ _ (by dsimp only; omega), by rw [HSU.out]; exact q1, own_setAt2 (own_setAt2 HO2.out (s + 1) 0 _ (by omega)) (s + 1) 1 _ (by omega), (hb2.setCell (p := ⟨s + 1, 0, none⟩) (by dsimp only; omega) _).setCell (p := ⟨s + 1, 1, none⟩) (by dsimp only; omega) _⟩
          case measure => simp [intOf]; omega
    · obtain rfl : i = n := by omega
      have hd : decide ((i : Int) < (i : Int)) = false := by simp
      obtain ⟨o, hoo⟩ : ∃ o, bestL lt l i = o := ⟨_, rfl⟩
      rw [hoo] at k1
      have HOO := Lib.hid hoo
      have HW := Lib.hid hb
      obtain ⟨x, y, hxy⟩ : ∃ x y, cellO o = #[.int .i8 x, .int .i8 y] := by
        cases o with
        | none => exact ⟨_, _, rfl⟩
        | some c => exact ⟨_, _, rfl⟩
      rw [hxy] at k1
      have HXY := Lib.hid hxy
      obtain ⟨-, -, d1, f1, l1⟩ := k1.facts
      obtain ⟨-, -, d0, f0, l0⟩ := k0.facts
      have q1 := (k0.setCell 0 (.int .i8 x)).setCell 1 (.int .i8 y)
      have hb9 : Below w.heap.size w ((wr.setCell ⟨s, 0, none⟩ (.int .i8 x)).setCell ⟨s, 1, none⟩ (.int .i8 y)) := by
        have := HS.out
        subst this
        exact (HW.out.setCell (p := ⟨w.heap.size, 0, none⟩) (by dsimp only; omega) _).setCell (p := ⟨w.heap.size, 1, none⟩) (by dsimp only; omega) _
      clear hoo hxy hb
      go_wp2_with fail
      exact bodyPost_ret (results_cell_tmp_holds rfl (by kernel_rfl) _ rfl q1 rfl) rfl ⟨by rw [HOO.out, HXY.out]; simp, hb9⟩

set_option maxRecDepth 100000 in
set_option maxHeartbeats 2000000 in
theorem indexC_any {Wn Hn : Nat} (keep : Fin Wn × Fin Hn → Bool) (f : Nat) (caps : Array Value) (hE : ∀ args w, (callFunc f args).run Tryd.prog w = .ok (.enter f args) w) (B n : Nat) (v : Value) (hn : n ≤ 100) (l : List (Fin Wn × Fin Hn)) (hl : l.length = n) (m : Nat) (hmn : m ≤ n) (hm1 : ∀ j d, j < m → l[j]? = some d → keep d = true) (hm2 : ∀ d, l[m]? = some d → keep d = false)
    (w : World) (ho : w.ownsRow B 39 2 v n (flatV l)) (hC : ∀ (d : Fin Wn × Fin Hn) (w1 : World), Below w.heap.size w w1 → Calls Tryd.prog f (#[.agg #[.int .i8 d.1.val, .int .i8 d.2.val]] ++ caps) w1 fun e w' => e = .returned (.bool (!keep d)) ∧ Below w1.heap.size w1 w') :
    Calls Tryd.prog 75 #[v, .func (.func f) #[] caps] w fun e w' => e = .returned (.int .i64 (goneI n m)) ∧ Below w.heap.size w w' := by
  obtain ⟨av, cv, rfl⟩ := own_slice ho
  have HIN := Lib.hid hC
  have HO := Lib.hid ho
  have HM := Lib.hid (And.intro hm1 hm2)
  clear ho hC hm1 hm2
  go_enter Tryd.func75, Tryd.ntmps75
  go_wp2_with fail
  go_loopw [8] (fun i wr => ∃ k : Nat, k ≤ m ∧ i = .int .i64 k ∧ Below w.heap.size w wr) (fun i _ => n - (intOf i).toNat)
  case atStart => exact ⟨0, by omega, rfl, Below.refl _ _⟩
  case round =>
    obtain ⟨k, hk, rfl, hbk⟩ := hrel
    by_cases hlt : k < n
    · have hd : decide ((k : Int) < (n : Int)) = true := by simp; omega
      obtain ⟨d, hdk⟩ : ∃ d, l[k]? = some d := ⟨_, List.getElem?_eq_getElem (by omega)⟩
      have HD := Lib.hid hdk
      obtain ⟨fa, fb⟩ := flatV_get _ _ _ hdk
      have ho := own_below HO.out hbk
      obtain ⟨ga, cap, he, hBg, hg⟩ := own_form ho (by omega)
      simp only [Value.slice.injEq, true_and] at he
      obtain ⟨rfl, rfl⟩ := he
      have ca := own_cell ho _ _ fa
      have cb := own_cell ho _ _ fb
      have hsz := hbk.size
      clear ho hdk fa fb
      obtain ⟨r, hr⟩ : ∃ r, (!keep d) = r := ⟨_, rfl⟩
      have HR := Lib.hid (HIN.out d)
      rw [hr] at HR
      have HKP := Lib.hid (show keep d = !r by rw [← hr]; simp)
      clear hr
      go_wp2_with fail
      refine (HR.out _ hbk).mono ?_
      rintro e w2 ⟨rfl, hb1⟩
      have hb2 := below_onto hbk hb1
      clear hb1 ca cb hbk
      cases r
      · have HKM := Lib.hid (show k < m by
          rcases Nat.lt_or_ge k m with h | h
          · exact h
          · have := HM.out.2 d (by rw [show m = k by omega]; exact HD.out)
            rw [HKP.out] at this
            cases this)
        go_wp2_with fail
        go_roundw
        case rel => exact ⟨k + 1, HKM.out, by go_num, hb2⟩
        case measure => simp [intOf]; omega
      · have HKM := Lib.hid (show goneI n m = k by
          rcases Nat.lt_or_ge k m with h | h
          · have := HM.out.1 k d h HD.out
            rw [HKP.out] at this
            cases this
          · unfold goneI; rw [show m = k by omega, if_pos hlt])
        go_wp2_with fail
        go_ret
        exact ⟨by rw [HKM.out]; rfl, hb2⟩
    · have hd : decide ((k : Int) < (n : Int)) = false := by simp; omega
      have HKM := Lib.hid (show goneI n m = -1 by unfold goneI; rw [if_neg (by omega)])
      go_wp2_with fail
      go_ret
      exact ⟨by rw [HKM.out]; rfl, hbk⟩

set_option maxRecDepth 100000 in
set_option maxHeartbeats 4000000 in
theorem deleteC_any {Wn Hn : Nat} (keep : Fin Wn × Fin Hn → Bool) (f : Nat) (caps : Array Value) (hE : ∀ args w, (callFunc f args).run Tryd.prog w = .ok (.enter f args) w) (B n : Nat) (v : Value) (hn : n ≤ 100) (l : List (Fin Wn × Fin Hn)) (hl : l.length = n) (w : World) (ho : w.ownsRow B 39 2 v n (flatV l)) (hC : ∀ (d : Fin Wn × Fin Hn) (w1 : World), Below B w w1 → Calls Tryd.prog f (#[.agg #[.int .i8 d.1.val, .int .i8 d.2.val]] ++ caps) w1 fun e w' => e = .returned (.bool (!keep d)) ∧ Below w1.heap.size w1 w') (hBle : B ≤ w.heap.size) :
    Calls Tryd.prog 77 #[v, .func (.func f) #[] caps] w fun e w' => (∃ u, e = .returned u ∧ w'.ownsRow B 39 2 u (l.filter (keep)).length (flatV (l.filter (keep)))) ∧ Below B w w' := by
  obtain ⟨m, hmn, hm1, hm2⟩ : ∃ m, m ≤ n ∧ (∀ j d, j < m → l[j]? = some d → keep d = true) ∧ (∀ d, l[m]? = some d → keep d = false) := by
    subst hl
    clear ho hC
    induction l with
    | nil => exact ⟨0, by simp, fun j d h => by omega, fun d h => by simp at h⟩
    | cons x l ih =>
      cases hx : keep x with
      | false => exact ⟨0, by simp, fun j d h => by omega, fun d h => by simp at h; subst h; exact hx⟩
      | true =>
        obtain ⟨m, h1, h2, h3⟩ := ih (by simp at hn; omega)
        refine ⟨m + 1, by simp; omega, fun j d hj hd => ?_, fun d hd => h3 d (by simpa using hd)⟩
        cases j with
        | zero => simp at hd; subst hd; exact hx
        | succ j => exact h2 j d (by omega) (by simpa using hd)
  have HX := Lib.hid (indexC_any keep f caps hE B n v hn l hl m hmn hm1 hm2 w ho (fun d w1 h => hC d w1 (h.mono hBle)))
  have HIN := Lib.hid hC
  have HM := Lib.hid (And.intro hm1 hm2)
  obtain ⟨av, cv, rfl⟩ := own_slice ho
  have HO := Lib.hid ho
  clear ho hC hm1 hm2
  rcases Nat.lt_or_ge m n with hmlt | hmge
  · have hgi : goneI n m = m := by unfold goneI; rw [if_pos hmlt]
    rw [hgi] at HX
    obtain ⟨dm, hdm⟩ : ∃ d, l[m]? = some d := ⟨_, List.getElem?_eq_getElem (by omega)⟩
    have HST := Lib.hid (DelIs.start HM.out.1 hdm (HM.out.2 dm hdm))
    have hd0 : ((m : Int) == -1) = false := by simp
    clear hgi hdm
    go_enter Tryd.func77, Tryd.ntmps77
    go_wp2_with fail
    refine HX.out.mono ?_
    rintro e w1 ⟨rfl, hb1⟩
    have ho1 := own_below HO.out hb1
    obtain ⟨g, cap, he, hBg, hg⟩ := own_form ho1 (by omega)
    simp only [Value.slice.injEq, true_and] at he
    obtain ⟨rfl, rfl⟩ := he
    have HO1 := Lib.hid ho1
    have hBw : B ≤ w.heap.size := by have := own_lt HO.out; omega
    have hbw : Below B w w1 := hb1.mono hBw
    clear ho1 hb1 HX HO
    go_wp2_with fail
    go_loopw [5, 6] (fun i j wr => ∃ p q xs, q ≤ n ∧ m + 1 ≤ q ∧ i = .int .i64 (p : Nat) ∧ j = .int .i64 (q : Nat) ∧ DelIs l (keep) p q xs ∧ wr.ownsRow B 39 2 (.slice (some ⟨g, 0, none⟩) n cv) n xs ∧ Below B w wr) (fun _ j _ => n - (intOf j).toNat)
    case atStart => exact ⟨m, m + 1, flatV l, by omega, by omega, rfl, rfl, HST.out, HO1.out, hbw⟩
    case round =>
      obtain ⟨p, q, xs, hq, hq1, rfl, rfl, hD, hoq, hbel⟩ := hrel
      have HD := Lib.hid hD
      have HOQ := Lib.hid hoq
      have hgw := (own_lt hoq).2
      clear hD hoq HO1 hbw HST
      by_cases hlt : q < n
      · have hd : decide ((q : Int) < (n : Int)) = true := by simp; omega
        obtain ⟨d, hdq⟩ : ∃ d, l[q]? = some d := ⟨_, List.getElem?_eq_getElem (by omega)⟩
        have HDQ := Lib.hid hdq
        obtain ⟨fa, fb⟩ := HD.out.hi q d (Nat.le_refl _) hdq
        have ca := own_cell HOQ.out _ _ fa
        have cb := own_cell HOQ.out _ _ fb
        have hpq := HD.out.le (by omega)
        obtain ⟨r, hr⟩ : ∃ r, (!keep d) = r := ⟨_, rfl⟩
        have HR := Lib.hid (HIN.out d)
        rw [hr] at HR
        have HKP := Lib.hid (show keep d = !r by rw [← hr]; simp)
        clear hr hdq fa fb
        have n0 := Holds.new wr #[.int .i8 d.1.val, .int .i8 d.2.val] 39
        have o0 := own_below HOQ.out ((Below.refl wr.heap.size wr).alloc (Nat.le_refl _) (.cells #[.int .i8 d.1.val, .int .i8 d.2.val] 39))
        have hb0 := hbel.alloc (by omega) (.cells #[.int .i8 d.1.val, .int .i8 d.2.val] 39)
        obtain ⟨-, -, dn, -, -⟩ := n0.facts
        have HO0 := Lib.hid o0
        clear o0 hbel
        go_wp2_with fail
        refine (HR.out _ hb0).mono ?_
        rintro e w2 ⟨rfl, hb2⟩
        have n2 := n0.below hb2 n0.lt
        have hbel2 : Below B w w2 := hb0.trans (hb2.mono (by simp; omega))
        have HO2 := Lib.hid (own_below HO0.out hb2)
        have hsz2 := n2.lt
        obtain ⟨k, hk⟩ : ∃ k, wr.heap.size = k := ⟨_, rfl⟩
        rw [hk] at n2 hsz2 hgw
        clear n0 hb0 hb2 HO0 HR HOQ ca cb dn
        cases r
        · have HD2 := Lib.hid (HD.out.keep HDQ.out (by rw [HKP.out]; rfl))
          have f0 := own_free HO2.out (p * 2)
          have f1 := own_free HO2.out (p * 2 + 1)
          have hxl := HD.out.len
          obtain ⟨x0, hx0⟩ : ∃ x, xs[p * 2]? = some x := ⟨_, List.getElem?_eq_getElem (by omega)⟩
          obtain ⟨x1, hx1⟩ : ∃ x, xs[p * 2 + 1]? = some x := ⟨_, List.getElem?_eq_getElem (by omega)⟩
          have d0 := own_cell HO2.out _ _ hx0
          have d1 := own_cell HO2.out _ _ hx1
          have HS := Lib.hid (own_set (own_set HO2.out (p * 2) (.int .i8 d.1.val) (by omega)) (p * 2 + 1) (.int .i8 d.2.val) (by simp; omega))
          obtain ⟨-, -, dn, -, -⟩ := n2.facts
          clear hx0 hx1
          go_wp2_with fail
          go_roundw
          case rel => exact ⟨p + 1, q + 1, _, by omega, by omega, by go_num, by go_num, HD2.out, HS.out, (hbel2.setCell (p := ⟨g, p * 2, none⟩) (by dsimp only; omega) _).setCell (p := ⟨g, p * 2 + 1, none⟩) (by dsimp only; omega) _⟩
          case measure => simp [intOf]; omega
        · have HD2 := Lib.hid (HD.out.drop HDQ.out (by rw [HKP.out]; rfl))
          go_wp2_with fail
          go_roundw
          case rel => exact ⟨p, q + 1, xs, by omega, by omega, rfl, by go_num, HD2.out, HO2.out, hbel2⟩
          case measure => simp [intOf]; omega
      · obtain rfl : q = n := by omega
        subst hl
        obtain ⟨hp, hx⟩ := HD.out.done
        have HX := Lib.hid hx
        have HP := Lib.hid hp
        have hpn : p < l.length := by
          rw [hp]
          obtain ⟨dm, hdm⟩ : ∃ d, l[m]? = some d := ⟨_, List.getElem?_eq_getElem (by omega)⟩
          have := (List.length_filter_lt_length_iff_exists (p := keep)).2 ⟨dm, List.mem_of_getElem? hdm, by rw [HM.out.2 dm hdm]; decide⟩
          exact this
        have hcap := own_roomD HOQ.out
        have hmx := own_maxD HOQ.out
        have hd : decide (((l.length : Nat) : Int) < (l.length : Int)) = false := by simp
        have hcl := fun ty => run_clear_pairs (P := Tryd.prog) wr 57 39 ty Tryd.underlying57 zeroCell g (p * 2) (l.length - p) (cv - p) (by omega) (fun j hj => by
          obtain ⟨x, hx⟩ : ∃ x, xs[p * 2 + j]? = some x := ⟨_, List.getElem?_eq_getElem (by have := HD.out.len; omega)⟩
          rw [own_cell HOQ.out _ _ hx]; rfl) (fun j hj => own_free HOQ.out _)
        have HCL := Lib.hid (own_clear HOQ.out (m := p) (by omega) (List.replicate ((l.length - p) * 2) (.int .i8 0)))
        clear hp hx
        go_wp2_with fail
        go_ret
        refine ⟨⟨_, rfl, ?_⟩, hbel.grown (grown_setCells _ _ _ (grown_refl _ g)) (by omega) (fun k hk => by cases hk; omega)⟩
        rw [← HP.out, ← HX.out]
        exact HCL.out
  · have hgi : goneI n m = -1 := by unfold goneI; rw [if_neg (by omega)]
    rw [hgi] at HX
    have HF := Lib.hid (show l.filter (keep) = l by
      rw [List.filter_eq_self]
      intro a ha
      obtain ⟨j, hj⟩ := List.mem_iff_getElem?.1 ha
      exact HM.out.1 j a (by have := (List.getElem?_eq_some_iff.1 hj).1; omega) hj)
    clear hgi
    go_enter Tryd.func77, Tryd.ntmps77
    go_wp2_with fail
    refine HX.out.mono ?_
    rintro e w1 ⟨rfl, hb1⟩
    go_wp2_with fail
    go_ret
    refine ⟨⟨_, rfl, ?_⟩, hb1.mono hBle⟩
    rw [HF.out, hl]
    exact own_below HO.out hb1
end Go.Proofs.YteaajkkhbflmdaaDoor
