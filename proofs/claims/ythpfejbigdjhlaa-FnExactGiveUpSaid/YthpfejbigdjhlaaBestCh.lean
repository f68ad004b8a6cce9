/- The best change, of the program; GiveUp and PlantAt. -/
import Derived.Test.YthpfejbigdjhlaaChange
namespace Go.Proofs.Ythpfejbigdjhlaa
open Go.RowKit
set_option linter.unusedVariables false
set_option linter.unusedSimpArgs false
attribute [local go_sem ↓] loadRow loadGrid loadLawn loadMirror storeRow storeGrid storeLawn allocRow allocGrid allocLawn buildZero buildSides loadSd storeSd allocSd buildSd

theorem results_cell_tmp2_holds {P : Program} {fn : Func} {p u v : Tmp} {ty : TypeId} {n : Nat} (h : fn.results = #[.cell p ty, .tmp u, .tmp v]) (hw : wideB P ty n = true) (tmps : Array Value) {w : World} {g : Nat} {cs : Array Value}
    (hp : tmps.getD p undef = .pointer (some ⟨g, 0, none⟩)) (hg : Holds w g cs) (hn : cs.size = n) : (results fn tmps).run P w = .ok (.tuple #[.agg cs, tmps.getD u undef, tmps.getD v undef]) w := by
  have hp' : tmps[p]?.getD undef = .pointer (some ⟨g, 0, none⟩) := by simpa using hp
  simp [results, h, hp', asAddr, (wide_of hw).loadVar hg hn]

/-- Whether a change is better than another one: the edge is longer, or shorter. -/
def ltB (up : Bool) (a b : Int) : Bool := if up then decide (b < a) else decide (a < b)
def betterF (up : Bool) : Nat := if up then 77 else 76
def pickO {α : Type} (up : Bool) (E : α → Int) (o : Option α) (c : α) : Option α := match o with
  | none => some c
  | some d => if ltB up (E c) (E d) then some c else some d
/-- The best one of the first i, the first one of several. -/
def bestOf {α : Type} (up : Bool) (E : α → Int) (l : List α) (i : Nat) : Option α := (l.take i).foldl (pickO up E) none
theorem bestOf_zero {α : Type} (up : Bool) (E : α → Int) (l : List α) : bestOf up E l 0 = none := rfl
theorem bestOf_succ {α : Type} (up : Bool) (E : α → Int) {l : List α} {i : Nat} {c : α} (h : l[i]? = some c) : bestOf up E l (i + 1) = pickO up E (bestOf up E l i) c := by
  unfold bestOf
  rw [List.take_add_one, h]
  simp
theorem bestOf_some {α : Type} (up : Bool) (E : α → Int) {l : List α} : ∀ {i : Nat}, 0 < i → i ≤ l.length → ∃ c, bestOf up E l i = some c
  | 0, h, _ => absurd h (by omega)
  | i + 1, _, h => by
    have hc : l[i]? = some l[i] := List.getElem?_eq_getElem (by omega)
    rw [bestOf_succ up E hc]
    cases bestOf up E l i with
    | none => exact ⟨_, rfl⟩
    | some d =>
      simp only [pickO]
      split
      · exact ⟨_, rfl⟩
      · exact ⟨_, rfl⟩
def chO {W H : Nat} (L : Lawn) (k : Int) (o : Option (Fin W × Fin H)) : Array Value := match o with
  | none => chV 0 0 0
  | some c => chV c.1.val c.2.val (edgeC L k c)

theorem own_setAt2 {W : World} {B n ga cap : Nat} {e : TypeId} {size : Nat} {xs : List Value} (h : W.ownsRow B e size (.slice (some ⟨ga, 0, none⟩) n cap) n xs) (g k : Nat) (u : Value) (hg : ga ≠ g) : (W.setCell ⟨g, k, none⟩ u).ownsRow B e size (.slice (some ⟨ga, 0, none⟩) n cap) n xs := by
  refine ⟨h.1, ?_⟩
  rcases h.2 with h2 | ⟨b, cap', cur, hv, hbg, hb, r⟩
  · exact .inl h2
  · have : b = ga := by simp at hv; exact hv.1.symm
    exact .inr ⟨b, cap', cur, hv, hbg, (heap_setCell_other W ⟨g, k, none⟩ b u (by dsimp only; omega)).trans hb, r⟩
theorem better_is (up : Bool) (x y e x' y' e' : Int) (w : World) :
    Calls Try.prog (betterF up) #[.agg (chV x y e), .agg (chV x' y' e')] w fun r w' => r = .returned (.bool (ltB up e e')) ∧ Below w.heap.size w w' := by
  have hb := ((Below.refl w.heap.size w).alloc (Nat.le_refl _) (.cells (chV x y e) 99)).alloc (by simp) (.cells (chV x' y' e') 99)
  unfold chV at hb ⊢
  cases up
  · unfold betterF
    go_enter Try.func76, Try.ntmps76
    go_wp2_with fail
    go_ret
    exact ⟨rfl, hb⟩
  · unfold betterF
    go_enter Try.func77, Try.ntmps77
    go_wp2_with fail
    go_ret
    exact ⟨rfl, hb⟩
theorem better_enters (up : Bool) (args : Array Value) (w : World) : (callFunc (betterF up) args).run Try.prog w = .ok (.enter (betterF up) args) w := by
  cases up
  · exact enters_of Try.func76 (by kernel_rfl) rfl args w
  · exact enters_of Try.func77 (by kernel_rfl) rfl args w

set_option maxRecDepth 100000 in
set_option maxHeartbeats 4000000 in
theorem best_any {W H : Nat} (L : Lawn) (k : Int) (up : Bool) (B n : Nat) (v : Value) (hn : n ≤ 100) (l : List (Fin W × Fin H)) (hl : l.length = n) (w : World) (ho : w.ownsRow B 99 3 v n (flatC L k l)) :
    Calls Try.prog 107 #[v, .func (.func (betterF up)) #[] #[]] w fun e w' => e = .returned (.tuple #[.agg (chO L k (bestOf up (edgeC L k) l n)), .bool (decide (0 < n))]) ∧ Below w.heap.size w w' := by
  obtain ⟨av, cv, rfl⟩ := own_slice ho
  have HO := Lib.hid ho
  have hE := better_enters up
  have HBT := Lib.hid (better_is up)
  clear ho
  go_enter Try.func107, Try.ntmps107
  go_wp2_with fail
  obtain ⟨W0, hW0⟩ : ∃ W0, (w.alloc (.cells #[.int .i8 0, .int .i8 0, .int .i64 0] 99)).alloc (.cells #[.int .i8 0, .int .i8 0, .int .i64 0] 99) = W0 := ⟨_, rfl⟩
  have g0 : Holds W0 w.heap.size (chV 0 0 0) := by rw [← hW0]; exact (Holds.new _ _ _).alloc _
  have g1 : Holds W0 (w.heap.size + 1) (chV 0 0 0) := by rw [← hW0]; exact Holds.new' _ _ _ _ (by simp)
  have hb0 : Below w.heap.size w W0 := by rw [← hW0]; exact ((Below.refl w.heap.size w).alloc (Nat.le_refl _) _).alloc (by simp) _
  have HO0 := Lib.hid (own_below HO.out hb0)
  rw [hW0]
  clear hW0
  obtain ⟨s, hs⟩ : ∃ s, w.heap.size = s := ⟨_, rfl⟩
  have hfar : ∀ g, (Value.slice av n cv).ownBlock = some g → g < s := fun g hg => by have := (HO.out.lt g hg).2; omega
  have HFA := Lib.hid hfar
  rw [hs] at g0 g1 hb0 ⊢
  have HS := Lib.hid hs
  clear hs hfar HO
  go_loopw [11] (fun q wr => ∃ i : Nat, i ≤ n ∧ q = .int .i64 i ∧ Holds wr s (chV 0 0 0) ∧ Holds wr (s + 1) (chO L k (bestOf up (edgeC L k) l i)) ∧ wr.ownsRow B 99 3 (.slice av n cv) n (flatC L k l) ∧ Below s w wr) (fun q _ => n - (intOf q).toNat)
  case atStart => exact ⟨0, by omega, rfl, g0, g1, HO0.out, hb0⟩
  case round =>
    obtain ⟨i, hi, rfl, k0, k1, ho, hb⟩ := hrel
    have HOW := Lib.hid ho
    have hsz := k1.lt
    clear g0 g1 hb0 HO0 ho
    by_cases hlt : i < n
    · have hd : decide ((i : Int) < (n : Int)) = true := by simp; omega
      obtain ⟨c, hc⟩ : ∃ c, l[i]? = some c := ⟨_, List.getElem?_eq_getElem (by omega)⟩
      have HSU := Lib.hid (bestOf_succ up (edgeC L k) hc)
      obtain ⟨fa, fb, fc⟩ := flatC_get L k _ _ _ hc
      obtain ⟨ga, cap, he, hBg, hgw⟩ := own_form HOW.out (by omega)
      simp only [Value.slice.injEq, true_and] at he
      obtain ⟨rfl, rfl⟩ := he
      have hgs := HFA.out ga rfl
      have ca := own_cell HOW.out _ _ fa
      have cb := own_cell HOW.out _ _ fb
      have cc := own_cell HOW.out _ _ fc
      clear hc fa fb fc
      have n0 := Holds.new wr (chV c.1.val c.2.val (edgeC L k c)) 99
      have j0 := k0.alloc (.cells (chV c.1.val c.2.val (edgeC L k c)) 99)
      have j1 := k1.alloc (.cells (chV c.1.val c.2.val (edgeC L k c)) 99)
      have hb2 := hb.alloc (by omega) (.cells (chV c.1.val c.2.val (edgeC L k c)) 99)
      have HO2 := Lib.hid (own_below HOW.out ((Below.refl wr.heap.size wr).alloc (Nat.le_refl _) (.cells (chV c.1.val c.2.val (edgeC L k c)) 99)))
      obtain ⟨W2, hW2⟩ : ∃ W2, wr.alloc (.cells (chV c.1.val c.2.val (edgeC L k c)) 99) = W2 := ⟨_, rfl⟩
      obtain ⟨m, hm⟩ : ∃ m, wr.heap.size = m := ⟨_, rfl⟩
      rw [hW2] at n0 j0 j1 hb2 HO2
      rw [hm] at n0 hsz
      clear k0 k1 hb HOW
      unfold chV at hW2 n0
      obtain ⟨-, -, dn, -, -⟩ := n0.facts
      cases hbi : bestOf up (edgeC L k) l i
      case none =>
        rw [hbi] at HSU j1
        have hi0 : ((i : Int) == 0) = true := by
          rcases Nat.eq_zero_or_pos i with h | h
          · simp [h]
          · obtain ⟨d, hd⟩ := bestOf_some up (edgeC L k) (l := l) h (by omega)
            rw [hd] at hbi; cases hbi
        clear hbi
        have j1 : Holds W2 (s + 1) #[.int .i8 0, .int .i8 0, .int .i64 0] := j1
        obtain ⟨-, -, d1, f1, l1⟩ := j1.facts
        have q1 := ((j1.setCell 0 (.int .i8 c.1.val)).setCell 1 (.int .i8 c.2.val)).setCell 2 (.int .i64 (edgeC L k c))
        go_wp2_with fail
        go_roundw
        case rel => exact ⟨i + 1, by omega, by go_num, ((j0.setCell_other _ _ (by dsimp only; omega)).setCell_other _ _ (by dsimp only; omega)).setCell_other _ _ (by dsimp only; omega), by rw [HSU.out]; exact q1, own_setAt2 (own_setAt2 (own_setAt2 HO2.out (s + 1) 0 _ (by omega)) (s + 1) 1 _ (by omega)) (s + 1) 2 _ (by omega), ((hb2.setCell (p := ⟨s + 1, 0, none⟩) (by dsimp only; omega) _).setCell (p := ⟨s + 1, 1, none⟩) (by dsimp only; omega) _).setCell (p := ⟨s + 1, 2, none⟩) (by dsimp only; omega) _⟩
        case measure => simp [intOf]; omega
      case some d =>
        rw [hbi] at HSU j1
        have hi0 : ((i : Int) == 0) = false := by
          rcases Nat.eq_zero_or_pos i with h | h
          · subst h; rw [bestOf_zero] at hbi; cases hbi
          · simp; omega
        clear hbi
        have j1 : Holds W2 (s + 1) #[.int .i8 d.1.val, .int .i8 d.2.val, .int .i64 (edgeC L k d)] := j1
        obtain ⟨-, -, d1, f1, l1⟩ := j1.facts
        have HBB := Lib.hid (HBT.out c.1.val c.2.val (edgeC L k c) d.1.val d.2.val (edgeC L k d))
        unfold chV at HBB
        go_wp2_with fail
        clear hW2 hm
        refine (HBB.out _).mono ?_
        rintro e w5 ⟨rfl, hb5⟩
        have n0 := n0.below hb5 n0.lt
        have j0 := j0.below hb5 j0.lt
        have j1 := j1.below hb5 j1.lt
        have HO2 := Lib.hid (own_below HO2.out hb5)
        have hb2 := hb2.trans (hb5.mono (by omega))
        obtain ⟨-, -, d1, f1, l1⟩ := j1.facts
        obtain ⟨-, -, dn, -, -⟩ := n0.facts
        have q1 := ((j1.setCell 0 (.int .i8 c.1.val)).setCell 1 (.int .i8 c.2.val)).setCell 2 (.int .i64 (edgeC L k c))
        obtain ⟨r, hr⟩ : ∃ r, ltB up (edgeC L k c) (edgeC L k d) = r := ⟨_, rfl⟩
        have HR := Lib.hid hr
        rw [hr]
        clear hr
        cases r
        · have HSU := Lib.hid (show bestOf up (edgeC L k) l (i + 1) = some d by rw [HSU.out]; simp only [pickO]; rw [HR.out]; rfl)
          go_wp2_with fail
          go_roundw
          case rel => exact ⟨i + 1, by omega, by go_num, j0, by rw [HSU.out]; exact j1, HO2.out, hb2⟩
          case measure => simp [intOf]; omega
        · have HSU := Lib.hid (show bestOf up (edgeC L k) l (i + 1) = some c by rw [HSU.out]; simp only [pickO]; rw [HR.out]; rfl)
          go_wp2_with fail
          go_roundw
          case rel => exact ⟨i + 1, by omega, by go_num, ((j0.setCell_other _ _ (by dsimp only; omega)).setCell_other _ _ (by dsimp only; omega)).setCell_other _ _ (by dsimp only; omega), by rw [HSU.out]; exact q1, own_setAt2 (own_setAt2 (own_setAt2 HO2.out (s + 1) 0 _ (by omega)) (s + 1) 1 _ (by omega)) (s + 1) 2 _ (by omega), ((hb2.setCell (p := ⟨s + 1, 0, none⟩) (by dsimp only; omega) _).setCell (p := ⟨s + 1, 1, none⟩) (by dsimp only; omega) _).setCell (p := ⟨s + 1, 2, none⟩) (by dsimp only; omega) _⟩
          case measure => simp [intOf]; omega
    · obtain rfl : i = n := by omega
      have hd : decide ((i : Int) < (i : Int)) = false := by simp
      obtain ⟨o, hoo⟩ : ∃ o, bestOf up (edgeC L k) l i = o := ⟨_, rfl⟩
      rw [hoo] at k1
      have HOO := Lib.hid hoo
      have HW := Lib.hid hb
      obtain ⟨x, y, e, hxy⟩ : ∃ x y e, chO L k o = chV x y e := by
        cases o with
        | none => exact ⟨_, _, _, rfl⟩
        | some c => exact ⟨_, _, _, rfl⟩
      rw [hxy] at k1
      have HXY := Lib.hid hxy
      unfold chV at k1 k0
      obtain ⟨-, -, d1, f1, l1⟩ := k1.facts
      obtain ⟨-, -, d0, f0, l0⟩ := k0.facts
      have q1 := ((k0.setCell 0 (.int .i8 x)).setCell 1 (.int .i8 y)).setCell 2 (.int .i64 e)
      have hb9 : Below w.heap.size w (((wr.setCell ⟨s, 0, none⟩ (.int .i8 x)).setCell ⟨s, 1, none⟩ (.int .i8 y)).setCell ⟨s, 2, none⟩ (.int .i64 e)) := by
        have := HS.out
        subst this
        exact ((HW.out.setCell (p := ⟨w.heap.size, 0, none⟩) (by dsimp only; omega) _).setCell (p := ⟨w.heap.size, 1, none⟩) (by dsimp only; omega) _).setCell (p := ⟨w.heap.size, 2, none⟩) (by dsimp only; omega) _
      clear hoo hxy hb
      go_wp2_with fail
      exact bodyPost_ret (results_cell_tmp_holds rfl (by kernel_rfl) _ rfl q1 rfl) rfl ⟨by rw [HOO.out, HXY.out]; simp [chV], hb9⟩
end Go.Proofs.Ythpfejbigdjhlaa
