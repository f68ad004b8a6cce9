/- CountKind, of the program and of the model. -/
import Derived.Test.YtgmahakpmjfhhaaRRICells
namespace Go.Proofs.YtgmahakpmjfhhaaRR
open Go.RowKit
attribute [local go_sem ↓] loadRow loadGrid loadLawn loadMirror storeRow storeGrid storeLawn allocRow allocGrid allocLawn buildZero buildSides

/-- The cells that CellsOf answers. -/
def cellsL (L : Lawn) (K : Int) : List (Fin L.wide.toNat × Fin L.high.toNat) := if told (validB L) (inB K 0 3) = 0 then ofKind L L.wide.toNat L.high.toNat K else []

set_option maxRecDepth 100000 in
set_option maxHeartbeats 1000000 in
theorem implCells_any (L : Lawn) (hL : L.Fits) (K : Int) (w : World) :
    Calls Try.prog 139 #[.agg L.cells, .int .i64 K] w fun e w' => (∃ v, e = .returned (.tuple #[v, .int .i64 (told (validB L) (inB K 0 3))]) ∧ w'.ownsRow w.heap.size 35 2 v (cellsL L K).length (flatV (cellsL L K))) ∧ Below w.heap.size w w' := by
  cases hv : validB L <;> cases hf : inB K 0 3
  case true.true =>
    obtain ⟨h1, h2, -⟩ := validB_true hv
    have e : cellsL L K = ofKind L L.wide.toNat L.high.toNat K := by simp [cellsL, told, hv, hf]
    rw [e]
    exact cells_loop L.wide.toNat L.high.toNat (by omega) (by omega) (by omega) (by omega) L (by omega) (by omega) hL hv K hf w
  all_goals
    have e : cellsL L K = [] := by simp [cellsL, told, hv, hf]
    rw [e]
    have HI : ∀ w : World, Calls Try.prog 96 #[.agg L.cells] w fun e w' => e = .returned (.bool _) ∧ Below w.heap.size w w' := fun w => hv ▸ implValid_any L hL w
    have HI' := Lib.hid HI
    have HF := Lib.hid hf
    clear HI hv hf e hL
    go_enter Try.func139, Try.ntmps139
    go_wp2_with fail
    have g1 := Holds.new' (w.alloc (.cells L.cells 28)) #[.int .i64 K] 2 (w.heap.size + 1) (by simp)
    have hb0 := ((Below.refl w.heap.size w).alloc (Nat.le_refl _) (.cells L.cells 28)).alloc (by simp) (.cells #[.int .i64 K] 2)
    refine (HI'.out _).mono ?_
    rintro e w1 ⟨rfl, hb1⟩
    have j1 := g1.below hb1 g1.lt
    have jB := below_onto hb0 hb1
    clear g1 hb0 hb1
    obtain ⟨-, -, c1, -, l1⟩ := j1.facts
    go_wp2_with (go_at_call 162; refine (kind_is _ _ HF.out _).mono ?_; rintro e w2 ⟨rfl, rfl⟩)
    go_ret2
    exact ⟨⟨_, rfl, World.ownsRow_nil _ _ _ _⟩, jB⟩

theorem cellsL_le (L : Lawn) (K : Int) : (cellsL L K).length ≤ 100 := by
  unfold cellsL
  split
  · rename_i h
    have hv : validB L = true := by
      cases e : validB L with
      | true => rfl
      | false => rw [e] at h; simp [told] at h
    obtain ⟨h1, h2, -⟩ := validB_true hv
    refine Nat.le_trans (List.length_filter_le _ _) ?_
    rw [allC_length]
    exact Nat.le_trans (Nat.mul_le_mul (show L.high.toNat ≤ 10 by omega) (show L.wide.toNat ≤ 10 by omega)) (by omega)
  · simp

set_option maxRecDepth 100000 in
set_option maxHeartbeats 1000000 in
theorem implCount_any (L : Lawn) (hL : L.Fits) (K : Int) (w : World) :
    Calls Try.prog 153 #[.agg L.cells, .int .i64 K] w fun e w' => e = .returned (countV L K) ∧ Below w.heap.size w w' := by
  have HC := Lib.hid (implCells_any L hL K)
  obtain ⟨n, hn⟩ : ∃ n, (cellsL L K).length = n := ⟨_, rfl⟩
  obtain ⟨m, hm⟩ : ∃ m, told (validB L) (inB K 0 3) = m := ⟨_, rfl⟩
  have HK := Lib.hid (show countV L K = .tuple #[.int .i64 n, .int .i64 m] by
    rw [← hn, ← hm]
    unfold countV cellsL
    split
    · rename_i h; rw [h]
    · rfl)
  rw [hm] at HC
  have HN := Lib.hid hn
  have hn100 : n ≤ 100 := hn ▸ cellsL_le L K
  clear hn hm hL
  go_enter Try.func153, Try.ntmps153
  go_wp2_with fail
  have hb0 := (Below.refl w.heap.size w).alloc (Nat.le_refl _) (.cells L.cells 28)
  refine (HC.out _).mono ?_
  rintro e w1 ⟨⟨v, rfl, ho⟩, hb1⟩
  have hb := below_onto hb0 hb1
  rw [HN.out] at ho
  have hform : ∃ a c, v = .slice a n c := by
    rcases ho.2 with ⟨rfl, rfl⟩ | ⟨g, cap, cur, rfl, -⟩
    · exact ⟨_, _, rfl⟩
    · exact ⟨_, _, rfl⟩
  obtain ⟨a, c, rfl⟩ := hform
  clear ho hb0 hb1
  go_wp2_with fail
  go_ret2
  exact ⟨by rw [HK.out]; rfl, hb⟩

end Go.Proofs.YtgmahakpmjfhhaaRR
