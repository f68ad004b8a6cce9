/- A mower that mows nothing: how it comes to a cell. -/
import Derived.Test.YtaeenkjbmlgcmaaZZ
import Derived.Test.YtaeenkjbmlgcmaaZG
namespace Go.Proofs.Ytaeenkjbmlgcmaa
open Go.RowKit
set_option linter.unusedVariables false
set_option linter.unusedSimpArgs false
attribute [local go_sem ↓] loadRow loadGrid loadLawn loadMirror storeRow storeGrid storeLawn allocRow allocGrid allocLawn buildZero buildSides

def mowA (L : Lawn) : Array Value := L.cells.push (.map none)
theorem mowA_size (L : Lawn) : (mowA L).size = 103 := by unfold mowA; rw [Array.size_push]; simp
theorem mowA_map (L : Lawn) : (mowA L)[102]? = some (.map none) := by
  unfold mowA
  have : L.cells.size = 102 := by simp
  rw [Array.getElem?_push, if_pos this.symm]
theorem lookNil (x y : Int) (w : World) : (Instr.lookup 93 (.map none) (.agg #[.int .i8 x, .int .i8 y]) false).run Try.prog w = .ok (.int .u16 0) w := by kernel_rfl
set_option maxRecDepth 100000 in
theorem come_any (L : Lawn) (x y : Int) (w : World) :
    Calls Try.prog 65 #[.agg (mowA L), .agg #[.int .i8 x, .int .i8 y], .int .u16 0] w fun e w' => e = .returned (.agg #[.int .i8 x, .int .i8 y, .int .u16 0]) ∧ Below w.heap.size w w' := by
  obtain ⟨M, hM⟩ : ∃ M, mowA L = M := ⟨_, rfl⟩
  have hMS := mowA_size L
  have hMM := mowA_map L
  rw [hM] at hMS hMM ⊢
  obtain ⟨s, hs⟩ : ∃ s, w.heap.size = s := ⟨_, rfl⟩
  obtain ⟨W0, hW0⟩ : ∃ W0, ((w.alloc (.cells M 95)).alloc (.cells #[.int .i8 x, .int .i8 y] 37)).alloc (.cells #[.int .i8 0, .int .i8 0, .int .u16 0] 101) = W0 := ⟨_, rfl⟩
  have g0 : Holds W0 s M := by rw [← hW0, ← hs]; exact ((Holds.new _ _ _).alloc _).alloc _
  have g1 : Holds W0 (s + 1) #[.int .i8 x, .int .i8 y] := by rw [← hW0, ← hs]; exact (Holds.new' _ _ _ _ (by simp)).alloc _
  have g2 : Holds W0 (s + 1 + 1) #[.int .i8 0, .int .i8 0, .int .u16 0] := by rw [← hW0, ← hs]; exact Holds.new' _ _ _ _ (by simp)
  have hb0 : Below s w W0 := by rw [← hW0, ← hs]; exact (((Below.refl w.heap.size w).alloc (Nat.le_refl _) _).alloc (by simp) _).alloc (by simp; omega) _
  have FX := Lib.hid (show ∀ w', Below W0.heap.size W0 w' → w'.cell? ⟨s, 102, none⟩ = some (.map none) ∧ w'.cell? ⟨s + 1, 0, none⟩ = some (.int .i8 x) ∧ w'.cell? ⟨s + 1, 1, none⟩ = some (.int .i8 y) from fun w' hw' =>
    ⟨((g0.below hw' g0.lt).cell 102).trans hMM, (g1.below hw' g1.lt).cell 0, (g1.below hw' g1.lt).cell 1⟩)
  have HG2 := Lib.hid g2
  have HB0 := Lib.hid hb0
  rw [hs]
  clear hM hMM g0 g1 g2 hb0
  go_enter Try.func65, Try.ntmps65
  go_wp2_with fail
  clear hW0
  have hlk := lookNil x y
  refine wp_region_grow 8 (by kernel_rfl) (by kernel_rfl) ?_
  simp only [List.take_succ_cons, List.take_zero, List.drop_succ_cons, List.drop_zero]
  iterate 8
    apply wpGrow_plain rfl
    · intro w' hw' K hK
      obtain ⟨f1, f2, f3⟩ := FX.out _ hw'
      go_wp2_with fail
      exact hK _ _ rfl hw'
    simp only [Act.put, List.setIfInBounds_toArray, List.set_cons_succ, List.set_cons_zero]
  refine wpGrow_nil ?_
  intro W5 hW5
  have n2 := HG2.out.below hW5 HG2.out.lt
  have hb5 := HB0.out.trans (hW5.mono (by have := HG2.out.lt; omega))
  obtain ⟨-, -, dz, fz, lz⟩ := n2.facts
  have q1 := ((n2.setCell 0 (.int .i8 x)).setCell 1 (.int .i8 y)).setCell 2 (.int .u16 0)
  have hb6 := ((hb5.setCell (p := ⟨s + 1 + 1, 0, none⟩) (by dsimp only; omega) (.int .i8 x)).setCell (p := ⟨s + 1 + 1, 1, none⟩) (by dsimp only; omega) (.int .i8 y)).setCell (p := ⟨s + 1 + 1, 2, none⟩) (by dsimp only; omega) (.int .u16 0)
  go_wp2_with fail
  exact bodyPost_ret (results_cell_holds (n := 3) rfl (by kernel_rfl) _ rfl q1 rfl) rfl ⟨rfl, hb6⟩
set_option maxRecDepth 100000 in
theorem atHome_any (x y hx hy : Int) (m : Nat) (g : Nat) (w : World) (h : Holds w g #[.int .i8 hx, .int .i8 hy]) :
    Calls Try.prog 67 #[.agg #[.int .i8 x, .int .i8 y, .int .u16 m], .pointer (some ⟨g, 0, none⟩)] w fun e w' => e = .returned (.bool (x == hx && y == hy)) ∧ Below w.heap.size w w' := by
  obtain ⟨s, hs⟩ : ∃ s, w.heap.size = s := ⟨_, rfl⟩
  obtain ⟨W0, hW0⟩ : ∃ W0, w.alloc (.cells #[.int .i8 x, .int .i8 y, .int .u16 m] 101) = W0 := ⟨_, rfl⟩
  have g0 : Holds W0 s #[.int .i8 x, .int .i8 y, .int .u16 m] := by rw [← hW0, ← hs]; exact Holds.new _ _ _
  have g1 : Holds W0 g #[.int .i8 hx, .int .i8 hy] := by rw [← hW0]; exact h.alloc _
  have hb0 : Below s w W0 := by rw [← hW0, ← hs]; exact (Below.refl w.heap.size w).alloc (Nat.le_refl _) _
  have c0 : W0.cell? ⟨s, 0, none⟩ = some (.int .i8 x) := g0.cell 0
  have c1 : W0.cell? ⟨s, 1, none⟩ = some (.int .i8 y) := g0.cell 1
  have d0 : W0.cell? ⟨g, 0, none⟩ = some (.int .i8 hx) := g1.cell 0
  have d1 : W0.cell? ⟨g, 1, none⟩ = some (.int .i8 hy) := g1.cell 1
  have HB := Lib.hid hb0
  rw [hs]
  clear hb0 g0 g1 h
  go_enter Try.func67, Try.ntmps67
  go_wp2_with fail
  all_goals
    go_ret
    refine ⟨?_, HB.out⟩
    show Ending.returned (Value.bool _) = _
    congr 2
    simp_all
end Go.Proofs.Ytaeenkjbmlgcmaa
