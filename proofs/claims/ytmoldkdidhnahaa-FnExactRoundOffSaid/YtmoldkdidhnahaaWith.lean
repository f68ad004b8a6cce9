/- A lawn with another kind at a cell, of the model. -/
import Derived.Test.YtmoldkdidhnahaaSSide
import Derived.Test.YtmoldkdidhnahaaSetCell
import Derived.Test.YtmoldkdidhnahaaZD
namespace Go.Proofs.Ytmoldkdidhnahaa
open Go.RowKit
set_option linter.unusedVariables false
set_option linter.unusedSimpArgs false
attribute [local go_sem ↓] loadRow loadGrid loadLawn loadMirror storeRow storeGrid storeLawn allocRow allocGrid allocLawn buildZero buildSides loadSd storeSd allocSd buildSd

set_option maxRecDepth 100000 in
set_option maxHeartbeats 2000000 in
theorem l05With_any (L : Lawn) (i j : Nat) (hi : i < 10) (hj : j < 10) (k : Int) (w : World) :
    Calls Try.prog 49 #[.agg L.cells, .agg #[.int .i8 i, .int .i8 j], .int .u8 k] w fun e w' => e = .returned (.agg (L.put j i k).cells) ∧ Below w.heap.size w w' := by
  have hx0 : (0 : Int) ≤ i := by omega
  have hx1 : (i : Int) < 10 := by omega
  have hy0 : (0 : Int) ≤ j := by omega
  have hy1 : (j : Int) < 10 := by omega
  obtain ⟨W0, hW0⟩ : ∃ W0, ((w.alloc (.cells L.cells 27)).alloc (.cells #[.int .i8 i, .int .i8 j] 37)).alloc (.cells (Lawn.cells ⟨0, 0, fun _ _ => 0⟩) 27) = W0 := ⟨_, rfl⟩
  have g1 : Holds W0 w.heap.size L.cells := by rw [← hW0]; exact ((Holds.new _ _ _).alloc _).alloc _
  have c1 : Holds W0 (w.heap.size + 1) #[.int .i8 i, .int .i8 j] := by rw [← hW0]; exact (Holds.new' _ _ _ _ (by simp)).alloc _
  have z1 : Holds W0 (w.heap.size + 1 + 1) (Lawn.cells ⟨0, 0, fun _ _ => 0⟩) := by rw [← hW0]; exact Holds.new' _ _ _ _ (by simp)
  have hb3 : Below w.heap.size w W0 := by rw [← hW0]; exact (((Below.refl w.heap.size w).alloc (Nat.le_refl _) _).alloc (by simp) _).alloc (by simp; omega) _
  go_enter Try.func49, Try.ntmps49
  go_wp2_with fail
  clear hW0
  have s0 := c1.later.2
  refine wp_region_grow 8 (by kernel_rfl) (by kernel_rfl) ?_
  simp only [List.take_succ_cons, List.take_zero, List.drop_succ_cons, List.drop_zero]
  iterate 8
    apply wpGrow_plain rfl
    · intro w' hw' K hK
      have s1 := s0 _ hw'
      go_wp2_with fail
      exact hK _ _ rfl hw'
    simp only [Act.put, List.setIfInBounds_toArray, List.set_cons_succ, List.set_cons_zero]
  refine wpGrow_nil ?_
  intro W2 hW2
  have hb2 := below_onto hb3 hW2
  have g2 := g1.below hW2 g1.lt
  have z2 := z1.below hW2 z1.lt
  clear hW2 g1 c1 z1 s0 hb3
  have g3 := g2.setCell (2 + j * 10 + i) (.int .u8 k)
  rw [Lawn.cells_put L j i hj hi k] at g3
  have z3 := z2.setCell_other ⟨w.heap.size, 2 + j * 10 + i, none⟩ (.int .u8 k) (by simp; omega)
  have l1 := g2.lt
  have l3 := z2.lt
  have f1 := g2.free (2 + j * 10 + i)
  have ch : W2.cell? ⟨w.heap.size, 2 + j * 10 + i, none⟩ = some (.int .u8 (L.kind j i)) := by rw [g2.cell, Lawn.cells_get L j i hj hi]
  obtain ⟨r3, f3, -, -, -⟩ := g3.facts
  obtain ⟨r4, f4, -, -, -⟩ := z3.facts
  go_wp2_with fail
  exact bodyPost_ret (results_cell_holds (n := 102) rfl wideLawn _ rfl (z3.setRow _) (by simp)) rfl ⟨rfl, below_setRow' (hb2.setCell (by simp) _) (by omega) _⟩

end Go.Proofs.Ytmoldkdidhnahaa
