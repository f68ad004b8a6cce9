/- The law on LevelsText. -/
import Derived.Test.YthfhpcigjnjkdaaDoorSLevT
import Derived.Test.YthfhpcigjnjkdaaDoorZB
namespace Go.Proofs.YthfhpcigjnjkdaaDoor
open Go.RowKit
set_option linter.unusedVariables false
attribute [local go_sem ↓] loadRow loadGrid loadLawn loadMirror storeRow storeGrid storeLawn allocRow allocGrid allocLawn buildZero buildSides loadL8

set_option maxRecDepth 100000 in
set_option maxHeartbeats 2000000 in
theorem exactLevelsText (A : Lawn) (hA : A.Fits) (g : Nat → Nat → Int) (hg : LevFits g) (w : World) (hT : TabUp w) :
    Calls Tryd.prog 10 #[.agg A.cells, .agg (levV g)] w fun e w' => e = .returned (.bool true) ∧ Below w.heap.size w w' := by
  have HI' := Lib.hid (fun w h => ilevT_any A hA g hg w h)
  have HS' := Lib.hid (fun w => slevT_any A hA g hg w)
  have HTT := Lib.hid hT
  obtain ⟨t, ht⟩ : ∃ t, levS A g = t := ⟨_, rfl⟩
  rw [ht] at HI' HS'
  clear hA hg ht hT
  go_enter Tryd.func10, Tryd.ntmps10
  go_wp2_with fail
  have g0 : Holds ((w.alloc (.cells A.cells 59)).alloc (.cells (levV g) 61)) (w.heap.size) A.cells := (Holds.new w A.cells 59).alloc (.cells (levV g) 61)
  have g1 : Holds ((w.alloc (.cells A.cells 59)).alloc (.cells (levV g) 61)) (w.heap.size + 1) (levV g) := Holds.new' (w.alloc (.cells A.cells 59)) (levV g) 61 (w.heap.size + 1) (by simp)
  have hb : Below w.heap.size w ((w.alloc (.cells A.cells 59)).alloc (.cells (levV g) 61)) := ((Below.refl w.heap.size w).alloc (Nat.le_refl _) (.cells A.cells 59)).alloc (by simp <;> omega) (.cells (levV g) 61)
  obtain ⟨W, hW⟩ : ∃ W, ((w.alloc (.cells A.cells 59)).alloc (.cells (levV g) 61)) = W := ⟨_, rfl⟩
  rw [hW] at g0 g1 hb ⊢
  clear hW
  obtain ⟨l0, s0⟩ := g0.later
  obtain ⟨l1, s1⟩ := g1.later
  refine wp_region_grow 5 (by kernel_rfl) (by kernel_rfl) ?_
  simp only [List.take_succ_cons, List.take_zero, List.drop_succ_cons, List.drop_zero]
  iterate 5
    apply wpGrow_plain rfl
    · intro w' hw' K hK
      go_wp2_with (first | (go_at_call 42; refine (toLawn_any _ _).mono ?_; rintro e w1 ⟨rfl, hb1⟩) | (go_at_call 43; refine (toLev_any _ _).mono ?_; rintro e w1 ⟨rfl, hb1⟩) | (go_at_call 41; refine (HS'.out _).mono ?_; rintro e w1 ⟨rfl, hb1⟩))
      first | exact hK _ _ rfl hw' | exact hK _ _ rfl (below_onto hw' hb1)
    simp only [Act.put, List.setIfInBounds_toArray, List.set_cons_succ, List.set_cons_zero]
  refine wpGrow_nil ?_
  intro W1 hW
  have hb1 := below_onto hb hW
  have g0 := g0.below hW g0.lt
  have g1 := g1.below hW g1.lt
  clear hW hb l0 s0 l1 s1
  obtain ⟨l0, s0⟩ := g0.later
  obtain ⟨l1, s1⟩ := g1.later
  have HT1 := Lib.hid (show ∀ w', Below W1.heap.size W1 w' → TabUp w' from fun w' h => HTT.out.below (below_onto hb1 h) (Nat.le_refl _))
  go_wp2_with fail
  refine wp_region_grow 5 (by kernel_rfl) (by kernel_rfl) ?_
  simp only [List.take_succ_cons, List.take_zero, List.drop_succ_cons, List.drop_zero]
  iterate 5
    apply wpGrow_plain rfl
    · intro w' hw' K hK
      go_wp2_with (first | (go_at_call 42; refine (toLawn_any _ _).mono ?_; rintro e w1 ⟨rfl, hb1⟩) | (go_at_call 43; refine (toLev_any _ _).mono ?_; rintro e w1 ⟨rfl, hb1⟩) | (go_at_call 44; refine (HI'.out _ (HT1.out _ hw')).mono ?_; rintro e w1 ⟨rfl, hb1⟩))
      first | exact hK _ _ rfl hw' | exact hK _ _ rfl (below_onto hw' hb1)
    simp only [Act.put, List.setIfInBounds_toArray, List.set_cons_succ, List.set_cons_zero]
  refine wpGrow_nil ?_
  intro W2 hW
  have hb2 := below_onto hb1 hW
  clear hW hb1 l0 s0 l1 s1 g0 g1
  go_wp2_with fail
  go_ret
  exact ⟨rfl, hb2⟩
end Go.Proofs.YthfhpcigjnjkdaaDoor
