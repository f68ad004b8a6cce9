/- The law on WeedsText. -/
import Derived.Test.YtojccgaldadcnaaWeedT
import Derived.Test.YtojccgaldadcnaaZC
import Derived.Test.YtojccgaldadcnaaZB
namespace Go.Proofs.Ytojccgaldadcnaa
open Go.RowKit
set_option linter.unusedVariables false
attribute [local go_sem ↓] loadRow loadGrid loadLawn loadMirror storeRow storeGrid storeLawn allocRow allocGrid allocLawn buildZero buildSides loadU10

set_option maxRecDepth 100000 in
set_option maxHeartbeats 2000000 in
theorem exactWeedsText_walk (A : Lawn) (s : Nat → Nat → Bool) (r0 : ByteArray)
    (HI : ∀ w : World, Calls Try.prog 14 #[.agg A.cells, .agg (bV 10 s)] w fun e w' => e = .returned (.string r0) ∧ Below w.heap.size w w')
    (HS : ∀ w : World, Calls Try.prog 11 #[.agg A.cells, .agg (bV 10 s)] w fun e w' => e = .returned (.string r0) ∧ Below w.heap.size w w') (w : World) :
    Calls Try.prog 3 #[.agg A.cells, .agg (bV 10 s)] w fun e w' => e = .returned (.bool true) ∧ Below w.heap.size w w' := by
  have HI' := Lib.hid HI
  have HS' := Lib.hid HS
  clear HI HS
  go_enter Try.func3, Try.ntmps3
  go_wp2_with fail
  have g0 : Holds ((w.alloc (.cells A.cells 26)).alloc (.cells (bV 10 s) 28)) (w.heap.size) A.cells := (Holds.new w A.cells 26).alloc (.cells (bV 10 s) 28)
  have g1 : Holds ((w.alloc (.cells A.cells 26)).alloc (.cells (bV 10 s) 28)) (w.heap.size + 1) (bV 10 s) := Holds.new' (w.alloc (.cells A.cells 26)) (bV 10 s) 28 (w.heap.size + 1) (by simp)
  have hb : Below w.heap.size w ((w.alloc (.cells A.cells 26)).alloc (.cells (bV 10 s) 28)) := ((Below.refl w.heap.size w).alloc (Nat.le_refl _) (.cells A.cells 26)).alloc (by simp <;> omega) (.cells (bV 10 s) 28)
  obtain ⟨W, hW⟩ : ∃ W, ((w.alloc (.cells A.cells 26)).alloc (.cells (bV 10 s) 28)) = W := ⟨_, rfl⟩
  rw [hW] at g0 g1 hb ⊢
  clear hW
  obtain ⟨l0, s0⟩ := g0.later
  obtain ⟨l1, s1⟩ := g1.later
  refine wp_region_grow 5 (by kernel_rfl) (by kernel_rfl) ?_
  simp only [List.take_succ_cons, List.take_zero, List.drop_succ_cons, List.drop_zero]
  iterate 5
    apply wpGrow_plain rfl
    · intro w' hw' K hK
      go_wp2_with (first | (go_at_call 12; refine (toLawn_any _ _).mono ?_; rintro e w1 ⟨rfl, hb1⟩) | (go_at_call 13; refine (toWeeds_any _ _).mono ?_; rintro e w1 ⟨rfl, hb1⟩) | (go_at_call 11; refine (HS'.out _).mono ?_; rintro e w1 ⟨rfl, hb1⟩) | (go_at_call 14; refine (HI'.out _).mono ?_; rintro e w1 ⟨rfl, hb1⟩))
      first | exact hK _ _ rfl hw' | exact hK _ _ rfl (below_onto hw' hb1)
    simp only [Act.put, List.setIfInBounds_toArray, List.set_cons_succ, List.set_cons_zero]
  refine wpGrow_nil ?_
  intro W1 hW
  have hb1 := below_onto hb hW
  have g0 := g0.below hW g0.lt
  have g1 := g1.below hW g1.lt
  clear hW hb l0 s0 l1 s1
  obtain ⟨l0, s0⟩ := g0.later
  obtain ⟨l1, s1⟩ := g1.later
  go_wp2_with fail
  refine wp_region_grow 5 (by kernel_rfl) (by kernel_rfl) ?_
  simp only [List.take_succ_cons, List.take_zero, List.drop_succ_cons, List.drop_zero]
  iterate 5
    apply wpGrow_plain rfl
    · intro w' hw' K hK
      go_wp2_with (first | (go_at_call 12; refine (toLawn_any _ _).mono ?_; rintro e w1 ⟨rfl, hb1⟩) | (go_at_call 13; refine (toWeeds_any _ _).mono ?_; rintro e w1 ⟨rfl, hb1⟩) | (go_at_call 11; refine (HS'.out _).mono ?_; rintro e w1 ⟨rfl, hb1⟩) | (go_at_call 14; refine (HI'.out _).mono ?_; rintro e w1 ⟨rfl, hb1⟩))
      first | exact hK _ _ rfl hw' | exact hK _ _ rfl (below_onto hw' hb1)
    simp only [Act.put, List.setIfInBounds_toArray, List.set_cons_succ, List.set_cons_zero]
  refine wpGrow_nil ?_
  intro W2 hW
  have hb2 := below_onto hb1 hW
  have g0 := g0.below hW g0.lt
  have g1 := g1.below hW g1.lt
  clear hW hb1 l0 s0 l1 s1
  all_goals
    go_wp2_with fail
    go_ret
    exact ⟨rfl, hb2⟩

theorem exactWeedsText (A : Lawn) (hA : A.Fits) (s : Nat → Nat → Bool) (w : World) :
    Calls Try.prog 3 #[.agg A.cells, .agg (bV 10 s)] w fun e w' => e = .returned (.bool true) ∧ Below w.heap.size w w' :=
  exactWeedsText_walk A s _ (implWeedT_any A hA s) (specWeedT_any A hA s) w

end Go.Proofs.Ytojccgaldadcnaa
