/- The law on MayBeFrom. -/
import Derived.Test.YtoengjabakcpjaaDoorMayBeI
import Derived.Test.YtoengjabakcpjaaDoorZC
import Derived.Test.YtoengjabakcpjaaDoorZB
namespace Go.Proofs.YtoengjabakcpjaaDoor
open Go.RowKit
set_option linter.unusedVariables false
attribute [local go_sem ↓] loadRow loadGrid loadLawn loadMirror storeRow storeGrid storeLawn allocRow allocGrid allocLawn buildZero buildSides loadU10

set_option maxRecDepth 100000 in
set_option maxHeartbeats 2000000 in
theorem exactMayBeFrom_walk (A : Lawn) (s : Nat → Nat → Bool) (t : Nat → Nat → Bool) (n : Int) (r0 : Bool) (r1 : Int)
    (HI : ∀ w : World, Calls Tryd.prog 32 #[.agg A.cells, .agg (bV 10 s), .agg (bV 10 t), .int .i64 n] w fun e w' => e = .returned (.tuple #[.bool r0, .int .i64 r1]) ∧ Below w.heap.size w w')
    (HS : ∀ w : World, Calls Tryd.prog 31 #[.agg A.cells, .agg (bV 10 s), .agg (bV 10 t), .int .i64 n] w fun e w' => e = .returned (.tuple #[.bool r0, .int .i64 r1]) ∧ Below w.heap.size w w') (w : World) :
    Calls Tryd.prog 10 #[.agg A.cells, .agg (bV 10 s), .agg (bV 10 t), .int .i64 n] w fun e w' => e = .returned (.bool true) ∧ Below w.heap.size w w' := by
  have HI' := Lib.hid HI
  have HS' := Lib.hid HS
  clear HI HS
  go_enter Tryd.func10, Tryd.ntmps10
  go_wp2_with fail
  have g0 : Holds (((w.alloc (.cells A.cells 26)).alloc (.cells (bV 10 s) 28)).alloc (.cells (bV 10 t) 28)) (w.heap.size) A.cells := ((Holds.new w A.cells 26).alloc (.cells (bV 10 s) 28)).alloc (.cells (bV 10 t) 28)
  have g1 : Holds (((w.alloc (.cells A.cells 26)).alloc (.cells (bV 10 s) 28)).alloc (.cells (bV 10 t) 28)) (w.heap.size + 1) (bV 10 s) := (Holds.new' (w.alloc (.cells A.cells 26)) (bV 10 s) 28 (w.heap.size + 1) (by simp)).alloc (.cells (bV 10 t) 28)
  have g2 : Holds (((w.alloc (.cells A.cells 26)).alloc (.cells (bV 10 s) 28)).alloc (.cells (bV 10 t) 28)) (w.heap.size + 1 + 1) (bV 10 t) := Holds.new' ((w.alloc (.cells A.cells 26)).alloc (.cells (bV 10 s) 28)) (bV 10 t) 28 (w.heap.size + 1 + 1) (by simp)
  have hb : Below w.heap.size w (((w.alloc (.cells A.cells 26)).alloc (.cells (bV 10 s) 28)).alloc (.cells (bV 10 t) 28)) := (((Below.refl w.heap.size w).alloc (Nat.le_refl _) (.cells A.cells 26)).alloc (by simp <;> omega) (.cells (bV 10 s) 28)).alloc (by simp <;> omega) (.cells (bV 10 t) 28)
  obtain ⟨W, hW⟩ : ∃ W, (((w.alloc (.cells A.cells 26)).alloc (.cells (bV 10 s) 28)).alloc (.cells (bV 10 t) 28)) = W := ⟨_, rfl⟩
  rw [hW] at g0 g1 g2 hb ⊢
  clear hW
  obtain ⟨l0, s0⟩ := g0.later
  obtain ⟨l1, s1⟩ := g1.later
  obtain ⟨l2, s2⟩ := g2.later
  refine wp_region_grow 12 (by kernel_rfl) (by kernel_rfl) ?_
  simp only [List.take_succ_cons, List.take_zero, List.drop_succ_cons, List.drop_zero]
  iterate 12
    apply wpGrow_plain rfl
    · intro w' hw' K hK
      go_wp2_with (first | (go_at_call 15; refine (toLawn_any _ _).mono ?_; rintro e w1 ⟨rfl, hb1⟩) | (go_at_call 16; refine (toWeeds_any _ _).mono ?_; rintro e w1 ⟨rfl, hb1⟩) | (go_at_call 31; refine (HS'.out _).mono ?_; rintro e w1 ⟨rfl, hb1⟩) | (go_at_call 32; refine (HI'.out _).mono ?_; rintro e w1 ⟨rfl, hb1⟩))
      first | exact hK _ _ rfl hw' | exact hK _ _ rfl (below_onto hw' hb1)
    simp only [Act.put, List.setIfInBounds_toArray, List.set_cons_succ, List.set_cons_zero]
  refine wpGrow_nil ?_
  intro W1 hW
  have hb1 := below_onto hb hW
  have g0 := g0.below hW g0.lt
  have g1 := g1.below hW g1.lt
  have g2 := g2.below hW g2.lt
  clear hW hb l0 s0 l1 s1 l2 s2
  obtain ⟨l0, s0⟩ := g0.later
  obtain ⟨l1, s1⟩ := g1.later
  obtain ⟨l2, s2⟩ := g2.later
  go_wp2_with fail
  refine wp_region_grow 12 (by kernel_rfl) (by kernel_rfl) ?_
  simp only [List.take_succ_cons, List.take_zero, List.drop_succ_cons, List.drop_zero]
  iterate 12
    apply wpGrow_plain rfl
    · intro w' hw' K hK
      go_wp2_with (first | (go_at_call 15; refine (toLawn_any _ _).mono ?_; rintro e w1 ⟨rfl, hb1⟩) | (go_at_call 16; refine (toWeeds_any _ _).mono ?_; rintro e w1 ⟨rfl, hb1⟩) | (go_at_call 31; refine (HS'.out _).mono ?_; rintro e w1 ⟨rfl, hb1⟩) | (go_at_call 32; refine (HI'.out _).mono ?_; rintro e w1 ⟨rfl, hb1⟩))
      first | exact hK _ _ rfl hw' | exact hK _ _ rfl (below_onto hw' hb1)
    simp only [Act.put, List.setIfInBounds_toArray, List.set_cons_succ, List.set_cons_zero]
  refine wpGrow_nil ?_
  intro W2 hW
  have hb2 := below_onto hb1 hW
  have g0 := g0.below hW g0.lt
  have g1 := g1.below hW g1.lt
  have g2 := g2.below hW g2.lt
  clear hW hb1 l0 s0 l1 s1 l2 s2
  cases r0
  all_goals
    go_wp2_with fail
    go_ret
    exact ⟨rfl, hb2⟩

theorem exactMayBeFrom (A : Lawn) (hA : A.Fits) (s t : Nat → Nat → Bool) (n : Int) (w : World) :
    Calls Tryd.prog 10 #[.agg A.cells, .agg (bV 10 s), .agg (bV 10 t), .int .i64 n] w fun e w' => e = .returned (.bool true) ∧ Below w.heap.size w w' :=
  exactMayBeFrom_walk A s t n _ _ (implMayBe_any A hA s t n) (specMayBe_any A hA s t n) w

end Go.Proofs.YtoengjabakcpjaaDoor
