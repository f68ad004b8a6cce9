/- The law on LeastBattery. -/
import Derived.Test.YtojccgaldadcnaaSLeast
import Derived.Test.YtojccgaldadcnaaZC
import Derived.Test.YtojccgaldadcnaaZB
namespace Go.Proofs.Ytojccgaldadcnaa
open Go.RowKit
set_option linter.unusedVariables false
attribute [local go_sem ↓] loadRow loadGrid loadLawn loadMirror storeRow storeGrid storeLawn allocRow allocGrid allocLawn buildZero buildSides

set_option maxRecDepth 100000 in
set_option maxHeartbeats 2000000 in
theorem exactLeastBattery_walk (A : Lawn) (cx cy : Int) (r0 : Int) (r1 : Int)
    (HI : ∀ w : World, Calls Try.prog 20 #[.agg A.cells, .agg #[.int .i8 cx, .int .i8 cy]] w fun e w' => e = .returned (.tuple #[.int .i64 r0, .int .i64 r1]) ∧ Below w.heap.size w w')
    (HS : ∀ w : World, Calls Try.prog 18 #[.agg A.cells, .agg #[.int .i8 cx, .int .i8 cy]] w fun e w' => e = .returned (.tuple #[.int .i64 r0, .int .i64 r1]) ∧ Below w.heap.size w w') (w : World) :
    Calls Try.prog 5 #[.agg A.cells, .agg #[.int .i8 cx, .int .i8 cy]] w fun e w' => e = .returned (.bool true) ∧ Below w.heap.size w w' := by
  have HI' := Lib.hid HI
  have HS' := Lib.hid HS
  clear HI HS
  go_enter Try.func5, Try.ntmps5
  go_wp2_with fail
  have g0 : Holds ((w.alloc (.cells A.cells 26)).alloc (.cells #[.int .i8 cx, .int .i8 cy] 40)) (w.heap.size) A.cells := (Holds.new w A.cells 26).alloc (.cells #[.int .i8 cx, .int .i8 cy] 40)
  have g1 : Holds ((w.alloc (.cells A.cells 26)).alloc (.cells #[.int .i8 cx, .int .i8 cy] 40)) (w.heap.size + 1) #[.int .i8 cx, .int .i8 cy] := Holds.new' (w.alloc (.cells A.cells 26)) #[.int .i8 cx, .int .i8 cy] 40 (w.heap.size + 1) (by simp)
  have hb : Below w.heap.size w ((w.alloc (.cells A.cells 26)).alloc (.cells #[.int .i8 cx, .int .i8 cy] 40)) := ((Below.refl w.heap.size w).alloc (Nat.le_refl _) (.cells A.cells 26)).alloc (by simp <;> omega) (.cells #[.int .i8 cx, .int .i8 cy] 40)
  obtain ⟨W, hW⟩ : ∃ W, ((w.alloc (.cells A.cells 26)).alloc (.cells #[.int .i8 cx, .int .i8 cy] 40)) = W := ⟨_, rfl⟩
  rw [hW] at g0 g1 hb ⊢
  clear hW
  obtain ⟨l0, s0⟩ := g0.later
  obtain ⟨l1, s1⟩ := g1.later
  refine wp_region_grow 9 (by kernel_rfl) (by kernel_rfl) ?_
  simp only [List.take_succ_cons, List.take_zero, List.drop_succ_cons, List.drop_zero]
  iterate 9
    apply wpGrow_plain rfl
    · intro w' hw' K hK
      have e1 := s1 _ hw'
      go_wp2_with (first | (go_at_call 12; refine (toLawn_any _ _).mono ?_; rintro e w1 ⟨rfl, hb1⟩) | (go_at_call 19; refine (toCell_any _ _ _).mono ?_; rintro e w1 ⟨rfl, hb1⟩) | (go_at_call 18; refine (HS'.out _).mono ?_; rintro e w1 ⟨rfl, hb1⟩) | (go_at_call 20; refine (HI'.out _).mono ?_; rintro e w1 ⟨rfl, hb1⟩))
      first | exact hK _ _ rfl hw' | exact hK _ _ rfl (below_onto hw' hb1)
    simp only [Act.put, List.setIfInBounds_toArray, List.set_cons_succ, List.set_cons_zero]
  refine wpGrow_nil ?_
  intro W1 hW
  have hb1 := below_onto hb hW
  have g0 := g0.below hW g0.lt
  have g1 := g1.below hW g1.lt
  clear hW hb l0 s0 l1 s1
  obtain ⟨l0, s0⟩ := g0.later
  obtain ⟨l1, s1⟩ := g1.later
  go_wp2_with fail
  refine wp_region_grow 9 (by kernel_rfl) (by kernel_rfl) ?_
  simp only [List.take_succ_cons, List.take_zero, List.drop_succ_cons, List.drop_zero]
  iterate 9
    apply wpGrow_plain rfl
    · intro w' hw' K hK
      have e1 := s1 _ hw'
      go_wp2_with (first | (go_at_call 12; refine (toLawn_any _ _).mono ?_; rintro e w1 ⟨rfl, hb1⟩) | (go_at_call 19; refine (toCell_any _ _ _).mono ?_; rintro e w1 ⟨rfl, hb1⟩) | (go_at_call 18; refine (HS'.out _).mono ?_; rintro e w1 ⟨rfl, hb1⟩) | (go_at_call 20; refine (HI'.out _).mono ?_; rintro e w1 ⟨rfl, hb1⟩))
      first | exact hK _ _ rfl hw' | exact hK _ _ rfl (below_onto hw' hb1)
    simp only [Act.put, List.setIfInBounds_toArray, List.set_cons_succ, List.set_cons_zero]
  refine wpGrow_nil ?_
  intro W2 hW
  have hb2 := below_onto hb1 hW
  have g0 := g0.below hW g0.lt
  have g1 := g1.below hW g1.lt
  clear hW hb1 l0 s0 l1 s1
  all_goals
    go_wp2_with fail
    go_ret
    exact ⟨rfl, hb2⟩

theorem exactLeastBattery (A : Lawn) (hA : A.Fits) (c : Int × Int) (hc : (-128 ≤ c.1 ∧ c.1 ≤ 127) ∧ -128 ≤ c.2 ∧ c.2 ≤ 127) (w : World) :
    Calls Try.prog 5 #[.agg A.cells, .agg #[.int .i8 c.1, .int .i8 c.2]] w fun e w' => e = .returned (.bool true) ∧ Below w.heap.size w w' :=
  exactLeastBattery_walk A c.1 c.2 (batN A c.1 c.2) (stepsC A c.1 c.2) (implLeast_any A hA c.1 c.2) (specLeast_any A hA c.1 c.2 hc.1.1 hc.1.2 hc.2.1 hc.2.2) w

end Go.Proofs.Ytojccgaldadcnaa
