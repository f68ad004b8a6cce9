/- The law on SpoolsFor. -/
import Derived.Test.YthpfejbigdjhlaaSSpools
import Derived.Test.YthpfejbigdjhlaaZC
import Derived.Test.YthpfejbigdjhlaaZB
namespace Go.Proofs.Ythpfejbigdjhlaa
open Go.RowKit
set_option linter.unusedVariables false
attribute [local go_sem ↓] loadRow loadGrid loadLawn loadMirror storeRow storeGrid storeLawn allocRow allocGrid allocLawn buildZero buildSides loadWr loadW5

set_option maxRecDepth 100000 in
set_option maxHeartbeats 2000000 in
theorem exactSpoolsFor_walk (A : Lawn) (u : Sd) (h : Int) (r0 : Int) (r1 : Int)
    (HI : ∀ w : World, Calls Try.prog 32 #[.agg A.cells, .agg (wrV u), .int .i64 h] w fun e w' => e = .returned (.tuple #[.int .i64 r0, .int .i64 r1]) ∧ Below w.heap.size w w')
    (HS : ∀ w : World, Calls Try.prog 31 #[.agg A.cells, .agg (wrV u), .int .i64 h] w fun e w' => e = .returned (.tuple #[.int .i64 r0, .int .i64 r1]) ∧ Below w.heap.size w w') (w : World) :
    Calls Try.prog 9 #[.agg A.cells, .agg (wrV u), .int .i64 h] w fun e w' => e = .returned (.bool true) ∧ Below w.heap.size w w' := by
  have HI' := Lib.hid HI
  have HS' := Lib.hid HS
  clear HI HS
  go_enter Try.func9, Try.ntmps9
  go_wp2_with fail
  have g0 : Holds ((w.alloc (.cells A.cells 26)).alloc (.cells (wrV u) 43)) (w.heap.size) A.cells := (Holds.new w A.cells 26).alloc (.cells (wrV u) 43)
  have g1 : Holds ((w.alloc (.cells A.cells 26)).alloc (.cells (wrV u) 43)) (w.heap.size + 1) (wrV u) := Holds.new' (w.alloc (.cells A.cells 26)) (wrV u) 43 (w.heap.size + 1) (by simp)
  have hb : Below w.heap.size w ((w.alloc (.cells A.cells 26)).alloc (.cells (wrV u) 43)) := ((Below.refl w.heap.size w).alloc (Nat.le_refl _) (.cells A.cells 26)).alloc (by simp <;> omega) (.cells (wrV u) 43)
  obtain ⟨W, hW⟩ : ∃ W, ((w.alloc (.cells A.cells 26)).alloc (.cells (wrV u) 43)) = W := ⟨_, rfl⟩
  rw [hW] at g0 g1 hb ⊢
  clear hW
  obtain ⟨l0, s0⟩ := g0.later
  obtain ⟨l1, s1⟩ := g1.later
  refine wp_region_grow 10 (by kernel_rfl) (by kernel_rfl) ?_
  simp only [List.take_succ_cons, List.take_zero, List.drop_succ_cons, List.drop_zero]
  iterate 10
    apply wpGrow_plain rfl
    · intro w' hw' K hK
      go_wp2_with (first | (go_at_call 16; refine (toLawn_any _ _).mono ?_; rintro e w1 ⟨rfl, hb1⟩) | (go_at_call 27; refine (toWear_any _ _).mono ?_; rintro e w1 ⟨rfl, hb1⟩) | (go_at_call 31; refine (HS'.out _).mono ?_; rintro e w1 ⟨rfl, hb1⟩) | (go_at_call 32; refine (HI'.out _).mono ?_; rintro e w1 ⟨rfl, hb1⟩))
      first | exact hK _ _ rfl hw' | exact hK _ _ rfl (below_onto hw' hb1)
    simp only [Act.put, List.setIfInBounds_toArray, List.set_cons_succ, List.set_cons_zero]
  refine wpGrow_nil ?_
  intro W1 hW
  have hb1 := below_onto hb hW
  have g0 := g0.below hW g0.lt
  have g1 := g1.below hW g1.lt
  clear hW hb l0 s0 l1 s1
  obtain ⟨l0, s0⟩ := g0.later
  obtain ⟨l1, s1⟩ := g1.later
  go_wp2_with fail
  refine wp_region_grow 10 (by kernel_rfl) (by kernel_rfl) ?_
  simp only [List.take_succ_cons, List.take_zero, List.drop_succ_cons, List.drop_zero]
  iterate 10
    apply wpGrow_plain rfl
    · intro w' hw' K hK
      go_wp2_with (first | (go_at_call 16; refine (toLawn_any _ _).mono ?_; rintro e w1 ⟨rfl, hb1⟩) | (go_at_call 27; refine (toWear_any _ _).mono ?_; rintro e w1 ⟨rfl, hb1⟩) | (go_at_call 31; refine (HS'.out _).mono ?_; rintro e w1 ⟨rfl, hb1⟩) | (go_at_call 32; refine (HI'.out _).mono ?_; rintro e w1 ⟨rfl, hb1⟩))
      first | exact hK _ _ rfl hw' | exact hK _ _ rfl (below_onto hw' hb1)
    simp only [Act.put, List.setIfInBounds_toArray, List.set_cons_succ, List.set_cons_zero]
  refine wpGrow_nil ?_
  intro W2 hW
  have hb2 := below_onto hb1 hW
  have g0 := g0.below hW g0.lt
  have g1 := g1.below hW g1.lt
  clear hW hb1 l0 s0 l1 s1
  all_goals
    go_wp2_with fail
    go_ret
    exact ⟨rfl, hb2⟩

theorem exactSpoolsFor (A : Lawn) (hA : A.Fits) (u : Sd) (hu : ∀ k, k < 5 → -128 ≤ u k ∧ u k ≤ 127) (h : Int) (w : World) :
    Calls Try.prog 9 #[.agg A.cells, .agg (wrV u), .int .i64 h] w fun e w' => e = .returned (.bool true) ∧ Below w.heap.size w w' := by
  cases hf : fitB A u
  · exact exactSpoolsFor_walk A u h 0 1 (implSpools_bad A hA u h hf) (specSpools_bad A hA u hu h hf) w
  · cases hh : lineB h
    · exact exactSpoolsFor_walk A u h 0 2 (implSpools_line A hA u h hf hh) (specSpools_line A hA u hu h hf hh) w
    · obtain ⟨a, c, hr⟩ := spoolR_form (sidesOfL A) u h
      exact exactSpoolsFor_walk A u h a c (hr ▸ implSpools_good A hA u hf h hh) (hr ▸ specSpools_good A hA u hu hf h hh) w

end Go.Proofs.Ythpfejbigdjhlaa
