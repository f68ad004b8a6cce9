/- SameLawn, of the program and of the model: both say whether two lawns are equal. -/
import Derived.Test.YtognggcajjbfiaaEql
import Derived.Test.YtognggcajjbfiaaNum
import Derived.Test.YtognggcajjbfiaaGrow
namespace Go.Proofs.Ytognggcajjbfiaa
open Go.RowKit
attribute [local go_sem ↓] loadRow loadGrid loadLawn loadMirror storeRow storeGrid storeLawn allocRow allocGrid allocLawn buildZero buildSides eqlGrid eqlLawn

set_option maxHeartbeats 400000 in
theorem implSame_any (A B : Lawn) (w : World) :
    Calls Try.prog 39 #[.agg A.cells, .agg B.cells] w fun e w' => e = .returned (.bool (lawnEq A B)) ∧ Below w.heap.size w w' := by
  go_enter Try.func39, Try.ntmps39
  go_wp2
  go_ret
  exact ⟨rfl, ((Below.refl _ _).alloc (Nat.le_refl _) _).alloc (by simp) _⟩
set_option maxHeartbeats 400000 in
theorem specSame_any (A B : Lawn) (w : World) :
    Calls Try.prog 38 #[.agg A.cells, .agg B.cells] w fun e w' => e = .returned (.bool (lawnEq A B)) ∧ Below w.heap.size w w' := by
  go_enter Try.func38, Try.ntmps38
  go_wp2
  go_ret
  exact ⟨rfl, ((Below.refl _ _).alloc (Nat.le_refl _) _).alloc (by simp) _⟩

set_option maxRecDepth 100000 in
set_option maxHeartbeats 1000000 in
/-- The law on SameLawn answers true. -/
theorem exactSame (A B : Lawn) (w : World) :
    Calls Try.prog 5 #[.agg A.cells, .agg B.cells] w fun e w' => e = .returned (.bool true) ∧ Below w.heap.size w w' := by
  obtain ⟨v, hv⟩ : ∃ v, lawnEq A B = v := ⟨_, rfl⟩
  have HI : ∀ w : World, Calls Try.prog 39 #[.agg A.cells, .agg B.cells] w fun e w' => e = .returned (.bool v) ∧ Below w.heap.size w w' := fun w => hv ▸ implSame_any A B w
  have HS : ∀ w : World, Calls Try.prog 38 #[.agg A.cells, .agg B.cells] w fun e w' => e = .returned (.bool v) ∧ Below w.heap.size w w' := fun w => hv ▸ specSame_any A B w
  clear hv
  have HI' := Lib.hid HI
  have HS' := Lib.hid HS
  clear HI HS
  go_enter Try.func5, Try.ntmps5
  go_wp2
  have g0 : Holds ((w.alloc (.cells A.cells 51)).alloc (.cells B.cells 51)) w.heap.size A.cells := (Holds.new _ _ _).alloc _
  have g1 : Holds ((w.alloc (.cells A.cells 51)).alloc (.cells B.cells 51)) (w.heap.size + 1) B.cells := Holds.new' _ _ _ _ (by simp)
  have hb : Below w.heap.size w ((w.alloc (.cells A.cells 51)).alloc (.cells B.cells 51)) := ((Below.refl _ _).alloc (Nat.le_refl _) _).alloc (by simp) _
  obtain ⟨W, hW⟩ : ∃ W, (w.alloc (.cells A.cells 51)).alloc (.cells B.cells 51) = W := ⟨_, rfl⟩
  rw [hW] at g0 g1 hb ⊢
  clear hW
  obtain ⟨r0, -⟩ := g0.later
  obtain ⟨r1, -⟩ := g1.later
  refine wp_region_grow 5 (by kernel_rfl) (by kernel_rfl) ?_
  simp only [List.take_succ_cons, List.take_zero, List.drop_succ_cons, List.drop_zero]
  iterate 5
    apply wpGrow_plain rfl
    · intro w' hw' K hK
      go_wp2_with (first | (go_at_call 36; refine (toLawn_any _ _).mono ?_; rintro e w1 ⟨rfl, hb1⟩) | (go_at_call 38; refine (HS'.out _).mono ?_; rintro e w1 ⟨rfl, hb1⟩) | (go_at_call 39; refine (HI'.out _).mono ?_; rintro e w1 ⟨rfl, hb1⟩))
      first | exact hK _ _ rfl hw' | exact hK _ _ rfl (below_onto hw' hb1)
  refine wpGrow_nil ?_
  intro W2 hW2
  have hb2 := below_onto hb hW2
  have k0 := g0.below hW2 g0.lt
  have k1 := g1.below hW2 g1.lt
  clear hW2 g0 g1 r0 r1 hb W
  obtain ⟨r0, -⟩ := k0.later
  obtain ⟨r1, -⟩ := k1.later
  go_wp2
  refine wp_region_grow 5 (by kernel_rfl) (by kernel_rfl) ?_
  simp only [List.take_succ_cons, List.take_zero, List.drop_succ_cons, List.drop_zero]
  iterate 5
    apply wpGrow_plain rfl
    · intro w' hw' K hK
      go_wp2_with (first | (go_at_call 36; refine (toLawn_any _ _).mono ?_; rintro e w1 ⟨rfl, hb1⟩) | (go_at_call 38; refine (HS'.out _).mono ?_; rintro e w1 ⟨rfl, hb1⟩) | (go_at_call 39; refine (HI'.out _).mono ?_; rintro e w1 ⟨rfl, hb1⟩))
      first | exact hK _ _ rfl hw' | exact hK _ _ rfl (below_onto hw' hb1)
  refine wpGrow_nil ?_
  intro W3 hW3
  have hb3 := below_onto hb2 hW3
  clear hW3 r0 r1 k0 k1
  cases v
  all_goals
    go_wp2
    go_ret
    exact ⟨rfl, hb3⟩
end Go.Proofs.Ytognggcajjbfiaa
