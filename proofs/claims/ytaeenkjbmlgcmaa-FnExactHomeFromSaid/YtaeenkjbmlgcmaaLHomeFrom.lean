/- The law on HomeFrom. -/
import Derived.Test.YtaeenkjbmlgcmaaSHomeF
import Derived.Test.YtaeenkjbmlgcmaaZC
import Derived.Test.YtaeenkjbmlgcmaaZB
namespace Go.Proofs.Ytaeenkjbmlgcmaa
open Go.RowKit
set_option linter.unusedVariables false
attribute [local go_sem ↓] loadRow loadGrid loadLawn loadMirror storeRow storeGrid storeLawn allocRow allocGrid allocLawn buildZero buildSides

set_option maxRecDepth 100000 in
set_option maxHeartbeats 2000000 in
theorem exactHomeFrom_walk (A : Lawn) (cx cy : Int) (dx dy : Int) (r0 : ByteArray) (r1 : Int)
    (HI : ∀ w : World, Calls Try.prog 22 #[.agg A.cells, .agg #[.int .i8 cx, .int .i8 cy], .agg #[.int .i8 dx, .int .i8 dy]] w fun e w' => e = .returned (.tuple #[.string r0, .int .i64 r1]) ∧ Below w.heap.size w w')
    (HS : ∀ w : World, Calls Try.prog 21 #[.agg A.cells, .agg #[.int .i8 cx, .int .i8 cy], .agg #[.int .i8 dx, .int .i8 dy]] w fun e w' => e = .returned (.tuple #[.string r0, .int .i64 r1]) ∧ Below w.heap.size w w') (w : World) :
    Calls Try.prog 5 #[.agg A.cells, .agg #[.int .i8 cx, .int .i8 cy], .agg #[.int .i8 dx, .int .i8 dy]] w fun e w' => e = .returned (.bool true) ∧ Below w.heap.size w w' := by
  have HI' := Lib.hid HI
  have HS' := Lib.hid HS
  clear HI HS
  go_enter Try.func5, Try.ntmps5
  go_wp2_with fail
  have g0 : Holds (((w.alloc (.cells A.cells 26)).alloc (.cells #[.int .i8 cx, .int .i8 cy] 33)).alloc (.cells #[.int .i8 dx, .int .i8 dy] 33)) (w.heap.size) A.cells := ((Holds.new w A.cells 26).alloc (.cells #[.int .i8 cx, .int .i8 cy] 33)).alloc (.cells #[.int .i8 dx, .int .i8 dy] 33)
  have g1 : Holds (((w.alloc (.cells A.cells 26)).alloc (.cells #[.int .i8 cx, .int .i8 cy] 33)).alloc (.cells #[.int .i8 dx, .int .i8 dy] 33)) (w.heap.size + 1) #[.int .i8 cx, .int .i8 cy] := (Holds.new' (w.alloc (.cells A.cells 26)) #[.int .i8 cx, .int .i8 cy] 33 (w.heap.size + 1) (by simp)).alloc (.cells #[.int .i8 dx, .int .i8 dy] 33)
  have g2 : Holds (((w.alloc (.cells A.cells 26)).alloc (.cells #[.int .i8 cx, .int .i8 cy] 33)).alloc (.cells #[.int .i8 dx, .int .i8 dy] 33)) (w.heap.size + 1 + 1) #[.int .i8 dx, .int .i8 dy] := Holds.new' ((w.alloc (.cells A.cells 26)).alloc (.cells #[.int .i8 cx, .int .i8 cy] 33)) #[.int .i8 dx, .int .i8 dy] 33 (w.heap.size + 1 + 1) (by simp)
  have hb : Below w.heap.size w (((w.alloc (.cells A.cells 26)).alloc (.cells #[.int .i8 cx, .int .i8 cy] 33)).alloc (.cells #[.int .i8 dx, .int .i8 dy] 33)) := (((Below.refl w.heap.size w).alloc (Nat.le_refl _) (.cells A.cells 26)).alloc (by simp <;> omega) (.cells #[.int .i8 cx, .int .i8 cy] 33)).alloc (by simp <;> omega) (.cells #[.int .i8 dx, .int .i8 dy] 33)
  obtain ⟨W, hW⟩ : ∃ W, (((w.alloc (.cells A.cells 26)).alloc (.cells #[.int .i8 cx, .int .i8 cy] 33)).alloc (.cells #[.int .i8 dx, .int .i8 dy] 33)) = W := ⟨_, rfl⟩
  rw [hW] at g0 g1 g2 hb ⊢
  clear hW
  obtain ⟨l0, s0⟩ := g0.later
  obtain ⟨l1, s1⟩ := g1.later
  obtain ⟨l2, s2⟩ := g2.later
  refine wp_region_grow 11 (by kernel_rfl) (by kernel_rfl) ?_
  simp only [List.take_succ_cons, List.take_zero, List.drop_succ_cons, List.drop_zero]
  iterate 11
    apply wpGrow_plain rfl
    · intro w' hw' K hK
      have e1 := s1 _ hw'
      have e2 := s2 _ hw'
      go_wp2_with (first | (go_at_call 13; refine (toLawn_any _ _).mono ?_; rintro e w1 ⟨rfl, hb1⟩) | (go_at_call 16; refine (toCell_any _ _ _).mono ?_; rintro e w1 ⟨rfl, hb1⟩) | (go_at_call 21; refine (HS'.out _).mono ?_; rintro e w1 ⟨rfl, hb1⟩) | (go_at_call 22; refine (HI'.out _).mono ?_; rintro e w1 ⟨rfl, hb1⟩))
      first | exact hK _ _ rfl hw' | exact hK _ _ rfl (below_onto hw' hb1)
    simp only [Act.put, List.setIfInBounds_toArray, List.set_cons_succ, List.set_cons_zero]
  refine wpGrow_nil ?_
  intro W1 hW
  have hb1 := below_onto hb hW
  have g0 := g0.below hW g0.lt
  have g1 := g1.below hW g1.lt
  have g2 := g2.below hW g2.lt
  clear hW hb l0 s0 l1 s1 l2 s2
  obtain ⟨l0, s0⟩ := g0.later
  obtain ⟨l1, s1⟩ := g1.later
  obtain ⟨l2, s2⟩ := g2.later
  go_wp2_with fail
  refine wp_region_grow 11 (by kernel_rfl) (by kernel_rfl) ?_
  simp only [List.take_succ_cons, List.take_zero, List.drop_succ_cons, List.drop_zero]
  iterate 11
    apply wpGrow_plain rfl
    · intro w' hw' K hK
      have e1 := s1 _ hw'
      have e2 := s2 _ hw'
      go_wp2_with (first | (go_at_call 13; refine (toLawn_any _ _).mono ?_; rintro e w1 ⟨rfl, hb1⟩) | (go_at_call 16; refine (toCell_any _ _ _).mono ?_; rintro e w1 ⟨rfl, hb1⟩) | (go_at_call 21; refine (HS'.out _).mono ?_; rintro e w1 ⟨rfl, hb1⟩) | (go_at_call 22; refine (HI'.out _).mono ?_; rintro e w1 ⟨rfl, hb1⟩))
      first | exact hK _ _ rfl hw' | exact hK _ _ rfl (below_onto hw' hb1)
    simp only [Act.put, List.setIfInBounds_toArray, List.set_cons_succ, List.set_cons_zero]
  refine wpGrow_nil ?_
  intro W2 hW
  have hb2 := below_onto hb1 hW
  have g0 := g0.below hW g0.lt
  have g1 := g1.below hW g1.lt
  have g2 := g2.below hW g2.lt
  clear hW hb1 l0 s0 l1 s1 l2 s2
  all_goals
    go_wp2_with fail
    go_ret
    exact ⟨rfl, hb2⟩

theorem exactHomeFrom (A : Lawn) (hA : A.Fits) (c : Int × Int) (hc : (-128 ≤ c.1 ∧ c.1 ≤ 127) ∧ -128 ≤ c.2 ∧ c.2 ≤ 127) (d : Int × Int) (hd : (-128 ≤ d.1 ∧ d.1 ≤ 127) ∧ -128 ≤ d.2 ∧ d.2 ≤ 127) (w : World) :
    Calls Try.prog 5 #[.agg A.cells, .agg #[.int .i8 c.1, .int .i8 c.2], .agg #[.int .i8 d.1, .int .i8 d.2]] w fun e w' => e = .returned (.bool true) ∧ Below w.heap.size w w' :=
  exactHomeFrom_walk A c.1 c.2 d.1 d.2 (homeA A c.1 c.2 d.1 d.2) (homeC A c.1 c.2 d.1 d.2) (implHomeF_any A hA c.1 c.2 d.1 d.2) (specHomeF_any A hA c.1 c.2 d.1 d.2 hc.1.1 hc.1.2 hc.2.1 hc.2.2 hd.1.1 hd.1.2 hd.2.1 hd.2.2) w

end Go.Proofs.Ytaeenkjbmlgcmaa
