/- The law on MeetCell. -/
import Derived.Test.YtaeenkjbmlgcmaaSMeet
import Derived.Test.YtaeenkjbmlgcmaaIMeet
import Derived.Test.YtaeenkjbmlgcmaaZC
import Derived.Test.YtaeenkjbmlgcmaaZD
import Derived.Test.YtaeenkjbmlgcmaaCellSt
import Derived.Test.YtaeenkjbmlgcmaaEqCellS
namespace Go.Proofs.Ytaeenkjbmlgcmaa
open Go.RowKit
set_option linter.unusedVariables false
attribute [local go_sem ↓] loadRow loadGrid loadLawn loadMirror storeRow storeGrid storeLawn allocRow allocGrid allocLawn buildZero buildSides storeCl

set_option maxRecDepth 100000 in
set_option maxHeartbeats 4000000 in
theorem exactMeetCell_walk (A : Lawn) (cx cy : Int) (dx dy : Int) (Rx Ry : Int) (z0 z1 : Int)
    (HI : ∀ w : World, Calls Try.prog 29 #[.agg A.cells, .agg #[.int .i8 cx, .int .i8 cy], .agg #[.int .i8 dx, .int .i8 dy]] w fun e w' => e = .returned (.tuple #[.agg #[.int .i8 Rx, .int .i8 Ry], .int .i64 z0, .int .i64 z1]) ∧ Below w.heap.size w w')
    (HS : ∀ w : World, Calls Try.prog 28 #[.agg A.cells, .agg #[.int .i8 cx, .int .i8 cy], .agg #[.int .i8 dx, .int .i8 dy]] w fun e w' => e = .returned (.tuple #[.agg #[.int .i8 Rx, .int .i8 Ry], .int .i64 z0, .int .i64 z1]) ∧ Below w.heap.size w w') (w : World) :
    Calls Try.prog 7 #[.agg A.cells, .agg #[.int .i8 cx, .int .i8 cy], .agg #[.int .i8 dx, .int .i8 dy]] w fun e w' => e = .returned (.bool true) ∧ Below w.heap.size w w' := by
  have HI' := Lib.hid HI
  have HS' := Lib.hid HS
  clear HI HS
  go_enter Try.func7, Try.ntmps7
  go_wp2_with fail
  have g0 : Holds (((w.alloc (.cells A.cells 26)).alloc (.cells #[.int .i8 cx, .int .i8 cy] 33)).alloc (.cells #[.int .i8 dx, .int .i8 dy] 33)) (w.heap.size) A.cells := ((Holds.new w A.cells 26).alloc (.cells #[.int .i8 cx, .int .i8 cy] 33)).alloc (.cells #[.int .i8 dx, .int .i8 dy] 33)
  have g1 : Holds (((w.alloc (.cells A.cells 26)).alloc (.cells #[.int .i8 cx, .int .i8 cy] 33)).alloc (.cells #[.int .i8 dx, .int .i8 dy] 33)) (w.heap.size + 1) #[.int .i8 cx, .int .i8 cy] := (Holds.new' (w.alloc (.cells A.cells 26)) #[.int .i8 cx, .int .i8 cy] 33 (w.heap.size + 1) (by simp)).alloc (.cells #[.int .i8 dx, .int .i8 dy] 33)
  have g2 : Holds (((w.alloc (.cells A.cells 26)).alloc (.cells #[.int .i8 cx, .int .i8 cy] 33)).alloc (.cells #[.int .i8 dx, .int .i8 dy] 33)) (w.heap.size + 1 + 1) #[.int .i8 dx, .int .i8 dy] := Holds.new' ((w.alloc (.cells A.cells 26)).alloc (.cells #[.int .i8 cx, .int .i8 cy] 33)) #[.int .i8 dx, .int .i8 dy] 33 (w.heap.size + 1 + 1) (by simp)
  have hb : Below w.heap.size w (((w.alloc (.cells A.cells 26)).alloc (.cells #[.int .i8 cx, .int .i8 cy] 33)).alloc (.cells #[.int .i8 dx, .int .i8 dy] 33)) := (((Below.refl w.heap.size w).alloc (Nat.le_refl _) (.cells A.cells 26)).alloc (by simp <;> omega) (.cells #[.int .i8 cx, .int .i8 cy] 33)).alloc (by simp <;> omega) (.cells #[.int .i8 dx, .int .i8 dy] 33)
  obtain ⟨W, hW⟩ : ∃ W, (((w.alloc (.cells A.cells 26)).alloc (.cells #[.int .i8 cx, .int .i8 cy] 33)).alloc (.cells #[.int .i8 dx, .int .i8 dy] 33)) = W := ⟨_, rfl⟩
  rw [hW] at g0 g1 g2 hb ⊢
  clear hW
  obtain ⟨l0, s0⟩ := g0.later
  obtain ⟨l1, s1⟩ := g1.later
  obtain ⟨l2, s2⟩ := g2.later
  refine wp_region_growA 14 11 12 #[.int .i8 0, .int .i8 0] #[.int .i8 Rx, .int .i8 Ry] 37 [.agg A.cells, .agg A.cells, .agg #[.int .i8 cx, .int .i8 cy], .agg #[.int .i8 cx, .int .i8 cy], .agg #[.int .i8 dx, .int .i8 dy], .agg #[.int .i8 dx, .int .i8 dy], .tuple #[.agg #[.int .i8 Rx, .int .i8 Ry], .int .i64 z0, .int .i64 z1], .tuple #[.agg #[.int .i8 Rx, .int .i8 Ry], .int .i64 z0, .int .i64 z1], .agg #[.int .i8 Rx, .int .i8 Ry], .int .i64 z0, .int .i64 z1, undef, undef, .int .i64 z0] (by kernel_rfl) (by kernel_rfl) (by kernel_rfl) ?_
  intro p
  simp only [List.take_succ_cons, List.take_zero, List.drop_succ_cons, List.drop_zero]
  refine seqA_other (v := .agg A.cells) rfl rfl rfl rfl ?_ ?_
  · intro w' hw' K hK
    go_wp2_with fail
    exact hK _ _ rfl (Below.refl _ _)
  simp only [Act.put, List.setIfInBounds_toArray, List.set_cons_succ, List.set_cons_zero]
  refine seqA_other (v := .agg A.cells) rfl rfl rfl rfl ?_ ?_
  · intro w' hw' K hK
    go_wp2_with (go_at_call 13; refine (toLawn_any _ _).mono ?_; rintro e w1 ⟨rfl, hb1⟩)
    exact hK _ _ rfl hb1
  simp only [Act.put, List.setIfInBounds_toArray, List.set_cons_succ, List.set_cons_zero]
  refine seqA_other (v := .agg #[.int .i8 cx, .int .i8 cy]) rfl rfl rfl rfl ?_ ?_
  · intro w' hw' K hK
    have e1 := s1 _ hw'
    go_wp2_with fail
    exact hK _ _ rfl (Below.refl _ _)
  simp only [Act.put, List.setIfInBounds_toArray, List.set_cons_succ, List.set_cons_zero]
  refine seqA_other (v := .agg #[.int .i8 cx, .int .i8 cy]) rfl rfl rfl rfl ?_ ?_
  · intro w' hw' K hK
    go_wp2_with (go_at_call 16; refine (toCell_any _ _ _).mono ?_; rintro e w1 ⟨rfl, hb1⟩)
    exact hK _ _ rfl hb1
  simp only [Act.put, List.setIfInBounds_toArray, List.set_cons_succ, List.set_cons_zero]
  refine seqA_other (v := .agg #[.int .i8 dx, .int .i8 dy]) rfl rfl rfl rfl ?_ ?_
  · intro w' hw' K hK
    have e2 := s2 _ hw'
    go_wp2_with fail
    exact hK _ _ rfl (Below.refl _ _)
  simp only [Act.put, List.setIfInBounds_toArray, List.set_cons_succ, List.set_cons_zero]
  refine seqA_other (v := .agg #[.int .i8 dx, .int .i8 dy]) rfl rfl rfl rfl ?_ ?_
  · intro w' hw' K hK
    go_wp2_with (go_at_call 16; refine (toCell_any _ _ _).mono ?_; rintro e w1 ⟨rfl, hb1⟩)
    exact hK _ _ rfl hb1
  simp only [Act.put, List.setIfInBounds_toArray, List.set_cons_succ, List.set_cons_zero]
  refine seqA_other (v := .tuple #[.agg #[.int .i8 Rx, .int .i8 Ry], .int .i64 z0, .int .i64 z1]) rfl rfl rfl rfl ?_ ?_
  · intro w' hw' K hK
    go_wp2_with (first | (go_at_call 28; refine (HS'.out _).mono ?_; rintro e w1 ⟨rfl, hb1⟩) | (go_at_call 29; refine (HI'.out _).mono ?_; rintro e w1 ⟨rfl, hb1⟩))
    exact hK _ _ rfl hb1
  simp only [Act.put, List.setIfInBounds_toArray, List.set_cons_succ, List.set_cons_zero]
  refine seqA_other (v := .tuple #[.agg #[.int .i8 Rx, .int .i8 Ry], .int .i64 z0, .int .i64 z1]) rfl rfl rfl rfl ?_ ?_
  · intro w' hw' K hK
    go_wp2_with fail
    exact hK _ _ rfl (Below.refl _ _)
  simp only [Act.put, List.setIfInBounds_toArray, List.set_cons_succ, List.set_cons_zero]
  refine seqA_other (v := .agg #[.int .i8 Rx, .int .i8 Ry]) rfl rfl rfl rfl ?_ ?_
  · intro w' hw' K hK
    go_wp2_with fail
    exact hK _ _ rfl (Below.refl _ _)
  simp only [Act.put, List.setIfInBounds_toArray, List.set_cons_succ, List.set_cons_zero]
  refine seqA_other (v := .int .i64 z0) rfl rfl rfl rfl ?_ ?_
  · intro w' hw' K hK
    go_wp2_with fail
    exact hK _ _ rfl (Below.refl _ _)
  simp only [Act.put, List.setIfInBounds_toArray, List.set_cons_succ, List.set_cons_zero]
  refine seqA_other (v := .int .i64 z1) rfl rfl rfl rfl ?_ ?_
  · intro w' hw' K hK
    go_wp2_with fail
    exact hK _ _ rfl (Below.refl _ _)
  simp only [Act.put, List.setIfInBounds_toArray, List.set_cons_succ, List.set_cons_zero]
  refine seqA_make rfl rfl ?_ ?_
  · rintro w' rfl K hK
    go_wp2_with fail
    first | done | exact hK _ rfl
  simp only [Act.put, List.setIfInBounds_toArray, List.set_cons_succ, List.set_cons_zero]
  refine seqA_store rfl rfl rfl rfl ?_ ?_
  · intro w' hp hH K hK
    have rp := hH.row
    have fp := hH.isFree
    have lp := hH.lt
    go_wp2_with fail
    exact hK
  refine seqA_other (v := .int .i64 z0) rfl rfl rfl rfl ?_ ?_
  · intro w' hw' K hK
    go_wp2_with fail
    exact hK _ _ rfl (Below.refl _ _)
  simp only [Act.put, List.setIfInBounds_toArray, List.set_cons_succ, List.set_cons_zero]
  refine seqA_nil ?_
  intro W2 hp hW2 h1
  have hb2 := below_onto hb hW2
  have k0 := g0.below hW2 g0.lt
  have k1 := g1.below hW2 g1.lt
  have k2 := g2.below hW2 g2.lt
  have hp1 : w.heap.size ≤ p := Nat.le_trans hb.size hp
  clear hW2 g0 l0 s0 g1 l1 s1 g2 l2 s2 hb hp W
  obtain ⟨q, hq⟩ : ∃ q, p = q := ⟨_, rfl⟩
  rw [hq] at h1 hp1 ⊢
  clear hq p
  obtain ⟨l0, s0⟩ := k0.later
  obtain ⟨l1, s1⟩ := k1.later
  obtain ⟨l2, s2⟩ := k2.later
  go_wp2_with fail
  refine wp_region_growA 14 11 12 #[.int .i8 0, .int .i8 0] #[.int .i8 Rx, .int .i8 Ry] 37 [.agg A.cells, .agg A.cells, .agg #[.int .i8 cx, .int .i8 cy], .agg #[.int .i8 cx, .int .i8 cy], .agg #[.int .i8 dx, .int .i8 dy], .agg #[.int .i8 dx, .int .i8 dy], .tuple #[.agg #[.int .i8 Rx, .int .i8 Ry], .int .i64 z0, .int .i64 z1], .tuple #[.agg #[.int .i8 Rx, .int .i8 Ry], .int .i64 z0, .int .i64 z1], .agg #[.int .i8 Rx, .int .i8 Ry], .int .i64 z0, .int .i64 z1, undef, undef, .int .i64 z0] (by kernel_rfl) (by kernel_rfl) (by kernel_rfl) ?_
  intro p
  simp only [List.take_succ_cons, List.take_zero, List.drop_succ_cons, List.drop_zero]
  refine seqA_other (v := .agg A.cells) rfl rfl rfl rfl ?_ ?_
  · intro w' hw' K hK
    go_wp2_with fail
    exact hK _ _ rfl (Below.refl _ _)
  simp only [Act.put, List.setIfInBounds_toArray, List.set_cons_succ, List.set_cons_zero]
  refine seqA_other (v := .agg A.cells) rfl rfl rfl rfl ?_ ?_
  · intro w' hw' K hK
    go_wp2_with (go_at_call 13; refine (toLawn_any _ _).mono ?_; rintro e w1 ⟨rfl, hb1⟩)
    exact hK _ _ rfl hb1
  simp only [Act.put, List.setIfInBounds_toArray, List.set_cons_succ, List.set_cons_zero]
  refine seqA_other (v := .agg #[.int .i8 cx, .int .i8 cy]) rfl rfl rfl rfl ?_ ?_
  · intro w' hw' K hK
    have e1 := s1 _ hw'
    go_wp2_with fail
    exact hK _ _ rfl (Below.refl _ _)
  simp only [Act.put, List.setIfInBounds_toArray, List.set_cons_succ, List.set_cons_zero]
  refine seqA_other (v := .agg #[.int .i8 cx, .int .i8 cy]) rfl rfl rfl rfl ?_ ?_
  · intro w' hw' K hK
    go_wp2_with (go_at_call 16; refine (toCell_any _ _ _).mono ?_; rintro e w1 ⟨rfl, hb1⟩)
    exact hK _ _ rfl hb1
  simp only [Act.put, List.setIfInBounds_toArray, List.set_cons_succ, List.set_cons_zero]
  refine seqA_other (v := .agg #[.int .i8 dx, .int .i8 dy]) rfl rfl rfl rfl ?_ ?_
  · intro w' hw' K hK
    have e2 := s2 _ hw'
    go_wp2_with fail
    exact hK _ _ rfl (Below.refl _ _)
  simp only [Act.put, List.setIfInBounds_toArray, List.set_cons_succ, List.set_cons_zero]
  refine seqA_other (v := .agg #[.int .i8 dx, .int .i8 dy]) rfl rfl rfl rfl ?_ ?_
  · intro w' hw' K hK
    go_wp2_with (go_at_call 16; refine (toCell_any _ _ _).mono ?_; rintro e w1 ⟨rfl, hb1⟩)
    exact hK _ _ rfl hb1
  simp only [Act.put, List.setIfInBounds_toArray, List.set_cons_succ, List.set_cons_zero]
  refine seqA_other (v := .tuple #[.agg #[.int .i8 Rx, .int .i8 Ry], .int .i64 z0, .int .i64 z1]) rfl rfl rfl rfl ?_ ?_
  · intro w' hw' K hK
    go_wp2_with (first | (go_at_call 28; refine (HS'.out _).mono ?_; rintro e w1 ⟨rfl, hb1⟩) | (go_at_call 29; refine (HI'.out _).mono ?_; rintro e w1 ⟨rfl, hb1⟩))
    exact hK _ _ rfl hb1
  simp only [Act.put, List.setIfInBounds_toArray, List.set_cons_succ, List.set_cons_zero]
  refine seqA_other (v := .tuple #[.agg #[.int .i8 Rx, .int .i8 Ry], .int .i64 z0, .int .i64 z1]) rfl rfl rfl rfl ?_ ?_
  · intro w' hw' K hK
    go_wp2_with fail
    exact hK _ _ rfl (Below.refl _ _)
  simp only [Act.put, List.setIfInBounds_toArray, List.set_cons_succ, List.set_cons_zero]
  refine seqA_other (v := .agg #[.int .i8 Rx, .int .i8 Ry]) rfl rfl rfl rfl ?_ ?_
  · intro w' hw' K hK
    go_wp2_with fail
    exact hK _ _ rfl (Below.refl _ _)
  simp only [Act.put, List.setIfInBounds_toArray, List.set_cons_succ, List.set_cons_zero]
  refine seqA_other (v := .int .i64 z0) rfl rfl rfl rfl ?_ ?_
  · intro w' hw' K hK
    go_wp2_with fail
    exact hK _ _ rfl (Below.refl _ _)
  simp only [Act.put, List.setIfInBounds_toArray, List.set_cons_succ, List.set_cons_zero]
  refine seqA_other (v := .int .i64 z1) rfl rfl rfl rfl ?_ ?_
  · intro w' hw' K hK
    go_wp2_with fail
    exact hK _ _ rfl (Below.refl _ _)
  simp only [Act.put, List.setIfInBounds_toArray, List.set_cons_succ, List.set_cons_zero]
  refine seqA_make rfl rfl ?_ ?_
  · rintro w' rfl K hK
    go_wp2_with fail
    first | done | exact hK _ rfl
  simp only [Act.put, List.setIfInBounds_toArray, List.set_cons_succ, List.set_cons_zero]
  refine seqA_store rfl rfl rfl rfl ?_ ?_
  · intro w' hp hH K hK
    have rp := hH.row
    have fp := hH.isFree
    have lp := hH.lt
    go_wp2_with fail
    exact hK
  refine seqA_other (v := .int .i64 z0) rfl rfl rfl rfl ?_ ?_
  · intro w' hw' K hK
    go_wp2_with fail
    exact hK _ _ rfl (Below.refl _ _)
  simp only [Act.put, List.setIfInBounds_toArray, List.set_cons_succ, List.set_cons_zero]
  refine seqA_nil ?_
  intro W3 hp hW3 h3
  have hb3 := below_onto hb2 hW3
  have h2 := h1.below hW3 h1.lt
  clear hW3 k0 l0 s0 k1 l1 s1 k2 l2 s2 HI' HS' hb2 h1
  obtain ⟨ra, fa, da, -, la⟩ := h2.facts
  obtain ⟨rb, fb, db, -, lb⟩ := h3.facts
  go_wp2_with fail
  refine (eqCell_same _ _ _).mono ?_
  rintro e w3 ⟨rfl, hb4⟩
  go_wp2_with fail
  go_ret
  exact ⟨rfl, below_onto hb3 hb4⟩

theorem exactMeetCell (A : Lawn) (hA : A.Fits) (c : Int × Int) (hc : (-128 ≤ c.1 ∧ c.1 ≤ 127) ∧ -128 ≤ c.2 ∧ c.2 ≤ 127) (d : Int × Int) (hd : (-128 ≤ d.1 ∧ d.1 ≤ 127) ∧ -128 ≤ d.2 ∧ d.2 ≤ 127) (w : World) :
    Calls Try.prog 7 #[.agg A.cells, .agg #[.int .i8 c.1, .int .i8 c.2], .agg #[.int .i8 d.1, .int .i8 d.2]] w fun e w' => e = .returned (.bool true) ∧ Below w.heap.size w w' :=
  exactMeetCell_walk A c.1 c.2 d.1 d.2 _ _ _ _ (implMeet_any A hA c.1 c.2 d.1 d.2) (specMeet_any A hA c.1 c.2 d.1 d.2 hc.1.1 hc.1.2 hc.2.1 hc.2.2 hd.1.1 hd.1.2 hd.2.1 hd.2.2) w

end Go.Proofs.Ytaeenkjbmlgcmaa
