/- The law on MostVisited. -/
import Derived.Test.YtabemgplddfemaaGreatDoorIMostV
import Derived.Test.YtabemgplddfemaaGreatDoorSMostV
import Derived.Test.YtabemgplddfemaaGreatDoorZO
import Derived.Test.YtabemgplddfemaaGreatDoorVLev
import Derived.Test.YtabemgplddfemaaGreatDoorZC
import Derived.Test.YtabemgplddfemaaGreatDoorZD
import Derived.Test.YtabemgplddfemaaGreatDoorZR
namespace Go.Proofs.YtabemgplddfemaaGreatDoor
open Go.RowKit
set_option linter.unusedVariables false
attribute [local go_sem ↓] loadRow loadGrid loadLawn loadMirror storeRow storeGrid storeLawn allocRow allocGrid allocLawn buildZero buildSides storeCl loadL8

set_option maxRecDepth 100000 in
set_option maxHeartbeats 4000000 in
theorem exactMostVisited_walk (A : Lawn) (g : Nat → Nat → Int) (cx cy : Int) (N : Int) (Rx Ry : Int) (z0 z1 : Int)
    {a0 a1 a2 a3 a4 : Addr}
    (HI : ∀ w : World, ErrsIn w a0 a1 a2 a3 a4 → Calls Tryz.prog 12 #[.agg A.cells, .agg (levV g), .agg #[.int .i8 cx, .int .i8 cy], .int .i64 N] w fun e w' => e = .returned (.tuple #[.agg #[.int .i8 Rx, .int .i8 Ry], .int .i64 z0, .int .i64 z1]) ∧ Below w.heap.size w w')
    (HS : ∀ w : World, Calls Tryz.prog 10 #[.agg A.cells, .agg (levV g), .agg #[.int .i8 cx, .int .i8 cy], .int .i64 N] w fun e w' => e = .returned (.tuple #[.agg #[.int .i8 Rx, .int .i8 Ry], .int .i64 z0, .int .i64 z1]) ∧ Below w.heap.size w w') (w : World) (hE : ErrsIn w a0 a1 a2 a3 a4) :
    Calls Tryz.prog 4 #[.agg A.cells, .agg (levV g), .agg #[.int .i8 cx, .int .i8 cy], .int .i64 N] w fun e w' => e = .returned (.bool true) ∧ Below w.heap.size w w' := by
  have HI' := Lib.hid HI
  have HS' := Lib.hid HS
  clear HI HS
  go_enter Tryz.func4, Tryz.ntmps4
  go_wp2_with fail
  have g0 : Holds (((w.alloc (.cells A.cells 26)).alloc (.cells (levV g) 28)).alloc (.cells #[.int .i8 cx, .int .i8 cy] 39)) (w.heap.size) A.cells := ((Holds.new w A.cells 26).alloc (.cells (levV g) 28)).alloc (.cells #[.int .i8 cx, .int .i8 cy] 39)
  have g1 : Holds (((w.alloc (.cells A.cells 26)).alloc (.cells (levV g) 28)).alloc (.cells #[.int .i8 cx, .int .i8 cy] 39)) (w.heap.size + 1) (levV g) := (Holds.new' (w.alloc (.cells A.cells 26)) (levV g) 28 (w.heap.size + 1) (by simp)).alloc (.cells #[.int .i8 cx, .int .i8 cy] 39)
  have g2 : Holds (((w.alloc (.cells A.cells 26)).alloc (.cells (levV g) 28)).alloc (.cells #[.int .i8 cx, .int .i8 cy] 39)) (w.heap.size + 1 + 1) #[.int .i8 cx, .int .i8 cy] := Holds.new' ((w.alloc (.cells A.cells 26)).alloc (.cells (levV g) 28)) #[.int .i8 cx, .int .i8 cy] 39 (w.heap.size + 1 + 1) (by simp)
  have hb : Below w.heap.size w (((w.alloc (.cells A.cells 26)).alloc (.cells (levV g) 28)).alloc (.cells #[.int .i8 cx, .int .i8 cy] 39)) := (((Below.refl w.heap.size w).alloc (Nat.le_refl _) (.cells A.cells 26)).alloc (by simp <;> omega) (.cells (levV g) 28)).alloc (by simp <;> omega) (.cells #[.int .i8 cx, .int .i8 cy] 39)
  obtain ⟨W, hW⟩ : ∃ W, (((w.alloc (.cells A.cells 26)).alloc (.cells (levV g) 28)).alloc (.cells #[.int .i8 cx, .int .i8 cy] 39)) = W := ⟨_, rfl⟩
  rw [hW] at g0 g1 g2 hb ⊢
  clear hW
  have HE := Lib.hid (hE.below hb)
  obtain ⟨l0, s0⟩ := g0.later
  obtain ⟨l1, s1⟩ := g1.later
  obtain ⟨l2, s2⟩ := g2.later
  refine wp_region_growA 15 12 13 #[.int .i8 0, .int .i8 0] #[.int .i8 Rx, .int .i8 Ry] 30 [.agg A.cells, .agg A.cells, .agg (levV g), .agg (levV g), .agg #[.int .i8 cx, .int .i8 cy], .agg #[.int .i8 cx, .int .i8 cy], .int .i64 N, .tuple #[.agg #[.int .i8 Rx, .int .i8 Ry], .int .i64 z0, .int .i64 z1], .tuple #[.agg #[.int .i8 Rx, .int .i8 Ry], .int .i64 z0, .int .i64 z1], .agg #[.int .i8 Rx, .int .i8 Ry], .int .i64 z0, .int .i64 z1, undef, undef, .int .i64 z0] (by kernel_rfl) (by kernel_rfl) (by kernel_rfl) ?_
  intro p
  simp only [List.take_succ_cons, List.take_zero, List.drop_succ_cons, List.drop_zero]
  refine seqA_other (v := .agg A.cells) rfl rfl rfl rfl ?_ ?_
  · intro w' hw' K hK
    go_wp2_with fail
    exact hK _ _ rfl (Below.refl _ _)
  simp only [Act.put, List.setIfInBounds_toArray, List.set_cons_succ, List.set_cons_zero]
  refine seqA_other (v := .agg A.cells) rfl rfl rfl rfl ?_ ?_
  · intro w' hw' K hK
    go_wp2_with (go_at_call 6; refine (toLawn_any _ _).mono ?_; rintro e w1 ⟨rfl, hb1⟩)
    exact hK _ _ rfl hb1
  simp only [Act.put, List.setIfInBounds_toArray, List.set_cons_succ, List.set_cons_zero]
  refine seqA_other (v := .agg (levV g)) rfl rfl rfl rfl ?_ ?_
  · intro w' hw' K hK
    go_wp2_with fail
    exact hK _ _ rfl (Below.refl _ _)
  simp only [Act.put, List.setIfInBounds_toArray, List.set_cons_succ, List.set_cons_zero]
  refine seqA_other (v := .agg (levV g)) rfl rfl rfl rfl ?_ ?_
  · intro w' hw' K hK
    go_wp2_with (go_at_call 7; refine (toLev_any _ _).mono ?_; rintro e w1 ⟨rfl, hb1⟩)
    exact hK _ _ rfl hb1
  simp only [Act.put, List.setIfInBounds_toArray, List.set_cons_succ, List.set_cons_zero]
  refine seqA_other (v := .agg #[.int .i8 cx, .int .i8 cy]) rfl rfl rfl rfl ?_ ?_
  · intro w' hw' K hK
    have e2 := s2 _ hw'
    go_wp2_with fail
    exact hK _ _ rfl (Below.refl _ _)
  simp only [Act.put, List.setIfInBounds_toArray, List.set_cons_succ, List.set_cons_zero]
  refine seqA_other (v := .agg #[.int .i8 cx, .int .i8 cy]) rfl rfl rfl rfl ?_ ?_
  · intro w' hw' K hK
    go_wp2_with (go_at_call 11; refine (toCell_any _ _ _).mono ?_; rintro e w1 ⟨rfl, hb1⟩)
    exact hK _ _ rfl hb1
  simp only [Act.put, List.setIfInBounds_toArray, List.set_cons_succ, List.set_cons_zero]
  refine seqA_other (v := .int .i64 N) rfl rfl rfl rfl ?_ ?_
  · intro w' hw' K hK
    go_wp2_with fail
    exact hK _ _ rfl (Below.refl _ _)
  simp only [Act.put, List.setIfInBounds_toArray, List.set_cons_succ, List.set_cons_zero]
  refine seqA_other (v := .tuple #[.agg #[.int .i8 Rx, .int .i8 Ry], .int .i64 z0, .int .i64 z1]) rfl rfl rfl rfl ?_ ?_
  · intro w' hw' K hK
    go_wp2_with (first | (go_at_call 10; refine (HS'.out _).mono ?_; rintro e w1 ⟨rfl, hb1⟩) | (go_at_call 12; refine (HI'.out _ (HE.out.below hw')).mono ?_; rintro e w1 ⟨rfl, hb1⟩))
    exact hK _ _ rfl hb1
  simp only [Act.put, List.setIfInBounds_toArray, List.set_cons_succ, List.set_cons_zero]
  refine seqA_other (v := .tuple #[.agg #[.int .i8 Rx, .int .i8 Ry], .int .i64 z0, .int .i64 z1]) rfl rfl rfl rfl ?_ ?_
  · intro w' hw' K hK
    go_wp2_with fail
    exact hK _ _ rfl (Below.refl _ _)
  simp only [Act.put, List.setIfInBounds_toArray, List.set_cons_succ, List.set_cons_zero]
  refine seqA_other (v := .agg #[.int .i8 Rx, .int .i8 Ry]) rfl rfl rfl rfl ?_ ?_
  · intro w' hw' K hK
    go_wp2_with fail
    exact hK _ _ rfl (Below.refl _ _)
  simp only [Act.put, List.setIfInBounds_toArray, List.set_cons_succ, List.set_cons_zero]
  refine seqA_other (v := .int .i64 z0) rfl rfl rfl rfl ?_ ?_
  · intro w' hw' K hK
    go_wp2_with fail
    exact hK _ _ rfl (Below.refl _ _)
  simp only [Act.put, List.setIfInBounds_toArray, List.set_cons_succ, List.set_cons_zero]
  refine seqA_other (v := .int .i64 z1) rfl rfl rfl rfl ?_ ?_
  · intro w' hw' K hK
    go_wp2_with fail
    exact hK _ _ rfl (Below.refl _ _)
  simp only [Act.put, List.setIfInBounds_toArray, List.set_cons_succ, List.set_cons_zero]
  refine seqA_make rfl rfl ?_ ?_
  · rintro w' rfl K hK
    go_wp2_with fail
    first | done | exact hK _ rfl
  simp only [Act.put, List.setIfInBounds_toArray, List.set_cons_succ, List.set_cons_zero]
  refine seqA_store rfl rfl rfl rfl ?_ ?_
  · intro w' hp hH K hK
    have rp := hH.row
    have fp := hH.isFree
    have lp := hH.lt
    go_wp2_with fail
    exact hK
  refine seqA_other (v := .int .i64 z0) rfl rfl rfl rfl ?_ ?_
  · intro w' hw' K hK
    go_wp2_with fail
    exact hK _ _ rfl (Below.refl _ _)
  simp only [Act.put, List.setIfInBounds_toArray, List.set_cons_succ, List.set_cons_zero]
  refine seqA_nil ?_
  intro W2 hp hW2 h1
  have hb2 := below_onto hb hW2
  have k0 := g0.below hW2 g0.lt
  have k1 := g1.below hW2 g1.lt
  have k2 := g2.below hW2 g2.lt
  have hp1 : w.heap.size ≤ p := Nat.le_trans hb.size hp
  clear hW2 g0 l0 s0 g1 l1 s1 g2 l2 s2 hb hp HE W
  obtain ⟨q, hq⟩ : ∃ q, p = q := ⟨_, rfl⟩
  rw [hq] at h1 hp1 ⊢
  clear hq p
  obtain ⟨l0, s0⟩ := k0.later
  obtain ⟨l1, s1⟩ := k1.later
  obtain ⟨l2, s2⟩ := k2.later
  have HE := Lib.hid (hE.below hb2)
  go_wp2_with fail
  refine wp_region_growA 15 12 13 #[.int .i8 0, .int .i8 0] #[.int .i8 Rx, .int .i8 Ry] 30 [.agg A.cells, .agg A.cells, .agg (levV g), .agg (levV g), .agg #[.int .i8 cx, .int .i8 cy], .agg #[.int .i8 cx, .int .i8 cy], .int .i64 N, .tuple #[.agg #[.int .i8 Rx, .int .i8 Ry], .int .i64 z0, .int .i64 z1], .tuple #[.agg #[.int .i8 Rx, .int .i8 Ry], .int .i64 z0, .int .i64 z1], .agg #[.int .i8 Rx, .int .i8 Ry], .int .i64 z0, .int .i64 z1, undef, undef, .int .i64 z0] (by kernel_rfl) (by kernel_rfl) (by kernel_rfl) ?_
  intro p
  simp only [List.take_succ_cons, List.take_zero, List.drop_succ_cons, List.drop_zero]
  refine seqA_other (v := .agg A.cells) rfl rfl rfl rfl ?_ ?_
  · intro w' hw' K hK
    go_wp2_with fail
    exact hK _ _ rfl (Below.refl _ _)
  simp only [Act.put, List.setIfInBounds_toArray, List.set_cons_succ, List.set_cons_zero]
  refine seqA_other (v := .agg A.cells) rfl rfl rfl rfl ?_ ?_
  · intro w' hw' K hK
    go_wp2_with (go_at_call 6; refine (toLawn_any _ _).mono ?_; rintro e w1 ⟨rfl, hb1⟩)
    exact hK _ _ rfl hb1
  simp only [Act.put, List.setIfInBounds_toArray, List.set_cons_succ, List.set_cons_zero]
  refine seqA_other (v := .agg (levV g)) rfl rfl rfl rfl ?_ ?_
  · intro w' hw' K hK
    go_wp2_with fail
    exact hK _ _ rfl (Below.refl _ _)
  simp only [Act.put, List.setIfInBounds_toArray, List.set_cons_succ, List.set_cons_zero]
  refine seqA_other (v := .agg (levV g)) rfl rfl rfl rfl ?_ ?_
  · intro w' hw' K hK
    go_wp2_with (go_at_call 7; refine (toLev_any _ _).mono ?_; rintro e w1 ⟨rfl, hb1⟩)
    exact hK _ _ rfl hb1
  simp only [Act.put, List.setIfInBounds_toArray, List.set_cons_succ, List.set_cons_zero]
  refine seqA_other (v := .agg #[.int .i8 cx, .int .i8 cy]) rfl rfl rfl rfl ?_ ?_
  · intro w' hw' K hK
    have e2 := s2 _ hw'
    go_wp2_with fail
    exact hK _ _ rfl (Below.refl _ _)
  simp only [Act.put, List.setIfInBounds_toArray, List.set_cons_succ, List.set_cons_zero]
  refine seqA_other (v := .agg #[.int .i8 cx, .int .i8 cy]) rfl rfl rfl rfl ?_ ?_
  · intro w' hw' K hK
    go_wp2_with (go_at_call 11; refine (toCell_any _ _ _).mono ?_; rintro e w1 ⟨rfl, hb1⟩)
    exact hK _ _ rfl hb1
  simp only [Act.put, List.setIfInBounds_toArray, List.set_cons_succ, List.set_cons_zero]
  refine seqA_other (v := .int .i64 N) rfl rfl rfl rfl ?_ ?_
  · intro w' hw' K hK
    go_wp2_with fail
    exact hK _ _ rfl (Below.refl _ _)
  simp only [Act.put, List.setIfInBounds_toArray, List.set_cons_succ, List.set_cons_zero]
  refine seqA_other (v := .tuple #[.agg #[.int .i8 Rx, .int .i8 Ry], .int .i64 z0, .int .i64 z1]) rfl rfl rfl rfl ?_ ?_
  · intro w' hw' K hK
    go_wp2_with (first | (go_at_call 10; refine (HS'.out _).mono ?_; rintro e w1 ⟨rfl, hb1⟩) | (go_at_call 12; refine (HI'.out _ (HE.out.below hw')).mono ?_; rintro e w1 ⟨rfl, hb1⟩))
    exact hK _ _ rfl hb1
  simp only [Act.put, List.setIfInBounds_toArray, List.set_cons_succ, List.set_cons_zero]
  refine seqA_other (v := .tuple #[.agg #[.int .i8 Rx, .int .i8 Ry], .int .i64 z0, .int .i64 z1]) rfl rfl rfl rfl ?_ ?_
  · intro w' hw' K hK
    go_wp2_with fail
    exact hK _ _ rfl (Below.refl _ _)
  simp only [Act.put, List.setIfInBounds_toArray, List.set_cons_succ, List.set_cons_zero]
  refine seqA_other (v := .agg #[.int .i8 Rx, .int .i8 Ry]) rfl rfl rfl rfl ?_ ?_
  · intro w' hw' K hK
    go_wp2_with fail
    exact hK _ _ rfl (Below.refl _ _)
  simp only [Act.put, List.setIfInBounds_toArray, List.set_cons_succ, List.set_cons_zero]
  refine seqA_other (v := .int .i64 z0) rfl rfl rfl rfl ?_ ?_
  · intro w' hw' K hK
    go_wp2_with fail
    exact hK _ _ rfl (Below.refl _ _)
  simp only [Act.put, List.setIfInBounds_toArray, List.set_cons_succ, List.set_cons_zero]
  refine seqA_other (v := .int .i64 z1) rfl rfl rfl rfl ?_ ?_
  · intro w' hw' K hK
    go_wp2_with fail
    exact hK _ _ rfl (Below.refl _ _)
  simp only [Act.put, List.setIfInBounds_toArray, List.set_cons_succ, List.set_cons_zero]
  refine seqA_make rfl rfl ?_ ?_
  · rintro w' rfl K hK
    go_wp2_with fail
    first | done | exact hK _ rfl
  simp only [Act.put, List.setIfInBounds_toArray, List.set_cons_succ, List.set_cons_zero]
  refine seqA_store rfl rfl rfl rfl ?_ ?_
  · intro w' hp hH K hK
    have rp := hH.row
    have fp := hH.isFree
    have lp := hH.lt
    go_wp2_with fail
    exact hK
  refine seqA_other (v := .int .i64 z0) rfl rfl rfl rfl ?_ ?_
  · intro w' hw' K hK
    go_wp2_with fail
    exact hK _ _ rfl (Below.refl _ _)
  simp only [Act.put, List.setIfInBounds_toArray, List.set_cons_succ, List.set_cons_zero]
  refine seqA_nil ?_
  intro W3 hp hW3 h3
  have hb3 := below_onto hb2 hW3
  have h2 := h1.below hW3 h1.lt
  clear hW3 k0 l0 s0 k1 l1 s1 k2 l2 s2 HI' HS' hb2 h1
  obtain ⟨ra, fa, da, -, la⟩ := h2.facts
  obtain ⟨rb, fb, db, -, lb⟩ := h3.facts
  go_wp2_with fail
  refine (eqCell_same _ _ _).mono ?_
  rintro e w3 ⟨rfl, hb4⟩
  go_wp2_with fail
  go_ret
  exact ⟨rfl, below_onto hb3 hb4⟩

theorem exactMostVisited (A : Lawn) (hA : A.Fits) (g : Nat → Nat → Int) (hg : LevFits g) (c : Int × Int) (hc : (-128 ≤ c.1 ∧ c.1 ≤ 127) ∧ -128 ≤ c.2 ∧ c.2 ≤ 127) (N : Int) {a0 a1 a2 a3 a4 : Addr} (w : World) (hE : ErrsIn w a0 a1 a2 a3 a4) :
    Calls Tryz.prog 4 #[.agg A.cells, .agg (levV g), .agg #[.int .i8 c.1, .int .i8 c.2], .int .i64 N] w fun e w' => e = .returned (.bool true) ∧ Below w.heap.size w w' := by
  obtain ⟨cx, cy⟩ := c
  dsimp only at hc ⊢
  cases hk : chkE A g (upZ N 60) [(cx, cy)] with
  | some k =>
    have hne := errZ_ne k
    have hS : ∀ w, Calls Tryz.prog 10 #[.agg A.cells, .agg (levV g), .agg #[.int .i8 cx, .int .i8 cy], .int .i64 N] w fun e w' => e = .returned (cellNN3 ((0, 0), 0, errZ k)) ∧ Below w.heap.size w w' := fun w => by
      have hz : (errZ k == 0) = false := by simpa using hne
      have h := smost_code A g cx cy N (errZ k) _ _ _ (by rw [if_neg (by rw [hz]; simp)]; exact hne) (Lib.hid (fun w => snights_bad A hA g hg cx cy N hc (errZ k) (by unfold chkC; rw [hk]) hne w)) w
      rwa [if_neg (by rw [hz]; simp)] at h
    exact exactMostVisited_walk A g cx cy N _ _ _ _ (fun w hE => imost_bad A hA g cx cy N k hk w hE) hS w hE
  | none =>
    obtain ⟨hv, hgr⟩ := chkE_none hk
    have hV := (levB_true hv).1
    have hu : upZ N 60 = true := by
      cases hu : upZ N 60 with
      | true => rfl
      | false => rw [hu] at hk; unfold chkE at hk; rw [hv] at hk; simp at hk
    obtain ⟨q, rfl, rfl, hq⟩ := cell_Q hV (hgr (cx, cy) (by simp))
    unfold upZ at hu
    simp only [Bool.and_eq_true, decide_eq_true_eq] at hu
    obtain ⟨m, rfl⟩ : ∃ m : Nat, N = m := ⟨N.toNat, by omega⟩
    have hI := fun w (hE : ErrsIn w a0 a1 a2 a3 a4) => imost_good A hA g hv q hq m (by omega) w hE
    have hS : ∀ w, Calls Tryz.prog 10 #[.agg A.cells, .agg (levV g), .agg #[.int .i8 q.1.val, .int .i8 q.2.val], .int .i64 m] w fun e w' => e = .returned (cellNN3 (visA A g q m)) ∧ Below w.heap.size w w' := fun w => by
      rcases Nat.eq_zero_or_pos m with h0 | h0
      · subst h0
        rw [visA_none]
        exact smost_code A g _ _ _ 0 _ _ _ (by decide) (Lib.hid (fun w => smoleNights_good A hA g hg hv q hq 0 (by omega) w)) w
      · exact smost_good A hA g hg hv q hq m (by omega) h0 w
    exact exactMostVisited_walk A g _ _ _ _ _ _ _ hI hS w hE

end Go.Proofs.YtabemgplddfemaaGreatDoor
