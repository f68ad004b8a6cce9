/- The law on BestTrap. -/
import Derived.Test.YtabemgplddfemaaGreatDoorITrap
import Derived.Test.YtabemgplddfemaaGreatDoorSTrapB
import Derived.Test.YtabemgplddfemaaGreatDoorZO
import Derived.Test.YtabemgplddfemaaGreatDoorVLev
import Derived.Test.YtabemgplddfemaaGreatDoorZC
import Derived.Test.YtabemgplddfemaaGreatDoorZD
import Derived.Test.YtabemgplddfemaaGreatDoorZR
namespace Go.Proofs.YtabemgplddfemaaGreatDoor
open Go.RowKit
set_option linter.unusedVariables false
attribute [local go_sem ↓] loadRow loadGrid loadLawn loadMirror storeRow storeGrid storeLawn allocRow allocGrid allocLawn buildZero buildSides storeCl loadL8

set_option maxRecDepth 100000 in
set_option maxHeartbeats 4000000 in
theorem exactBestTrap_walk (A : Lawn) (g : Nat → Nat → Int) (N : Int) (Rx Ry : Int) (z0 z1 : Int)
    {a0 a1 a2 a3 a4 : Addr}
    (HI : ∀ w : World, ErrsIn w a0 a1 a2 a3 a4 → Calls Tryz.prog 8 #[.agg A.cells, .agg (levV g), .int .i64 N] w fun e w' => e = .returned (.tuple #[.agg #[.int .i8 Rx, .int .i8 Ry], .int .i64 z0, .int .i64 z1]) ∧ Below w.heap.size w w')
    (HS : ∀ w : World, Calls Tryz.prog 5 #[.agg A.cells, .agg (levV g), .int .i64 N] w fun e w' => e = .returned (.tuple #[.agg #[.int .i8 Rx, .int .i8 Ry], .int .i64 z0, .int .i64 z1]) ∧ Below w.heap.size w w') (w : World) (hE : ErrsIn w a0 a1 a2 a3 a4) :
    Calls Tryz.prog 3 #[.agg A.cells, .agg (levV g), .int .i64 N] w fun e w' => e = .returned (.bool true) ∧ Below w.heap.size w w' := by
  have HI' := Lib.hid HI
  have HS' := Lib.hid HS
  clear HI HS
  go_enter Tryz.func3, Tryz.ntmps3
  go_wp2_with fail
  have g0 : Holds ((w.alloc (.cells A.cells 26)).alloc (.cells (levV g) 28)) (w.heap.size) A.cells := (Holds.new w A.cells 26).alloc (.cells (levV g) 28)
  have g1 : Holds ((w.alloc (.cells A.cells 26)).alloc (.cells (levV g) 28)) (w.heap.size + 1) (levV g) := Holds.new' (w.alloc (.cells A.cells 26)) (levV g) 28 (w.heap.size + 1) (by simp)
  have hb : Below w.heap.size w ((w.alloc (.cells A.cells 26)).alloc (.cells (levV g) 28)) := ((Below.refl w.heap.size w).alloc (Nat.le_refl _) (.cells A.cells 26)).alloc (by simp <;> omega) (.cells (levV g) 28)
  obtain ⟨W, hW⟩ : ∃ W, ((w.alloc (.cells A.cells 26)).alloc (.cells (levV g) 28)) = W := ⟨_, rfl⟩
  rw [hW] at g0 g1 hb ⊢
  clear hW
  have HE := Lib.hid (hE.below hb)
  obtain ⟨l0, s0⟩ := g0.later
  obtain ⟨l1, s1⟩ := g1.later
  refine wp_region_growA 13 10 11 #[.int .i8 0, .int .i8 0] #[.int .i8 Rx, .int .i8 Ry] 30 [.agg A.cells, .agg A.cells, .agg (levV g), .agg (levV g), .int .i64 N, .tuple #[.agg #[.int .i8 Rx, .int .i8 Ry], .int .i64 z0, .int .i64 z1], .tuple #[.agg #[.int .i8 Rx, .int .i8 Ry], .int .i64 z0, .int .i64 z1], .agg #[.int .i8 Rx, .int .i8 Ry], .int .i64 z0, .int .i64 z1, undef, undef, .int .i64 z0] (by kernel_rfl) (by kernel_rfl) (by kernel_rfl) ?_
  intro p
  simp only [List.take_succ_cons, List.take_zero, List.drop_succ_cons, List.drop_zero]
  refine seqA_other (v := .agg A.cells) rfl rfl rfl rfl ?_ ?_
  · intro w' hw' K hK
    go_wp2_with fail
    exact hK _ _ rfl (Below.refl _ _)
  simp only [Act.put, List.setIfInBounds_toArray, List.set_cons_succ, List.set_cons_zero]
  refine seqA_other (v := .agg A.cells) rfl rfl rfl rfl ?_ ?_
  · intro w' hw' K hK
    go_wp2_with (go_at_call 6; refine (toLawn_any _ _).mono ?_; rintro e w1 ⟨rfl, hb1⟩)
    exact hK _ _ rfl hb1
  simp only [Act.put, List.setIfInBounds_toArray, List.set_cons_succ, List.set_cons_zero]
  refine seqA_other (v := .agg (levV g)) rfl rfl rfl rfl ?_ ?_
  · intro w' hw' K hK
    go_wp2_with fail
    exact hK _ _ rfl (Below.refl _ _)
  simp only [Act.put, List.setIfInBounds_toArray, List.set_cons_succ, List.set_cons_zero]
  refine seqA_other (v := .agg (levV g)) rfl rfl rfl rfl ?_ ?_
  · intro w' hw' K hK
    go_wp2_with (go_at_call 7; refine (toLev_any _ _).mono ?_; rintro e w1 ⟨rfl, hb1⟩)
    exact hK _ _ rfl hb1
  simp only [Act.put, List.setIfInBounds_toArray, List.set_cons_succ, List.set_cons_zero]
  refine seqA_other (v := .int .i64 N) rfl rfl rfl rfl ?_ ?_
  · intro w' hw' K hK
    go_wp2_with fail
    exact hK _ _ rfl (Below.refl _ _)
  simp only [Act.put, List.setIfInBounds_toArray, List.set_cons_succ, List.set_cons_zero]
  refine seqA_other (v := .tuple #[.agg #[.int .i8 Rx, .int .i8 Ry], .int .i64 z0, .int .i64 z1]) rfl rfl rfl rfl ?_ ?_
  · intro w' hw' K hK
    go_wp2_with (first | (go_at_call 5; refine (HS'.out _).mono ?_; rintro e w1 ⟨rfl, hb1⟩) | (go_at_call 8; refine (HI'.out _ (HE.out.below hw')).mono ?_; rintro e w1 ⟨rfl, hb1⟩))
    exact hK _ _ rfl hb1
  simp only [Act.put, List.setIfInBounds_toArray, List.set_cons_succ, List.set_cons_zero]
  refine seqA_other (v := .tuple #[.agg #[.int .i8 Rx, .int .i8 Ry], .int .i64 z0, .int .i64 z1]) rfl rfl rfl rfl ?_ ?_
  · intro w' hw' K hK
    go_wp2_with fail
    exact hK _ _ rfl (Below.refl _ _)
  simp only [Act.put, List.setIfInBounds_toArray, List.set_cons_succ, List.set_cons_zero]
  refine seqA_other (v := .agg #[.int .i8 Rx, .int .i8 Ry]) rfl rfl rfl rfl ?_ ?_
  · intro w' hw' K hK
    go_wp2_with fail
    exact hK _ _ rfl (Below.refl _ _)
  simp only [Act.put, List.setIfInBounds_toArray, List.set_cons_succ, List.set_cons_zero]
  refine seqA_other (v := .int .i64 z0) rfl rfl rfl rfl ?_ ?_
  · intro w' hw' K hK
    go_wp2_with fail
    exact hK _ _ rfl (Below.refl _ _)
  simp only [Act.put, List.setIfInBounds_toArray, List.set_cons_succ, List.set_cons_zero]
  refine seqA_other (v := .int .i64 z1) rfl rfl rfl rfl ?_ ?_
  · intro w' hw' K hK
    go_wp2_with fail
    exact hK _ _ rfl (Below.refl _ _)
  simp only [Act.put, List.setIfInBounds_toArray, List.set_cons_succ, List.set_cons_zero]
  refine seqA_make rfl rfl ?_ ?_
  · rintro w' rfl K hK
    go_wp2_with fail
    first | done | exact hK _ rfl
  simp only [Act.put, List.setIfInBounds_toArray, List.set_cons_succ, List.set_cons_zero]
  refine seqA_store rfl rfl rfl rfl ?_ ?_
  · intro w' hp hH K hK
    have rp := hH.row
    have fp := hH.isFree
    have lp := hH.lt
    go_wp2_with fail
    exact hK
  refine seqA_other (v := .int .i64 z0) rfl rfl rfl rfl ?_ ?_
  · intro w' hw' K hK
    go_wp2_with fail
    exact hK _ _ rfl (Below.refl _ _)
  simp only [Act.put, List.setIfInBounds_toArray, List.set_cons_succ, List.set_cons_zero]
  refine seqA_nil ?_
  intro W2 hp hW2 h1
  have hb2 := below_onto hb hW2
  have k0 := g0.below hW2 g0.lt
  have k1 := g1.below hW2 g1.lt
  have hp1 : w.heap.size ≤ p := Nat.le_trans hb.size hp
  clear hW2 g0 l0 s0 g1 l1 s1 hb hp HE W
  obtain ⟨q, hq⟩ : ∃ q, p = q := ⟨_, rfl⟩
  rw [hq] at h1 hp1 ⊢
  clear hq p
  obtain ⟨l0, s0⟩ := k0.later
  obtain ⟨l1, s1⟩ := k1.later
  have HE := Lib.hid (hE.below hb2)
  go_wp2_with fail
  refine wp_region_growA 13 10 11 #[.int .i8 0, .int .i8 0] #[.int .i8 Rx, .int .i8 Ry] 30 [.agg A.cells, .agg A.cells, .agg (levV g), .agg (levV g), .int .i64 N, .tuple #[.agg #[.int .i8 Rx, .int .i8 Ry], .int .i64 z0, .int .i64 z1], .tuple #[.agg #[.int .i8 Rx, .int .i8 Ry], .int .i64 z0, .int .i64 z1], .agg #[.int .i8 Rx, .int .i8 Ry], .int .i64 z0, .int .i64 z1, undef, undef, .int .i64 z0] (by kernel_rfl) (by kernel_rfl) (by kernel_rfl) ?_
  intro p
  simp only [List.take_succ_cons, List.take_zero, List.drop_succ_cons, List.drop_zero]
  refine seqA_other (v := .agg A.cells) rfl rfl rfl rfl ?_ ?_
  · intro w' hw' K hK
    go_wp2_with fail
    exact hK _ _ rfl (Below.refl _ _)
  simp only [Act.put, List.setIfInBounds_toArray, List.set_cons_succ, List.set_cons_zero]
  refine seqA_other (v := .agg A.cells) rfl rfl rfl rfl ?_ ?_
  · intro w' hw' K hK
    go_wp2_with (go_at_call 6; refine (toLawn_any _ _).mono ?_; rintro e w1 ⟨rfl, hb1⟩)
    exact hK _ _ rfl hb1
  simp only [Act.put, List.setIfInBounds_toArray, List.set_cons_succ, List.set_cons_zero]
  refine seqA_other (v := .agg (levV g)) rfl rfl rfl rfl ?_ ?_
  · intro w' hw' K hK
    go_wp2_with fail
    exact hK _ _ rfl (Below.refl _ _)
  simp only [Act.put, List.setIfInBounds_toArray, List.set_cons_succ, List.set_cons_zero]
  refine seqA_other (v := .agg (levV g)) rfl rfl rfl rfl ?_ ?_
  · intro w' hw' K hK
    go_wp2_with (go_at_call 7; refine (toLev_any _ _).mono ?_; rintro e w1 ⟨rfl, hb1⟩)
    exact hK _ _ rfl hb1
  simp only [Act.put, List.setIfInBounds_toArray, List.set_cons_succ, List.set_cons_zero]
  refine seqA_other (v := .int .i64 N) rfl rfl rfl rfl ?_ ?_
  · intro w' hw' K hK
    go_wp2_with fail
    exact hK _ _ rfl (Below.refl _ _)
  simp only [Act.put, List.setIfInBounds_toArray, List.set_cons_succ, List.set_cons_zero]
  refine seqA_other (v := .tuple #[.agg #[.int .i8 Rx, .int .i8 Ry], .int .i64 z0, .int .i64 z1]) rfl rfl rfl rfl ?_ ?_
  · intro w' hw' K hK
    go_wp2_with (first | (go_at_call 5; refine (HS'.out _).mono ?_; rintro e w1 ⟨rfl, hb1⟩) | (go_at_call 8; refine (HI'.out _ (HE.out.below hw')).mono ?_; rintro e w1 ⟨rfl, hb1⟩))
    exact hK _ _ rfl hb1
  simp only [Act.put, List.setIfInBounds_toArray, List.set_cons_succ, List.set_cons_zero]
  refine seqA_other (v := .tuple #[.agg #[.int .i8 Rx, .int .i8 Ry], .int .i64 z0, .int .i64 z1]) rfl rfl rfl rfl ?_ ?_
  · intro w' hw' K hK
    go_wp2_with fail
    exact hK _ _ rfl (Below.refl _ _)
  simp only [Act.put, List.setIfInBounds_toArray, List.set_cons_succ, List.set_cons_zero]
  refine seqA_other (v := .agg #[.int .i8 Rx, .int .i8 Ry]) rfl rfl rfl rfl ?_ ?_
  · intro w' hw' K hK
    go_wp2_with fail
    exact hK _ _ rfl (Below.refl _ _)
  simp only [Act.put, List.setIfInBounds_toArray, List.set_cons_succ, List.set_cons_zero]
  refine seqA_other (v := .int .i64 z0) rfl rfl rfl rfl ?_ ?_
  · intro w' hw' K hK
    go_wp2_with fail
    exact hK _ _ rfl (Below.refl _ _)
  simp only [Act.put, List.setIfInBounds_toArray, List.set_cons_succ, List.set_cons_zero]
  refine seqA_other (v := .int .i64 z1) rfl rfl rfl rfl ?_ ?_
  · intro w' hw' K hK
    go_wp2_with fail
    exact hK _ _ rfl (Below.refl _ _)
  simp only [Act.put, List.setIfInBounds_toArray, List.set_cons_succ, List.set_cons_zero]
  refine seqA_make rfl rfl ?_ ?_
  · rintro w' rfl K hK
    go_wp2_with fail
    first | done | exact hK _ rfl
  simp only [Act.put, List.setIfInBounds_toArray, List.set_cons_succ, List.set_cons_zero]
  refine seqA_store rfl rfl rfl rfl ?_ ?_
  · intro w' hp hH K hK
    have rp := hH.row
    have fp := hH.isFree
    have lp := hH.lt
    go_wp2_with fail
    exact hK
  refine seqA_other (v := .int .i64 z0) rfl rfl rfl rfl ?_ ?_
  · intro w' hw' K hK
    go_wp2_with fail
    exact hK _ _ rfl (Below.refl _ _)
  simp only [Act.put, List.setIfInBounds_toArray, List.set_cons_succ, List.set_cons_zero]
  refine seqA_nil ?_
  intro W3 hp hW3 h3
  have hb3 := below_onto hb2 hW3
  have h2 := h1.below hW3 h1.lt
  clear hW3 k0 l0 s0 k1 l1 s1 HI' HS' hb2 h1
  obtain ⟨ra, fa, da, -, la⟩ := h2.facts
  obtain ⟨rb, fb, db, -, lb⟩ := h3.facts
  go_wp2_with fail
  refine (eqCell_same _ _ _).mono ?_
  rintro e w3 ⟨rfl, hb4⟩
  go_wp2_with fail
  go_ret
  exact ⟨rfl, below_onto hb3 hb4⟩

theorem exactBestTrap (A : Lawn) (hA : A.Fits) (g : Nat → Nat → Int) (hg : LevFits g) (N : Int) {a0 a1 a2 a3 a4 : Addr} (w : World) (hE : ErrsIn w a0 a1 a2 a3 a4) :
    Calls Tryz.prog 3 #[.agg A.cells, .agg (levV g), .int .i64 N] w fun e w' => e = .returned (.bool true) ∧ Below w.heap.size w w' := by
  cases hk : chkE A g (upZ N 60) [] with
  | some k =>
    have hne := errZ_ne k
    have hc : told (levB A g) (upZ N 60) = errZ k := by
      unfold chkE at hk
      cases hv : levB A g with
      | false => rw [hv] at hk; simp at hk; subst hk; rfl
      | true =>
        cases hu : upZ N 60 with
        | false => rw [hv, hu] at hk; simp at hk; subst hk; rfl
        | true => rw [hv, hu] at hk; simp at hk
    exact exactBestTrap_walk A g N _ _ _ _ (fun w hE => itrap_bad A hA g N k hk w hE) (fun w => strap_bad A hA g hg N (errZ k) hc hne w) w hE
  | none =>
    obtain ⟨hv, -⟩ := chkE_none hk
    have hu : upZ N 60 = true := by
      cases hu : upZ N 60 with
      | true => rfl
      | false => rw [hu] at hk; unfold chkE at hk; rw [hv] at hk; simp at hk
    unfold upZ at hu
    simp only [Bool.and_eq_true, decide_eq_true_eq] at hu
    obtain ⟨m, rfl⟩ : ∃ m : Nat, N = m := ⟨N.toNat, by omega⟩
    obtain ⟨Wn, Hn, ⟨hW, hH⟩, ⟨hW1, hH1⟩, hLw, hLh⟩ := valid_sides (levB_true hv).1
    have hI := fun w (hE : ErrsIn w a0 a1 a2 a3 a4) => itrap_good A hA g hv m (by omega) Wn Hn hW hH hW1 hH1 hLw hLh w hE
    have hS : ∀ w, Calls Tryz.prog 5 #[.agg A.cells, .agg (levV g), .int .i64 m] w fun e w' => e = .returned (cellNN3 (trapA A g m Wn Hn)) ∧ Below w.heap.size w w' := fun w => by
      rcases Nat.eq_zero_or_pos (ofKind A Wn Hn 0).length with h0 | h0
      · have hz := List.eq_nil_of_length_eq_zero h0
        rw [trapA_none m hz]
        exact strap_none A hA g hg hv m (by omega) Wn Hn hW hH hW1 hH1 hLw hLh hz w
      · exact strap_good A hA g hg hv m (by omega) Wn Hn hW hH hW1 hH1 hLw hLh _ (List.getElem?_eq_getElem h0) w
    exact exactBestTrap_walk A g m _ _ _ _ hI hS w hE

end Go.Proofs.YtabemgplddfemaaGreatDoor
