/- The law on MirrorWeeds. -/
import Derived.Test.YtoengjabakcpjaaDoorMirW
import Derived.Test.YtoengjabakcpjaaDoorZC
import Derived.Test.YtoengjabakcpjaaDoorZD
import Derived.Test.YtoengjabakcpjaaDoorCellSt
import Derived.Test.YtoengjabakcpjaaDoorEqCellS
namespace Go.Proofs.YtoengjabakcpjaaDoor
open Go.RowKit
set_option linter.unusedVariables false
attribute [local go_sem ↓] loadRow loadGrid loadLawn loadMirror storeRow storeGrid storeLawn allocRow allocGrid allocLawn buildZero buildSides storeCl loadU10 loadWd storeWd allocWd

set_option maxRecDepth 100000 in
set_option maxHeartbeats 4000000 in
theorem exactMirrorWeeds_walk (A : Lawn) (s : Nat → Nat → Bool) (R : Nat → Nat → Bool) (z0 : Int)
    (HI : ∀ w : World, Calls Tryd.prog 36 #[.agg A.cells, .agg (bV 10 s)] w fun e w' => e = .returned (.tuple #[.agg (bV 10 R), .int .i64 z0]) ∧ Below w.heap.size w w')
    (HS : ∀ w : World, Calls Tryd.prog 35 #[.agg A.cells, .agg (bV 10 s)] w fun e w' => e = .returned (.tuple #[.agg (bV 10 R), .int .i64 z0]) ∧ Below w.heap.size w w') (w : World) :
    Calls Tryd.prog 12 #[.agg A.cells, .agg (bV 10 s)] w fun e w' => e = .returned (.bool true) ∧ Below w.heap.size w w' := by
  have HI' := Lib.hid HI
  have HS' := Lib.hid HS
  clear HI HS
  go_enter Tryd.func12, Tryd.ntmps12
  go_wp2_with fail
  have g0 : Holds ((w.alloc (.cells A.cells 26)).alloc (.cells (bV 10 s) 28)) (w.heap.size) A.cells := (Holds.new w A.cells 26).alloc (.cells (bV 10 s) 28)
  have g1 : Holds ((w.alloc (.cells A.cells 26)).alloc (.cells (bV 10 s) 28)) (w.heap.size + 1) (bV 10 s) := Holds.new' (w.alloc (.cells A.cells 26)) (bV 10 s) 28 (w.heap.size + 1) (by simp)
  have hb : Below w.heap.size w ((w.alloc (.cells A.cells 26)).alloc (.cells (bV 10 s) 28)) := ((Below.refl w.heap.size w).alloc (Nat.le_refl _) (.cells A.cells 26)).alloc (by simp <;> omega) (.cells (bV 10 s) 28)
  obtain ⟨W, hW⟩ : ∃ W, ((w.alloc (.cells A.cells 26)).alloc (.cells (bV 10 s) 28)) = W := ⟨_, rfl⟩
  rw [hW] at g0 g1 hb ⊢
  clear hW
  obtain ⟨l0, s0⟩ := g0.later
  obtain ⟨l1, s1⟩ := g1.later
  refine wp_region_growA 10 8 9 (bV 10 fun _ _ => false) (bV 10 R) 33 [.agg A.cells, .agg A.cells, .agg (bV 10 s), .agg (bV 10 s), .tuple #[.agg (bV 10 R), .int .i64 z0], .tuple #[.agg (bV 10 R), .int .i64 z0], .agg (bV 10 R), .int .i64 z0] (by kernel_rfl) (by kernel_rfl) (by kernel_rfl) ?_
  intro p
  simp only [List.take_succ_cons, List.take_zero, List.drop_succ_cons, List.drop_zero]
  refine seqA_other (v := .agg A.cells) rfl rfl rfl rfl ?_ ?_
  · intro w' hw' K hK
    go_wp2_with fail
    exact hK _ _ rfl (Below.refl _ _)
  simp only [Act.put, List.setIfInBounds_toArray, List.set_cons_succ, List.set_cons_zero]
  refine seqA_other (v := .agg A.cells) rfl rfl rfl rfl ?_ ?_
  · intro w' hw' K hK
    go_wp2_with (go_at_call 15; refine (toLawn_any _ _).mono ?_; rintro e w1 ⟨rfl, hb1⟩)
    exact hK _ _ rfl hb1
  simp only [Act.put, List.setIfInBounds_toArray, List.set_cons_succ, List.set_cons_zero]
  refine seqA_other (v := .agg (bV 10 s)) rfl rfl rfl rfl ?_ ?_
  · intro w' hw' K hK
    go_wp2_with fail
    exact hK _ _ rfl (Below.refl _ _)
  simp only [Act.put, List.setIfInBounds_toArray, List.set_cons_succ, List.set_cons_zero]
  refine seqA_other (v := .agg (bV 10 s)) rfl rfl rfl rfl ?_ ?_
  · intro w' hw' K hK
    go_wp2_with (go_at_call 16; refine (toWeeds_any _ _).mono ?_; rintro e w1 ⟨rfl, hb1⟩)
    exact hK _ _ rfl hb1
  simp only [Act.put, List.setIfInBounds_toArray, List.set_cons_succ, List.set_cons_zero]
  refine seqA_other (v := .tuple #[.agg (bV 10 R), .int .i64 z0]) rfl rfl rfl rfl ?_ ?_
  · intro w' hw' K hK
    go_wp2_with (first | (go_at_call 35; refine (HS'.out _).mono ?_; rintro e w1 ⟨rfl, hb1⟩) | (go_at_call 36; refine (HI'.out _).mono ?_; rintro e w1 ⟨rfl, hb1⟩))
    exact hK _ _ rfl hb1
  simp only [Act.put, List.setIfInBounds_toArray, List.set_cons_succ, List.set_cons_zero]
  refine seqA_other (v := .tuple #[.agg (bV 10 R), .int .i64 z0]) rfl rfl rfl rfl ?_ ?_
  · intro w' hw' K hK
    go_wp2_with fail
    exact hK _ _ rfl (Below.refl _ _)
  simp only [Act.put, List.setIfInBounds_toArray, List.set_cons_succ, List.set_cons_zero]
  refine seqA_other (v := .agg (bV 10 R)) rfl rfl rfl rfl ?_ ?_
  · intro w' hw' K hK
    go_wp2_with fail
    exact hK _ _ rfl (Below.refl _ _)
  simp only [Act.put, List.setIfInBounds_toArray, List.set_cons_succ, List.set_cons_zero]
  refine seqA_other (v := .int .i64 z0) rfl rfl rfl rfl ?_ ?_
  · intro w' hw' K hK
    go_wp2_with fail
    exact hK _ _ rfl (Below.refl _ _)
  simp only [Act.put, List.setIfInBounds_toArray, List.set_cons_succ, List.set_cons_zero]
  refine seqA_make rfl rfl ?_ ?_
  · rintro w' rfl K hK
    go_wp2_with fail
    first | done | exact hK _ rfl
  simp only [Act.put, List.setIfInBounds_toArray, List.set_cons_succ, List.set_cons_zero]
  refine seqA_store rfl rfl rfl rfl ?_ ?_
  · intro w' hp hH K hK
    have rp := hH.row
    have fp := hH.isFree
    have lp := hH.lt
    go_wp2_with fail
    exact hK
  refine seqA_nil ?_
  intro W2 hp hW2 h1
  have hb2 := below_onto hb hW2
  have k0 := g0.below hW2 g0.lt
  have k1 := g1.below hW2 g1.lt
  have hp1 : w.heap.size ≤ p := Nat.le_trans hb.size hp
  clear hW2 g0 l0 s0 g1 l1 s1 hb hp W
  obtain ⟨q, hq⟩ : ∃ q, p = q := ⟨_, rfl⟩
  rw [hq] at h1 hp1 ⊢
  clear hq p
  obtain ⟨l0, s0⟩ := k0.later
  obtain ⟨l1, s1⟩ := k1.later
  go_wp2_with fail
  refine wp_region_growA 10 8 9 (bV 10 fun _ _ => false) (bV 10 R) 33 [.agg A.cells, .agg A.cells, .agg (bV 10 s), .agg (bV 10 s), .tuple #[.agg (bV 10 R), .int .i64 z0], .tuple #[.agg (bV 10 R), .int .i64 z0], .agg (bV 10 R), .int .i64 z0] (by kernel_rfl) (by kernel_rfl) (by kernel_rfl) ?_
  intro p
  simp only [List.take_succ_cons, List.take_zero, List.drop_succ_cons, List.drop_zero]
  refine seqA_other (v := .agg A.cells) rfl rfl rfl rfl ?_ ?_
  · intro w' hw' K hK
    go_wp2_with fail
    exact hK _ _ rfl (Below.refl _ _)
  simp only [Act.put, List.setIfInBounds_toArray, List.set_cons_succ, List.set_cons_zero]
  refine seqA_other (v := .agg A.cells) rfl rfl rfl rfl ?_ ?_
  · intro w' hw' K hK
    go_wp2_with (go_at_call 15; refine (toLawn_any _ _).mono ?_; rintro e w1 ⟨rfl, hb1⟩)
    exact hK _ _ rfl hb1
  simp only [Act.put, List.setIfInBounds_toArray, List.set_cons_succ, List.set_cons_zero]
  refine seqA_other (v := .agg (bV 10 s)) rfl rfl rfl rfl ?_ ?_
  · intro w' hw' K hK
    go_wp2_with fail
    exact hK _ _ rfl (Below.refl _ _)
  simp only [Act.put, List.setIfInBounds_toArray, List.set_cons_succ, List.set_cons_zero]
  refine seqA_other (v := .agg (bV 10 s)) rfl rfl rfl rfl ?_ ?_
  · intro w' hw' K hK
    go_wp2_with (go_at_call 16; refine (toWeeds_any _ _).mono ?_; rintro e w1 ⟨rfl, hb1⟩)
    exact hK _ _ rfl hb1
  simp only [Act.put, List.setIfInBounds_toArray, List.set_cons_succ, List.set_cons_zero]
  refine seqA_other (v := .tuple #[.agg (bV 10 R), .int .i64 z0]) rfl rfl rfl rfl ?_ ?_
  · intro w' hw' K hK
    go_wp2_with (first | (go_at_call 35; refine (HS'.out _).mono ?_; rintro e w1 ⟨rfl, hb1⟩) | (go_at_call 36; refine (HI'.out _).mono ?_; rintro e w1 ⟨rfl, hb1⟩))
    exact hK _ _ rfl hb1
  simp only [Act.put, List.setIfInBounds_toArray, List.set_cons_succ, List.set_cons_zero]
  refine seqA_other (v := .tuple #[.agg (bV 10 R), .int .i64 z0]) rfl rfl rfl rfl ?_ ?_
  · intro w' hw' K hK
    go_wp2_with fail
    exact hK _ _ rfl (Below.refl _ _)
  simp only [Act.put, List.setIfInBounds_toArray, List.set_cons_succ, List.set_cons_zero]
  refine seqA_other (v := .agg (bV 10 R)) rfl rfl rfl rfl ?_ ?_
  · intro w' hw' K hK
    go_wp2_with fail
    exact hK _ _ rfl (Below.refl _ _)
  simp only [Act.put, List.setIfInBounds_toArray, List.set_cons_succ, List.set_cons_zero]
  refine seqA_other (v := .int .i64 z0) rfl rfl rfl rfl ?_ ?_
  · intro w' hw' K hK
    go_wp2_with fail
    exact hK _ _ rfl (Below.refl _ _)
  simp only [Act.put, List.setIfInBounds_toArray, List.set_cons_succ, List.set_cons_zero]
  refine seqA_make rfl rfl ?_ ?_
  · rintro w' rfl K hK
    go_wp2_with fail
    first | done | exact hK _ rfl
  simp only [Act.put, List.setIfInBounds_toArray, List.set_cons_succ, List.set_cons_zero]
  refine seqA_store rfl rfl rfl rfl ?_ ?_
  · intro w' hp hH K hK
    have rp := hH.row
    have fp := hH.isFree
    have lp := hH.lt
    go_wp2_with fail
    exact hK
  refine seqA_nil ?_
  intro W3 hp hW3 h3
  have hb3 := below_onto hb2 hW3
  have h2 := h1.below hW3 h1.lt
  clear hW3 k0 l0 s0 k1 l1 s1 HI' HS' hb2 h1
  obtain ⟨ra, fa, -, -, la⟩ := h2.facts
  obtain ⟨rb, fb, -, -, lb⟩ := h3.facts
  go_wp2_with fail
  refine (eqWeeds_same _ _).mono ?_
  rintro e w3 ⟨rfl, hb4⟩
  go_wp2_with fail
  go_ret
  exact ⟨rfl, below_onto hb3 hb4⟩

theorem exactMirrorWeeds (A : Lawn) (hA : A.Fits) (s : Nat → Nat → Bool) (w : World) :
    Calls Tryd.prog 12 #[.agg A.cells, .agg (bV 10 s)] w fun e w' => e = .returned (.bool true) ∧ Below w.heap.size w w' :=
  exactMirrorWeeds_walk A s _ _ (implMirW_any A hA s) (specMirW_any A hA s) w

end Go.Proofs.YtoengjabakcpjaaDoor
