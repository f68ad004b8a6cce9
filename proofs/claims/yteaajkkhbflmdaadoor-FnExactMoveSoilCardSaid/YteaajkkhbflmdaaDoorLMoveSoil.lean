/- The law on MoveSoil. -/
import Derived.Test.YteaajkkhbflmdaaDoorMvSoil
import Derived.Test.YteaajkkhbflmdaaDoorHaul
import Derived.Test.YteaajkkhbflmdaaDoorZC
import Derived.Test.YteaajkkhbflmdaaDoorZD
import Derived.Test.YteaajkkhbflmdaaDoorCellSt
import Derived.Test.YteaajkkhbflmdaaDoorEqCellS
namespace Go.Proofs.YteaajkkhbflmdaaDoor
open Go.RowKit
set_option linter.unusedVariables false
attribute [local go_sem ↓] loadRow loadGrid loadLawn loadMirror storeRow storeGrid storeLawn allocRow allocGrid allocLawn buildZero buildSides storeCl loadL8 loadLv storeLv allocLv

set_option maxRecDepth 100000 in
set_option maxHeartbeats 4000000 in
theorem exactMoveSoil_walk (A : Lawn) (g : Nat → Nat → Int) (m0 m1 m2 m3 m4 : Int) (R : Nat → Nat → Int) (z0 : Int)
    {a0 a1 a2 a3 a4 : Addr}
    (HI : ∀ w : World, ErrsIn w a0 a1 a2 a3 a4 → Calls Tryd.prog 12 #[.agg A.cells, .agg (levV g), .agg #[.int .i8 m0, .int .i8 m1, .int .i8 m2, .int .i8 m3, .int .i8 m4]] w fun e w' => e = .returned (.tuple #[.agg (levV R), .int .i64 z0]) ∧ Below w.heap.size w w')
    (HS : ∀ w : World, Calls Tryd.prog 8 #[.agg A.cells, .agg (levV g), .agg #[.int .i8 m0, .int .i8 m1, .int .i8 m2, .int .i8 m3, .int .i8 m4]] w fun e w' => e = .returned (.tuple #[.agg (levV R), .int .i64 z0]) ∧ Below w.heap.size w w') (w : World) (hE : ErrsIn w a0 a1 a2 a3 a4) :
    Calls Tryd.prog 3 #[.agg A.cells, .agg (levV g), .agg #[.int .i8 m0, .int .i8 m1, .int .i8 m2, .int .i8 m3, .int .i8 m4]] w fun e w' => e = .returned (.bool true) ∧ Below w.heap.size w w' := by
  have HI' := Lib.hid HI
  have HS' := Lib.hid HS
  clear HI HS
  go_enter Tryd.func3, Tryd.ntmps3
  go_wp2_with fail
  have g0 : Holds (((w.alloc (.cells A.cells 26)).alloc (.cells (levV g) 28)).alloc (.cells #[.int .i8 m0, .int .i8 m1, .int .i8 m2, .int .i8 m3, .int .i8 m4] 32)) (w.heap.size) A.cells := ((Holds.new w A.cells 26).alloc (.cells (levV g) 28)).alloc (.cells #[.int .i8 m0, .int .i8 m1, .int .i8 m2, .int .i8 m3, .int .i8 m4] 32)
  have g1 : Holds (((w.alloc (.cells A.cells 26)).alloc (.cells (levV g) 28)).alloc (.cells #[.int .i8 m0, .int .i8 m1, .int .i8 m2, .int .i8 m3, .int .i8 m4] 32)) (w.heap.size + 1) (levV g) := (Holds.new' (w.alloc (.cells A.cells 26)) (levV g) 28 (w.heap.size + 1) (by simp)).alloc (.cells #[.int .i8 m0, .int .i8 m1, .int .i8 m2, .int .i8 m3, .int .i8 m4] 32)
  have g2 : Holds (((w.alloc (.cells A.cells 26)).alloc (.cells (levV g) 28)).alloc (.cells #[.int .i8 m0, .int .i8 m1, .int .i8 m2, .int .i8 m3, .int .i8 m4] 32)) (w.heap.size + 1 + 1) #[.int .i8 m0, .int .i8 m1, .int .i8 m2, .int .i8 m3, .int .i8 m4] := Holds.new' ((w.alloc (.cells A.cells 26)).alloc (.cells (levV g) 28)) #[.int .i8 m0, .int .i8 m1, .int .i8 m2, .int .i8 m3, .int .i8 m4] 32 (w.heap.size + 1 + 1) (by simp)
  have hb : Below w.heap.size w (((w.alloc (.cells A.cells 26)).alloc (.cells (levV g) 28)).alloc (.cells #[.int .i8 m0, .int .i8 m1, .int .i8 m2, .int .i8 m3, .int .i8 m4] 32)) := (((Below.refl w.heap.size w).alloc (Nat.le_refl _) (.cells A.cells 26)).alloc (by simp <;> omega) (.cells (levV g) 28)).alloc (by simp <;> omega) (.cells #[.int .i8 m0, .int .i8 m1, .int .i8 m2, .int .i8 m3, .int .i8 m4] 32)
  obtain ⟨W, hW⟩ : ∃ W, (((w.alloc (.cells A.cells 26)).alloc (.cells (levV g) 28)).alloc (.cells #[.int .i8 m0, .int .i8 m1, .int .i8 m2, .int .i8 m3, .int .i8 m4] 32)) = W := ⟨_, rfl⟩
  rw [hW] at g0 g1 g2 hb ⊢
  clear hW
  have HE := Lib.hid (hE.below hb)
  obtain ⟨l0, s0⟩ := g0.later
  obtain ⟨l1, s1⟩ := g1.later
  obtain ⟨l2, s2⟩ := g2.later
  refine wp_region_growA 12 10 11 (levV fun _ _ => 0) (levV R) 33 [.agg A.cells, .agg A.cells, .agg (levV g), .agg (levV g), .agg #[.int .i8 m0, .int .i8 m1, .int .i8 m2, .int .i8 m3, .int .i8 m4], .agg #[.int .i8 m0, .int .i8 m1, .int .i8 m2, .int .i8 m3, .int .i8 m4], .tuple #[.agg (levV R), .int .i64 z0], .tuple #[.agg (levV R), .int .i64 z0], .agg (levV R), .int .i64 z0] (by kernel_rfl) (by kernel_rfl) (by kernel_rfl) ?_
  intro p
  simp only [List.take_succ_cons, List.take_zero, List.drop_succ_cons, List.drop_zero]
  refine seqA_other (v := .agg A.cells) rfl rfl rfl rfl ?_ ?_
  · intro w' hw' K hK
    go_wp2_with fail
    exact hK _ _ rfl (Below.refl _ _)
  simp only [Act.put, List.setIfInBounds_toArray, List.set_cons_succ, List.set_cons_zero]
  refine seqA_other (v := .agg A.cells) rfl rfl rfl rfl ?_ ?_
  · intro w' hw' K hK
    go_wp2_with (go_at_call 9; refine (toLawn_any _ _).mono ?_; rintro e w1 ⟨rfl, hb1⟩)
    exact hK _ _ rfl hb1
  simp only [Act.put, List.setIfInBounds_toArray, List.set_cons_succ, List.set_cons_zero]
  refine seqA_other (v := .agg (levV g)) rfl rfl rfl rfl ?_ ?_
  · intro w' hw' K hK
    go_wp2_with fail
    exact hK _ _ rfl (Below.refl _ _)
  simp only [Act.put, List.setIfInBounds_toArray, List.set_cons_succ, List.set_cons_zero]
  refine seqA_other (v := .agg (levV g)) rfl rfl rfl rfl ?_ ?_
  · intro w' hw' K hK
    go_wp2_with (go_at_call 10; refine (toLev_any _ _).mono ?_; rintro e w1 ⟨rfl, hb1⟩)
    exact hK _ _ rfl hb1
  simp only [Act.put, List.setIfInBounds_toArray, List.set_cons_succ, List.set_cons_zero]
  refine seqA_other (v := .agg #[.int .i8 m0, .int .i8 m1, .int .i8 m2, .int .i8 m3, .int .i8 m4]) rfl rfl rfl rfl ?_ ?_
  · intro w' hw' K hK
    have e2 := s2 _ hw'
    have e20 := (e2 0).trans (show _ = some (.int .i8 m0) from rfl)
    have e21 := (e2 1).trans (show _ = some (.int .i8 m1) from rfl)
    have e22 := (e2 2).trans (show _ = some (.int .i8 m2) from rfl)
    have e23 := (e2 3).trans (show _ = some (.int .i8 m3) from rfl)
    have e24 := (e2 4).trans (show _ = some (.int .i8 m4) from rfl)
    clear e2
    go_wp2_with fail
    exact hK _ _ rfl (Below.refl _ _)
  simp only [Act.put, List.setIfInBounds_toArray, List.set_cons_succ, List.set_cons_zero]
  refine seqA_other (v := .agg #[.int .i8 m0, .int .i8 m1, .int .i8 m2, .int .i8 m3, .int .i8 m4]) rfl rfl rfl rfl ?_ ?_
  · intro w' hw' K hK
    go_wp2_with (go_at_call 11; refine (toHaul_any _ _ _ _ _ _).mono ?_; rintro e w1 ⟨rfl, hb1⟩)
    exact hK _ _ rfl hb1
  simp only [Act.put, List.setIfInBounds_toArray, List.set_cons_succ, List.set_cons_zero]
  refine seqA_other (v := .tuple #[.agg (levV R), .int .i64 z0]) rfl rfl rfl rfl ?_ ?_
  · intro w' hw' K hK
    go_wp2_with (first | (go_at_call 8; refine (HS'.out _).mono ?_; rintro e w1 ⟨rfl, hb1⟩) | (go_at_call 12; refine (HI'.out _ (HE.out.below hw')).mono ?_; rintro e w1 ⟨rfl, hb1⟩))
    exact hK _ _ rfl hb1
  simp only [Act.put, List.setIfInBounds_toArray, List.set_cons_succ, List.set_cons_zero]
  refine seqA_other (v := .tuple #[.agg (levV R), .int .i64 z0]) rfl rfl rfl rfl ?_ ?_
  · intro w' hw' K hK
    go_wp2_with fail
    exact hK _ _ rfl (Below.refl _ _)
  simp only [Act.put, List.setIfInBounds_toArray, List.set_cons_succ, List.set_cons_zero]
  refine seqA_other (v := .agg (levV R)) rfl rfl rfl rfl ?_ ?_
  · intro w' hw' K hK
    go_wp2_with fail
    exact hK _ _ rfl (Below.refl _ _)
  simp only [Act.put, List.setIfInBounds_toArray, List.set_cons_succ, List.set_cons_zero]
  refine seqA_other (v := .int .i64 z0) rfl rfl rfl rfl ?_ ?_
  · intro w' hw' K hK
    go_wp2_with fail
    exact hK _ _ rfl (Below.refl _ _)
  simp only [Act.put, List.setIfInBounds_toArray, List.set_cons_succ, List.set_cons_zero]
  refine seqA_make rfl rfl ?_ ?_
  · rintro w' rfl K hK
    go_wp2_with fail
    first | done | exact hK _ rfl
  simp only [Act.put, List.setIfInBounds_toArray, List.set_cons_succ, List.set_cons_zero]
  refine seqA_store rfl rfl rfl rfl ?_ ?_
  · intro w' hp hH K hK
    have rp := hH.row
    have fp := hH.isFree
    have lp := hH.lt
    go_wp2_with fail
    exact hK
  refine seqA_nil ?_
  intro W2 hp hW2 h1
  have hb2 := below_onto hb hW2
  have k0 := g0.below hW2 g0.lt
  have k1 := g1.below hW2 g1.lt
  have k2 := g2.below hW2 g2.lt
  have hp1 : w.heap.size ≤ p := Nat.le_trans hb.size hp
  clear hW2 g0 l0 s0 g1 l1 s1 g2 l2 s2 hb hp HE W
  obtain ⟨q, hq⟩ : ∃ q, p = q := ⟨_, rfl⟩
  rw [hq] at h1 hp1 ⊢
  clear hq p
  obtain ⟨l0, s0⟩ := k0.later
  obtain ⟨l1, s1⟩ := k1.later
  obtain ⟨l2, s2⟩ := k2.later
  have HE := Lib.hid (hE.below hb2)
  go_wp2_with fail
  refine wp_region_growA 12 10 11 (levV fun _ _ => 0) (levV R) 33 [.agg A.cells, .agg A.cells, .agg (levV g), .agg (levV g), .agg #[.int .i8 m0, .int .i8 m1, .int .i8 m2, .int .i8 m3, .int .i8 m4], .agg #[.int .i8 m0, .int .i8 m1, .int .i8 m2, .int .i8 m3, .int .i8 m4], .tuple #[.agg (levV R), .int .i64 z0], .tuple #[.agg (levV R), .int .i64 z0], .agg (levV R), .int .i64 z0] (by kernel_rfl) (by kernel_rfl) (by kernel_rfl) ?_
  intro p
  simp only [List.take_succ_cons, List.take_zero, List.drop_succ_cons, List.drop_zero]
  refine seqA_other (v := .agg A.cells) rfl rfl rfl rfl ?_ ?_
  · intro w' hw' K hK
    go_wp2_with fail
    exact hK _ _ rfl (Below.refl _ _)
  simp only [Act.put, List.setIfInBounds_toArray, List.set_cons_succ, List.set_cons_zero]
  refine seqA_other (v := .agg A.cells) rfl rfl rfl rfl ?_ ?_
  · intro w' hw' K hK
    go_wp2_with (go_at_call 9; refine (toLawn_any _ _).mono ?_; rintro e w1 ⟨rfl, hb1⟩)
    exact hK _ _ rfl hb1
  simp only [Act.put, List.setIfInBounds_toArray, List.set_cons_succ, List.set_cons_zero]
  refine seqA_other (v := .agg (levV g)) rfl rfl rfl rfl ?_ ?_
  · intro w' hw' K hK
    go_wp2_with fail
    exact hK _ _ rfl (Below.refl _ _)
  simp only [Act.put, List.setIfInBounds_toArray, List.set_cons_succ, List.set_cons_zero]
  refine seqA_other (v := .agg (levV g)) rfl rfl rfl rfl ?_ ?_
  · intro w' hw' K hK
    go_wp2_with (go_at_call 10; refine (toLev_any _ _).mono ?_; rintro e w1 ⟨rfl, hb1⟩)
    exact hK _ _ rfl hb1
  simp only [Act.put, List.setIfInBounds_toArray, List.set_cons_succ, List.set_cons_zero]
  refine seqA_other (v := .agg #[.int .i8 m0, .int .i8 m1, .int .i8 m2, .int .i8 m3, .int .i8 m4]) rfl rfl rfl rfl ?_ ?_
  · intro w' hw' K hK
    have e2 := s2 _ hw'
    have e20 := (e2 0).trans (show _ = some (.int .i8 m0) from rfl)
    have e21 := (e2 1).trans (show _ = some (.int .i8 m1) from rfl)
    have e22 := (e2 2).trans (show _ = some (.int .i8 m2) from rfl)
    have e23 := (e2 3).trans (show _ = some (.int .i8 m3) from rfl)
    have e24 := (e2 4).trans (show _ = some (.int .i8 m4) from rfl)
    clear e2
    go_wp2_with fail
    exact hK _ _ rfl (Below.refl _ _)
  simp only [Act.put, List.setIfInBounds_toArray, List.set_cons_succ, List.set_cons_zero]
  refine seqA_other (v := .agg #[.int .i8 m0, .int .i8 m1, .int .i8 m2, .int .i8 m3, .int .i8 m4]) rfl rfl rfl rfl ?_ ?_
  · intro w' hw' K hK
    go_wp2_with (go_at_call 11; refine (toHaul_any _ _ _ _ _ _).mono ?_; rintro e w1 ⟨rfl, hb1⟩)
    exact hK _ _ rfl hb1
  simp only [Act.put, List.setIfInBounds_toArray, List.set_cons_succ, List.set_cons_zero]
  refine seqA_other (v := .tuple #[.agg (levV R), .int .i64 z0]) rfl rfl rfl rfl ?_ ?_
  · intro w' hw' K hK
    go_wp2_with (first | (go_at_call 8; refine (HS'.out _).mono ?_; rintro e w1 ⟨rfl, hb1⟩) | (go_at_call 12; refine (HI'.out _ (HE.out.below hw')).mono ?_; rintro e w1 ⟨rfl, hb1⟩))
    exact hK _ _ rfl hb1
  simp only [Act.put, List.setIfInBounds_toArray, List.set_cons_succ, List.set_cons_zero]
  refine seqA_other (v := .tuple #[.agg (levV R), .int .i64 z0]) rfl rfl rfl rfl ?_ ?_
  · intro w' hw' K hK
    go_wp2_with fail
    exact hK _ _ rfl (Below.refl _ _)
  simp only [Act.put, List.setIfInBounds_toArray, List.set_cons_succ, List.set_cons_zero]
  refine seqA_other (v := .agg (levV R)) rfl rfl rfl rfl ?_ ?_
  · intro w' hw' K hK
    go_wp2_with fail
    exact hK _ _ rfl (Below.refl _ _)
  simp only [Act.put, List.setIfInBounds_toArray, List.set_cons_succ, List.set_cons_zero]
  refine seqA_other (v := .int .i64 z0) rfl rfl rfl rfl ?_ ?_
  · intro w' hw' K hK
    go_wp2_with fail
    exact hK _ _ rfl (Below.refl _ _)
  simp only [Act.put, List.setIfInBounds_toArray, List.set_cons_succ, List.set_cons_zero]
  refine seqA_make rfl rfl ?_ ?_
  · rintro w' rfl K hK
    go_wp2_with fail
    first | done | exact hK _ rfl
  simp only [Act.put, List.setIfInBounds_toArray, List.set_cons_succ, List.set_cons_zero]
  refine seqA_store rfl rfl rfl rfl ?_ ?_
  · intro w' hp hH K hK
    have rp := hH.row
    have fp := hH.isFree
    have lp := hH.lt
    go_wp2_with fail
    exact hK
  refine seqA_nil ?_
  intro W3 hp hW3 h3
  have hb3 := below_onto hb2 hW3
  have h2 := h1.below hW3 h1.lt
  clear hW3 k0 l0 s0 k1 l1 s1 k2 l2 s2 HI' HS' hb2 h1
  obtain ⟨ra, fa, -, -, la⟩ := h2.facts
  obtain ⟨rb, fb, -, -, lb⟩ := h3.facts
  go_wp2_with fail
  refine (eqLev_same _ _).mono ?_
  rintro e w3 ⟨rfl, hb4⟩
  go_wp2_with fail
  go_ret
  exact ⟨rfl, below_onto hb3 hb4⟩

theorem exactMoveSoil (A : Lawn) (hA : A.Fits) (g : Nat → Nat → Int) (hg : LevFits g) (h : Hl) (hF : HlIn h) {a0 a1 a2 a3 a4 : Addr} (w : World) (hE : ErrsIn w a0 a1 a2 a3 a4) :
    Calls Tryd.prog 3 #[.agg A.cells, .agg (levV g), .agg (hlA h)] w fun e w' => e = .returned (.bool true) ∧ Below w.heap.size w w' :=
  exactMoveSoil_walk A g h.1 h.2.1 h.2.2.1 h.2.2.2.1 h.2.2.2.2 _ _ (fun w hE => implMvSoil_any A hA g hg _ _ _ _ _ w hE) (fun w => specMvSoil_any A hA g hg _ _ _ _ _ hF w) w hE

end Go.Proofs.YteaajkkhbflmdaaDoor
