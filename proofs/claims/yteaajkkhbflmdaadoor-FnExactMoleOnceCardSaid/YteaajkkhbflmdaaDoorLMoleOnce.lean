/- The law on MoleOnce. -/
import Derived.Test.YteaajkkhbflmdaaDoorMoleO
import Derived.Test.YteaajkkhbflmdaaDoorLNightOf
import Derived.Test.YteaajkkhbflmdaaDoorErrs
import Derived.Test.YteaajkkhbflmdaaDoorZC
import Derived.Test.YteaajkkhbflmdaaDoorGrowAV
import Derived.Test.YteaajkkhbflmdaaDoorCellSt
import Derived.Test.YteaajkkhbflmdaaDoorEqCellS
namespace Go.Proofs.YteaajkkhbflmdaaDoor
open Go.RowKit
set_option linter.unusedVariables false
attribute [local go_sem ↓] loadRow loadGrid loadLawn loadMirror storeRow storeGrid storeLawn allocRow allocGrid allocLawn buildZero buildSides storeCl loadL8 loadLv storeLv allocLv

set_option maxRecDepth 100000 in
set_option maxHeartbeats 4000000 in
theorem exactMoleOnce_walk (A : Lawn) (g : Nat → Nat → Int) (cx cy : Int) (dx dy : Int) (R : Nat → Nat → Int) (ex ey z : Int)
    {a0 a1 a2 a3 a4 : Addr}
    (HI : ∀ w : World, ErrsIn w a0 a1 a2 a3 a4 → Calls Tryd.prog 21 #[.agg A.cells, .agg (levV g), .agg #[.int .i8 cx, .int .i8 cy], .agg #[.int .i8 dx, .int .i8 dy]] w fun e w' => e = .returned (.tuple #[.agg (levV R), .agg #[.int .i8 ex, .int .i8 ey], .int .i64 z]) ∧ Below w.heap.size w w')
    (HS : ∀ w : World, Calls Tryd.prog 19 #[.agg A.cells, .agg (levV g), .agg #[.int .i8 cx, .int .i8 cy], .agg #[.int .i8 dx, .int .i8 dy]] w fun e w' => e = .returned (.tuple #[.agg (levV R), .agg #[.int .i8 ex, .int .i8 ey], .int .i64 z]) ∧ Below w.heap.size w w') (w : World) (hE : ErrsIn w a0 a1 a2 a3 a4) :
    Calls Tryd.prog 5 #[.agg A.cells, .agg (levV g), .agg #[.int .i8 cx, .int .i8 cy], .agg #[.int .i8 dx, .int .i8 dy]] w fun e w' => e = .returned (.bool true) ∧ Below w.heap.size w w' := by
  have HI' := Lib.hid HI
  have HS' := Lib.hid HS
  have HE0 := Lib.hid hE
  clear HI HS hE
  go_enter Tryd.func5, Tryd.ntmps5
  go_wp2_with fail
  have g0 : Holds ((((w.alloc (.cells A.cells 26)).alloc (.cells (levV g) 28)).alloc (.cells #[.int .i8 cx, .int .i8 cy] 30)).alloc (.cells #[.int .i8 dx, .int .i8 dy] 30)) (w.heap.size) A.cells := (((Holds.new w A.cells 26).alloc (.cells (levV g) 28)).alloc (.cells #[.int .i8 cx, .int .i8 cy] 30)).alloc (.cells #[.int .i8 dx, .int .i8 dy] 30)
  have g1 : Holds ((((w.alloc (.cells A.cells 26)).alloc (.cells (levV g) 28)).alloc (.cells #[.int .i8 cx, .int .i8 cy] 30)).alloc (.cells #[.int .i8 dx, .int .i8 dy] 30)) (w.heap.size + 1) (levV g) := ((Holds.new' (w.alloc (.cells A.cells 26)) (levV g) 28 (w.heap.size + 1) (by simp)).alloc (.cells #[.int .i8 cx, .int .i8 cy] 30)).alloc (.cells #[.int .i8 dx, .int .i8 dy] 30)
  have g2 : Holds ((((w.alloc (.cells A.cells 26)).alloc (.cells (levV g) 28)).alloc (.cells #[.int .i8 cx, .int .i8 cy] 30)).alloc (.cells #[.int .i8 dx, .int .i8 dy] 30)) (w.heap.size + 1 + 1) #[.int .i8 cx, .int .i8 cy] := (Holds.new' ((w.alloc (.cells A.cells 26)).alloc (.cells (levV g) 28)) #[.int .i8 cx, .int .i8 cy] 30 (w.heap.size + 1 + 1) (by simp)).alloc (.cells #[.int .i8 dx, .int .i8 dy] 30)
  have g3 : Holds ((((w.alloc (.cells A.cells 26)).alloc (.cells (levV g) 28)).alloc (.cells #[.int .i8 cx, .int .i8 cy] 30)).alloc (.cells #[.int .i8 dx, .int .i8 dy] 30)) (w.heap.size + 1 + 1 + 1) #[.int .i8 dx, .int .i8 dy] := Holds.new' (((w.alloc (.cells A.cells 26)).alloc (.cells (levV g) 28)).alloc (.cells #[.int .i8 cx, .int .i8 cy] 30)) #[.int .i8 dx, .int .i8 dy] 30 (w.heap.size + 1 + 1 + 1) (by simp)
  have hb : Below w.heap.size w ((((w.alloc (.cells A.cells 26)).alloc (.cells (levV g) 28)).alloc (.cells #[.int .i8 cx, .int .i8 cy] 30)).alloc (.cells #[.int .i8 dx, .int .i8 dy] 30)) := ((((Below.refl w.heap.size w).alloc (Nat.le_refl _) (.cells A.cells 26)).alloc (by simp <;> omega) (.cells (levV g) 28)).alloc (by simp <;> omega) (.cells #[.int .i8 cx, .int .i8 cy] 30)).alloc (by simp <;> omega) (.cells #[.int .i8 dx, .int .i8 dy] 30)
  obtain ⟨W, hW⟩ : ∃ W, ((((w.alloc (.cells A.cells 26)).alloc (.cells (levV g) 28)).alloc (.cells #[.int .i8 cx, .int .i8 cy] 30)).alloc (.cells #[.int .i8 dx, .int .i8 dy] 30)) = W := ⟨_, rfl⟩
  rw [hW] at g0 g1 g2 g3 hb ⊢
  clear hW
  have HE := Lib.hid (HE0.out.below hb)
  obtain ⟨l0, s0⟩ := g0.later
  obtain ⟨l1, s1⟩ := g1.later
  obtain ⟨l2, s2⟩ := g2.later
  obtain ⟨l3, s3⟩ := g3.later
  refine wp_region_growAV 17 [⟨13, 15, levV fun _ _ => 0, levV R, 33⟩, ⟨14, 16, #[.int .i8 0, .int .i8 0], #[.int .i8 ex, .int .i8 ey], 39⟩] [.agg A.cells, .agg A.cells, .agg (levV g), .agg (levV g), .agg #[.int .i8 cx, .int .i8 cy], .agg #[.int .i8 cx, .int .i8 cy], .agg #[.int .i8 dx, .int .i8 dy], .agg #[.int .i8 dx, .int .i8 dy], .tuple #[.agg (levV R), .agg #[.int .i8 ex, .int .i8 ey], .int .i64 z], .tuple #[.agg (levV R), .agg #[.int .i8 ex, .int .i8 ey], .int .i64 z], .agg (levV R), .agg #[.int .i8 ex, .int .i8 ey], .int .i64 z] (by kernel_rfl) (by kernel_rfl) (by intro e he; simp only [List.mem_cons, List.not_mem_nil, or_false] at he; rcases he with rfl | rfl; (exact ⟨by show 13 < 17; decide, by show 15 < 17; decide, by kernel_rfl⟩); (exact ⟨by show 14 < 17; decide, by show 16 < 17; decide, by kernel_rfl⟩)) (by intro e he e' he' h; simp only [List.mem_cons, List.not_mem_nil, or_false] at he he'; rcases he with rfl | rfl <;> rcases he' with rfl | rfl <;> first | rfl | (exfalso; simp at h)) (by intro e he e' he' h; simp only [List.mem_cons, List.not_mem_nil, or_false] at he he'; rcases he with rfl | rfl <;> rcases he' with rfl | rfl <;> first | rfl | (exfalso; simp at h)) (by intro e he e' he'; simp only [List.mem_cons, List.not_mem_nil, or_false] at he he'; rcases he with rfl | rfl <;> rcases he' with rfl | rfl <;> simp) ?_
  intro p
  simp only [List.take_succ_cons, List.take_zero, List.drop_succ_cons, List.drop_zero]
  refine seqAV_other (v := .agg A.cells) rfl rfl rfl rfl ?_ ?_
  · intro w' hw' K hK
    go_wp2_with fail
    exact hK _ _ rfl (Below.refl _ _)
  simp only [Act.put, List.setIfInBounds_toArray, List.set_cons_succ, List.set_cons_zero]
  refine seqAV_other (v := .agg A.cells) rfl rfl rfl rfl ?_ ?_
  · intro w' hw' K hK
    go_wp2_with (go_at_call 9; refine (toLawn_any _ _).mono ?_; rintro e w1 ⟨rfl, hb1⟩)
    exact hK _ _ rfl hb1
  simp only [Act.put, List.setIfInBounds_toArray, List.set_cons_succ, List.set_cons_zero]
  refine seqAV_other (v := .agg (levV g)) rfl rfl rfl rfl ?_ ?_
  · intro w' hw' K hK
    go_wp2_with fail
    exact hK _ _ rfl (Below.refl _ _)
  simp only [Act.put, List.setIfInBounds_toArray, List.set_cons_succ, List.set_cons_zero]
  refine seqAV_other (v := .agg (levV g)) rfl rfl rfl rfl ?_ ?_
  · intro w' hw' K hK
    go_wp2_with (go_at_call 10; refine (toLev_any _ _).mono ?_; rintro e w1 ⟨rfl, hb1⟩)
    exact hK _ _ rfl hb1
  simp only [Act.put, List.setIfInBounds_toArray, List.set_cons_succ, List.set_cons_zero]
  refine seqAV_other (v := .agg #[.int .i8 cx, .int .i8 cy]) rfl rfl rfl rfl ?_ ?_
  · intro w' hw' K hK
    have e2 := s2 _ hw'
    go_wp2_with fail
    exact hK _ _ rfl (Below.refl _ _)
  simp only [Act.put, List.setIfInBounds_toArray, List.set_cons_succ, List.set_cons_zero]
  refine seqAV_other (v := .agg #[.int .i8 cx, .int .i8 cy]) rfl rfl rfl rfl ?_ ?_
  · intro w' hw' K hK
    go_wp2_with (go_at_call 20; refine (toCell_any _ _ _).mono ?_; rintro e w1 ⟨rfl, hb1⟩)
    exact hK _ _ rfl hb1
  simp only [Act.put, List.setIfInBounds_toArray, List.set_cons_succ, List.set_cons_zero]
  refine seqAV_other (v := .agg #[.int .i8 dx, .int .i8 dy]) rfl rfl rfl rfl ?_ ?_
  · intro w' hw' K hK
    have e3 := s3 _ hw'
    go_wp2_with fail
    exact hK _ _ rfl (Below.refl _ _)
  simp only [Act.put, List.setIfInBounds_toArray, List.set_cons_succ, List.set_cons_zero]
  refine seqAV_other (v := .agg #[.int .i8 dx, .int .i8 dy]) rfl rfl rfl rfl ?_ ?_
  · intro w' hw' K hK
    go_wp2_with (go_at_call 20; refine (toCell_any _ _ _).mono ?_; rintro e w1 ⟨rfl, hb1⟩)
    exact hK _ _ rfl hb1
  simp only [Act.put, List.setIfInBounds_toArray, List.set_cons_succ, List.set_cons_zero]
  refine seqAV_other (v := .tuple #[.agg (levV R), .agg #[.int .i8 ex, .int .i8 ey], .int .i64 z]) rfl rfl rfl rfl ?_ ?_
  · intro w' hw' K hK
    go_wp2_with (first | (go_at_call 19; refine (HS'.out _).mono ?_; rintro e w1 ⟨rfl, hb1⟩) | (go_at_call 21; refine (HI'.out _ (HE.out.below hw')).mono ?_; rintro e w1 ⟨rfl, hb1⟩))
    exact hK _ _ rfl hb1
  simp only [Act.put, List.setIfInBounds_toArray, List.set_cons_succ, List.set_cons_zero]
  refine seqAV_other (v := .tuple #[.agg (levV R), .agg #[.int .i8 ex, .int .i8 ey], .int .i64 z]) rfl rfl rfl rfl ?_ ?_
  · intro w' hw' K hK
    go_wp2_with fail
    exact hK _ _ rfl (Below.refl _ _)
  simp only [Act.put, List.setIfInBounds_toArray, List.set_cons_succ, List.set_cons_zero]
  refine seqAV_other (v := .agg (levV R)) rfl rfl rfl rfl ?_ ?_
  · intro w' hw' K hK
    go_wp2_with fail
    exact hK _ _ rfl (Below.refl _ _)
  simp only [Act.put, List.setIfInBounds_toArray, List.set_cons_succ, List.set_cons_zero]
  refine seqAV_other (v := .agg #[.int .i8 ex, .int .i8 ey]) rfl rfl rfl rfl ?_ ?_
  · intro w' hw' K hK
    go_wp2_with fail
    exact hK _ _ rfl (Below.refl _ _)
  simp only [Act.put, List.setIfInBounds_toArray, List.set_cons_succ, List.set_cons_zero]
  refine seqAV_other (v := .int .i64 z) rfl rfl rfl rfl ?_ ?_
  · intro w' hw' K hK
    go_wp2_with fail
    exact hK _ _ rfl (Below.refl _ _)
  simp only [Act.put, List.setIfInBounds_toArray, List.set_cons_succ, List.set_cons_zero]
  refine seqAV_make ⟨13, 15, levV fun _ _ => 0, levV R, 33⟩ rfl rfl ?_ ?_
  · intro w' hp K hK
    go_wp2_with fail
    first | done | exact hK _ (by rw [hp]; rfl)
  simp only [Act.put, List.setIfInBounds_toArray, List.set_cons_succ, List.set_cons_zero]
  refine seqAV_make ⟨14, 16, #[.int .i8 0, .int .i8 0], #[.int .i8 ex, .int .i8 ey], 39⟩ rfl rfl ?_ ?_
  · intro w' hp K hK
    go_wp2_with fail
    first | done | exact hK _ (by rw [hp]; rfl)
  simp only [Act.put, List.setIfInBounds_toArray, List.set_cons_succ, List.set_cons_zero]
  refine seqAV_store ⟨13, 15, levV fun _ _ => 0, levV R, 33⟩ rfl rfl rfl rfl ?_ ?_
  · intro w' hp hH K hK
    dsimp only at hp hH hK
    have rp := hH.row
    have fp := hH.isFree
    have lp := hH.lt
    go_wp2_with fail
    exact hK
  refine seqAV_store ⟨14, 16, #[.int .i8 0, .int .i8 0], #[.int .i8 ex, .int .i8 ey], 39⟩ rfl rfl rfl rfl ?_ ?_
  · intro w' hp hH K hK
    dsimp only at hp hH hK
    have rp := hH.row
    have fp := hH.isFree
    have lp := hH.lt
    go_wp2_with fail
    exact hK
  refine seqAV_nil ?_
  intro W2 hp hW h1 hne
  have hA : Holds W2 (p 13) (levV R) := h1 ⟨13, 15, levV fun _ _ => 0, levV R, 33⟩ (by simp)
  have hC : Holds W2 (p 14) #[.int .i8 ex, .int .i8 ey] := h1 ⟨14, 16, #[.int .i8 0, .int .i8 0], #[.int .i8 ex, .int .i8 ey], 39⟩ (by simp)
  clear hp h1 hne
  obtain ⟨phA, hq1⟩ : ∃ q, p 13 = q := ⟨_, rfl⟩
  obtain ⟨phC, hq2⟩ : ∃ q, p 14 = q := ⟨_, rfl⟩
  rw [hq1] at hA ⊢
  rw [hq2] at hC ⊢
  clear hq1 hq2 p
  have hb2 := below_onto hb hW
  have g0 := g0.below hW g0.lt
  have g1 := g1.below hW g1.lt
  have g2 := g2.below hW g2.lt
  have g3 := g3.below hW g3.lt
  clear hW l0 s0 l1 s1 l2 s2 l3 s3 hb HE
  have HE := Lib.hid (HE0.out.below hb2)
  obtain ⟨l0, s0⟩ := g0.later
  obtain ⟨l1, s1⟩ := g1.later
  obtain ⟨l2, s2⟩ := g2.later
  obtain ⟨l3, s3⟩ := g3.later
  go_wp2_with fail
  refine wp_region_growAV 17 [⟨13, 15, levV fun _ _ => 0, levV R, 33⟩, ⟨14, 16, #[.int .i8 0, .int .i8 0], #[.int .i8 ex, .int .i8 ey], 39⟩] [.agg A.cells, .agg A.cells, .agg (levV g), .agg (levV g), .agg #[.int .i8 cx, .int .i8 cy], .agg #[.int .i8 cx, .int .i8 cy], .agg #[.int .i8 dx, .int .i8 dy], .agg #[.int .i8 dx, .int .i8 dy], .tuple #[.agg (levV R), .agg #[.int .i8 ex, .int .i8 ey], .int .i64 z], .tuple #[.agg (levV R), .agg #[.int .i8 ex, .int .i8 ey], .int .i64 z], .agg (levV R), .agg #[.int .i8 ex, .int .i8 ey], .int .i64 z] (by kernel_rfl) (by kernel_rfl) (by intro e he; simp only [List.mem_cons, List.not_mem_nil, or_false] at he; rcases he with rfl | rfl; (exact ⟨by show 13 < 17; decide, by show 15 < 17; decide, by kernel_rfl⟩); (exact ⟨by show 14 < 17; decide, by show 16 < 17; decide, by kernel_rfl⟩)) (by intro e he e' he' h; simp only [List.mem_cons, List.not_mem_nil, or_false] at he he'; rcases he with rfl | rfl <;> rcases he' with rfl | rfl <;> first | rfl | (exfalso; simp at h)) (by intro e he e' he' h; simp only [List.mem_cons, List.not_mem_nil, or_false] at he he'; rcases he with rfl | rfl <;> rcases he' with rfl | rfl <;> first | rfl | (exfalso; simp at h)) (by intro e he e' he'; simp only [List.mem_cons, List.not_mem_nil, or_false] at he he'; rcases he with rfl | rfl <;> rcases he' with rfl | rfl <;> simp) ?_
  intro p
  simp only [List.take_succ_cons, List.take_zero, List.drop_succ_cons, List.drop_zero]
  refine seqAV_other (v := .agg A.cells) rfl rfl rfl rfl ?_ ?_
  · intro w' hw' K hK
    go_wp2_with fail
    exact hK _ _ rfl (Below.refl _ _)
  simp only [Act.put, List.setIfInBounds_toArray, List.set_cons_succ, List.set_cons_zero]
  refine seqAV_other (v := .agg A.cells) rfl rfl rfl rfl ?_ ?_
  · intro w' hw' K hK
    go_wp2_with (go_at_call 9; refine (toLawn_any _ _).mono ?_; rintro e w1 ⟨rfl, hb1⟩)
    exact hK _ _ rfl hb1
  simp only [Act.put, List.setIfInBounds_toArray, List.set_cons_succ, List.set_cons_zero]
  refine seqAV_other (v := .agg (levV g)) rfl rfl rfl rfl ?_ ?_
  · intro w' hw' K hK
    go_wp2_with fail
    exact hK _ _ rfl (Below.refl _ _)
  simp only [Act.put, List.setIfInBounds_toArray, List.set_cons_succ, List.set_cons_zero]
  refine seqAV_other (v := .agg (levV g)) rfl rfl rfl rfl ?_ ?_
  · intro w' hw' K hK
    go_wp2_with (go_at_call 10; refine (toLev_any _ _).mono ?_; rintro e w1 ⟨rfl, hb1⟩)
    exact hK _ _ rfl hb1
  simp only [Act.put, List.setIfInBounds_toArray, List.set_cons_succ, List.set_cons_zero]
  refine seqAV_other (v := .agg #[.int .i8 cx, .int .i8 cy]) rfl rfl rfl rfl ?_ ?_
  · intro w' hw' K hK
    have e2 := s2 _ hw'
    go_wp2_with fail
    exact hK _ _ rfl (Below.refl _ _)
  simp only [Act.put, List.setIfInBounds_toArray, List.set_cons_succ, List.set_cons_zero]
  refine seqAV_other (v := .agg #[.int .i8 cx, .int .i8 cy]) rfl rfl rfl rfl ?_ ?_
  · intro w' hw' K hK
    go_wp2_with (go_at_call 20; refine (toCell_any _ _ _).mono ?_; rintro e w1 ⟨rfl, hb1⟩)
    exact hK _ _ rfl hb1
  simp only [Act.put, List.setIfInBounds_toArray, List.set_cons_succ, List.set_cons_zero]
  refine seqAV_other (v := .agg #[.int .i8 dx, .int .i8 dy]) rfl rfl rfl rfl ?_ ?_
  · intro w' hw' K hK
    have e3 := s3 _ hw'
    go_wp2_with fail
    exact hK _ _ rfl (Below.refl _ _)
  simp only [Act.put, List.setIfInBounds_toArray, List.set_cons_succ, List.set_cons_zero]
  refine seqAV_other (v := .agg #[.int .i8 dx, .int .i8 dy]) rfl rfl rfl rfl ?_ ?_
  · intro w' hw' K hK
    go_wp2_with (go_at_call 20; refine (toCell_any _ _ _).mono ?_; rintro e w1 ⟨rfl, hb1⟩)
    exact hK _ _ rfl hb1
  simp only [Act.put, List.setIfInBounds_toArray, List.set_cons_succ, List.set_cons_zero]
  refine seqAV_other (v := .tuple #[.agg (levV R), .agg #[.int .i8 ex, .int .i8 ey], .int .i64 z]) rfl rfl rfl rfl ?_ ?_
  · intro w' hw' K hK
    go_wp2_with (first | (go_at_call 19; refine (HS'.out _).mono ?_; rintro e w1 ⟨rfl, hb1⟩) | (go_at_call 21; refine (HI'.out _ (HE.out.below hw')).mono ?_; rintro e w1 ⟨rfl, hb1⟩))
    exact hK _ _ rfl hb1
  simp only [Act.put, List.setIfInBounds_toArray, List.set_cons_succ, List.set_cons_zero]
  refine seqAV_other (v := .tuple #[.agg (levV R), .agg #[.int .i8 ex, .int .i8 ey], .int .i64 z]) rfl rfl rfl rfl ?_ ?_
  · intro w' hw' K hK
    go_wp2_with fail
    exact hK _ _ rfl (Below.refl _ _)
  simp only [Act.put, List.setIfInBounds_toArray, List.set_cons_succ, List.set_cons_zero]
  refine seqAV_other (v := .agg (levV R)) rfl rfl rfl rfl ?_ ?_
  · intro w' hw' K hK
    go_wp2_with fail
    exact hK _ _ rfl (Below.refl _ _)
  simp only [Act.put, List.setIfInBounds_toArray, List.set_cons_succ, List.set_cons_zero]
  refine seqAV_other (v := .agg #[.int .i8 ex, .int .i8 ey]) rfl rfl rfl rfl ?_ ?_
  · intro w' hw' K hK
    go_wp2_with fail
    exact hK _ _ rfl (Below.refl _ _)
  simp only [Act.put, List.setIfInBounds_toArray, List.set_cons_succ, List.set_cons_zero]
  refine seqAV_other (v := .int .i64 z) rfl rfl rfl rfl ?_ ?_
  · intro w' hw' K hK
    go_wp2_with fail
    exact hK _ _ rfl (Below.refl _ _)
  simp only [Act.put, List.setIfInBounds_toArray, List.set_cons_succ, List.set_cons_zero]
  refine seqAV_make ⟨13, 15, levV fun _ _ => 0, levV R, 33⟩ rfl rfl ?_ ?_
  · intro w' hp K hK
    go_wp2_with fail
    first | done | exact hK _ (by rw [hp]; rfl)
  simp only [Act.put, List.setIfInBounds_toArray, List.set_cons_succ, List.set_cons_zero]
  refine seqAV_make ⟨14, 16, #[.int .i8 0, .int .i8 0], #[.int .i8 ex, .int .i8 ey], 39⟩ rfl rfl ?_ ?_
  · intro w' hp K hK
    go_wp2_with fail
    first | done | exact hK _ (by rw [hp]; rfl)
  simp only [Act.put, List.setIfInBounds_toArray, List.set_cons_succ, List.set_cons_zero]
  refine seqAV_store ⟨13, 15, levV fun _ _ => 0, levV R, 33⟩ rfl rfl rfl rfl ?_ ?_
  · intro w' hp hH K hK
    dsimp only at hp hH hK
    have rp := hH.row
    have fp := hH.isFree
    have lp := hH.lt
    go_wp2_with fail
    exact hK
  refine seqAV_store ⟨14, 16, #[.int .i8 0, .int .i8 0], #[.int .i8 ex, .int .i8 ey], 39⟩ rfl rfl rfl rfl ?_ ?_
  · intro w' hp hH K hK
    dsimp only at hp hH hK
    have rp := hH.row
    have fp := hH.isFree
    have lp := hH.lt
    go_wp2_with fail
    exact hK
  refine seqAV_nil ?_
  intro W3 hp hW h1 hne
  have hB : Holds W3 (p 13) (levV R) := h1 ⟨13, 15, levV fun _ _ => 0, levV R, 33⟩ (by simp)
  have hD : Holds W3 (p 14) #[.int .i8 ex, .int .i8 ey] := h1 ⟨14, 16, #[.int .i8 0, .int .i8 0], #[.int .i8 ex, .int .i8 ey], 39⟩ (by simp)
  clear hp h1 hne
  obtain ⟨phB, hq1⟩ : ∃ q, p 13 = q := ⟨_, rfl⟩
  obtain ⟨phD, hq2⟩ : ∃ q, p 14 = q := ⟨_, rfl⟩
  rw [hq1] at hB ⊢
  rw [hq2] at hD ⊢
  clear hq1 hq2 p
  have hb3 := below_onto hb2 hW
  have hA := hA.below hW hA.lt
  have hC := hC.below hW hC.lt
  clear hW g0 l0 s0 g1 l1 s1 g2 l2 s2 g3 l3 s3 HI' HS' HE HE0 hb2
  obtain ⟨ra, fa, -, -, la⟩ := hA.facts
  obtain ⟨rb, fb, -, -, lb⟩ := hB.facts
  go_wp2_with fail
  refine (eqLev_same _ _).mono ?_
  rintro e w3 ⟨rfl, hb4⟩
  have hC := hC.below hb4 hC.lt
  have hD := hD.below hb4 hD.lt
  have hb5 := below_onto hb3 hb4
  clear hA hB ra fa la rb fb lb hb3 hb4
  obtain ⟨ra, fa, da, -, la⟩ := hC.facts
  obtain ⟨rb, fb, db, -, lb⟩ := hD.facts
  go_wp2_with fail
  refine (eqCell_same _ _ _).mono ?_
  rintro e w4 ⟨rfl, hb6⟩
  go_wp2_with fail
  go_ret
  exact ⟨rfl, below_onto hb5 hb6⟩

theorem exactMoleOnce (A : Lawn) (hA : A.Fits) (g : Nat → Nat → Int) (hg : LevFits g) (cx cy : Int) (hc : (-128 ≤ cx ∧ cx ≤ 127) ∧ -128 ≤ cy ∧ cy ≤ 127) (dx dy : Int) (hd : (-128 ≤ dx ∧ dx ≤ 127) ∧ -128 ≤ dy ∧ dy ≤ 127) {a0 a1 a2 a3 a4 : Addr} (w : World) (hE : ErrsIn w a0 a1 a2 a3 a4) :
    Calls Tryd.prog 5 #[.agg A.cells, .agg (levV g), .agg #[.int .i8 cx, .int .i8 cy], .agg #[.int .i8 dx, .int .i8 dy]] w fun e w' => e = .returned (.bool true) ∧ Below w.heap.size w w' := by
  cases hk : chkE A g true [(cx, cy), (dx, dy)] with
  | some k =>
    exact exactMoleOnce_walk A g cx cy dx dy (fun _ _ => 0) 0 0 (errZ k) (fun w hE => ionce_bad A hA g cx cy dx dy k hk w hE)
      (fun w => sonce_bad A hA g hg cx cy dx dy hc hd (errZ k) (by unfold chkC; rw [hk]) (errZ_ne k) w) w hE
  | none =>
    obtain ⟨hv, hgr⟩ := chkE_none hk
    have hV := (levB_true hv).1
    obtain ⟨q, rfl, rfl, hq⟩ := cell_Q hV (hgr (cx, cy) (by simp))
    obtain ⟨t, rfl, rfl, ht⟩ := cell_Q hV (hgr (dx, dy) (by simp))
    exact exactMoleOnce_walk A g _ _ _ _ _ _ _ _ (fun w hE => ionce_good A hA g hv q t hq ht w hE)
      (fun w => sonce_good A hA g hg hv q t hq ht w) w hE

end Go.Proofs.YteaajkkhbflmdaaDoor
