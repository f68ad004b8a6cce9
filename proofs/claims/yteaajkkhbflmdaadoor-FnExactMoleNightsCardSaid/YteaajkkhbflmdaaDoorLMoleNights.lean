/- The law on MoleNights. -/
import Derived.Test.YteaajkkhbflmdaaDoorMoleM
import Derived.Test.YteaajkkhbflmdaaDoorLNightOf
import Derived.Test.YteaajkkhbflmdaaDoorErrs
import Derived.Test.YteaajkkhbflmdaaDoorZC
import Derived.Test.YteaajkkhbflmdaaDoorGrowYA
import Derived.Test.YteaajkkhbflmdaaDoorCellSt
import Derived.Test.YteaajkkhbflmdaaDoorEqCellS
import Derived.Test.YteaajkkhbflmdaaDoorMarkCellS
namespace Go.Proofs.YteaajkkhbflmdaaDoor
open Go.RowKit
set_option linter.unusedVariables false
attribute [local go_sem ↓] loadRow loadGrid loadLawn loadMirror storeRow storeGrid storeLawn allocRow allocGrid allocLawn buildZero buildSides loadL8 loadLv storeLv allocLv

set_option maxRecDepth 100000 in
set_option maxHeartbeats 8000000 in
theorem exactMoleNights_walk (A : Lawn) (g : Nat → Nat → Int) (cx cy : Int) (N : Int) (R : Nat → Nat → Int) (z : Int) (n : Nat) (xs : List Value) (hn : n ≤ 61) (hx : ∀ j, j < n * 2 → ∃ z, xs[j]? = some (.int .i8 z))
    {a0 a1 a2 a3 a4 : Addr}
    (HI : ∀ w : World, ErrsIn w a0 a1 a2 a3 a4 → Calls Tryd.prog 24 #[.agg A.cells, .agg (levV g), .agg #[.int .i8 cx, .int .i8 cy], .int .i64 N] w fun e w' => (∃ v, e = .returned (.tuple #[.agg (levV R), v, .int .i64 z]) ∧ w'.ownsRow w.heap.size 39 2 v n xs) ∧ Below w.heap.size w w')
    (HS : ∀ w : World, Calls Tryd.prog 23 #[.agg A.cells, .agg (levV g), .agg #[.int .i8 cx, .int .i8 cy], .int .i64 N] w fun e w' => (∃ v, e = .returned (.tuple #[.agg (levV R), v, .int .i64 z]) ∧ w'.ownsRow w.heap.size 39 2 v n xs) ∧ Below w.heap.size w w') (w : World) (hE : ErrsIn w a0 a1 a2 a3 a4) :
    Calls Tryd.prog 6 #[.agg A.cells, .agg (levV g), .agg #[.int .i8 cx, .int .i8 cy], .int .i64 N] w fun e w' => e = .returned (.bool true) ∧ Below w.heap.size w w' := by
  have HI' := Lib.hid HI
  have HS' := Lib.hid HS
  have HE0 := Lib.hid hE
  have HX := Lib.hid hx
  clear HI HS hE hx
  go_enter Tryd.func6, Tryd.ntmps6
  go_wp2_with fail
  have g0 : Holds (((w.alloc (.cells A.cells 26)).alloc (.cells (levV g) 28)).alloc (.cells #[.int .i8 cx, .int .i8 cy] 30)) (w.heap.size) A.cells := ((Holds.new w A.cells 26).alloc (.cells (levV g) 28)).alloc (.cells #[.int .i8 cx, .int .i8 cy] 30)
  have g1 : Holds (((w.alloc (.cells A.cells 26)).alloc (.cells (levV g) 28)).alloc (.cells #[.int .i8 cx, .int .i8 cy] 30)) (w.heap.size + 1) (levV g) := (Holds.new' (w.alloc (.cells A.cells 26)) (levV g) 28 (w.heap.size + 1) (by simp)).alloc (.cells #[.int .i8 cx, .int .i8 cy] 30)
  have g2 : Holds (((w.alloc (.cells A.cells 26)).alloc (.cells (levV g) 28)).alloc (.cells #[.int .i8 cx, .int .i8 cy] 30)) (w.heap.size + 1 + 1) #[.int .i8 cx, .int .i8 cy] := Holds.new' ((w.alloc (.cells A.cells 26)).alloc (.cells (levV g) 28)) #[.int .i8 cx, .int .i8 cy] 30 (w.heap.size + 1 + 1) (by simp)
  have hb : Below w.heap.size w (((w.alloc (.cells A.cells 26)).alloc (.cells (levV g) 28)).alloc (.cells #[.int .i8 cx, .int .i8 cy] 30)) := (((Below.refl w.heap.size w).alloc (Nat.le_refl _) (.cells A.cells 26)).alloc (by simp <;> omega) (.cells (levV g) 28)).alloc (by simp <;> omega) (.cells #[.int .i8 cx, .int .i8 cy] 30)
  obtain ⟨W, hW⟩ : ∃ W, (((w.alloc (.cells A.cells 26)).alloc (.cells (levV g) 28)).alloc (.cells #[.int .i8 cx, .int .i8 cy] 30)) = W := ⟨_, rfl⟩
  rw [hW] at g0 g1 g2 hb ⊢
  clear hW
  obtain ⟨l0, s0⟩ := g0.later
  obtain ⟨l1, s1⟩ := g1.later
  obtain ⟨l2, s2⟩ := g2.later
  refine wp_region_growYA 15 7 12 13 [8, 9, 10, 11, 14] (fun y w' => w'.ownsRow W.heap.size 39 2 y n xs) (levV fun _ _ => 0) (levV R) 33 (fun _ _ _ h hb => own_below h hb) (fun y p w' h hp => own_typed h hp (by decide)) (fun y => [.agg A.cells, .agg A.cells, .agg (levV g), .agg (levV g), .agg #[.int .i8 cx, .int .i8 cy], .agg #[.int .i8 cx, .int .i8 cy], .int .i64 N, .tuple #[.agg (levV R), y, .int .i64 z], .tuple #[.agg (levV R), y, .int .i64 z], .agg (levV R), y, .int .i64 z, undef, undef, y]) (by
      intro p p' j h1 h2
      match j with
      | 0 => rfl
      | 1 => rfl
      | 2 => rfl
      | 3 => rfl
      | 4 => rfl
      | 5 => rfl
      | 6 => rfl
      | 7 => exact absurd rfl h1
      | 8 => cases h2
      | 9 => cases h2
      | 10 => cases h2
      | 11 => cases h2
      | 12 => rfl
      | 13 => rfl
      | 14 => cases h2
      | j + 15 => rfl) (by kernel_rfl) (by kernel_rfl) (by kernel_rfl) (by kernel_rfl) ?_
  rintro ⟨y, p⟩
  simp only [List.take_succ_cons, List.take_zero, List.drop_succ_cons, List.drop_zero]
  refine seqYA_free (v := .agg A.cells) rfl rfl rfl rfl rfl rfl ?_ ?_
  · intro w' hw' K hK
    go_wp2_with fail
    exact hK _ _ rfl (Below.refl _ _)
  simp only [Act.put, List.setIfInBounds_toArray, List.set_cons_succ, List.set_cons_zero]
  refine seqYA_free (v := .agg A.cells) rfl rfl rfl rfl rfl rfl ?_ ?_
  · intro w' hw' K hK
    go_wp2_with (go_at_call 9; refine (toLawn_any _ _).mono ?_; rintro e w1 ⟨rfl, hb1⟩)
    exact hK _ _ rfl hb1
  simp only [Act.put, List.setIfInBounds_toArray, List.set_cons_succ, List.set_cons_zero]
  refine seqYA_free (v := .agg (levV g)) rfl rfl rfl rfl rfl rfl ?_ ?_
  · intro w' hw' K hK
    go_wp2_with fail
    exact hK _ _ rfl (Below.refl _ _)
  simp only [Act.put, List.setIfInBounds_toArray, List.set_cons_succ, List.set_cons_zero]
  refine seqYA_free (v := .agg (levV g)) rfl rfl rfl rfl rfl rfl ?_ ?_
  · intro w' hw' K hK
    go_wp2_with (go_at_call 10; refine (toLev_any _ _).mono ?_; rintro e w1 ⟨rfl, hb1⟩)
    exact hK _ _ rfl hb1
  simp only [Act.put, List.setIfInBounds_toArray, List.set_cons_succ, List.set_cons_zero]
  refine seqYA_free (v := .agg #[.int .i8 cx, .int .i8 cy]) rfl rfl rfl rfl rfl rfl ?_ ?_
  · intro w' hw' K hK
    have e2 := s2 _ hw'
    go_wp2_with fail
    exact hK _ _ rfl (Below.refl _ _)
  simp only [Act.put, List.setIfInBounds_toArray, List.set_cons_succ, List.set_cons_zero]
  refine seqYA_free (v := .agg #[.int .i8 cx, .int .i8 cy]) rfl rfl rfl rfl rfl rfl ?_ ?_
  · intro w' hw' K hK
    go_wp2_with (go_at_call 20; refine (toCell_any _ _ _).mono ?_; rintro e w1 ⟨rfl, hb1⟩)
    exact hK _ _ rfl hb1
  simp only [Act.put, List.setIfInBounds_toArray, List.set_cons_succ, List.set_cons_zero]
  refine seqYA_free (v := .int .i64 N) rfl rfl rfl rfl rfl rfl ?_ ?_
  · intro w' hw' K hK
    go_wp2_with fail
    exact hK _ _ rfl (Below.refl _ _)
  simp only [Act.put, List.setIfInBounds_toArray, List.set_cons_succ, List.set_cons_zero]
  refine seqYA_call rfl rfl rfl (fun q => .tuple #[.agg (levV R), q, .int .i64 z]) (fun q => rfl) ?_ ?_
  · intro w' hw' K hK
    go_wp2_with fail
    refine (HS'.out _).mono ?_
    rintro e w1 ⟨⟨v, rfl, ho⟩, hb1⟩
    exact hK v _ _ rfl hb1 (ownsRow_low ho hw'.size)
  simp only [Act.put, List.setIfInBounds_toArray, List.set_cons_succ, List.set_cons_zero]
  refine seqYA_dep (v := .tuple #[.agg (levV R), y, .int .i64 z]) rfl rfl rfl rfl rfl rfl ?_ ?_
  · intro w' hw' hI K hK
    go_wp2_with fail
    exact hK _ _ rfl (Below.refl _ _)
  simp only [Act.put, List.setIfInBounds_toArray, List.set_cons_succ, List.set_cons_zero]
  refine seqYA_dep (v := .agg (levV R)) rfl rfl rfl rfl rfl rfl ?_ ?_
  · intro w' hw' hI K hK
    go_wp2_with fail
    exact hK _ _ rfl (Below.refl _ _)
  simp only [Act.put, List.setIfInBounds_toArray, List.set_cons_succ, List.set_cons_zero]
  refine seqYA_dep (v := y) rfl rfl rfl rfl rfl rfl ?_ ?_
  · intro w' hw' hI K hK
    go_wp2_with fail
    exact hK _ _ rfl (Below.refl _ _)
  simp only [Act.put, List.setIfInBounds_toArray, List.set_cons_succ, List.set_cons_zero]
  refine seqYA_dep (v := .int .i64 z) rfl rfl rfl rfl rfl rfl ?_ ?_
  · intro w' hw' hI K hK
    go_wp2_with fail
    exact hK _ _ rfl (Below.refl _ _)
  simp only [Act.put, List.setIfInBounds_toArray, List.set_cons_succ, List.set_cons_zero]
  refine seqYA_make rfl rfl rfl ?_ ?_
  · intro w' hp K hK
    go_wp2_with fail
    first | done | exact hK _ (by rw [hp]; rfl)
  simp only [Act.put, List.setIfInBounds_toArray, List.set_cons_succ, List.set_cons_zero]
  refine seqYA_store rfl rfl rfl rfl rfl ?_ ?_
  · intro w' hp hH K hK
    dsimp only at hp hH hK
    have rp := hH.row
    have fp := hH.isFree
    have lp := hH.lt
    go_wp2_with fail
    exact hK
  refine seqYA_dep (v := y) rfl rfl rfl rfl rfl rfl ?_ ?_
  · intro w' hw' hI K hK
    go_wp2_with fail
    exact hK _ _ rfl (Below.refl _ _)
  simp only [Act.put, List.setIfInBounds_toArray, List.set_cons_succ, List.set_cons_zero]
  refine seqYA_nil ?_
  intro W2 hp hW hA os
  try dsimp only at hp hA os
  have hb2 := below_onto hb hW
  have OS := Lib.hid (ownsRow_low os hb.size)
  have g0 := g0.below hW g0.lt
  have g1 := g1.below hW g1.lt
  have g2 := g2.below hW g2.lt
  clear hW hb os l0 s0 l1 s1 l2 s2
  obtain ⟨ys, hys⟩ : ∃ q, y = q := ⟨_, rfl⟩
  obtain ⟨pa, hpa⟩ : ∃ q, p = q := ⟨_, rfl⟩
  rw [hys] at OS ⊢
  rw [hpa] at hA hp ⊢
  clear hys hpa y p hp
  have HE := Lib.hid (HE0.out.below hb2)
  obtain ⟨l0, s0⟩ := g0.later
  obtain ⟨l1, s1⟩ := g1.later
  obtain ⟨l2, s2⟩ := g2.later
  go_wp2_with fail
  refine wp_region_growYA 15 7 12 13 [8, 9, 10, 11, 14] (fun y w' => w'.ownsRow W2.heap.size 39 2 y n xs) (levV fun _ _ => 0) (levV R) 33 (fun _ _ _ h hb => own_below h hb) (fun y p w' h hp => own_typed h hp (by decide)) (fun y => [.agg A.cells, .agg A.cells, .agg (levV g), .agg (levV g), .agg #[.int .i8 cx, .int .i8 cy], .agg #[.int .i8 cx, .int .i8 cy], .int .i64 N, .tuple #[.agg (levV R), y, .int .i64 z], .tuple #[.agg (levV R), y, .int .i64 z], .agg (levV R), y, .int .i64 z, undef, undef, y]) (by
      intro p p' j h1 h2
      match j with
      | 0 => rfl
      | 1 => rfl
      | 2 => rfl
      | 3 => rfl
      | 4 => rfl
      | 5 => rfl
      | 6 => rfl
      | 7 => exact absurd rfl h1
      | 8 => cases h2
      | 9 => cases h2
      | 10 => cases h2
      | 11 => cases h2
      | 12 => rfl
      | 13 => rfl
      | 14 => cases h2
      | j + 15 => rfl) (by kernel_rfl) (by kernel_rfl) (by kernel_rfl) (by kernel_rfl) ?_
  rintro ⟨y, p⟩
  simp only [List.take_succ_cons, List.take_zero, List.drop_succ_cons, List.drop_zero]
  refine seqYA_free (v := .agg A.cells) rfl rfl rfl rfl rfl rfl ?_ ?_
  · intro w' hw' K hK
    go_wp2_with fail
    exact hK _ _ rfl (Below.refl _ _)
  simp only [Act.put, List.setIfInBounds_toArray, List.set_cons_succ, List.set_cons_zero]
  refine seqYA_free (v := .agg A.cells) rfl rfl rfl rfl rfl rfl ?_ ?_
  · intro w' hw' K hK
    go_wp2_with (go_at_call 9; refine (toLawn_any _ _).mono ?_; rintro e w1 ⟨rfl, hb1⟩)
    exact hK _ _ rfl hb1
  simp only [Act.put, List.setIfInBounds_toArray, List.set_cons_succ, List.set_cons_zero]
  refine seqYA_free (v := .agg (levV g)) rfl rfl rfl rfl rfl rfl ?_ ?_
  · intro w' hw' K hK
    go_wp2_with fail
    exact hK _ _ rfl (Below.refl _ _)
  simp only [Act.put, List.setIfInBounds_toArray, List.set_cons_succ, List.set_cons_zero]
  refine seqYA_free (v := .agg (levV g)) rfl rfl rfl rfl rfl rfl ?_ ?_
  · intro w' hw' K hK
    go_wp2_with (go_at_call 10; refine (toLev_any _ _).mono ?_; rintro e w1 ⟨rfl, hb1⟩)
    exact hK _ _ rfl hb1
  simp only [Act.put, List.setIfInBounds_toArray, List.set_cons_succ, List.set_cons_zero]
  refine seqYA_free (v := .agg #[.int .i8 cx, .int .i8 cy]) rfl rfl rfl rfl rfl rfl ?_ ?_
  · intro w' hw' K hK
    have e2 := s2 _ hw'
    go_wp2_with fail
    exact hK _ _ rfl (Below.refl _ _)
  simp only [Act.put, List.setIfInBounds_toArray, List.set_cons_succ, List.set_cons_zero]
  refine seqYA_free (v := .agg #[.int .i8 cx, .int .i8 cy]) rfl rfl rfl rfl rfl rfl ?_ ?_
  · intro w' hw' K hK
    go_wp2_with (go_at_call 20; refine (toCell_any _ _ _).mono ?_; rintro e w1 ⟨rfl, hb1⟩)
    exact hK _ _ rfl hb1
  simp only [Act.put, List.setIfInBounds_toArray, List.set_cons_succ, List.set_cons_zero]
  refine seqYA_free (v := .int .i64 N) rfl rfl rfl rfl rfl rfl ?_ ?_
  · intro w' hw' K hK
    go_wp2_with fail
    exact hK _ _ rfl (Below.refl _ _)
  simp only [Act.put, List.setIfInBounds_toArray, List.set_cons_succ, List.set_cons_zero]
  refine seqYA_call rfl rfl rfl (fun q => .tuple #[.agg (levV R), q, .int .i64 z]) (fun q => rfl) ?_ ?_
  · intro w' hw' K hK
    go_wp2_with fail
    refine (HI'.out _ (HE.out.below hw')).mono ?_
    rintro e w1 ⟨⟨v, rfl, ho⟩, hb1⟩
    exact hK v _ _ rfl hb1 (ownsRow_low ho hw'.size)
  simp only [Act.put, List.setIfInBounds_toArray, List.set_cons_succ, List.set_cons_zero]
  refine seqYA_dep (v := .tuple #[.agg (levV R), y, .int .i64 z]) rfl rfl rfl rfl rfl rfl ?_ ?_
  · intro w' hw' hI K hK
    go_wp2_with fail
    exact hK _ _ rfl (Below.refl _ _)
  simp only [Act.put, List.setIfInBounds_toArray, List.set_cons_succ, List.set_cons_zero]
  refine seqYA_dep (v := .agg (levV R)) rfl rfl rfl rfl rfl rfl ?_ ?_
  · intro w' hw' hI K hK
    go_wp2_with fail
    exact hK _ _ rfl (Below.refl _ _)
  simp only [Act.put, List.setIfInBounds_toArray, List.set_cons_succ, List.set_cons_zero]
  refine seqYA_dep (v := y) rfl rfl rfl rfl rfl rfl ?_ ?_
  · intro w' hw' hI K hK
    go_wp2_with fail
    exact hK _ _ rfl (Below.refl _ _)
  simp only [Act.put, List.setIfInBounds_toArray, List.set_cons_succ, List.set_cons_zero]
  refine seqYA_dep (v := .int .i64 z) rfl rfl rfl rfl rfl rfl ?_ ?_
  · intro w' hw' hI K hK
    go_wp2_with fail
    exact hK _ _ rfl (Below.refl _ _)
  simp only [Act.put, List.setIfInBounds_toArray, List.set_cons_succ, List.set_cons_zero]
  refine seqYA_make rfl rfl rfl ?_ ?_
  · intro w' hp K hK
    go_wp2_with fail
    first | done | exact hK _ (by rw [hp]; rfl)
  simp only [Act.put, List.setIfInBounds_toArray, List.set_cons_succ, List.set_cons_zero]
  refine seqYA_store rfl rfl rfl rfl rfl ?_ ?_
  · intro w' hp hH K hK
    dsimp only at hp hH hK
    have rp := hH.row
    have fp := hH.isFree
    have lp := hH.lt
    go_wp2_with fail
    exact hK
  refine seqYA_dep (v := y) rfl rfl rfl rfl rfl rfl ?_ ?_
  · intro w' hw' hI K hK
    go_wp2_with fail
    exact hK _ _ rfl (Below.refl _ _)
  simp only [Act.put, List.setIfInBounds_toArray, List.set_cons_succ, List.set_cons_zero]
  refine seqYA_nil ?_
  intro W3 hp hW hB og
  try dsimp only at hp hB og
  have hap := own_apart OS.out (Nat.le_refl _) og
  have hlow : w.heap.size + 1 + 1 < W2.heap.size ∧ pa < W2.heap.size := ⟨g2.lt, hA.lt⟩
  have hle : w.heap.size ≤ W2.heap.size := hb2.size
  obtain ⟨Bg, hBg⟩ : ∃ q, W2.heap.size = q := ⟨_, rfl⟩
  have hb3 := below_onto hb2 hW
  have OS := Lib.hid (own_below OS.out hW)
  have hA := hA.below hW hA.lt
  have g0 := g0.below hW g0.lt
  have g1 := g1.below hW g1.lt
  have g2 := g2.below hW g2.lt
  rw [hBg] at og hlow hle
  have OG := Lib.hid og
  clear hW hb2 og l0 s0 l1 s1 l2 s2 HE hBg
  obtain ⟨yg, hyg⟩ : ∃ q, y = q := ⟨_, rfl⟩
  obtain ⟨pb, hpb⟩ : ∃ q, p = q := ⟨_, rfl⟩
  rw [hyg] at OG hap ⊢
  rw [hpb] at hB ⊢
  clear hyg hpb y p hp
  obtain ⟨ra, fa, -, -, la⟩ := hA.facts
  obtain ⟨rb, fb, -, -, lb⟩ := hB.facts
  go_wp2_with fail
  refine (eqLev_same _ _).mono ?_
  rintro e w4 ⟨rfl, hb4⟩
  have OS := Lib.hid (own_below OS.out hb4)
  have OG := Lib.hid (own_below OG.out hb4)
  have hA := hA.below hb4 hA.lt
  have g0 := g0.below hb4 g0.lt
  have g1 := g1.below hb4 g1.lt
  have g2 := g2.below hb4 g2.lt
  have hb5 := below_onto hb3 hb4
  clear hB ra fa la rb fb lb hb3 hb4
  go_wp2_with fail
  refine (eqCellS_same n xs (by omega) HX.out _ _ _ _ _ OG.out OS.out).mono ?_
  rintro e w5 ⟨rfl, hb4⟩
  have OS := Lib.hid (own_below OS.out hb4)
  have OG := Lib.hid (own_below OG.out hb4)
  have hA := hA.below hb4 hA.lt
  have g0 := g0.below hb4 g0.lt
  have g1 := g1.below hb4 g1.lt
  have g2 := g2.below hb4 g2.lt
  have hb6 := below_onto hb5 hb4
  clear hb4 hb5
  go_wp2_with fail
  obtain ⟨M, hM⟩ : ∃ M, 1 + 2 * n = M := ⟨_, rfl⟩
  refine (markCellS_one Bg n M _ _ _ (by omega) hM OG.out).mono ?_
  rintro e w6 ⟨rfl, om, hgr⟩
  have OS := Lib.hid (OS.out.kept hgr hap)
  have OM := Lib.hid om
  have hA := held_grown hA OG.out hgr (by omega)
  have g0 := held_grown g0 OG.out hgr (by omega)
  have g1 := held_grown g1 OG.out hgr (by omega)
  have g2 := held_grown g2 OG.out hgr (by omega)
  have hb7 := below_marked hb6 OG.out hgr (by omega) (by have := hb6.size; omega)
  have d1 : decide ((M : Int) < 0) = false := by simp
  clear hb6 om hgr hap OG
  go_wp2_with fail
  refine (heldCellS_one Bg n M _ _ (by omega) hM OM.out).mono ?_
  rintro e w7 ⟨rfl, hb4⟩
  have OS := Lib.hid (own_below OS.out hb4)
  have OM := Lib.hid (own_below OM.out hb4)
  have hA := hA.below hb4 hA.lt
  have g0 := g0.below hb4 g0.lt
  have g1 := g1.below hb4 g1.lt
  have g2 := g2.below hb4 g2.lt
  have hb8 := below_onto hb7 hb4
  clear hb4 hb7
  have HE := Lib.hid (HE0.out.below hb8)
  obtain ⟨l0, s0⟩ := g0.later
  obtain ⟨l1, s1⟩ := g1.later
  obtain ⟨l2, s2⟩ := g2.later
  go_wp2_with fail
  refine wp_region_growYA 15 7 12 13 [8, 9, 10, 11, 14] (fun y w' => w'.ownsRow w7.heap.size 39 2 y n xs) (levV fun _ _ => 0) (levV R) 33 (fun _ _ _ h hb => own_below h hb) (fun y p w' h hp => own_typed h hp (by decide)) (fun y => [.agg A.cells, .agg A.cells, .agg (levV g), .agg (levV g), .agg #[.int .i8 cx, .int .i8 cy], .agg #[.int .i8 cx, .int .i8 cy], .int .i64 N, .tuple #[.agg (levV R), y, .int .i64 z], .tuple #[.agg (levV R), y, .int .i64 z], .agg (levV R), y, .int .i64 z, undef, undef, y]) (by
      intro p p' j h1 h2
      match j with
      | 0 => rfl
      | 1 => rfl
      | 2 => rfl
      | 3 => rfl
      | 4 => rfl
      | 5 => rfl
      | 6 => rfl
      | 7 => exact absurd rfl h1
      | 8 => cases h2
      | 9 => cases h2
      | 10 => cases h2
      | 11 => cases h2
      | 12 => rfl
      | 13 => rfl
      | 14 => cases h2
      | j + 15 => rfl) (by kernel_rfl) (by kernel_rfl) (by kernel_rfl) (by kernel_rfl) ?_
  rintro ⟨y, p⟩
  simp only [List.take_succ_cons, List.take_zero, List.drop_succ_cons, List.drop_zero]
  refine seqYA_free (v := .agg A.cells) rfl rfl rfl rfl rfl rfl ?_ ?_
  · intro w' hw' K hK
    go_wp2_with fail
    exact hK _ _ rfl (Below.refl _ _)
  simp only [Act.put, List.setIfInBounds_toArray, List.set_cons_succ, List.set_cons_zero]
  refine seqYA_free (v := .agg A.cells) rfl rfl rfl rfl rfl rfl ?_ ?_
  · intro w' hw' K hK
    go_wp2_with (go_at_call 9; refine (toLawn_any _ _).mono ?_; rintro e w1 ⟨rfl, hb1⟩)
    exact hK _ _ rfl hb1
  simp only [Act.put, List.setIfInBounds_toArray, List.set_cons_succ, List.set_cons_zero]
  refine seqYA_free (v := .agg (levV g)) rfl rfl rfl rfl rfl rfl ?_ ?_
  · intro w' hw' K hK
    go_wp2_with fail
    exact hK _ _ rfl (Below.refl _ _)
  simp only [Act.put, List.setIfInBounds_toArray, List.set_cons_succ, List.set_cons_zero]
  refine seqYA_free (v := .agg (levV g)) rfl rfl rfl rfl rfl rfl ?_ ?_
  · intro w' hw' K hK
    go_wp2_with (go_at_call 10; refine (toLev_any _ _).mono ?_; rintro e w1 ⟨rfl, hb1⟩)
    exact hK _ _ rfl hb1
  simp only [Act.put, List.setIfInBounds_toArray, List.set_cons_succ, List.set_cons_zero]
  refine seqYA_free (v := .agg #[.int .i8 cx, .int .i8 cy]) rfl rfl rfl rfl rfl rfl ?_ ?_
  · intro w' hw' K hK
    have e2 := s2 _ hw'
    go_wp2_with fail
    exact hK _ _ rfl (Below.refl _ _)
  simp only [Act.put, List.setIfInBounds_toArray, List.set_cons_succ, List.set_cons_zero]
  refine seqYA_free (v := .agg #[.int .i8 cx, .int .i8 cy]) rfl rfl rfl rfl rfl rfl ?_ ?_
  · intro w' hw' K hK
    go_wp2_with (go_at_call 20; refine (toCell_any _ _ _).mono ?_; rintro e w1 ⟨rfl, hb1⟩)
    exact hK _ _ rfl hb1
  simp only [Act.put, List.setIfInBounds_toArray, List.set_cons_succ, List.set_cons_zero]
  refine seqYA_free (v := .int .i64 N) rfl rfl rfl rfl rfl rfl ?_ ?_
  · intro w' hw' K hK
    go_wp2_with fail
    exact hK _ _ rfl (Below.refl _ _)
  simp only [Act.put, List.setIfInBounds_toArray, List.set_cons_succ, List.set_cons_zero]
  refine seqYA_call rfl rfl rfl (fun q => .tuple #[.agg (levV R), q, .int .i64 z]) (fun q => rfl) ?_ ?_
  · intro w' hw' K hK
    go_wp2_with fail
    refine (HI'.out _ (HE.out.below hw')).mono ?_
    rintro e w1 ⟨⟨v, rfl, ho⟩, hb1⟩
    exact hK v _ _ rfl hb1 (ownsRow_low ho hw'.size)
  simp only [Act.put, List.setIfInBounds_toArray, List.set_cons_succ, List.set_cons_zero]
  refine seqYA_dep (v := .tuple #[.agg (levV R), y, .int .i64 z]) rfl rfl rfl rfl rfl rfl ?_ ?_
  · intro w' hw' hI K hK
    go_wp2_with fail
    exact hK _ _ rfl (Below.refl _ _)
  simp only [Act.put, List.setIfInBounds_toArray, List.set_cons_succ, List.set_cons_zero]
  refine seqYA_dep (v := .agg (levV R)) rfl rfl rfl rfl rfl rfl ?_ ?_
  · intro w' hw' hI K hK
    go_wp2_with fail
    exact hK _ _ rfl (Below.refl _ _)
  simp only [Act.put, List.setIfInBounds_toArray, List.set_cons_succ, List.set_cons_zero]
  refine seqYA_dep (v := y) rfl rfl rfl rfl rfl rfl ?_ ?_
  · intro w' hw' hI K hK
    go_wp2_with fail
    exact hK _ _ rfl (Below.refl _ _)
  simp only [Act.put, List.setIfInBounds_toArray, List.set_cons_succ, List.set_cons_zero]
  refine seqYA_dep (v := .int .i64 z) rfl rfl rfl rfl rfl rfl ?_ ?_
  · intro w' hw' hI K hK
    go_wp2_with fail
    exact hK _ _ rfl (Below.refl _ _)
  simp only [Act.put, List.setIfInBounds_toArray, List.set_cons_succ, List.set_cons_zero]
  refine seqYA_make rfl rfl rfl ?_ ?_
  · intro w' hp K hK
    go_wp2_with fail
    first | done | exact hK _ (by rw [hp]; rfl)
  simp only [Act.put, List.setIfInBounds_toArray, List.set_cons_succ, List.set_cons_zero]
  refine seqYA_store rfl rfl rfl rfl rfl ?_ ?_
  · intro w' hp hH K hK
    dsimp only at hp hH hK
    have rp := hH.row
    have fp := hH.isFree
    have lp := hH.lt
    go_wp2_with fail
    exact hK
  refine seqYA_dep (v := y) rfl rfl rfl rfl rfl rfl ?_ ?_
  · intro w' hw' hI K hK
    go_wp2_with fail
    exact hK _ _ rfl (Below.refl _ _)
  simp only [Act.put, List.setIfInBounds_toArray, List.set_cons_succ, List.set_cons_zero]
  refine seqYA_nil ?_
  intro W8 hp hW hB oh
  try dsimp only at hp hB oh
  have hb9 := below_onto hb8 hW
  have OS := Lib.hid (own_below OS.out hW)
  have OM := Lib.hid (own_below OM.out hW)
  have hA := hA.below hW hA.lt
  have OH := Lib.hid oh
  clear hW hb8 oh l0 s0 l1 s1 l2 s2 g0 g1 g2 HE HE0 HI' HS' hp
  obtain ⟨ra, fa, -, -, la⟩ := hA.facts
  obtain ⟨rb, fb, -, -, lb⟩ := hB.facts
  go_wp2_with fail
  refine (eqLev_same _ _).mono ?_
  rintro e w9 ⟨rfl, hb4⟩
  have OS := Lib.hid (own_below OS.out hb4)
  have OM := Lib.hid (own_below OM.out hb4)
  have OH := Lib.hid (own_below OH.out hb4)
  have hb10 := below_onto hb9 hb4
  clear hA hB ra fa la rb fb lb hb9 hb4
  go_wp2_with fail
  refine (eqCellS_same n xs (by omega) HX.out _ _ _ _ _ OH.out OS.out).mono ?_
  rintro e w10 ⟨rfl, hb4⟩
  have OM := Lib.hid (own_below OM.out hb4)
  have hb11 := below_onto hb10 hb4
  clear hb10 hb4 OS OH
  go_wp2_with fail
  refine (heldCellS_one Bg n M _ _ (by omega) hM OM.out).mono ?_
  rintro e w11 ⟨rfl, hb4⟩
  have hb12 := below_onto hb11 hb4
  clear hb11 hb4 OM
  go_wp2_with fail
  go_ret
  exact ⟨rfl, hb12⟩

theorem exactMoleNights (A : Lawn) (hA : A.Fits) (g : Nat → Nat → Int) (hg : LevFits g) (cx cy : Int) (hc : (-128 ≤ cx ∧ cx ≤ 127) ∧ -128 ≤ cy ∧ cy ≤ 127) (N : Int) {a0 a1 a2 a3 a4 : Addr} (w : World) (hE : ErrsIn w a0 a1 a2 a3 a4) :
    Calls Tryd.prog 6 #[.agg A.cells, .agg (levV g), .agg #[.int .i8 cx, .int .i8 cy], .int .i64 N] w fun e w' => e = .returned (.bool true) ∧ Below w.heap.size w w' := by
  cases hk : chkE A g (upZ N 60) [(cx, cy)] with
  | some k =>
    exact exactMoleNights_walk A g cx cy N (fun _ _ => 0) (errZ k) 0 [] (by omega) (fun j hj => by omega) (fun w hE => inights_bad A hA g cx cy N k hk w hE)
      (fun w => snights_bad A hA g hg cx cy N hc (errZ k) (by unfold chkC; rw [hk]) (errZ_ne k) w) w hE
  | none =>
    obtain ⟨hv, hgr⟩ := chkE_none hk
    have hV := (levB_true hv).1
    have hu : upZ N 60 = true := by
      cases hu : upZ N 60 with
      | true => rfl
      | false => rw [hu] at hk; unfold chkE at hk; rw [hv] at hk; simp at hk
    obtain ⟨q, rfl, rfl, hq⟩ := cell_Q hV (hgr (cx, cy) (by simp))
    unfold upZ at hu
    simp only [Bool.and_eq_true, decide_eq_true_eq] at hu
    obtain ⟨m, rfl⟩ : ∃ m : Nat, N = m := ⟨N.toNat, by omega⟩
    exact exactMoleNights_walk A g _ _ _ (stQ A g q m).1 0 (m + 1) (flatV (pathQ A g q m)) (by omega) (flatV_ints _ _ (pathQ_length A g q m))
      (fun w hE => inights_good A hA g hv q hq m (by omega) w hE)
      (fun w => smoleNights_good A hA g hg hv q hq m (by omega) w) w hE
end Go.Proofs.YteaajkkhbflmdaaDoor
