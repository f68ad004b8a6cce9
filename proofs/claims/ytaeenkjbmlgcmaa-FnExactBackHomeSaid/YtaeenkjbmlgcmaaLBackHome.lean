/- The law on BackHome. -/
import Derived.Test.YtaeenkjbmlgcmaaSBackH
import Derived.Test.YtaeenkjbmlgcmaaIBackH
import Derived.Test.YtaeenkjbmlgcmaaZR
import Derived.Test.YtaeenkjbmlgcmaaMarkCellS
import Derived.Test.YtaeenkjbmlgcmaaZD
import Derived.Test.YtaeenkjbmlgcmaaZC
namespace Go.Proofs.Ytaeenkjbmlgcmaa
open Go.RowKit
set_option linter.unusedVariables false
attribute [local go_sem ↓] loadRow loadGrid loadLawn loadMirror storeRow storeGrid storeLawn allocRow allocGrid allocLawn buildZero buildSides

set_option maxRecDepth 100000 in
set_option maxHeartbeats 2000000 in
theorem exactBackHome_walk (A : Lawn) (dx dy : Int) (cx cy : Int)    (m : Int) (n : Nat) (xs : List Value) (hn1 : n ≤ 1000000) (hx : ∀ j, j < n * 2 → ∃ z, xs[j]? = some (.int .i8 z))
    (HI : ∀ w : World, Calls Try.prog 39 #[.agg A.cells, .agg #[.int .i8 dx, .int .i8 dy], .agg #[.int .i8 cx, .int .i8 cy]] w fun e w' => (∃ v, e = .returned (.tuple #[v, .int .i64 m]) ∧ w'.ownsRow w.heap.size 37 2 v n xs) ∧ Below w.heap.size w w')
    (HS : ∀ w : World, Calls Try.prog 38 #[.agg A.cells, .agg #[.int .i8 dx, .int .i8 dy], .agg #[.int .i8 cx, .int .i8 cy]] w fun e w' => (∃ v, e = .returned (.tuple #[v, .int .i64 m]) ∧ w'.ownsRow w.heap.size 37 2 v n xs) ∧ Below w.heap.size w w') (w : World) :
    Calls Try.prog 9 #[.agg A.cells, .agg #[.int .i8 dx, .int .i8 dy], .agg #[.int .i8 cx, .int .i8 cy]] w fun e w' => e = .returned (.bool true) ∧ Below w.heap.size w w' := by
  have HI' := Lib.hid HI
  have HS' := Lib.hid HS
  have HX := Lib.hid hx
  clear HI HS hx
  go_enter Try.func9, Try.ntmps9
  go_wp2_with fail
  have g0 : Holds (((w.alloc (.cells A.cells 26)).alloc (.cells #[.int .i8 dx, .int .i8 dy] 33)).alloc (.cells #[.int .i8 cx, .int .i8 cy] 33)) (w.heap.size) A.cells := ((Holds.new w A.cells 26).alloc (.cells #[.int .i8 dx, .int .i8 dy] 33)).alloc (.cells #[.int .i8 cx, .int .i8 cy] 33)
  have g1 : Holds (((w.alloc (.cells A.cells 26)).alloc (.cells #[.int .i8 dx, .int .i8 dy] 33)).alloc (.cells #[.int .i8 cx, .int .i8 cy] 33)) (w.heap.size + 1) #[.int .i8 dx, .int .i8 dy] := (Holds.new' (w.alloc (.cells A.cells 26)) #[.int .i8 dx, .int .i8 dy] 33 (w.heap.size + 1) (by simp)).alloc (.cells #[.int .i8 cx, .int .i8 cy] 33)
  have g2 : Holds (((w.alloc (.cells A.cells 26)).alloc (.cells #[.int .i8 dx, .int .i8 dy] 33)).alloc (.cells #[.int .i8 cx, .int .i8 cy] 33)) (w.heap.size + 2) #[.int .i8 cx, .int .i8 cy] := Holds.new' ((w.alloc (.cells A.cells 26)).alloc (.cells #[.int .i8 dx, .int .i8 dy] 33)) #[.int .i8 cx, .int .i8 cy] 33 (w.heap.size + 2) (by simp)
  have hb : Below w.heap.size w (((w.alloc (.cells A.cells 26)).alloc (.cells #[.int .i8 dx, .int .i8 dy] 33)).alloc (.cells #[.int .i8 cx, .int .i8 cy] 33)) := (((Below.refl w.heap.size w).alloc (Nat.le_refl _) (.cells A.cells 26)).alloc (by simp; try omega) (.cells #[.int .i8 dx, .int .i8 dy] 33)).alloc (by simp; try omega) (.cells #[.int .i8 cx, .int .i8 cy] 33)
  obtain ⟨W, hW⟩ : ∃ W, (((w.alloc (.cells A.cells 26)).alloc (.cells #[.int .i8 dx, .int .i8 dy] 33)).alloc (.cells #[.int .i8 cx, .int .i8 cy] 33)) = W := ⟨_, rfl⟩
  rw [hW] at g0 g1 g2 hb ⊢
  clear hW
  obtain ⟨r0, s0⟩ := g0.later
  obtain ⟨r1, s1⟩ := g1.later
  obtain ⟨r2, s2⟩ := g2.later
  refine wp_region_stages 6 rfl rfl (by kernel_rfl) (by kernel_rfl) ?_
  simp only [List.take_succ_cons, List.take_zero, List.drop_succ_cons, List.drop_zero]
  iterate 6
    apply wpGrow_plain rfl
    · intro w' hw' K hK
      have e1 := s1 _ hw'
      have e2 := s2 _ hw'
      go_wp2_with (first | (go_at_call 13; refine (toLawn_any _ _).mono ?_; rintro e w1 ⟨rfl, hb1⟩) | (go_at_call 16; refine (toCell_any _ _ _).mono ?_; rintro e w1 ⟨rfl, hb1⟩))
      first | exact hK _ _ rfl hw' | exact hK _ _ rfl (below_onto hw' hb1)
    simp only [Act.put, List.setIfInBounds_toArray, List.set_cons_succ, List.set_cons_zero]
  refine wpGrow_nil ?_
  intro w2a hb1
  go_wp2_with fail
  refine (HS'.out _).mono ?_
  rintro e w2b ⟨⟨vs, rfl, os⟩, hb2⟩
  dsimp only
  iterate 5
    apply wpGrow_plain rfl
    · intro w' hw' K hK
      go_wp2_with fail
      exact hK _ _ rfl hw'
    simp only [Act.put, List.setIfInBounds_toArray, List.set_cons_succ, List.set_cons_zero]
  refine wpGrow_nil ?_
  intro w2 hb3
  have os := own_below os hb3
  have hb3 := below_onto (below_onto hb1 hb2) hb3
  have hsz := hb1.size
  obtain ⟨Bvs, hBvs⟩ : ∃ B, w2a.heap.size = B := ⟨_, rfl⟩
  rw [hBvs] at os hsz
  clear hb1 hb2 r0 s0 r1 s1 r2 s2
  have hb4 := below_onto hb hb3
  have g0 := g0.below hb3 g0.lt
  have g1 := g1.below hb3 g1.lt
  have g2 := g2.below hb3 g2.lt
  have OS := Lib.hid os
  clear hb hb3 os hsz hBvs
  obtain ⟨r0, s0⟩ := g0.later
  obtain ⟨r1, s1⟩ := g1.later
  obtain ⟨r2, s2⟩ := g2.later
  go_wp2_with fail
  refine wp_region_stages 6 rfl rfl (by kernel_rfl) (by kernel_rfl) ?_
  simp only [List.take_succ_cons, List.take_zero, List.drop_succ_cons, List.drop_zero]
  iterate 6
    apply wpGrow_plain rfl
    · intro w' hw' K hK
      have e1 := s1 _ hw'
      have e2 := s2 _ hw'
      go_wp2_with (first | (go_at_call 13; refine (toLawn_any _ _).mono ?_; rintro e w1 ⟨rfl, hb1⟩) | (go_at_call 16; refine (toCell_any _ _ _).mono ?_; rintro e w1 ⟨rfl, hb1⟩))
      first | exact hK _ _ rfl hw' | exact hK _ _ rfl (below_onto hw' hb1)
    simp only [Act.put, List.setIfInBounds_toArray, List.set_cons_succ, List.set_cons_zero]
  refine wpGrow_nil ?_
  intro w4a hb1
  go_wp2_with fail
  refine (HI'.out _).mono ?_
  rintro e w4b ⟨⟨vg, rfl, og⟩, hb2⟩
  dsimp only
  iterate 5
    apply wpGrow_plain rfl
    · intro w' hw' K hK
      go_wp2_with fail
      exact hK _ _ rfl hw'
    simp only [Act.put, List.setIfInBounds_toArray, List.set_cons_succ, List.set_cons_zero]
  refine wpGrow_nil ?_
  intro w4 hb3
  have og := own_below og hb3
  have hb3 := below_onto (below_onto hb1 hb2) hb3
  have hsz := hb1.size
  obtain ⟨Bvg, hBvg⟩ : ∃ B, w4a.heap.size = B := ⟨_, rfl⟩
  rw [hBvg] at og hsz
  clear hb1 hb2 r0 s0 r1 s1 r2 s2
  have hb5 := below_onto hb4 hb3
  have OS2 := Lib.hid (own_below OS.out hb3)
  have hap := own_apart OS.out hsz og
  have hlow : w.heap.size < Bvg ∧ w.heap.size + 1 < Bvg ∧ w.heap.size + 2 < Bvg := by have := g0.lt; have := g1.lt; have := g2.lt; omega
  have g0 := g0.below hb3 g0.lt
  have g1 := g1.below hb3 g1.lt
  have g2 := g2.below hb3 g2.lt
  have OG := Lib.hid og
  clear hb4 hb3 og OS hsz hBvg
  go_wp2_with fail
  refine (eqCellS_same n xs (by omega) HX.out _ _ _ _ _ OG.out OS2.out).mono ?_
  rintro e w5 ⟨rfl, hb3⟩
  have OS3 := Lib.hid (own_below OS2.out hb3)
  have OG3 := Lib.hid (own_below OG.out hb3)
  have hb6 := below_onto hb5 hb3
  have g0 := g0.below hb3 g0.lt
  have g1 := g1.below hb3 g1.lt
  have g2 := g2.below hb3 g2.lt
  clear hb5 hb3 OS2 OG
  go_wp2_with fail
  obtain ⟨M, hM⟩ : ∃ M, 1 + 2 * n = M := ⟨_, rfl⟩
  refine (markCellS_one Bvg n M _ _ _ (by omega) hM OG3.out).mono ?_
  rintro e w6 ⟨rfl, om, hgr⟩
  have OS4 := Lib.hid (OS3.out.kept hgr hap)
  have OM := Lib.hid om
  have g0 := held_grown g0 OG3.out hgr (by omega)
  have g1 := held_grown g1 OG3.out hgr (by omega)
  have g2 := held_grown g2 OG3.out hgr (by omega)
  have hb7 := below_marked hb6 OG3.out hgr (by omega) (by have := hb6.size; omega)
  have d1 : decide ((M : Int) < 0) = false := by simp
  clear hb6 om hgr hap OS3 OG3
  go_wp2_with fail
  refine (heldCellS_one Bvg n M _ _ (by omega) hM OM.out).mono ?_
  rintro e w7 ⟨rfl, hb3⟩
  have OS5 := Lib.hid (own_below OS4.out hb3)
  have OM2 := Lib.hid (own_below OM.out hb3)
  have hb8 := below_onto hb7 hb3
  have g0 := g0.below hb3 g0.lt
  have g1 := g1.below hb3 g1.lt
  have g2 := g2.below hb3 g2.lt
  clear hb7 hb3 OS4 OM
  obtain ⟨r0, s0⟩ := g0.later
  obtain ⟨r1, s1⟩ := g1.later
  obtain ⟨r2, s2⟩ := g2.later
  go_wp2_with fail
  refine wp_region_stages 6 rfl rfl (by kernel_rfl) (by kernel_rfl) ?_
  simp only [List.take_succ_cons, List.take_zero, List.drop_succ_cons, List.drop_zero]
  iterate 6
    apply wpGrow_plain rfl
    · intro w' hw' K hK
      have e1 := s1 _ hw'
      have e2 := s2 _ hw'
      go_wp2_with (first | (go_at_call 13; refine (toLawn_any _ _).mono ?_; rintro e w1 ⟨rfl, hb1⟩) | (go_at_call 16; refine (toCell_any _ _ _).mono ?_; rintro e w1 ⟨rfl, hb1⟩))
      first | exact hK _ _ rfl hw' | exact hK _ _ rfl (below_onto hw' hb1)
    simp only [Act.put, List.setIfInBounds_toArray, List.set_cons_succ, List.set_cons_zero]
  refine wpGrow_nil ?_
  intro w9a hb1
  go_wp2_with fail
  refine (HI'.out _).mono ?_
  rintro e w9b ⟨⟨vh, rfl, oh⟩, hb2⟩
  dsimp only
  iterate 5
    apply wpGrow_plain rfl
    · intro w' hw' K hK
      go_wp2_with fail
      exact hK _ _ rfl hw'
    simp only [Act.put, List.setIfInBounds_toArray, List.set_cons_succ, List.set_cons_zero]
  refine wpGrow_nil ?_
  intro w9 hb3
  have oh := own_below oh hb3
  have hb3 := below_onto (below_onto hb1 hb2) hb3
  have hsz := hb1.size
  obtain ⟨Bvh, hBvh⟩ : ∃ B, w9a.heap.size = B := ⟨_, rfl⟩
  rw [hBvh] at oh hsz
  clear hb1 hb2 r0 s0 r1 s1 r2 s2
  have hb9 := below_onto hb8 hb3
  have OS6 := Lib.hid (own_below OS5.out hb3)
  have OM3 := Lib.hid (own_below OM2.out hb3)
  have OH := Lib.hid oh
  clear hb8 hb3 g0 g1 g2 oh OS5 OM2 hsz hBvh
  go_wp2_with fail
  refine (eqCellS_same n xs (by omega) HX.out _ _ _ _ _ OH.out OS6.out).mono ?_
  rintro e w10 ⟨rfl, hb1⟩
  have OM4 := Lib.hid (own_below OM3.out hb1)
  have hb10 := below_onto hb9 hb1
  clear hb9 hb1 OS6 OM3 OH
  go_wp2_with fail
  refine (heldCellS_one Bvg n M _ _ (by omega) hM OM4.out).mono ?_
  rintro e w11 ⟨rfl, hb1⟩
  have hb11 := below_onto hb10 hb1
  clear hb10 hb1 OM4
  go_wp2_with fail
  go_ret
  exact ⟨rfl, hb11⟩

theorem flatP_intsB (l : List Pt) (n : Nat) (hn : l.length = n) : ∀ j, j < n * 2 → ∃ z, (flatP l)[j]? = some (.int .i8 z) := by
  intro j hj
  obtain ⟨c, hc⟩ : ∃ c, l[j / 2]? = some c := ⟨_, List.getElem?_eq_getElem (by omega)⟩
  obtain ⟨h1, h2⟩ := flatP_get _ _ _ hc
  rcases (by omega : j = j / 2 * 2 ∨ j = j / 2 * 2 + 1) with e | e
  · exact ⟨_, by rw [e]; exact h1⟩
  · exact ⟨_, by rw [e]; exact h2⟩
theorem exactBackHome (A : Lawn) (hA : A.Fits) (d : Int × Int) (hd : (-128 ≤ d.1 ∧ d.1 ≤ 127) ∧ -128 ≤ d.2 ∧ d.2 ≤ 127) (c : Int × Int) (hc : (-128 ≤ c.1 ∧ c.1 ≤ 127) ∧ -128 ≤ c.2 ∧ c.2 ≤ 127) (w : World) :
    Calls Try.prog 9 #[.agg A.cells, .agg #[.int .i8 d.1, .int .i8 d.2], .agg #[.int .i8 c.1, .int .i8 c.2]] w fun e w' => e = .returned (.bool true) ∧ Below w.heap.size w w' :=
  exactBackHome_walk A d.1 d.2 c.1 c.2 (homeC A c.1 c.2 d.1 d.2) (backL A (c.1, c.2) (d.1, d.2)).length (flatP (backL A (c.1, c.2) (d.1, d.2))) (by have := backL_len A (c.1, c.2) (d.1, d.2); omega) (flatP_intsB _ _ rfl) (implBackH_any A hA d.1 d.2 c.1 c.2) (specBackH_any A hA d.1 d.2 c.1 c.2 hd.1.1 hd.1.2 hd.2.1 hd.2.2 hc.1.1 hc.1.2 hc.2.1 hc.2.2) w

end Go.Proofs.Ytaeenkjbmlgcmaa
