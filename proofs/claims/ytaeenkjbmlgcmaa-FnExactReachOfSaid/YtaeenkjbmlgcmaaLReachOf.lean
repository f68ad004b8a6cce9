/- The law on ReachOf. -/
import Derived.Test.YtaeenkjbmlgcmaaSReachF
import Derived.Test.YtaeenkjbmlgcmaaIReachF
import Derived.Test.YtaeenkjbmlgcmaaEqCellS
import Derived.Test.YtaeenkjbmlgcmaaMarkCellS
import Derived.Test.YtaeenkjbmlgcmaaZD
import Derived.Test.YtaeenkjbmlgcmaaZC
namespace Go.Proofs.Ytaeenkjbmlgcmaa
open Go.RowKit
set_option linter.unusedVariables false
attribute [local go_sem ↓] loadRow loadGrid loadLawn loadMirror storeRow storeGrid storeLawn allocRow allocGrid allocLawn buildZero buildSides

set_option maxRecDepth 100000 in
set_option maxHeartbeats 2000000 in
theorem exactReachOf_walk (A : Lawn) (cx cy : Int)  (k : Int)  (m : Int) (n : Nat) (xs : List Value) (hn1 : n ≤ 1000000) (hx : ∀ j, j < n * 2 → ∃ z, xs[j]? = some (.int .i8 z))
    (HI : ∀ w : World, Calls Try.prog 24 #[.agg A.cells, .agg #[.int .i8 cx, .int .i8 cy], .int .i64 k] w fun e w' => (∃ v, e = .returned (.tuple #[v, .int .i64 m]) ∧ w'.ownsRow w.heap.size 37 2 v n xs) ∧ Below w.heap.size w w')
    (HS : ∀ w : World, Calls Try.prog 23 #[.agg A.cells, .agg #[.int .i8 cx, .int .i8 cy], .int .i64 k] w fun e w' => (∃ v, e = .returned (.tuple #[v, .int .i64 m]) ∧ w'.ownsRow w.heap.size 37 2 v n xs) ∧ Below w.heap.size w w') (w : World) :
    Calls Try.prog 6 #[.agg A.cells, .agg #[.int .i8 cx, .int .i8 cy], .int .i64 k] w fun e w' => e = .returned (.bool true) ∧ Below w.heap.size w w' := by
  have HI' := Lib.hid HI
  have HS' := Lib.hid HS
  have HX := Lib.hid hx
  clear HI HS hx
  go_enter Try.func6, Try.ntmps6
  go_wp2_with fail
  have g0 : Holds ((w.alloc (.cells A.cells 26)).alloc (.cells #[.int .i8 cx, .int .i8 cy] 33)) (w.heap.size) A.cells := (Holds.new w A.cells 26).alloc (.cells #[.int .i8 cx, .int .i8 cy] 33)
  have g1 : Holds ((w.alloc (.cells A.cells 26)).alloc (.cells #[.int .i8 cx, .int .i8 cy] 33)) (w.heap.size + 1) #[.int .i8 cx, .int .i8 cy] := Holds.new' (w.alloc (.cells A.cells 26)) #[.int .i8 cx, .int .i8 cy] 33 (w.heap.size + 1) (by simp)
  have hb : Below w.heap.size w ((w.alloc (.cells A.cells 26)).alloc (.cells #[.int .i8 cx, .int .i8 cy] 33)) := ((Below.refl w.heap.size w).alloc (Nat.le_refl _) (.cells A.cells 26)).alloc (by simp; try omega) (.cells #[.int .i8 cx, .int .i8 cy] 33)
  obtain ⟨W, hW⟩ : ∃ W, ((w.alloc (.cells A.cells 26)).alloc (.cells #[.int .i8 cx, .int .i8 cy] 33)) = W := ⟨_, rfl⟩
  rw [hW] at g0 g1 hb ⊢
  clear hW
  obtain ⟨r0, s0⟩ := g0.later
  obtain ⟨r1, s1⟩ := g1.later
  refine wp_region_stages 5 rfl rfl (by kernel_rfl) (by kernel_rfl) ?_
  simp only [List.take_succ_cons, List.take_zero, List.drop_succ_cons, List.drop_zero]
  iterate 5
    apply wpGrow_plain rfl
    · intro w' hw' K hK
      have e1 := s1 _ hw'
      go_wp2_with (first | (go_at_call 13; refine (toLawn_any _ _).mono ?_; rintro e w1 ⟨rfl, hb1⟩) | (go_at_call 16; refine (toCell_any _ _ _).mono ?_; rintro e w1 ⟨rfl, hb1⟩))
      first | exact hK _ _ rfl hw' | exact hK _ _ rfl (below_onto hw' hb1)
    simp only [Act.put, List.setIfInBounds_toArray, List.set_cons_succ, List.set_cons_zero]
  refine wpGrow_nil ?_
  intro w2a hb1
  go_wp2_with fail
  refine (HS'.out _).mono ?_
  rintro e w2b ⟨⟨vs, rfl, os⟩, hb2⟩
  dsimp only
  iterate 5
    apply wpGrow_plain rfl
    · intro w' hw' K hK
      go_wp2_with fail
      exact hK _ _ rfl hw'
    simp only [Act.put, List.setIfInBounds_toArray, List.set_cons_succ, List.set_cons_zero]
  refine wpGrow_nil ?_
  intro w2 hb3
  have os := own_below os hb3
  have hb3 := below_onto (below_onto hb1 hb2) hb3
  have hsz := hb1.size
  obtain ⟨Bvs, hBvs⟩ : ∃ B, w2a.heap.size = B := ⟨_, rfl⟩
  rw [hBvs] at os hsz
  clear hb1 hb2 r0 s0 r1 s1
  have hb4 := below_onto hb hb3
  have g0 := g0.below hb3 g0.lt
  have g1 := g1.below hb3 g1.lt
  have OS := Lib.hid os
  clear hb hb3 os hsz hBvs
  obtain ⟨r0, s0⟩ := g0.later
  obtain ⟨r1, s1⟩ := g1.later
  go_wp2_with fail
  refine wp_region_stages 5 rfl rfl (by kernel_rfl) (by kernel_rfl) ?_
  simp only [List.take_succ_cons, List.take_zero, List.drop_succ_cons, List.drop_zero]
  iterate 5
    apply wpGrow_plain rfl
    · intro w' hw' K hK
      have e1 := s1 _ hw'
      go_wp2_with (first | (go_at_call 13; refine (toLawn_any _ _).mono ?_; rintro e w1 ⟨rfl, hb1⟩) | (go_at_call 16; refine (toCell_any _ _ _).mono ?_; rintro e w1 ⟨rfl, hb1⟩))
      first | exact hK _ _ rfl hw' | exact hK _ _ rfl (below_onto hw' hb1)
    simp only [Act.put, List.setIfInBounds_toArray, List.set_cons_succ, List.set_cons_zero]
  refine wpGrow_nil ?_
  intro w4a hb1
  go_wp2_with fail
  refine (HI'.out _).mono ?_
  rintro e w4b ⟨⟨vg, rfl, og⟩, hb2⟩
  dsimp only
  iterate 5
    apply wpGrow_plain rfl
    · intro w' hw' K hK
      go_wp2_with fail
      exact hK _ _ rfl hw'
    simp only [Act.put, List.setIfInBounds_toArray, List.set_cons_succ, List.set_cons_zero]
  refine wpGrow_nil ?_
  intro w4 hb3
  have og := own_below og hb3
  have hb3 := below_onto (below_onto hb1 hb2) hb3
  have hsz := hb1.size
  obtain ⟨Bvg, hBvg⟩ : ∃ B, w4a.heap.size = B := ⟨_, rfl⟩
  rw [hBvg] at og hsz
  clear hb1 hb2 r0 s0 r1 s1
  have hb5 := below_onto hb4 hb3
  have OS2 := Lib.hid (own_below OS.out hb3)
  have hap := own_apart OS.out hsz og
  have hlow : w.heap.size < Bvg ∧ w.heap.size + 1 < Bvg := by have := g0.lt; have := g1.lt; omega
  have g0 := g0.below hb3 g0.lt
  have g1 := g1.below hb3 g1.lt
  have OG := Lib.hid og
  clear hb4 hb3 og OS hsz hBvg
  go_wp2_with fail
  refine (eqCellS_same n xs (by omega) HX.out _ _ _ _ _ OG.out OS2.out).mono ?_
  rintro e w5 ⟨rfl, hb3⟩
  have OS3 := Lib.hid (own_below OS2.out hb3)
  have OG3 := Lib.hid (own_below OG.out hb3)
  have hb6 := below_onto hb5 hb3
  have g0 := g0.below hb3 g0.lt
  have g1 := g1.below hb3 g1.lt
  clear hb5 hb3 OS2 OG
  go_wp2_with fail
  obtain ⟨M, hM⟩ : ∃ M, 1 + 2 * n = M := ⟨_, rfl⟩
  refine (markCellS_one Bvg n M _ _ _ (by omega) hM OG3.out).mono ?_
  rintro e w6 ⟨rfl, om, hgr⟩
  have OS4 := Lib.hid (OS3.out.kept hgr hap)
  have OM := Lib.hid om
  have g0 := held_grown g0 OG3.out hgr (by omega)
  have g1 := held_grown g1 OG3.out hgr (by omega)
  have hb7 := below_marked hb6 OG3.out hgr (by omega) (by have := hb6.size; omega)
  have d1 : decide ((M : Int) < 0) = false := by simp
  clear hb6 om hgr hap OS3 OG3
  go_wp2_with fail
  refine (heldCellS_one Bvg n M _ _ (by omega) hM OM.out).mono ?_
  rintro e w7 ⟨rfl, hb3⟩
  have OS5 := Lib.hid (own_below OS4.out hb3)
  have OM2 := Lib.hid (own_below OM.out hb3)
  have hb8 := below_onto hb7 hb3
  have g0 := g0.below hb3 g0.lt
  have g1 := g1.below hb3 g1.lt
  clear hb7 hb3 OS4 OM
  obtain ⟨r0, s0⟩ := g0.later
  obtain ⟨r1, s1⟩ := g1.later
  go_wp2_with fail
  refine wp_region_stages 5 rfl rfl (by kernel_rfl) (by kernel_rfl) ?_
  simp only [List.take_succ_cons, List.take_zero, List.drop_succ_cons, List.drop_zero]
  iterate 5
    apply wpGrow_plain rfl
    · intro w' hw' K hK
      have e1 := s1 _ hw'
      go_wp2_with (first | (go_at_call 13; refine (toLawn_any _ _).mono ?_; rintro e w1 ⟨rfl, hb1⟩) | (go_at_call 16; refine (toCell_any _ _ _).mono ?_; rintro e w1 ⟨rfl, hb1⟩))
      first | exact hK _ _ rfl hw' | exact hK _ _ rfl (below_onto hw' hb1)
    simp only [Act.put, List.setIfInBounds_toArray, List.set_cons_succ, List.set_cons_zero]
  refine wpGrow_nil ?_
  intro w9a hb1
  go_wp2_with fail
  refine (HI'.out _).mono ?_
  rintro e w9b ⟨⟨vh, rfl, oh⟩, hb2⟩
  dsimp only
  iterate 5
    apply wpGrow_plain rfl
    · intro w' hw' K hK
      go_wp2_with fail
      exact hK _ _ rfl hw'
    simp only [Act.put, List.setIfInBounds_toArray, List.set_cons_succ, List.set_cons_zero]
  refine wpGrow_nil ?_
  intro w9 hb3
  have oh := own_below oh hb3
  have hb3 := below_onto (below_onto hb1 hb2) hb3
  have hsz := hb1.size
  obtain ⟨Bvh, hBvh⟩ : ∃ B, w9a.heap.size = B := ⟨_, rfl⟩
  rw [hBvh] at oh hsz
  clear hb1 hb2 r0 s0 r1 s1
  have hb9 := below_onto hb8 hb3
  have OS6 := Lib.hid (own_below OS5.out hb3)
  have OM3 := Lib.hid (own_below OM2.out hb3)
  have OH := Lib.hid oh
  clear hb8 hb3 g0 g1 oh OS5 OM2 hsz hBvh
  go_wp2_with fail
  refine (eqCellS_same n xs (by omega) HX.out _ _ _ _ _ OH.out OS6.out).mono ?_
  rintro e w10 ⟨rfl, hb1⟩
  have OM4 := Lib.hid (own_below OM3.out hb1)
  have hb10 := below_onto hb9 hb1
  clear hb9 hb1 OS6 OM3 OH
  go_wp2_with fail
  refine (heldCellS_one Bvg n M _ _ (by omega) hM OM4.out).mono ?_
  rintro e w11 ⟨rfl, hb1⟩
  have hb11 := below_onto hb10 hb1
  clear hb10 hb1 OM4
  go_wp2_with fail
  go_ret
  exact ⟨rfl, hb11⟩

theorem reachL_le (L : Lawn) (x y full : Int) : (reachL L x y full).length ≤ 100 := by
  unfold reachL
  split
  · rename_i h
    obtain ⟨Wn, Hn, ⟨hW, hH⟩, -, hLw, hLh⟩ := valid_sides (askZ_zero h).1
    refine Nat.le_trans (List.length_filter_le _ _) (Nat.le_trans (List.length_filter_le _ _) ?_)
    rw [allC_length]
    exact Nat.le_trans (Nat.mul_le_mul (show L.high.toNat ≤ 10 by omega) (show L.wide.toNat ≤ 10 by omega)) (by omega)
  · simp
theorem exactReachOf (A : Lawn) (hA : A.Fits) (c : Int × Int) (hc : (-128 ≤ c.1 ∧ c.1 ≤ 127) ∧ -128 ≤ c.2 ∧ c.2 ≤ 127) (k : Int) (w : World) :
    Calls Try.prog 6 #[.agg A.cells, .agg #[.int .i8 c.1, .int .i8 c.2], .int .i64 k] w fun e w' => e = .returned (.bool true) ∧ Below w.heap.size w w' :=
  exactReachOf_walk A c.1 c.2 k (askZ A [(c.1, c.2)] k 0) (reachL A c.1 c.2 k).length (flatV (reachL A c.1 c.2 k)) (by have := reachL_le A c.1 c.2 k; omega) (flatV_ints _ _ rfl) (implReach_any A hA c.1 c.2 k) (specReach_any A hA c.1 c.2 k hc.1.1 hc.1.2 hc.2.1 hc.2.2) w

end Go.Proofs.Ytaeenkjbmlgcmaa
