/- ValidWeeds of the program. -/
import Derived.Test.YtojccgaldadcnaaWeedsIn
import Derived.Test.YtojccgaldadcnaaGrowP
import Derived.Test.YtojccgaldadcnaaZD
namespace Go.Proofs.Ytojccgaldadcnaa
open Go.RowKit
set_option linter.unusedVariables false
set_option linter.unusedSimpArgs false
attribute [local go_sem ↓] loadRow loadGrid loadLawn loadMirror storeRow storeGrid storeLawn allocRow allocGrid allocLawn buildZero buildSides loadWd storeWd allocWd buildZWd eqlWd

theorem weedsIn_any (L : Lawn) (hV : validB L = true) (hL : L.Fits) (ks : List Int) (hn : ks.length ≤ 100) (ga : Nat) (w : World) (hk : Holds w ga (kV ks)) :
    Calls Try.prog 86 #[.agg L.cells, .slice (some ⟨ga, 0, none⟩) ks.length ks.length] w fun e w' => e = .returned (.agg (bV 10 (kindS L ks))) ∧ Below w.heap.size w w' := by
  obtain ⟨h1, h2, -⟩ := validB_true hV
  exact weedsIn_loop L.wide.toNat L.high.toNat (by omega) (by omega) L (by omega) (by omega) hL ks hn ga w hk

set_option maxRecDepth 100000 in
set_option maxHeartbeats 2000000 in
/-- **ValidWeeds answers whether the weeds are valid for the lawn.** -/
theorem implWeeds_any (L : Lawn) (hL : L.Fits) (s : Nat → Nat → Bool) (w : World) :
    Calls Try.prog 41 #[.agg L.cells, .agg (bV 10 s)] w fun e w' => e = .returned (.bool (weedB L s)) ∧ Below w.heap.size w w' := by
  have g0 := (Holds.new w L.cells 30).alloc (.cells (bV 10 s) 32)
  have g1 := Holds.new' (w.alloc (.cells L.cells 30)) (bV 10 s) 32 (w.heap.size + 1) (by simp)
  have hb0 := ((Below.refl w.heap.size w).alloc (Nat.le_refl _) (.cells L.cells 30)).alloc (by simp) (.cells (bV 10 s) 32)
  cases hv : validB L
  case true =>
    have HQ := Lib.hid (weed_eq (s := s) hv)
    have HI := Lib.hid (show ∀ w : World, Calls Try.prog 48 #[.agg L.cells] w fun e w' => e = .returned (.bool true) ∧ Below w.heap.size w w' from fun w => hv ▸ implValid_any L hL w)
    have HW := Lib.hid (fun ga w hk => weedsIn_any L hv hL [0, 1] (by decide) ga w hk)
    clear hv hL
    go_enter Try.func41, Try.ntmps41
    go_wp2_with fail
    obtain ⟨W1, hW1⟩ : ∃ W1, (w.alloc (.cells L.cells 30)).alloc (.cells (bV 10 s) 32) = W1 := ⟨_, rfl⟩
    rw [hW1] at g0 g1 hb0 ⊢
    have hz : w.heap.size ≤ W1.heap.size := hb0.size
    clear hW1
    obtain ⟨r0, -⟩ := g0.later
    obtain ⟨r1, -⟩ := g1.later
    refine wp_region_growP 11 6 [7] (fun p w' => Holds w' p (kV [0, 1])) (fun p a b h hb => h.below hb h.lt)
      (fun p => [.agg L.cells, .bool true, .bool true, .agg (bV 10 s), .agg (bV 10 s), .agg L.cells, .slice (some ⟨p, 0, none⟩) 2 2, .agg (bV 10 (kindS L [0, 1])), .agg (bV 10 fun y x => s y x && kindS L [0, 1] y x), .bool (bEq 10 s fun y x => s y x && kindS L [0, 1] y x), .bool (bEq 10 s fun y x => s y x && kindS L [0, 1] y x)]) (by
        intro p p' j h1 h2
        match j with
        | 0 => rfl
        | 1 => rfl
        | 2 => rfl
        | 3 => rfl
        | 4 => rfl
        | 5 => rfl
        | 6 => exact absurd rfl h1
        | 7 => rfl
        | 8 => rfl
        | 9 => rfl
        | 10 => rfl
        | j + 11 => rfl) (by kernel_rfl) (by kernel_rfl) (by kernel_rfl) ?_
    intro p
    simp only [List.take_succ_cons, List.take_zero, List.drop_succ_cons, List.drop_zero]
    refine seqP_free (v := .agg L.cells) rfl rfl rfl rfl ?_ ?_
    · intro w' hw' K hK
      go_wp2_with fail
      exact hK _ _ rfl (Below.refl _ _)
    simp only [Act.put, List.setIfInBounds_toArray, List.set_cons_succ, List.set_cons_zero]
    refine seqP_free (v := .bool true) rfl rfl rfl rfl ?_ ?_
    · intro w' hw' K hK
      go_wp2_with fail
      refine (HI.out _).mono ?_
      rintro e w2 ⟨rfl, hb2⟩
      go_wp2_with fail
      exact hK _ _ rfl hb2
    simp only [Act.put, List.setIfInBounds_toArray, List.set_cons_succ, List.set_cons_zero]
    refine seqP_free (v := .bool true) rfl rfl rfl rfl ?_ ?_
    · intro w' hw' K hK
      go_wp2_with fail
      exact hK _ _ rfl (Below.refl _ _)
    simp only [Act.put, List.setIfInBounds_toArray, List.set_cons_succ, List.set_cons_zero]
    refine seqP_freeW (v := .agg (bV 10 s)) rfl rfl rfl rfl ?_ ?_
    · intro w' hw' K hK
      go_wp2_with fail
      exact hK _ _ rfl (Below.refl _ _)
    simp only [Act.put, List.setIfInBounds_toArray, List.set_cons_succ, List.set_cons_zero]
    refine seqP_freeW (v := .agg (bV 10 s)) rfl rfl rfl rfl ?_ ?_
    · intro w' hw' K hK
      go_wp2_with fail
      exact hK _ _ rfl (Below.refl _ _)
    simp only [Act.put, List.setIfInBounds_toArray, List.set_cons_succ, List.set_cons_zero]
    refine seqP_freeW (v := .agg L.cells) rfl rfl rfl rfl ?_ ?_
    · intro w' hw' K hK
      go_wp2_with fail
      exact hK _ _ rfl (Below.refl _ _)
    simp only [Act.put, List.setIfInBounds_toArray, List.set_cons_succ, List.set_cons_zero]
    refine seqP_callW (v := .slice (some ⟨p, 0, none⟩) 2 2) rfl rfl rfl ?_ ?_
    · rintro w' hw' rfl K hK
      go_wp2_with fail
      exact hK _ _ rfl ((Below.refl _ _).alloc (Nat.le_refl _) _) (Holds.new _ _ _)
    simp only [Act.put, List.setIfInBounds_toArray, List.set_cons_succ, List.set_cons_zero]
    refine seqP_depW (v := .agg (bV 10 (kindS L [0, 1]))) rfl rfl rfl rfl ?_ ?_
    · intro w' hw' hi K hK
      go_wp2_with fail
      refine (HW.out _ _ hi).mono ?_
      rintro e w2 ⟨rfl, hb2⟩
      go_wp2_with fail
      exact hK _ _ rfl hb2
    simp only [Act.put, List.setIfInBounds_toArray, List.set_cons_succ, List.set_cons_zero]
    refine seqP_freeW (v := .agg (bV 10 fun y x => s y x && kindS L [0, 1] y x)) rfl rfl rfl rfl ?_ ?_
    · intro w' hw' K hK
      go_wp2_with fail
      refine (wdWithin_any _ _ _).mono ?_
      rintro e w2 ⟨rfl, hb2⟩
      go_wp2_with fail
      exact hK _ _ rfl hb2
    simp only [Act.put, List.setIfInBounds_toArray, List.set_cons_succ, List.set_cons_zero]
    refine seqP_freeW (v := .bool (bEq 10 s fun y x => s y x && kindS L [0, 1] y x)) rfl rfl rfl rfl ?_ ?_
    · intro w' hw' K hK
      go_wp2_with fail
      exact hK _ _ rfl (Below.refl _ _)
    simp only [Act.put, List.setIfInBounds_toArray, List.set_cons_succ, List.set_cons_zero]
    refine seqP_free (v := .bool (bEq 10 s fun y x => s y x && kindS L [0, 1] y x)) rfl rfl rfl rfl ?_ ?_
    · intro w' hw' K hK
      go_wp2_with fail
      exact hK _ _ rfl (Below.refl _ _)
    simp only [Act.put, List.setIfInBounds_toArray, List.set_cons_succ, List.set_cons_zero]
    intro W hW1 hW hi
    go_wp2_with fail
    go_ret
    exact ⟨by rw [← HQ.out]; rfl, hb0.trans (hW.mono hz)⟩
  case false =>
    rw [weedB_lawn hv]
    have HI := Lib.hid (show ∀ w : World, Calls Try.prog 48 #[.agg L.cells] w fun e w' => e = .returned (.bool false) ∧ Below w.heap.size w w' from fun w => hv ▸ implValid_any L hL w)
    clear hv hL
    go_enter Try.func41, Try.ntmps41
    go_wp2_with fail
    obtain ⟨W1, hW1⟩ : ∃ W1, (w.alloc (.cells L.cells 30)).alloc (.cells (bV 10 s) 32) = W1 := ⟨_, rfl⟩
    rw [hW1] at g0 g1 hb0 ⊢
    have hz : w.heap.size ≤ W1.heap.size := hb0.size
    clear hW1
    obtain ⟨r0, -⟩ := g0.later
    obtain ⟨r1, -⟩ := g1.later
    refine wp_region_grow 11 (by kernel_rfl) (by kernel_rfl) ?_
    simp only [List.take_succ_cons, List.take_zero, List.drop_succ_cons, List.drop_zero]
    iterate 3
      apply wpGrow_plain rfl
      · intro w' hw' K hK
        go_wp2_with (go_at_call 48; refine (HI.out _).mono ?_; rintro e w2 ⟨rfl, hb2⟩)
        first | exact hK _ _ rfl hw' | exact hK _ _ rfl (below_onto hw' hb2)
      simp only [Act.put, List.setIfInBounds_toArray, List.set_cons_succ, List.set_cons_zero]
    iterate 7
      refine wpGrow_off rfl ?_
      simp only [Act.put, List.setIfInBounds_toArray, List.set_cons_succ, List.set_cons_zero]
    apply wpGrow_plain rfl
    · intro w' hw' K hK
      go_wp2_with fail
      exact hK _ _ rfl hw'
    simp only [Act.put, List.setIfInBounds_toArray, List.set_cons_succ, List.set_cons_zero]
    refine wpGrow_nil ?_
    intro W hW
    go_wp2_with fail
    go_ret
    exact ⟨rfl, hb0.trans (hW.mono hz)⟩
end Go.Proofs.Ytojccgaldadcnaa
