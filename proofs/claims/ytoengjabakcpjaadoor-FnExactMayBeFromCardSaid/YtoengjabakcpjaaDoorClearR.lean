/- CutRow and HoeRow, of the program and of the model. -/
import Derived.Test.YtoengjabakcpjaaDoorCheckR
import Derived.Test.YtoengjabakcpjaaDoorGrowMP
import Derived.Test.YtoengjabakcpjaaDoorGrowS

namespace Go.Proofs.YtoengjabakcpjaaDoor
open Go.RowKit
set_option linter.unusedVariables false
set_option linter.unusedSimpArgs false
attribute [local go_sem ↓] loadRow loadGrid loadLawn loadMirror storeRow storeGrid storeLawn allocRow allocGrid allocLawn buildZero buildSides loadWd storeWd allocWd buildZWd eqlWd

/-- What CutRow and HoeRow answer. -/
def clrB (L : Lawn) (s : Nat → Nat → Bool) (r : Int) : Bool := weedB L s && upZ r (L.high - 1)
def clrR (L : Lawn) (s : Nat → Nat → Bool) (r : Int) (hd : Bool) : Nat → Nat → Bool := if clrB L s r then cutS L r.toNat hd s else fun _ _ => false
def clrN (L : Lawn) (s : Nat → Nat → Bool) (r : Int) (hd : Bool) : Int := if clrB L s r then (cntR s 10 : Nat) - (cntR (cutS L r.toNat hd s) 10 : Nat) else 0
def clrC (L : Lawn) (s : Nat → Nat → Bool) (r : Int) : Int := told (weedB L s) (upZ r (L.high - 1))
theorem clr_good {L : Lawn} {s : Nat → Nat → Bool} {r : Int} {hd : Bool} (h1 : weedB L s = true) (h2 : upZ r (L.high - 1) = true) : (∃ k : Nat, r = k ∧ (k : Int) < L.high ∧ clrR L s r hd = cutS L k hd s ∧ clrN L s r hd = (cntR s 10 : Nat) - (cntR (cutS L k hd s) 10 : Nat)) ∧ clrC L s r = 0 := by
  have hr : 0 ≤ r ∧ r ≤ L.high - 1 := by simpa [upZ] using h2
  refine ⟨⟨r.toNat, by omega, by omega, ?_, ?_⟩, by rw [clrC, h1, h2]; rfl⟩
  · rw [clrR, clrB, h1, h2]; rfl
  · rw [clrN, clrB, h1, h2]; rfl
theorem clr_bad {L : Lawn} {s : Nat → Nat → Bool} {r : Int} {hd : Bool} (h : clrC L s r ≠ 0) : clrR L s r hd = (fun _ _ => false) ∧ clrN L s r hd = 0 := by
  have hb : clrB L s r = false := by
    unfold clrC told at h
    unfold clrB
    cases h1 : weedB L s <;> cases h2 : upZ r (L.high - 1) <;> simp_all
  rw [clrR, clrN, hb]
  exact ⟨rfl, rfl⟩

set_option maxRecDepth 100000 in
set_option maxHeartbeats 4000000 in
theorem clearRow_any (L : Lawn) (hL : L.Fits) (s : Nat → Nat → Bool) (r : Int) (hd : Bool) (w : World) :
    Calls Tryd.prog 55 #[.agg L.cells, .agg (bV 10 s), .agg #[.int .i64 r, .bool hd]] w fun e w' => e = .returned (.tuple #[.agg (bV 10 (clrR L s r hd)), .int .i64 (clrN L s r hd), .int .i64 (clrC L s r)]) ∧ Below w.heap.size w w' := by
  have HC := Lib.hid (checkWeeds_nil L hL s)
  have HBAD := Lib.hid (fun h => clr_bad (L := L) (s := s) (r := r) (hd := hd) h)
  have HGOOD := Lib.hid (fun h1 h2 => clr_good (L := L) (s := s) (r := r) (hd := hd) h1 h2)
  have HCC := Lib.hid (show clrC L s r = if weedB L s then (if upZ r (L.high - 1) then 0 else 2) else 1 from rfl)
  have HRD := Lib.hid (fun g cap w hg hc => checkRounds_any L hL [(r, hd)] (by simp [maxLen]) g cap w hg hc)
  have HRC := Lib.hid (show roundsC L [(r, hd)] = if upZ r (L.high - 1) then 0 else 2 by simp [roundsC, rowsB])
  have HL := Lib.hid hL
  obtain ⟨u, hu⟩ : ∃ u, w.heap.size = u := ⟨_, rfl⟩
  obtain ⟨W1, hW1⟩ : ∃ W1, (((w.alloc (.cells L.cells 31)).alloc (.cells (bV 10 s) 33)).alloc (.cells #[.int .i64 r, .bool hd] 82)).alloc (.cells (bV 10 fun _ _ => false) 33) = W1 := ⟨_, rfl⟩
  have g0 : Holds W1 u L.cells := by rw [← hW1]; exact (((Holds.new' _ _ _ _ hu.symm).alloc _).alloc _).alloc _
  have g1 : Holds W1 (u + 1) (bV 10 s) := by rw [← hW1]; exact ((Holds.new' _ _ _ _ (by simp; omega)).alloc _).alloc _
  have g2 : Holds W1 (u + 2) #[.int .i64 r, .bool hd] := by rw [← hW1]; exact (Holds.new' _ _ _ _ (by simp; omega)).alloc _
  have g3 : Holds W1 (u + 3) (bV 10 fun _ _ => false) := by rw [← hW1]; exact Holds.new' _ _ _ _ (by simp; omega)
  have hB1 : Below u w W1 := by rw [← hW1]; exact ((((Below.refl u w).alloc (by omega) _).alloc (by simp; omega) _).alloc (by simp; omega) _).alloc (by simp; omega) _
  have HU := Lib.hid hu
  obtain ⟨r0, -, -, -, l0⟩ := g0.facts
  obtain ⟨r1, -, -, -, l1⟩ := g1.facts
  clear hL
  go_enter Tryd.func55, Tryd.ntmps55
  go_wp2_with fail
  try simp only [hu, Nat.add_assoc, Nat.reduceAdd]
  try rw [hW1]
  clear hW1 hu r0 r1 l0 l1
  refine (HC.out _).mono ?_
  rintro e W2 ⟨⟨x, rfl, hx⟩, hb2⟩
  have j0 := g0.below hb2 g0.lt
  have j1 := g1.below hb2 g1.lt
  have j2 := g2.below hb2 g2.lt
  have j3 := g3.below hb2 g3.lt
  have hB2 : Below u w W2 := hB1.trans (hb2.mono (by have := g0.lt; omega))
  clear hb2 g0 g1 g2 g3 hB1 HC
  rcases hx with ⟨rfl, hc⟩ | ⟨hc, t, a, rfl, hr⟩
  · have HV := Lib.hid (show weedB L s = true by cases h : weedB L s with | true => rfl | false => rw [h] at hc; simp [told] at hc)
    obtain ⟨r0, -, -, -, l0⟩ := j0.facts
    obtain ⟨-, -, c2, -, l2⟩ := j2.facts
    have c20 := (c2 0).trans (show _ = some (.int .i64 r) from rfl)
    have c21 := (c2 1).trans (show _ = some (.bool hd) from rfl)
    clear hc c2
    go_wp2_with fail
    have hgr := Holds.new W2 #[.int .i64 r, .bool hd] 82
    refine (HRD.out W2.heap.size 1 _ hgr.lt (fun W hW k r' hk => by
      have hh := (hgr.below hW hgr.lt).cell
      match k, hk with
      | 0, hk => simp at hk; subst hk; exact ⟨hh 0, hh 1⟩
      | k + 1, hk => simp at hk)).mono ?_
    rintro e W3 ⟨⟨x, rfl, hx⟩, hb3⟩
    have k0 := (j0.alloc (.cells #[.int .i64 r, .bool hd] 82)).below hb3 (by have := j0.lt; simp; omega)
    have k1 := (j1.alloc (.cells #[.int .i64 r, .bool hd] 82)).below hb3 (by have := j1.lt; simp; omega)
    have k2 := (j2.alloc (.cells #[.int .i64 r, .bool hd] 82)).below hb3 (by have := j2.lt; simp; omega)
    have k3 := (j3.alloc (.cells #[.int .i64 r, .bool hd] 82)).below hb3 (by have := j3.lt; simp; omega)
    have hB3 : Below u w W3 := (hB2.alloc (by have := j0.lt; omega) _).trans (hb3.mono (by have := j0.lt; simp; omega))
    clear hb3 j0 j1 j2 j3 hB2 hgr r0 l0 l2 c20 c21
    rcases hx with ⟨rfl, hc⟩ | ⟨hc, t, a, rfl, hr⟩
    · have HV2 := Lib.hid (show upZ r (L.high - 1) = true by cases h : upZ r (L.high - 1) with | true => rfl | false => rw [HRC.out, h] at hc; simp at hc)
      obtain ⟨⟨n, hrn, hnh, hR, hN⟩, hC⟩ := HGOOD.out HV.out HV2.out
      have HR := Lib.hid hR
      have HN := Lib.hid hN
      have HCZ := Lib.hid hC
      have HTK := Lib.hid (taken_any L (weedB_true HV.out).1 HL.out n hnh hd)
      subst hrn
      clear hc hR hN hC hnh HRC HBAD HGOOD HRD
      obtain ⟨c0, c0'⟩ := k0.later
      obtain ⟨c1, c1'⟩ := k1.later
      obtain ⟨-, c2⟩ := k2.later
      have c20 : ∀ w', Below W3.heap.size W3 w' → w'.cell? ⟨u + 2, 0, none⟩ = some (.int .i64 n) := fun w' hw => (c2 w' hw 0).trans rfl
      have c21 : ∀ w', Below W3.heap.size W3 w' → w'.cell? ⟨u + 2, 1, none⟩ = some (.bool hd) := fun w' hw => (c2 w' hw 1).trans rfl
      clear c0' c1' c2
      go_wp2_with fail
      refine wp_region_growMP 6 5 [] (fun p w' => W3.heap.size ≤ p ∧ Holds w' p (bV 10 fun _ _ => false)) (fun p a b h hb => ⟨h.1, h.2.below hb h.2.lt⟩)
        (fun p => [.agg (bV 10 s), .agg #[.int .i64 n, .bool hd], .agg L.cells, .agg (bV 10 (takeS L n hd)), .agg (bV 10 (cutS L n hd s)), .pointer (some ⟨p, 0, none⟩)]) ?hv (by kernel_rfl) (by decide) (by kernel_rfl) (by kernel_rfl) (by kernel_rfl) ?_
      case hv =>
        intro p p' j h1 h2
        match j with
        | 0 => rfl
        | 1 => rfl
        | 2 => rfl
        | 3 => rfl
        | 4 => rfl
        | 5 => exact absurd rfl h1
        | j + 6 => rfl
      intro p
      simp only [List.take_succ_cons, List.take_zero, List.drop_succ_cons, List.drop_zero]
      refine seqP_free rfl rfl rfl (v := .agg (bV 10 s)) rfl ?_ ?_
      · intro w' hw' K hK
        go_wp2_with fail
        exact hK _ _ rfl (Below.refl _ _)
      simp only [Act.put, List.setIfInBounds_toArray, List.set_cons_succ, List.set_cons_zero]
      refine seqP_free rfl rfl rfl (v := .agg #[.int .i64 n, .bool hd]) rfl ?_ ?_
      · intro w' hw' K hK
        go_wp2_with fail
        exact hK _ _ rfl (Below.refl _ _)
      simp only [Act.put, List.setIfInBounds_toArray, List.set_cons_succ, List.set_cons_zero]
      refine seqP_free rfl rfl rfl (v := .agg L.cells) rfl ?_ ?_
      · intro w' hw' K hK
        go_wp2_with fail
        exact hK _ _ rfl (Below.refl _ _)
      simp only [Act.put, List.setIfInBounds_toArray, List.set_cons_succ, List.set_cons_zero]
      refine seqP_free rfl rfl rfl (v := .agg (bV 10 (takeS L n hd))) rfl ?_ ?_
      · intro w' hw' K hK
        go_wp2_with fail
        refine (HTK.out _).mono ?_
        rintro e w5 ⟨rfl, hb5⟩
        go_wp2_with fail
        exact hK _ _ rfl hb5
      simp only [Act.put, List.setIfInBounds_toArray, List.set_cons_succ, List.set_cons_zero]
      refine seqP_free rfl rfl rfl (v := .agg (bV 10 (cutS L n hd s))) rfl ?_ ?_
      · intro w' hw' K hK
        go_wp2_with fail
        refine (wdWithout_any s (takeS L n hd) _).mono ?_
        rintro e w5 ⟨rfl, hb5⟩
        go_wp2_with fail
        exact hK _ _ rfl hb5
      simp only [Act.put, List.setIfInBounds_toArray, List.set_cons_succ, List.set_cons_zero]
      refine seqP_call rfl rfl (v := .pointer (some ⟨p, 0, none⟩)) rfl ?_ ?_
      · rintro w' hw' rfl K hK
        go_wp2_with fail
        exact hK _ _ rfl ((Below.refl _ _).alloc (Nat.le_refl _) _) ⟨hw'.size, Holds.new _ _ _⟩
      simp only [Act.put, List.setIfInBounds_toArray, List.set_cons_succ, List.set_cons_zero]
      intro W4 _ hW4 ⟨hp1, hp2⟩
      have i1 := k1.below hW4 k1.lt
      have i3 := k3.below hW4 k3.lt
      have hB4 : Below u w W4 := hB3.trans (hW4.mono (by have := k0.lt; omega))
      have hpu : u + 4 ≤ p := by have := k3.lt; omega
      clear hW4 hp1 k0 k1 k2 k3 hB3 c0 c1 c20 c21
      obtain ⟨rp, fp, -, zp, lp⟩ := hp2.facts
      have hwd : IntKind.i64.wrap (((cntR s 10 : Nat) : Int) - (cntR (cutS L n hd s) 10 : Nat)) = ((cntR s 10 : Nat) : Int) - (cntR (cutS L n hd s) 10 : Nat) := IntWalk.i64_in _ (by have := cntR_le s 10; have := cntR_le (cutS L n hd s) 10; omega)
      go_wp2_with fail
      have m1 := i1.setRow_other (k := p) (bV 10 (cutS L n hd s)) (by omega)
      have m3 := i3.setRow_other (k := p) (bV 10 (cutS L n hd s)) (by omega)
      have mp := hp2.setRow (bV 10 (cutS L n hd s))
      have hB5 := below_setRow' hB4 (g := p) (by omega) (bV 10 (cutS L n hd s))
      obtain ⟨W5, hW5⟩ : ∃ W5, W4.setRow p (bV 10 (cutS L n hd s)) = W5 := ⟨_, rfl⟩
      rw [hW5] at m1 m3 mp hB5 ⊢
      clear hW5 rp fp zp lp i1 i3 hB4 hp2
      refine wp_region_growS1 8 6 (u + 3) (bV 10 fun _ _ => false) (bV 10 (cutS L n hd s)) [.agg (bV 10 (cutS L n hd s)), .agg (bV 10 s), .int .i64 (cntR s 10 : Nat), .agg (bV 10 (cutS L n hd s)), .int .i64 (cntR (cutS L n hd s) 10 : Nat), .int .i64 (((cntR s 10 : Nat) : Int) - (cntR (cutS L n hd s) 10 : Nat)), undef, .int .i64 (((cntR s 10 : Nat) : Int) - (cntR (cutS L n hd s) 10 : Nat))] (by kernel_rfl) (by kernel_rfl) (by decide) m3 ?_
      simp only [List.take_succ_cons, List.take_zero, List.drop_succ_cons, List.drop_zero]
      refine seqS_other (v := .agg (bV 10 (cutS L n hd s))) rfl rfl rfl ?_ ?_
      · intro w' hw' K hK
        have e0 := (hw'.holds mp (by simp; omega)).row
        go_wp2_with fail
        exact hK _ _ rfl (Below.refl _ _)
      simp only [Act.put, List.setIfInBounds_toArray, List.set_cons_succ, List.set_cons_zero]
      refine seqS_other (v := .agg (bV 10 s)) rfl rfl rfl ?_ ?_
      · intro w' hw' K hK
        have e0 := (hw'.holds m1 (by simp)).row
        go_wp2_with fail
        exact hK _ _ rfl (Below.refl _ _)
      simp only [Act.put, List.setIfInBounds_toArray, List.set_cons_succ, List.set_cons_zero]
      refine seqS_other (v := .int .i64 (cntR s 10 : Nat)) rfl rfl rfl ?_ ?_
      · intro w' hw' K hK
        go_wp2_with fail
        refine (wdCount_any s _).mono ?_
        rintro e w5 ⟨rfl, hb5⟩
        go_wp2_with fail
        exact hK _ _ rfl hb5
      simp only [Act.put, List.setIfInBounds_toArray, List.set_cons_succ, List.set_cons_zero]
      refine seqS_other (v := .agg (bV 10 (cutS L n hd s))) rfl rfl rfl ?_ ?_
      · intro w' hw' K hK
        have e0 := (hw'.holds mp (by simp; omega)).row
        go_wp2_with fail
        exact hK _ _ rfl (Below.refl _ _)
      simp only [Act.put, List.setIfInBounds_toArray, List.set_cons_succ, List.set_cons_zero]
      refine seqS_other (v := .int .i64 (cntR (cutS L n hd s) 10 : Nat)) rfl rfl rfl ?_ ?_
      · intro w' hw' K hK
        go_wp2_with fail
        refine (wdCount_any (cutS L n hd s) _).mono ?_
        rintro e w5 ⟨rfl, hb5⟩
        go_wp2_with fail
        exact hK _ _ rfl hb5
      simp only [Act.put, List.setIfInBounds_toArray, List.set_cons_succ, List.set_cons_zero]
      refine seqS_other (v := .int .i64 (((cntR s 10 : Nat) : Int) - (cntR (cutS L n hd s) 10 : Nat))) rfl rfl rfl ?_ ?_
      · intro w' hw' K hK
        go_wp2_with fail
        exact hK _ _ rfl (Below.refl _ _)
      simp only [Act.put, List.setIfInBounds_toArray, List.set_cons_succ, List.set_cons_zero]
      refine seqS_store rfl rfl rfl ?_ ?_
      · intro w' hO hH K hK
        obtain ⟨rr, fr, -, -, lr⟩ := hH.facts
        go_wp2_with fail
        exact hK
      refine seqS_other (v := .int .i64 (((cntR s 10 : Nat) : Int) - (cntR (cutS L n hd s) 10 : Nat))) rfl rfl rfl ?_ ?_
      · intro w' hw' K hK
        go_wp2_with fail
        exact hK _ _ rfl (Below.refl _ _)
      simp only [Act.put, List.setIfInBounds_toArray, List.set_cons_succ, List.set_cons_zero]
      refine seqS_nil ?_
      intro w' hO hH
      have HH := Lib.hid hH
      have HB9 := Lib.hid (hB5.trans (hO.toBelow (B := u) (by intro k hk; simp at hk; omega) (by have := m1.lt; omega)))
      clear hO hH
      go_wp2_with fail
      exact bodyPost_ret (results_cell_tmp2_wd rfl wideWd _ rfl HH.out (by simp)) rfl ⟨by rw [HR.out, HN.out, HCZ.out]; rfl, by rw [HU.out]; exact HB9.out⟩
    · have HR := Lib.hid hr
      have HCR := Lib.hid (show roundsC L [(r, hd)] = clrC L s r by rw [HRC.out, HCC.out, HV.out]; rfl)
      rw [HCR.out] at hc HR
      obtain ⟨hZ, hN⟩ := HBAD.out hc
      have HZ := Lib.hid hZ
      have HNZ := Lib.hid hN
      clear hc hr hZ hN HBAD HGOOD HRD HRC
      go_wp2_with fail
      refine (HR.out _).mono ?_
      rintro e w2 ⟨rfl, hb3⟩
      have m3 := k3.below hb3 k3.lt
      have hb6 : Below u w w2 := hB3.trans (hb3.mono (by have := k3.lt; omega))
      clear hb3 k0 k1 k2 k3 hB3
      obtain ⟨r2, f2, -, z2, l2⟩ := m3.facts
      go_wp2_with fail
      exact bodyPost_ret (results_cell_tmp2_wd rfl wideWd _ rfl (m3.setRow (bV 10 fun _ _ => false)) (by simp)) rfl ⟨by rw [HZ.out, HNZ.out]; rfl, by rw [HU.out]; exact below_setRow' hb6 (by omega) _⟩
  · have HR := Lib.hid hr
    have HCR := Lib.hid (show told (weedB L s) true = clrC L s r by
      rw [HCC.out]
      cases h : weedB L s with
      | false => rfl
      | true => rw [h] at hc; exact absurd rfl hc)
    rw [HCR.out] at hc HR
    obtain ⟨hZ, hN⟩ := HBAD.out hc
    have HZ := Lib.hid hZ
    have HNZ := Lib.hid hN
    clear hc hr hZ hN HBAD HGOOD HRD HRC
    go_wp2_with fail
    refine (HR.out _).mono ?_
    rintro e w2 ⟨rfl, hb3⟩
    have m3 := j3.below hb3 j3.lt
    have hb6 : Below u w w2 := hB2.trans (hb3.mono (by have := j3.lt; omega))
    clear hb3 j0 j1 j2 j3 hB2
    obtain ⟨r2, f2, -, z2, l2⟩ := m3.facts
    go_wp2_with fail
    exact bodyPost_ret (results_cell_tmp2_wd rfl wideWd _ rfl (m3.setRow (bV 10 fun _ _ => false)) (by simp)) rfl ⟨by rw [HZ.out, HNZ.out]; rfl, by rw [HU.out]; exact below_setRow' hb6 (by omega) _⟩
set_option maxRecDepth 100000 in
set_option maxHeartbeats 2000000 in
theorem implCut_any (L : Lawn) (hL : L.Fits) (s : Nat → Nat → Bool) (r : Int) (w : World) :
    Calls Tryd.prog 26 #[.agg L.cells, .agg (bV 10 s), .int .i64 r] w fun e w' => e = .returned (.tuple #[.agg (bV 10 (clrR L s r false)), .int .i64 (clrN L s r false), .int .i64 (clrC L s r)]) ∧ Below w.heap.size w w' := by
  obtain ⟨u, hu⟩ : ∃ u, w.heap.size = u := ⟨_, rfl⟩
  obtain ⟨W1, hW1⟩ : ∃ W1, ((w.alloc (.cells L.cells 31)).alloc (.cells (bV 10 s) 33)).alloc (.cells (bV 10 fun _ _ => false) 33) = W1 := ⟨_, rfl⟩
  have g0 : Holds W1 u L.cells := by rw [← hW1]; exact ((Holds.new' _ _ _ _ hu.symm).alloc _).alloc _
  have g1 : Holds W1 (u + 1) (bV 10 s) := by rw [← hW1]; exact (Holds.new' _ _ _ _ (by simp; omega)).alloc _
  have g2 : Holds W1 (u + 2) (bV 10 fun _ _ => false) := by rw [← hW1]; exact Holds.new' _ _ _ _ (by simp; omega)
  have hB1 : Below u w W1 := by rw [← hW1]; exact (((Below.refl u w).alloc (by omega) _).alloc (by simp; omega) _).alloc (by simp; omega) _
  have HU := Lib.hid hu
  have HS := Lib.hid (clearRow_any L hL s r false)
  clear hL
  go_enter Tryd.func26, Tryd.ntmps26
  obtain ⟨r0, -, -, -, l0⟩ := g0.facts
  obtain ⟨r1, -, -, -, l1⟩ := g1.facts
  go_wp2_with fail
  try simp only [hu, Nat.add_assoc, Nat.reduceAdd]
  clear hW1 hu r0 r1 l0 l1
  refine (HS.out _).mono ?_
  rintro e w3 ⟨rfl, hb3⟩
  have k2 := g2.below hb3 g2.lt
  have hB3 : Below u w w3 := hB1.trans (hb3.mono (by have := g0.lt; omega))
  clear hb3
  obtain ⟨r2, f2, -, z2, l2⟩ := k2.facts
  go_wp2_with fail
  exact bodyPost_ret (results_cell_tmp2_wd rfl wideWd _ rfl (k2.setRow (bV 10 (clrR L s r false))) (by simp)) rfl ⟨rfl, by rw [HU.out]; exact below_setRow' hB3 (by omega) _⟩

set_option maxRecDepth 100000 in
set_option maxHeartbeats 2000000 in
theorem implHoe_any (L : Lawn) (hL : L.Fits) (s : Nat → Nat → Bool) (r : Int) (w : World) :
    Calls Tryd.prog 28 #[.agg L.cells, .agg (bV 10 s), .int .i64 r] w fun e w' => e = .returned (.tuple #[.agg (bV 10 (clrR L s r true)), .int .i64 (clrN L s r true), .int .i64 (clrC L s r)]) ∧ Below w.heap.size w w' := by
  obtain ⟨u, hu⟩ : ∃ u, w.heap.size = u := ⟨_, rfl⟩
  obtain ⟨W1, hW1⟩ : ∃ W1, ((w.alloc (.cells L.cells 31)).alloc (.cells (bV 10 s) 33)).alloc (.cells (bV 10 fun _ _ => false) 33) = W1 := ⟨_, rfl⟩
  have g0 : Holds W1 u L.cells := by rw [← hW1]; exact ((Holds.new' _ _ _ _ hu.symm).alloc _).alloc _
  have g1 : Holds W1 (u + 1) (bV 10 s) := by rw [← hW1]; exact (Holds.new' _ _ _ _ (by simp; omega)).alloc _
  have g2 : Holds W1 (u + 2) (bV 10 fun _ _ => false) := by rw [← hW1]; exact Holds.new' _ _ _ _ (by simp; omega)
  have hB1 : Below u w W1 := by rw [← hW1]; exact (((Below.refl u w).alloc (by omega) _).alloc (by simp; omega) _).alloc (by simp; omega) _
  have HU := Lib.hid hu
  have HS := Lib.hid (clearRow_any L hL s r true)
  clear hL
  go_enter Tryd.func28, Tryd.ntmps28
  obtain ⟨r0, -, -, -, l0⟩ := g0.facts
  obtain ⟨r1, -, -, -, l1⟩ := g1.facts
  go_wp2_with fail
  try simp only [hu, Nat.add_assoc, Nat.reduceAdd]
  clear hW1 hu r0 r1 l0 l1
  refine (HS.out _).mono ?_
  rintro e w3 ⟨rfl, hb3⟩
  have k2 := g2.below hb3 g2.lt
  have hB3 : Below u w w3 := hB1.trans (hb3.mono (by have := g0.lt; omega))
  clear hb3
  obtain ⟨r2, f2, -, z2, l2⟩ := k2.facts
  go_wp2_with fail
  exact bodyPost_ret (results_cell_tmp2_wd rfl wideWd _ rfl (k2.setRow (bV 10 (clrR L s r true))) (by simp)) rfl ⟨rfl, by rw [HU.out]; exact below_setRow' hB3 (by omega) _⟩

set_option maxRecDepth 100000 in
set_option maxHeartbeats 4000000 in
theorem l07Freed_any (L : Lawn) (hL : L.Fits) (s : Nat → Nat → Bool) (r : Int) (hd : Bool) (a b : Nat) (w : World) (ha : Holds w a L.cells) (hb : Holds w b (bV 10 s)) :
    Calls Tryd.prog 54 #[.pointer (some ⟨a, 0, none⟩), .pointer (some ⟨b, 0, none⟩), .int .i64 r, .bool hd] w fun e w' => e = .returned (.tuple #[.agg (bV 10 (clrR L s r hd)), .int .i64 (clrN L s r hd), .int .i64 (clrC L s r)]) ∧ Below w.heap.size w w' := by
  obtain ⟨u, hu⟩ : ∃ u, w.heap.size = u := ⟨_, rfl⟩
  obtain ⟨W1, hW1⟩ : ∃ W1, w.alloc (.cells (bV 10 fun _ _ => false) 33) = W1 := ⟨_, rfl⟩
  have g0 : Holds W1 u (bV 10 fun _ _ => false) := by rw [← hW1]; exact Holds.new' _ _ _ _ hu.symm
  have ga : Holds W1 a L.cells := by rw [← hW1]; exact ha.alloc _
  have gb : Holds W1 b (bV 10 s) := by rw [← hW1]; exact hb.alloc _
  have hla : a < u := by rw [← hu]; exact ha.lt
  have hlb : b < u := by rw [← hu]; exact hb.lt
  have hB1 : Below u w W1 := by rw [← hW1]; exact (Below.refl u w).alloc (by omega) _
  have HU := Lib.hid hu
  obtain ⟨vr, hvr⟩ : ∃ vr, upZ r (L.high - 1) = vr := ⟨_, rfl⟩
  have HRW := Lib.hid (fun w h => l07Row_any L hL r a w h vr hvr)
  have HO := Lib.hid (fun w ha hb => l07Asked_any L hL s a b vr w ha hb)
  have HBAD := Lib.hid (fun h => clr_bad (L := L) (s := s) (r := r) (hd := hd) h)
  have HGOOD := Lib.hid (fun h1 h2 => clr_good (L := L) (s := s) (r := r) (hd := hd) h1 h2)
  have HCC := Lib.hid (show clrC L s r = told (weedB L s) vr by rw [clrC, hvr])
  have HVR := Lib.hid hvr
  have HV0 := Lib.hid (fun (h : weedB L s = true) => (weedB_true h).1)
  clear hL ha hb hvr
  go_enter Tryd.func54, Tryd.ntmps54
  go_wp2_with fail
  try simp only [hu, Nat.add_assoc, Nat.reduceAdd]
  try rw [hW1]
  clear hW1 hu
  refine (HRW.out _ ga).mono ?_
  rintro e w2 ⟨rfl, hw2⟩
  rw [hw2]
  clear hw2 HRW
  go_wp2_with fail
  refine (HO.out _ ga gb).mono ?_
  rintro e W3 ⟨rfl, hb3⟩
  have k0 := g0.below hb3 g0.lt
  have ka := ga.below hb3 ga.lt
  have kb := gb.below hb3 gb.lt
  have hB3 : Below u w W3 := hB1.trans (hb3.mono (by have := g0.lt; omega))
  clear hb3 g0 ga gb hB1 HO
  rw [← HCC.out]
  by_cases hz : clrC L s r = 0
  · have HV := Lib.hid (show weedB L s = true by cases h : weedB L s with | true => rfl | false => rw [HCC.out, h] at hz; simp [told] at hz)
    have HV2 := Lib.hid (show upZ r (L.high - 1) = true by
      rw [HVR.out]
      cases h : vr with
      | true => rfl
      | false => rw [HCC.out, HV.out, h] at hz; simp [told] at hz)
    obtain ⟨⟨n, hrn, hnh, hR, hN⟩, hC⟩ := HGOOD.out HV.out HV2.out
    have HR := Lib.hid hR
    have HN := Lib.hid hN
    have HCZ := Lib.hid hC
    have HCT := Lib.hid (fun w h => l07Cut_any L (HV0.out HV.out) n hnh hd s a w h)
    subst hrn
    rw [hz]
    clear hR hN hC hnh HBAD HGOOD HCC HV0 hz
    obtain ⟨rb, -, -, -, lb⟩ := kb.facts
    go_wp2_with fail
    refine (HCT.out _ ka).mono ?_
    rintro e W4 ⟨rfl, hb4⟩
    have j0 := k0.below hb4 k0.lt
    have jb := kb.below hb4 kb.lt
    have hB4 : Below u w W4 := hB3.trans (hb4.mono (by have := k0.lt; omega))
    clear hb4 k0 ka kb hB3 rb lb HCT
    obtain ⟨p, hp⟩ : ∃ p, W4.heap.size = p := ⟨_, rfl⟩
    have hpu : u + 1 ≤ p := by have := j0.lt; omega
    have hwd : IntKind.i64.wrap (((cntR s 10 : Nat) : Int) - (cntR (cutS L n hd s) 10 : Nat)) = ((cntR s 10 : Nat) : Int) - (cntR (cutS L n hd s) 10 : Nat) := IntWalk.i64_in _ (by have := cntR_le s 10; have := cntR_le (cutS L n hd s) 10; omega)
    have m0 := j0.alloc (.cells (bV 10 (cutS L n hd s)) 33)
    have mb := jb.alloc (.cells (bV 10 (cutS L n hd s)) 33)
    have mp := Holds.new' W4 (bV 10 (cutS L n hd s)) 33 p hp.symm
    have hB5 : Below u w (W4.alloc (.cells (bV 10 (cutS L n hd s)) 33)) := hB4.alloc (by omega) _
    go_wp2_with fail
    obtain ⟨W5, hW5⟩ : ∃ W5, W4.alloc (.cells (bV 10 (cutS L n hd s)) 33) = W5 := ⟨_, rfl⟩
    try simp only [hp]
    rw [hW5] at m0 mb mp hB5 ⊢
    clear hW5 hp j0 jb hB4
    refine wp_region_growS1 7 5 (u) (bV 10 fun _ _ => false) (bV 10 (cutS L n hd s)) [.agg (bV 10 (cutS L n hd s)), .pointer (some ⟨b, 0, none⟩), .int .i64 (cntR s 10 : Nat), .int .i64 (cntR (cutS L n hd s) 10 : Nat), .int .i64 (((cntR s 10 : Nat) : Int) - (cntR (cutS L n hd s) 10 : Nat)), undef, .int .i64 (((cntR s 10 : Nat) : Int) - (cntR (cutS L n hd s) 10 : Nat))] (by kernel_rfl) (by kernel_rfl) (by decide) m0 ?_
    simp only [List.take_succ_cons, List.take_zero, List.drop_succ_cons, List.drop_zero]
    refine seqS_other (v := .agg (bV 10 (cutS L n hd s))) rfl rfl rfl ?_ ?_
    · intro w' hw' K hK
      have e0 := (hw'.holds mp (by simp; omega)).row
      go_wp2_with fail
      exact hK _ _ rfl (Below.refl _ _)
    simp only [Act.put, List.setIfInBounds_toArray, List.set_cons_succ, List.set_cons_zero]
    refine seqS_other (v := .pointer (some ⟨b, 0, none⟩)) rfl rfl rfl ?_ ?_
    · intro w' hw' K hK
      go_wp2_with fail
      exact hK _ _ rfl (Below.refl _ _)
    simp only [Act.put, List.setIfInBounds_toArray, List.set_cons_succ, List.set_cons_zero]
    refine seqS_other (v := .int .i64 (cntR s 10 : Nat)) rfl rfl rfl ?_ ?_
    · intro w' hw' K hK
      go_wp2_with fail
      refine (l07Count_any s b _ (hw'.holds mb (by simp; omega))).mono ?_
      rintro e w5 ⟨rfl, hw5⟩
      rw [hw5]
      go_wp2_with fail
      exact hK _ _ rfl (Below.refl _ _)
    simp only [Act.put, List.setIfInBounds_toArray, List.set_cons_succ, List.set_cons_zero]
    refine seqS_other (v := .int .i64 (cntR (cutS L n hd s) 10 : Nat)) rfl rfl rfl ?_ ?_
    · intro w' hw' K hK
      go_wp2_with fail
      refine (l07Count_any (cutS L n hd s) p _ (hw'.holds mp (by simp; omega))).mono ?_
      rintro e w5 ⟨rfl, hw5⟩
      rw [hw5]
      go_wp2_with fail
      exact hK _ _ rfl (Below.refl _ _)
    simp only [Act.put, List.setIfInBounds_toArray, List.set_cons_succ, List.set_cons_zero]
    refine seqS_other (v := .int .i64 (((cntR s 10 : Nat) : Int) - (cntR (cutS L n hd s) 10 : Nat))) rfl rfl rfl ?_ ?_
    · intro w' hw' K hK
      go_wp2_with fail
      exact hK _ _ rfl (Below.refl _ _)
    simp only [Act.put, List.setIfInBounds_toArray, List.set_cons_succ, List.set_cons_zero]
    refine seqS_store rfl rfl rfl ?_ ?_
    · intro w' hO hH K hK
      obtain ⟨rr, fr, -, -, lr⟩ := hH.facts
      go_wp2_with fail
      exact hK
    refine seqS_other (v := .int .i64 (((cntR s 10 : Nat) : Int) - (cntR (cutS L n hd s) 10 : Nat))) rfl rfl rfl ?_ ?_
    · intro w' hw' K hK
      go_wp2_with fail
      exact hK _ _ rfl (Below.refl _ _)
    simp only [Act.put, List.setIfInBounds_toArray, List.set_cons_succ, List.set_cons_zero]
    refine seqS_nil ?_
    intro w' hO hH
    have HH := Lib.hid hH
    have HB9 := Lib.hid (hB5.trans (hO.toBelow (B := u) (by intro k hk; simp at hk; omega) (by have := m0.lt; omega)))
    clear hO hH
    go_wp2_with fail
    exact bodyPost_ret (results_cell_tmp2_wd rfl wideWd _ rfl HH.out (by simp)) rfl ⟨by rw [HR.out, HN.out, HCZ.out]; rfl, by rw [HU.out]; exact HB9.out⟩
  · obtain ⟨hZ, hN⟩ := HBAD.out hz
    have HZ := Lib.hid hZ
    have HNZ := Lib.hid hN
    obtain ⟨m, hm⟩ : ∃ m, clrC L s r = m := ⟨_, rfl⟩
    have HM := Lib.hid hm
    rw [hm] at hz ⊢
    have hmn : ((m : Int) != 0) = true := by simp [hz]
    clear hZ hN HBAD HGOOD hm hz
    obtain ⟨r0, f0, -, z0, l0⟩ := k0.facts
    go_wp2_with fail
    exact bodyPost_ret (results_cell_tmp2_wd rfl wideWd _ rfl (k0.setRow (bV 10 fun _ _ => false)) (by simp)) rfl ⟨by rw [HZ.out, HNZ.out, HM.out]; rfl, by rw [HU.out]; exact below_setRow' hB3 (by omega) _⟩

set_option maxRecDepth 100000 in
set_option maxHeartbeats 2000000 in
theorem specCut_any (L : Lawn) (hL : L.Fits) (s : Nat → Nat → Bool) (r : Int) (w : World) :
    Calls Tryd.prog 25 #[.agg L.cells, .agg (bV 10 s), .int .i64 r] w fun e w' => e = .returned (.tuple #[.agg (bV 10 (clrR L s r false)), .int .i64 (clrN L s r false), .int .i64 (clrC L s r)]) ∧ Below w.heap.size w w' := by
  obtain ⟨u, hu⟩ : ∃ u, w.heap.size = u := ⟨_, rfl⟩
  obtain ⟨W1, hW1⟩ : ∃ W1, ((w.alloc (.cells L.cells 31)).alloc (.cells (bV 10 s) 33)).alloc (.cells (bV 10 fun _ _ => false) 33) = W1 := ⟨_, rfl⟩
  have g0 : Holds W1 u L.cells := by rw [← hW1]; exact ((Holds.new' _ _ _ _ hu.symm).alloc _).alloc _
  have g1 : Holds W1 (u + 1) (bV 10 s) := by rw [← hW1]; exact (Holds.new' _ _ _ _ (by simp; omega)).alloc _
  have g2 : Holds W1 (u + 2) (bV 10 fun _ _ => false) := by rw [← hW1]; exact Holds.new' _ _ _ _ (by simp; omega)
  have hB1 : Below u w W1 := by rw [← hW1]; exact (((Below.refl u w).alloc (by omega) _).alloc (by simp; omega) _).alloc (by simp; omega) _
  have HU := Lib.hid hu
  have HS := Lib.hid (l07Freed_any L hL s r false u (u + 1) W1 g0 g1)
  clear hL
  go_enter Tryd.func25, Tryd.ntmps25
  go_wp2_with fail
  try simp only [hu, Nat.add_assoc, Nat.reduceAdd]
  clear hW1 hu
  refine HS.out.mono ?_
  rintro e w3 ⟨rfl, hb3⟩
  have k2 := g2.below hb3 g2.lt
  have hB3 : Below u w w3 := hB1.trans (hb3.mono (by have := g0.lt; omega))
  clear hb3
  obtain ⟨r2, f2, -, z2, l2⟩ := k2.facts
  go_wp2_with fail
  exact bodyPost_ret (results_cell_tmp2_wd rfl wideWd _ rfl (k2.setRow (bV 10 (clrR L s r false))) (by simp)) rfl ⟨rfl, by rw [HU.out]; exact below_setRow' hB3 (by omega) _⟩

set_option maxRecDepth 100000 in
set_option maxHeartbeats 2000000 in
theorem specHoe_any (L : Lawn) (hL : L.Fits) (s : Nat → Nat → Bool) (r : Int) (w : World) :
    Calls Tryd.prog 27 #[.agg L.cells, .agg (bV 10 s), .int .i64 r] w fun e w' => e = .returned (.tuple #[.agg (bV 10 (clrR L s r true)), .int .i64 (clrN L s r true), .int .i64 (clrC L s r)]) ∧ Below w.heap.size w w' := by
  obtain ⟨u, hu⟩ : ∃ u, w.heap.size = u := ⟨_, rfl⟩
  obtain ⟨W1, hW1⟩ : ∃ W1, ((w.alloc (.cells L.cells 31)).alloc (.cells (bV 10 s) 33)).alloc (.cells (bV 10 fun _ _ => false) 33) = W1 := ⟨_, rfl⟩
  have g0 : Holds W1 u L.cells := by rw [← hW1]; exact ((Holds.new' _ _ _ _ hu.symm).alloc _).alloc _
  have g1 : Holds W1 (u + 1) (bV 10 s) := by rw [← hW1]; exact (Holds.new' _ _ _ _ (by simp; omega)).alloc _
  have g2 : Holds W1 (u + 2) (bV 10 fun _ _ => false) := by rw [← hW1]; exact Holds.new' _ _ _ _ (by simp; omega)
  have hB1 : Below u w W1 := by rw [← hW1]; exact (((Below.refl u w).alloc (by omega) _).alloc (by simp; omega) _).alloc (by simp; omega) _
  have HU := Lib.hid hu
  have HS := Lib.hid (l07Freed_any L hL s r true u (u + 1) W1 g0 g1)
  clear hL
  go_enter Tryd.func27, Tryd.ntmps27
  go_wp2_with fail
  try simp only [hu, Nat.add_assoc, Nat.reduceAdd]
  clear hW1 hu
  refine HS.out.mono ?_
  rintro e w3 ⟨rfl, hb3⟩
  have k2 := g2.below hb3 g2.lt
  have hB3 : Below u w w3 := hB1.trans (hb3.mono (by have := g0.lt; omega))
  clear hb3
  obtain ⟨r2, f2, -, z2, l2⟩ := k2.facts
  go_wp2_with fail
  exact bodyPost_ret (results_cell_tmp2_wd rfl wideWd _ rfl (k2.setRow (bV 10 (clrR L s r true))) (by simp)) rfl ⟨rfl, by rw [HU.out]; exact below_setRow' hB3 (by omega) _⟩
end Go.Proofs.YtoengjabakcpjaaDoor
