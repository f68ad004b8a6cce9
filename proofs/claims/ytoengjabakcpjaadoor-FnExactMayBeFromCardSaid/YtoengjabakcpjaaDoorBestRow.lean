/- BestRow, of the program and of the model. -/
import Derived.Test.YtoengjabakcpjaaDoorSpreadD
import Derived.Test.YtoengjabakcpjaaDoorClearR
import Derived.Test.YtoengjabakcpjaaDoorCntP
namespace Go.Proofs.YtoengjabakcpjaaDoor
open Go.RowKit
set_option linter.unusedVariables false
set_option linter.unusedSimpArgs false
attribute [local go_sem ↓] loadRow loadGrid loadLawn loadMirror storeRow storeGrid storeLawn allocRow allocGrid allocLawn buildZero buildSides loadWd storeWd allocWd buildZWd eqlWd

/-- How many weeds there are a day later, where a row has been cut. -/
def cutN (L : Lawn) (s : Nat → Nat → Bool) (n r : Nat) : Nat := cntR (dayS (soilS L) n (cutS L r false s)) 10
/-- The first of some numbers that is the least, and that number; 101 ahead of the first. -/
def leastTo (c : Nat → Nat) : Nat → Nat × Nat
  | 0 => (0, 101)
  | k + 1 => if c k < (leastTo c k).2 then (k, c k) else leastTo c k
theorem leastTo_le (c : Nat → Nat) : ∀ k, (leastTo c k).1 ≤ k ∧ (leastTo c k).2 ≤ 101
  | 0 => ⟨by simp [leastTo], by simp [leastTo]⟩
  | k + 1 => by
    have := leastTo_le c k
    simp only [leastTo]
    split <;> omega
theorem leastTo_one (c : Nat → Nat) (h : c 0 ≤ 100) : leastTo c 1 = (0, c 0) := by
  show (if c 0 < 101 then _ else _) = _
  exact if_pos (by omega)
theorem leastTo_hit (c : Nat → Nat) (k : Nat) (h : c k < (leastTo c k).2) : leastTo c (k + 1) = (k, c k) := by simp [leastTo, h]
theorem leastTo_miss (c : Nat → Nat) (k : Nat) (h : ¬ c k < (leastTo c k).2) : leastTo c (k + 1) = leastTo c k := by simp [leastTo, h]
theorem weedB_cut {L : Lawn} {s : Nat → Nat → Bool} (hw : weedB L s = true) (r : Nat) (hd : Bool) : weedB L (cutS L r hd s) = true := by
  obtain ⟨hv, hs⟩ := weedB_true hw
  exact weedB_of hv fun y x hy hx h => hs y x hy hx (by simp only [cutS, Bool.and_eq_true] at h; exact h.1)
theorem cutN_le {L : Lawn} {s : Nat → Nat → Bool} (hw : weedB L s = true) (n r : Nat) : cutN L s n r ≤ 100 := cnt_le (weedB_day (weedB_cut hw r false) n)
def bestR (L : Lawn) (s : Nat → Nat → Bool) (need : Int) : Nat × Nat := leastTo (cutN L s need.toNat) L.high.toNat
def bestRC (L : Lawn) (s : Nat → Nat → Bool) (need : Int) : Int := told (weedB L s) (inB need 1 4)
def bestR0 (L : Lawn) (s : Nat → Nat → Bool) (need : Int) : Int := if bestRC L s need = 0 then ((bestR L s need).1 : Nat) else 0
def bestR1 (L : Lawn) (s : Nat → Nat → Bool) (need : Int) : Int := if bestRC L s need = 0 then ((bestR L s need).2 : Nat) else 0
theorem needC_good {L : Lawn} {s : Nat → Nat → Bool} {need : Int} (h : bestRC L s need = 0) : weedB L s = true ∧ (1 ≤ need ∧ need ≤ 4) := by
  unfold bestRC told at h
  cases hv : weedB L s
  · rw [hv] at h; simp at h
  · rw [hv] at h
    cases hf : inB need 1 4
    · rw [hf] at h; simp at h
    · exact ⟨rfl, inB_true hf⟩

set_option maxRecDepth 100000 in
set_option maxHeartbeats 4000000 in
theorem implBestRow_any (L : Lawn) (hL : L.Fits) (s : Nat → Nat → Bool) (need : Int) (w : World) :
    Calls Tryd.prog 30 #[.agg L.cells, .agg (bV 10 s), .int .i64 need] w fun e w' => e = .returned (.tuple #[.int .i64 (bestR0 L s need), .int .i64 (bestR1 L s need), .int .i64 (bestRC L s need)]) ∧ Below w.heap.size w w' := by
  have HC := Lib.hid (checkWeeds_any L hL s [(need, 1, 4)] (by simp))
  have HCT := Lib.hid (show told (weedB L s) ([(need, (1 : Int), (4 : Int))].all limB) = bestRC L s need by simp only [List.all_cons, List.all_nil, Bool.and_true, limB, bestRC])
  rw [HCT.out] at HC
  have HRG := Lib.hid (fun h => needC_good (L := L) (s := s) (need := need) h)
  have HR0 := Lib.hid (show bestR0 L s need = if bestRC L s need = 0 then ((bestR L s need).1 : Int) else 0 from rfl)
  have HR1 := Lib.hid (show bestR1 L s need = if bestRC L s need = 0 then ((bestR L s need).2 : Int) else 0 from rfl)
  have HRR := Lib.hid (show bestR L s need = leastTo (cutN L s need.toNat) L.high.toNat from rfl)
  obtain ⟨u, hu⟩ : ∃ u, w.heap.size = u := ⟨_, rfl⟩
  obtain ⟨W1, hW1⟩ : ∃ W1, (w.alloc (.cells L.cells 31)).alloc (.cells (bV 10 s) 33) = W1 := ⟨_, rfl⟩
  have g0 : Holds W1 u L.cells := by rw [← hW1]; exact (Holds.new' _ _ _ _ hu.symm).alloc _
  have g1 : Holds W1 (u + 1) (bV 10 s) := by rw [← hW1]; exact Holds.new' _ _ _ _ (by simp; omega)
  have hB1 : Below u w W1 := by rw [← hW1]; exact ((Below.refl u w).alloc (by omega) _).alloc (by simp; omega) _
  have HU := Lib.hid hu
  have HL := Lib.hid hL
  clear hL
  go_enter Tryd.func30, Tryd.ntmps30
  go_wp2_with fail
  try simp only [hu, Nat.add_assoc, Nat.reduceAdd]
  clear hW1 hu
  obtain ⟨r0, -⟩ := g0.later
  obtain ⟨r1, -⟩ := g1.later
  refine wp_region_growMP 5 4 [] (fun p w' => Holds w' p (limV [(need, 1, 4)])) (fun p a b h hb => h.below hb h.lt)
    (fun p => [.agg L.cells, .agg (bV 10 s), .int .i64 need, .agg #[.int .i64 need, .int .i64 1, .int .i64 4], .slice (some ⟨p, 0, none⟩) 1 1]) ?hv (by kernel_rfl) (by decide) (by kernel_rfl) (by kernel_rfl) (by kernel_rfl) ?_
  case hv =>
    intro p p' j h1 h2
    match j with
    | 0 => rfl
    | 1 => rfl
    | 2 => rfl
    | 3 => rfl
    | 4 => exact absurd rfl h1
    | j + 5 => rfl
  intro p
  simp only [List.take_succ_cons, List.take_zero, List.drop_succ_cons, List.drop_zero]
  refine seqP_free rfl rfl rfl (v := .agg L.cells) rfl ?_ ?_
  · intro w' hw' K hK
    go_wp2_with fail
    exact hK _ _ rfl (Below.refl _ _)
  simp only [Act.put, List.setIfInBounds_toArray, List.set_cons_succ, List.set_cons_zero]
  refine seqP_free rfl rfl rfl (v := .agg (bV 10 s)) rfl ?_ ?_
  · intro w' hw' K hK
    go_wp2_with fail
    exact hK _ _ rfl (Below.refl _ _)
  simp only [Act.put, List.setIfInBounds_toArray, List.set_cons_succ, List.set_cons_zero]
  refine seqP_free rfl rfl rfl (v := .int .i64 need) rfl ?_ ?_
  · intro w' hw' K hK
    go_wp2_with fail
    exact hK _ _ rfl (Below.refl _ _)
  simp only [Act.put, List.setIfInBounds_toArray, List.set_cons_succ, List.set_cons_zero]
  refine seqP_free rfl rfl rfl (v := .agg #[.int .i64 need, .int .i64 1, .int .i64 4]) rfl ?_ ?_
  · intro w' hw' K hK
    go_wp2_with fail
    refine (needed_any need _).mono ?_
    rintro e w5 ⟨rfl, hb5⟩
    go_wp2_with fail
    exact hK _ _ rfl hb5
  simp only [Act.put, List.setIfInBounds_toArray, List.set_cons_succ, List.set_cons_zero]
  refine seqP_call rfl rfl (v := .slice (some ⟨p, 0, none⟩) 1 1) rfl ?_ ?_
  · rintro w' hw' rfl K hK
    go_wp2_with fail
    exact hK _ _ rfl ((Below.refl _ _).alloc (Nat.le_refl _) _) (Holds.new _ _ _)
  simp only [Act.put, List.setIfInBounds_toArray, List.set_cons_succ, List.set_cons_zero]
  intro W2 _ hW2 hp
  have j0 := g0.below hW2 g0.lt
  have j1 := g1.below hW2 g1.lt
  have hB2 : Below u w W2 := hB1.trans (hW2.mono (by have := g0.lt; omega))
  clear hW2 g0 g1 hB1 r0 r1
  go_wp2_with fail
  refine (HC.out _ _ hp).mono ?_
  rintro e W3 ⟨⟨x, rfl, hx⟩, hb1⟩
  have k0 := j0.below hb1 j0.lt
  have k1 := j1.below hb1 j1.lt
  have hB3 : Below u w W3 := hB2.trans (hb1.mono (by have := j0.lt; omega))
  clear hb1 j0 j1 hB2 hp HC HCT
  rcases hx with ⟨rfl, hc⟩ | ⟨hc, t, a, rfl, hr⟩
  · obtain ⟨hw, hn⟩ := HRG.out hc
    obtain ⟨n, rfl⟩ : ∃ n : Nat, need = n := ⟨need.toNat, by omega⟩
    obtain ⟨hv1, hv2, -⟩ := validB_true (weedB_true hw).1
    obtain ⟨H, hH⟩ : ∃ H : Nat, L.high = H := ⟨L.high.toNat, by omega⟩
    have HE0 := Lib.hid (show bestR0 L s n = ((leastTo (cutN L s n) H).1 : Nat) by rw [HR0.out, if_pos hc, HRR.out, hH]; simp)
    have HE1 := Lib.hid (show bestR1 L s n = ((leastTo (cutN L s n) H).2 : Nat) by rw [HR1.out, if_pos hc, HRR.out, hH]; simp)
    have HCC := Lib.hid hc
    have hn1 : 1 ≤ n := by omega
    have hn4 : n ≤ 4 := by omega
    have hH10 : H ≤ 10 := by omega
    have HSO := Lib.hid (spreadingOn_any L (weedB_true hw).1 HL.out n)
    have HLA := Lib.hid (fun s a b w ha hb => later_any (soilS L) n hn1 hn4 s a b w ha hb)
    have HTK := Lib.hid (fun (r : Nat) (hr : r < H) w => taken_any L (weedB_true hw).1 HL.out r (by omega) false w)
    have HCD := Lib.hid (show ∀ r, cutN L s n r = cntR (dayS (soilS L) n (fun y x => s y x && !takeS L r false y x)) 10 from fun r => rfl)
    have HCL := Lib.hid (fun r => cutN_le hw n r)
    obtain ⟨c, hcN⟩ : ∃ c, cutN L s n = c := ⟨_, rfl⟩
    rw [hcN] at HE0 HE1 HCD HCL
    have HLT := Lib.hid (leastTo_le c)
    have HLH := Lib.hid (leastTo_hit c)
    have HLM := Lib.hid (leastTo_miss c)
    have hE : ∀ args w, (callFunc 86 args).run Tryd.prog w = .ok (.enter 86 args) w := fun args w => by kernel_rfl
    obtain ⟨r0, -, -, -, l0⟩ := k0.facts
    have HLh := Lib.hid (show L.cells[1]? = some (.int .i8 (H : Int)) by rw [← hH]; exact Lawn.cells_1 L)
    clear hc hw hn HRG HR0 HR1 HRR hv1 hv2 hH hcN
    go_wp2_with fail
    refine (HSO.out _).mono ?_
    rintro e W4 ⟨⟨f, rfl, q, hq, rfl, qa, qb⟩, hb4⟩
    have i0 := k0.below hb4 k0.lt
    have i1 := k1.below hb4 k1.lt
    have hB4 : Below u w W4 := hB3.trans (hb4.mono (by have := k0.lt; omega))
    have hqu : u + 2 ≤ q := by have := k1.lt; omega
    clear hb4 k0 k1 hB3 r0 l0 hq HSO
    obtain ⟨r0, -, c0, -, l0⟩ := i0.facts
    have ch : W4.cell? ⟨u, 1, none⟩ = some (.int .i8 H) := by rw [c0]; exact HLh.out
    have e1 : IntKind.i64.wrap (H : Int) = H := IntWalk.i64_in _ (by omega)
    clear c0 r0
    go_wp2_with fail
    go_loopw [11, 12, 13, 14, 15, 32] (fun a b _ _ _ x wr => ∃ k : Nat, k ≤ H ∧ x = .int .i64 k ∧ a = .int .i64 ((leastTo c k).1 : Nat) ∧ b = .int .i64 ((leastTo c k).2 : Nat) ∧ Holds wr u L.cells ∧ Holds wr (u + 1) (bV 10 s) ∧ Holds wr q (bV 10 (soilS L)) ∧ Holds wr (q + 1) #[.int .i64 n] ∧ Below u w wr) (fun _ _ _ _ _ x _ => H - (intOf x).toNat)
    case atStart => exact ⟨0, by omega, rfl, rfl, rfl, i0, i1, qa, qb, hB4⟩
    case round =>
      obtain ⟨k, hk, rfl, rfl, rfl, h0, h1, ha, hbn, hb⟩ := hrel
      have hlt1 := (HLT.out k).1
      have hlt2 := (HLT.out k).2
      have HLHk := Lib.hid (HLH.out k)
      have HLMk := Lib.hid (HLM.out k)
      obtain ⟨B, hB⟩ : ∃ B, (leastTo c k).1 = B := ⟨_, rfl⟩
      obtain ⟨M, hM⟩ : ∃ M, (leastTo c k).2 = M := ⟨_, rfl⟩
      obtain ⟨C, hC⟩ : ∃ C, c k = C := ⟨_, rfl⟩
      have hcl := HCL.out k
      have HCDk := Lib.hid (HCD.out k)
      have HBM := Lib.hid (show leastTo c k = (B, M) from Prod.ext hB hM)
      rw [hC, hM] at HLHk
      rw [hC, hM] at HLMk
      rw [hC] at hcl HCDk
      rw [hB] at hlt1 ⊢
      rw [hM] at hlt2 ⊢
      clear hB hM hC
      by_cases hlt : k < H
      · have hd : decide ((k : Int) < (H : Int)) = true := by simp; omega
        go_wp2_with fail
        obtain ⟨z, hz⟩ : ∃ z, wr.heap.size = z := ⟨_, rfl⟩
        have m0 := h0.alloc (.cells #[.int .i64 k, .bool false] 82)
        have m1 := h1.alloc (.cells #[.int .i64 k, .bool false] 82)
        have ma := ha.alloc (.cells #[.int .i64 k, .bool false] 82)
        have mb := hbn.alloc (.cells #[.int .i64 k, .bool false] 82)
        have mp := Holds.new' wr #[.int .i64 k, .bool false] 82 z hz.symm
        have hb5 : Below u w (wr.alloc (.cells #[.int .i64 k, .bool false] 82)) := hb.alloc (by have := h0.lt; omega) _
        obtain ⟨W5, hW5⟩ : ∃ W5, wr.alloc (.cells #[.int .i64 k, .bool false] 82) = W5 := ⟨_, rfl⟩
        try simp only [hz]
        rw [hW5] at m0 m1 ma mb mp hb5 ⊢
        clear hW5 hz h0 h1 ha hbn hb
        obtain ⟨c0, -⟩ := m0.later
        obtain ⟨c1, -⟩ := m1.later
        obtain ⟨-, c2⟩ := mp.later
        have c20 : ∀ w', Below W5.heap.size W5 w' → w'.cell? ⟨z, 0, none⟩ = some (.int .i64 k) := fun w' hw => (c2 w' hw 0).trans rfl
        have c21 : ∀ w', Below W5.heap.size W5 w' → w'.cell? ⟨z, 1, none⟩ = some (.bool false) := fun w' hw => (c2 w' hw 1).trans rfl
        have HTKk := Lib.hid (HTK.out k hlt)
        clear c2
        refine wp_region_grow 8 (by kernel_rfl) (by kernel_rfl) ?_
        simp only [List.take_succ_cons, List.take_zero, List.drop_succ_cons, List.drop_zero]
        apply wpGrow_plain rfl
        · intro w' hw' K hK
          go_wp2_with fail
          exact hK _ _ rfl hw'
        simp only [Act.put, List.setIfInBounds_toArray, List.set_cons_succ, List.set_cons_zero]
        apply wpGrow_plain rfl
        · intro w' hw' K hK
          go_wp2_with fail
          exact hK _ _ rfl hw'
        simp only [Act.put, List.setIfInBounds_toArray, List.set_cons_succ, List.set_cons_zero]
        apply wpGrow_plain rfl
        · intro w' hw' K hK
          go_wp2_with fail
          exact hK _ _ rfl hw'
        simp only [Act.put, List.setIfInBounds_toArray, List.set_cons_succ, List.set_cons_zero]
        apply wpGrow_plain rfl
        · intro w' hw' K hK
          go_wp2_with fail
          exact hK _ _ rfl hw'
        simp only [Act.put, List.setIfInBounds_toArray, List.set_cons_succ, List.set_cons_zero]
        apply wpGrow_plain rfl
        · intro w' hw' K hK
          go_wp2_with fail
          refine (HTKk.out _).mono ?_
          rintro e w5 ⟨rfl, hb5⟩
          go_wp2_with fail
          exact hK _ _ rfl (below_onto hw' hb5)
        simp only [Act.put, List.setIfInBounds_toArray, List.set_cons_succ, List.set_cons_zero]
        apply wpGrow_plain rfl
        · intro w' hw' K hK
          go_wp2_with fail
          refine (wdWithout_any _ _ _).mono ?_
          rintro e w5 ⟨rfl, hb5⟩
          go_wp2_with fail
          exact hK _ _ rfl (below_onto hw' hb5)
        simp only [Act.put, List.setIfInBounds_toArray, List.set_cons_succ, List.set_cons_zero]
        apply wpGrow_plain rfl
        · intro w' hw' K hK
          go_wp2_with fail
          refine (HLA.out _ q (q + 1) _ (ma.below hw' ma.lt) (mb.below hw' mb.lt)).mono ?_
          rintro e w5 ⟨rfl, hb5⟩
          go_wp2_with fail
          exact hK _ _ rfl (below_onto hw' hb5)
        simp only [Act.put, List.setIfInBounds_toArray, List.set_cons_succ, List.set_cons_zero]
        apply wpGrow_plain rfl
        · intro w' hw' K hK
          go_wp2_with fail
          refine (wdCount_any _ _).mono ?_
          rintro e w5 ⟨rfl, hb5⟩
          rw [← HCDk.out]
          go_wp2_with fail
          exact hK _ _ rfl (below_onto hw' hb5)
        simp only [Act.put, List.setIfInBounds_toArray, List.set_cons_succ, List.set_cons_zero]
        refine wpGrow_nil ?_
        intro W6 hW6
        have n0 := m0.below hW6 m0.lt
        have n1 := m1.below hW6 m1.lt
        have na := ma.below hW6 ma.lt
        have nb := mb.below hW6 mb.lt
        have hb7 : Below u w W6 := hb5.trans (hW6.mono (by have := m0.lt; omega))
        clear hW6 m0 m1 ma mb mp hb5 c0 c1 c20 c21
        by_cases hcm : C < M
        · have hdc : decide ((C : Int) < (M : Int)) = true := by simp; omega
          have hdn : decide (C < M) = true := by simp; omega
          have HE := Lib.hid (HLHk.out hcm)
          clear hcm
          go_wp2_with fail
          go_roundw
          case rel => exact ⟨k + 1, by omega, by go_num, by rw [HE.out], by rw [HE.out], n0, n1, na, nb, hb7⟩
          case measure => simp [intOf]; omega
        · have hdc : decide ((C : Int) < (M : Int)) = false := by simp; omega
          have hdn : decide (C < M) = false := by simp; omega
          have HE := Lib.hid ((HLMk.out hcm).trans HBM.out)
          clear hcm
          go_wp2_with fail
          go_roundw
          case rel => exact ⟨k + 1, by omega, by go_num, by rw [HE.out], by rw [HE.out], n0, n1, na, nb, hb7⟩
          case measure => simp [intOf]; omega
      · obtain rfl : k = H := by omega
        have hd : decide ((k : Int) < (k : Int)) = false := by simp
        go_wp2_with fail
        go_ret3
        exact ⟨by rw [HE0.out, HE1.out, HCC.out, HBM.out]; rfl, by rw [HU.out]; exact hb⟩
  · have HR := Lib.hid hr
    have HZ0 := Lib.hid (show bestR0 L s need = 0 by rw [HR0.out, if_neg hc])
    have HZ1 := Lib.hid (show bestR1 L s need = 0 by rw [HR1.out, if_neg hc])
    clear hc hr HRG
    go_wp2_with fail
    refine (HR.out _).mono ?_
    rintro e w2 ⟨rfl, hb3⟩
    go_wp2_with fail
    go_ret3
    exact ⟨by rw [HZ0.out, HZ1.out]; rfl, by rw [HU.out]; exact hB3.trans (hb3.mono (by have := k0.lt; omega))⟩

set_option maxRecDepth 100000 in
set_option maxHeartbeats 4000000 in
theorem specBestRow_any (L : Lawn) (hL : L.Fits) (s : Nat → Nat → Bool) (need : Int) (w : World) :
    Calls Tryd.prog 29 #[.agg L.cells, .agg (bV 10 s), .int .i64 need] w fun e w' => e = .returned (.tuple #[.int .i64 (bestR0 L s need), .int .i64 (bestR1 L s need), .int .i64 (bestRC L s need)]) ∧ Below w.heap.size w w' := by
  obtain ⟨u, hu⟩ : ∃ u, w.heap.size = u := ⟨_, rfl⟩
  obtain ⟨W1, hW1⟩ : ∃ W1, (w.alloc (.cells L.cells 31)).alloc (.cells (bV 10 s) 33) = W1 := ⟨_, rfl⟩
  have g0 : Holds W1 u L.cells := by rw [← hW1]; exact (Holds.new' _ _ _ _ hu.symm).alloc _
  have g1 : Holds W1 (u + 1) (bV 10 s) := by rw [← hW1]; exact Holds.new' _ _ _ _ (by simp; omega)
  have hB1 : Below u w W1 := by rw [← hW1]; exact ((Below.refl u w).alloc (by omega) _).alloc (by simp; omega) _
  have HU := Lib.hid hu
  obtain ⟨vn, hvn⟩ : ∃ vn, inB need 1 4 = vn := ⟨_, rfl⟩
  have HN := Lib.hid (l07Need_is need vn hvn)
  have HO := Lib.hid (l07Asked_any L hL s u (u + 1) vn W1 g0 g1)
  have HCC := Lib.hid (show bestRC L s need = told (weedB L s) vn by rw [bestRC, hvn])
  rw [← HCC.out] at HO
  have HRG := Lib.hid (fun h => needC_good (L := L) (s := s) (need := need) h)
  have HR0 := Lib.hid (show bestR0 L s need = if bestRC L s need = 0 then ((bestR L s need).1 : Int) else 0 from rfl)
  have HR1 := Lib.hid (show bestR1 L s need = if bestRC L s need = 0 then ((bestR L s need).2 : Int) else 0 from rfl)
  have HRR := Lib.hid (show bestR L s need = leastTo (cutN L s need.toNat) L.high.toNat from rfl)
  have HL := Lib.hid hL
  clear hL hvn
  go_enter Tryd.func29, Tryd.ntmps29
  go_wp2_with fail
  try simp only [hu, Nat.add_assoc, Nat.reduceAdd]
  try rw [hW1]
  clear hW1 hu
  refine (HN.out _).mono ?_
  rintro e w2 ⟨rfl, hw2⟩
  rw [hw2]
  clear hw2 HN
  go_wp2_with fail
  refine HO.out.mono ?_
  rintro e W3 ⟨rfl, hb3⟩
  have k0 := g0.below hb3 g0.lt
  have k1 := g1.below hb3 g1.lt
  have hB3 : Below u w W3 := hB1.trans (hb3.mono (by have := g0.lt; omega))
  clear hb3 g0 g1 hB1 HO HCC
  by_cases hc : bestRC L s need = 0
  · obtain ⟨hw, hn⟩ := HRG.out hc
    obtain ⟨n, rfl⟩ : ∃ n : Nat, need = n := ⟨need.toNat, by omega⟩
    obtain ⟨hv1, hv2, -⟩ := validB_true (weedB_true hw).1
    obtain ⟨H, hH⟩ : ∃ H : Nat, L.high = H := ⟨L.high.toNat, by omega⟩
    have HE0 := Lib.hid (show bestR0 L s n = ((leastTo (cutN L s n) H).1 : Nat) by rw [HR0.out, if_pos hc, HRR.out, hH]; simp)
    have HE1 := Lib.hid (show bestR1 L s n = ((leastTo (cutN L s n) H).2 : Nat) by rw [HR1.out, if_pos hc, HRR.out, hH]; simp)
    have HCC := Lib.hid hc
    have hn4 : n ≤ 4 := by omega
    have hH10 : H ≤ 10 := by omega
    have hH1 : 1 ≤ H := by omega
    have HCT := Lib.hid (fun (r : Nat) (hr : r < H) w h => l07Cut_any L (weedB_true hw).1 r (by omega) false s u w h)
    have HDY := Lib.hid (fun (r b : Nat) (w : World) ha hb => l07Day_any L HL.out (cutS L r false s) (weedB_cut hw r false) n hn4 u b w ha hb)
    have HCD := Lib.hid (show ∀ r, cutN L s n r = cntR (dayS (soilS L) n (cutS L r false s)) 10 from fun r => rfl)
    have HCL := Lib.hid (fun r => cutN_le hw n r)
    have HLh := Lib.hid (show L.cells[1]? = some (.int .i8 (H : Int)) by rw [← hH]; exact Lawn.cells_1 L)
    obtain ⟨c, hcN⟩ : ∃ c, cutN L s n = c := ⟨_, rfl⟩
    rw [hcN] at HE0 HE1 HCD HCL
    have HLT := Lib.hid (leastTo_le c)
    have HLH := Lib.hid (leastTo_hit c)
    have HLM := Lib.hid (leastTo_miss c)
    have HL1 := Lib.hid (leastTo_one c (HCL.out 0))
    have e1 : IntKind.i64.wrap (H : Int) = H := IntWalk.i64_in _ (by omega)
    rw [hc]
    clear hc hw hn HRG HR0 HR1 HRR hv1 hv2 hH hcN
    go_wp2_with fail
    go_loopw [10, 11, 12, 13, 14, 15] (fun a b x _ _ _ wr => ∃ k : Nat, k ≤ H ∧ x = .int .i64 k ∧ ((k = 0 ∧ a = .int .i64 0 ∧ b = .int .i64 (-1)) ∨ (0 < k ∧ a = .int .i64 ((leastTo c k).1 : Nat) ∧ b = .int .i64 ((leastTo c k).2 : Nat))) ∧ Holds wr u L.cells ∧ Holds wr (u + 1) (bV 10 s) ∧ Below u w wr) (fun _ _ x _ _ _ _ => H - (intOf x).toNat)
    case atStart => exact ⟨0, by omega, rfl, .inl ⟨rfl, rfl, rfl⟩, k0, k1, hB3⟩
    case round =>
      obtain ⟨k, hk, rfl, hab, h0, h1, hb⟩ := hrel
      obtain ⟨-, -, c0, -, l0⟩ := h0.facts
      have ch := (c0 1).trans HLh.out
      by_cases hlt : k < H
      · have hd : decide ((k : Int) < (H : Int)) = true := by simp; omega
        obtain ⟨r1, -, -, -, l1⟩ := h1.facts
        have HCTk := Lib.hid (HCT.out k hlt)
        have HDYk := Lib.hid (HDY.out k)
        have HCDk := Lib.hid (HCD.out k)
        have HC100 := Lib.hid (HCL.out k)
        have HLHk := Lib.hid (HLH.out k)
        have HLMk := Lib.hid (HLM.out k)
        have HLTk := Lib.hid (HLT.out k)
        obtain ⟨C, hC⟩ : ∃ C, c k = C := ⟨_, rfl⟩
        obtain ⟨B, hB⟩ : ∃ B, (leastTo c k).1 = B := ⟨_, rfl⟩
        obtain ⟨M, hM⟩ : ∃ M, (leastTo c k).2 = M := ⟨_, rfl⟩
        have HBM := Lib.hid (show leastTo c k = (B, M) from Prod.ext hB hM)
        have HCk := Lib.hid hC
        rw [hC] at HCDk HC100 HLHk
        rw [hM] at HLHk HLMk HLTk hab
        rw [hC] at HLMk
        rw [hB] at hab HLTk
        have HAB := Lib.hid hab
        clear hab hC hB hM c0
        obtain ⟨v, hv⟩ : ∃ v : Int, (k = 0 ∧ v = -1) ∨ (0 < k ∧ v = (M : Int)) := by
          rcases Nat.eq_zero_or_pos k with h | h
          · exact ⟨-1, .inl ⟨h, rfl⟩⟩
          · exact ⟨M, .inr ⟨h, rfl⟩⟩
        obtain ⟨v', hv'⟩ : ∃ v' : Int, (k = 0 ∧ v' = 0) ∨ (0 < k ∧ v' = (B : Int)) := by
          rcases Nat.eq_zero_or_pos k with h | h
          · exact ⟨0, .inl ⟨h, rfl⟩⟩
          · exact ⟨B, .inr ⟨h, rfl⟩⟩
        obtain ⟨rfl, rfl⟩ : u10 = .int .i64 v' ∧ u11 = .int .i64 v := by
          rcases HAB.out with ⟨h, h1, h2⟩ | ⟨h, h1, h2⟩
          · rcases hv with ⟨-, rfl⟩ | ⟨h', -⟩
            · rcases hv' with ⟨-, rfl⟩ | ⟨h', -⟩
              · exact ⟨h1, h2⟩
              · omega
            · omega
          · rcases hv with ⟨h', -⟩ | ⟨-, rfl⟩
            · omega
            · rcases hv' with ⟨h', -⟩ | ⟨-, rfl⟩
              · omega
              · exact ⟨h1, h2⟩
        clear HAB
        have HV := Lib.hid hv
        have HV' := Lib.hid hv'
        clear hv hv'
        go_wp2_with fail
        refine (HCTk.out _ h0).mono ?_
        rintro e W5 ⟨rfl, hb5⟩
        obtain ⟨z, hz⟩ : ∃ z, W5.heap.size = z := ⟨_, rfl⟩
        have j0 := h0.below hb5 h0.lt
        have j1 := h1.below hb5 h1.lt
        have hB5 : Below u w W5 := hb.trans (hb5.mono (by have := h0.lt; omega))
        have hzu : u + 2 ≤ z := by have := j1.lt; omega
        clear hb5 h0 h1 hb ch l0 r1 l1
        have m0 := j0.alloc (.cells (bV 10 (cutS L k false s)) 33)
        have m1 := j1.alloc (.cells (bV 10 (cutS L k false s)) 33)
        have mp := Holds.new' W5 (bV 10 (cutS L k false s)) 33 z hz.symm
        have hB6 : Below u w (W5.alloc (.cells (bV 10 (cutS L k false s)) 33)) := hB5.alloc (by omega) _
        go_wp2_with fail
        obtain ⟨W6, hW6⟩ : ∃ W6, W5.alloc (.cells (bV 10 (cutS L k false s)) 33) = W6 := ⟨_, rfl⟩
        try simp only [hz]
        try rw [hW6]
        rw [hW6] at m0 m1 mp hB6
        clear hW6 j0 j1 hB5 hz
        refine (HDYk.out z _ m0 mp).mono ?_
        rintro e W7 ⟨rfl, hb7⟩
        obtain ⟨y, hy⟩ : ∃ y, W7.heap.size = y := ⟨_, rfl⟩
        have n0 := m0.below hb7 m0.lt
        have n1 := m1.below hb7 m1.lt
        have hB7 : Below u w W7 := hB6.trans (hb7.mono (by have := m0.lt; omega))
        have hyu : u + 2 ≤ y := by have := n1.lt; omega
        clear hb7 m0 m1 mp hB6
        have i0 := n0.alloc (.cells (bV 10 (dayS (soilS L) n (cutS L k false s))) 33)
        have i1 := n1.alloc (.cells (bV 10 (dayS (soilS L) n (cutS L k false s))) 33)
        have ip := Holds.new' W7 (bV 10 (dayS (soilS L) n (cutS L k false s))) 33 y hy.symm
        have hB8 : Below u w (W7.alloc (.cells (bV 10 (dayS (soilS L) n (cutS L k false s))) 33)) := hB7.alloc (by omega) _
        go_wp2_with fail
        obtain ⟨W8, hW8⟩ : ∃ W8, W7.alloc (.cells (bV 10 (dayS (soilS L) n (cutS L k false s))) 33) = W8 := ⟨_, rfl⟩
        try simp only [hy]
        try rw [hW8]
        rw [hW8] at i0 i1 ip hB8
        clear hW8 n0 n1 hB7 hy
        refine (l07Count_any _ y _ ip).mono ?_
        rintro e w9 ⟨rfl, hw9⟩
        rw [hw9, ← HCDk.out]
        clear hw9 ip HCDk
        rcases HV.out with ⟨hk0, rfl⟩ | ⟨hk0, rfl⟩
        · have HE := Lib.hid (show leastTo c (k + 1) = (k, C) by subst hk0; rw [← HCk.out]; exact HL1.out)
          clear hk0 HV HV'
          go_wp2_with fail
          go_roundw
          case rel => exact ⟨k + 1, by omega, by go_num, .inr ⟨by omega, by rw [HE.out], by rw [HE.out]⟩, i0, i1, hB8⟩
          case measure => simp [intOf]; omega
        · obtain rfl : v' = (B : Int) := by rcases HV'.out with ⟨h, -⟩ | ⟨-, h⟩ <;> first | exact h | omega
          have hm0 : decide ((M : Int) < 0) = false := by simp <;> omega
          by_cases hcm : C < M
          · have hdc : decide ((C : Int) < (M : Int)) = true := by simp; omega
            have hdn : decide (C < M) = true := by simp; omega
            have HE := Lib.hid (HLHk.out hcm)
            clear hcm HV HV' hk0
            go_wp2_with fail
            go_roundw
            case rel => exact ⟨k + 1, by omega, by go_num, .inr ⟨by omega, by rw [HE.out], by rw [HE.out]⟩, i0, i1, hB8⟩
            case measure => simp [intOf]; omega
          · have hdc : decide ((C : Int) < (M : Int)) = false := by simp; omega
            have hdn : decide (C < M) = false := by simp; omega
            have HE := Lib.hid ((HLMk.out hcm).trans HBM.out)
            clear hcm HV HV' hk0
            go_wp2_with fail
            go_roundw
            case rel => exact ⟨k + 1, by omega, by go_num, .inr ⟨by omega, by rw [HE.out], by rw [HE.out]⟩, i0, i1, hB8⟩
            case measure => simp [intOf]; omega
      · obtain rfl : k = H := by omega
        have hd : decide ((k : Int) < (k : Int)) = false := by simp
        obtain ⟨B, hB⟩ : ∃ B, (leastTo c k).1 = B := ⟨_, rfl⟩
        obtain ⟨M, hM⟩ : ∃ M, (leastTo c k).2 = M := ⟨_, rfl⟩
        rw [hB] at HE0 hab
        rw [hM] at HE1 hab
        obtain ⟨rfl, rfl⟩ : u10 = .int .i64 B ∧ u11 = .int .i64 M := by
          rcases hab with ⟨h, h1, h2⟩ | ⟨h, h1, h2⟩
          · omega
          · exact ⟨h1, h2⟩
        clear hab hB hM c0
        go_wp2_with fail
        go_ret3
        exact ⟨by rw [HE0.out, HE1.out, HCC.out]; rfl, by rw [HU.out]; exact hb⟩
  · have HZ0 := Lib.hid (show bestR0 L s need = 0 by rw [HR0.out, if_neg hc])
    have HZ1 := Lib.hid (show bestR1 L s need = 0 by rw [HR1.out, if_neg hc])
    obtain ⟨m, hm⟩ : ∃ m, bestRC L s need = m := ⟨_, rfl⟩
    have HM := Lib.hid hm
    rw [hm] at hc ⊢
    have hmn : ((m : Int) != 0) = true := by simp [hc]
    clear hm hc HRG HR0 HR1 HRR
    go_wp2_with fail
    go_ret3
    exact ⟨by rw [HZ0.out, HZ1.out, HM.out]; rfl, by rw [HU.out]; exact hB3⟩
end Go.Proofs.YtoengjabakcpjaaDoor
