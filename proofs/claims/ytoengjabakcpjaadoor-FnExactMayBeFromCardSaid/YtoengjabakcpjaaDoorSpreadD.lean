/- SpreadDays and SpreadOnce, of the program and of the model. -/
import Derived.Test.YtoengjabakcpjaaDoorCheckW
import Derived.Test.YtoengjabakcpjaaDoorSDay
import Derived.Test.YtoengjabakcpjaaDoorGrowMP
namespace Go.Proofs.YtoengjabakcpjaaDoor
open Go.RowKit
set_option linter.unusedVariables false
set_option linter.unusedSimpArgs false
attribute [local go_sem ↓] loadRow loadGrid loadLawn loadMirror storeRow storeGrid storeLawn allocRow allocGrid allocLawn buildZero buildSides loadWd storeWd allocWd buildZWd eqlWd

theorem spreading_any (s : Nat → Nat → Bool) (n : Int) (w : World) :
    Calls Tryd.prog 69 #[.agg (bV 10 s), .int .i64 n] w fun e w' => e = .returned (.func (.func 86) #[] #[.pointer (some ⟨w.heap.size, 0, none⟩), .pointer (some ⟨w.heap.size + 1, 0, none⟩)]) ∧ w' = (w.alloc (.cells (bV 10 s) 33)).alloc (.cells #[.int .i64 n] 2) := by
  go_enter Tryd.func69, Tryd.ntmps69
  go_wp2
  go_ret
  exact ⟨rfl, rfl⟩

/-- A function value that spreads weeds, where its boxes lie. -/
def LaterIs (W : World) (B : Nat) (L : Lawn) (n : Int) (f : Value) : Prop := ∃ k, B ≤ k ∧ f = .func (.func 86) #[] #[.pointer (some ⟨k, 0, none⟩), .pointer (some ⟨k + 1, 0, none⟩)] ∧ Holds W k (bV 10 (soilS L)) ∧ Holds W (k + 1) #[.int .i64 n]

set_option maxRecDepth 100000 in
set_option maxHeartbeats 1000000 in
theorem spreadingOn_any (L : Lawn) (hV : validB L = true) (hL : L.Fits) (n : Int) (w : World) :
    Calls Tryd.prog 52 #[.agg L.cells, .int .i64 n] w fun e w' => (∃ f, e = .returned f ∧ LaterIs w' w.heap.size L n f) ∧ Below w.heap.size w w' := by
  have HW := Lib.hid (fun ga w hk => weedsIn_any L hV hL [0, 1] (by decide) ga w hk)
  have g1 := Holds.new' (w.alloc (.cells L.cells 31)) (kV [0, 1]) 5 (w.heap.size + 1) (by simp)
  have hb0 := ((Below.refl w.heap.size w).alloc (Nat.le_refl _) (.cells L.cells 31)).alloc (by simp) (.cells (kV [0, 1]) 5)
  clear hV hL
  go_enter Tryd.func52, Tryd.ntmps52
  go_wp2_with fail
  refine (HW.out _ _ g1).mono ?_
  rintro e w1 ⟨rfl, hb1⟩
  have hb2 := below_onto hb0 hb1
  clear hb0 hb1 g1 HW
  go_wp2_with fail
  refine (spreading_any _ _ _).mono ?_
  rintro e w2 ⟨rfl, hw2⟩
  rw [hw2]
  clear hw2
  go_wp2_with fail
  go_ret
  exact ⟨⟨_, rfl, w1.heap.size, hb2.size, rfl, (Holds.new _ _ _).alloc _, Holds.new' _ _ _ _ (by simp)⟩, (hb2.alloc hb2.size _).alloc (by have := hb2.size; simp; omega) _⟩

theorem needed_any (n : Int) (w : World) :
    Calls Tryd.prog 51 #[.int .i64 n] w fun e w' => e = .returned (.agg #[.int .i64 n, .int .i64 1, .int .i64 4]) ∧ Below w.heap.size w w' := by
  go_enter Tryd.func51, Tryd.ntmps51
  go_wp2
  exact bodyPost_ret (v := .agg #[.int .i64 n, .int .i64 1, .int .i64 4]) (results_cell_holds (n := 3) rfl (by kernel_rfl) _ rfl (Holds.new' _ _ _ _ (by simp)) rfl) rfl ⟨rfl, (Below.refl _ _).alloc (Nat.le_refl _) _⟩

/-- Weeds some days later. -/
def daysS (L : Lawn) (n : Nat) (s : Nat → Nat → Bool) : Nat → Nat → Nat → Bool
  | 0 => s
  | k + 1 => dayS (soilS L) n (daysS L n s k)
theorem weedB_days {L : Lawn} {s : Nat → Nat → Bool} (hw : weedB L s = true) (n : Nat) : ∀ k, weedB L (daysS L n s k) = true
  | 0 => hw
  | k + 1 => weedB_day (weedB_days hw n k) n
/-- What SpreadDays answers. -/
def spreadR (L : Lawn) (s : Nat → Nat → Bool) (need days : Int) : Nat → Nat → Bool := if weedB L s && (inB need 1 4 && inB days 0 60) then daysS L need.toNat s days.toNat else fun _ _ => false
def spreadC (L : Lawn) (s : Nat → Nat → Bool) (need days : Int) : Int := told (weedB L s) (inB need 1 4 && inB days 0 60)

set_option maxRecDepth 100000 in
set_option maxHeartbeats 4000000 in
theorem implSpread_any (L : Lawn) (hL : L.Fits) (s : Nat → Nat → Bool) (need days : Int) (w : World) :
    Calls Tryd.prog 22 #[.agg L.cells, .agg (bV 10 s), .int .i64 need, .int .i64 days] w fun e w' => e = .returned (.tuple #[.agg (bV 10 (spreadR L s need days)), .int .i64 (spreadC L s need days)]) ∧ Below w.heap.size w w' := by
  have HC := Lib.hid (checkWeeds_any L hL s [(need, 1, 4), (days, 0, 60)] (by simp))
  have HT := Lib.hid (show spreadC L s need days = if weedB L s then (if inB need 1 4 && inB days 0 60 then 0 else 2) else 1 from rfl)
  have HCT := Lib.hid (show told (weedB L s) ([(need, (1 : Int), (4 : Int)), (days, 0, 60)].all limB) = spreadC L s need days by simp only [List.all_cons, List.all_nil, Bool.and_true, limB, spreadC])
  rw [HCT.out] at HC
  have HRB := Lib.hid (show spreadC L s need days ≠ 0 → spreadR L s need days = fun _ _ => false from fun h => by
    unfold spreadC told at h
    unfold spreadR
    cases hv : weedB L s <;> cases hf : (inB need 1 4 && inB days 0 60) <;> simp_all)
  have HRG := Lib.hid (show spreadC L s need days = 0 → weedB L s = true ∧ (1 ≤ need ∧ need ≤ 4) ∧ (0 ≤ days ∧ days ≤ 60) ∧ spreadR L s need days = daysS L need.toNat s days.toNat from fun h => by
    unfold spreadC told at h
    cases hv : weedB L s
    · rw [hv] at h; simp at h
    · rw [hv] at h
      cases hf : (inB need 1 4 && inB days 0 60)
      · rw [hf] at h; simp at h
      · have hf' := hf
        simp only [Bool.and_eq_true] at hf'
        refine ⟨rfl, inB_true hf'.1, inB_true hf'.2, ?_⟩
        unfold spreadR
        rw [hv, hf]
        rfl)
  obtain ⟨u, hu⟩ : ∃ u, w.heap.size = u := ⟨_, rfl⟩
  obtain ⟨W1, hW1⟩ : ∃ W1, ((w.alloc (.cells L.cells 31)).alloc (.cells (bV 10 s) 33)).alloc (.cells (bV 10 fun _ _ => false) 33) = W1 := ⟨_, rfl⟩
  have g0 : Holds W1 u L.cells := by rw [← hW1]; exact ((Holds.new' _ _ _ _ hu.symm).alloc _).alloc _
  have g1 : Holds W1 (u + 1) (bV 10 s) := by rw [← hW1]; exact (Holds.new' _ _ _ _ (by simp; omega)).alloc _
  have g2 : Holds W1 (u + 2) (bV 10 fun _ _ => false) := by rw [← hW1]; exact Holds.new' _ _ _ _ (by simp; omega)
  have hB1 : Below u w W1 := by rw [← hW1]; exact (((Below.refl u w).alloc (by omega) _).alloc (by simp; omega) _).alloc (by simp; omega) _
  have HU := Lib.hid hu
  have HL := Lib.hid hL
  clear hL
  go_enter Tryd.func22, Tryd.ntmps22
  go_wp2_with fail
  try simp only [hu, Nat.add_assoc, Nat.reduceAdd]
  clear hW1 hu
  obtain ⟨r0, -⟩ := g0.later
  obtain ⟨r1, -⟩ := g1.later
  refine wp_region_growMP 7 6 [] (fun p w' => Holds w' p (limV [(need, 1, 4), (days, 0, 60)])) (fun p a b h hb => h.below hb h.lt)
    (fun p => [.agg L.cells, .agg (bV 10 s), .int .i64 need, .agg #[.int .i64 need, .int .i64 1, .int .i64 4], .int .i64 days, .agg #[.int .i64 days, .int .i64 0, .int .i64 60], .slice (some ⟨p, 0, none⟩) 2 2]) ?hv (by kernel_rfl) (by decide) (by kernel_rfl) (by kernel_rfl) (by kernel_rfl) ?_
  case hv =>
    intro p p' j h1 h2
    match j with
    | 0 => rfl
    | 1 => rfl
    | 2 => rfl
    | 3 => rfl
    | 4 => rfl
    | 5 => rfl
    | 6 => exact absurd rfl h1
    | j + 7 => rfl
  intro p
  simp only [List.take_succ_cons, List.take_zero, List.drop_succ_cons, List.drop_zero]
  refine seqP_free rfl rfl rfl (v := .agg L.cells) rfl ?_ ?_
  · intro w' hw' K hK
    go_wp2_with fail
    exact hK _ _ rfl (Below.refl _ _)
  simp only [Act.put, List.setIfInBounds_toArray, List.set_cons_succ, List.set_cons_zero]
  refine seqP_free rfl rfl rfl (v := .agg (bV 10 s)) rfl ?_ ?_
  · intro w' hw' K hK
    go_wp2_with fail
    exact hK _ _ rfl (Below.refl _ _)
  simp only [Act.put, List.setIfInBounds_toArray, List.set_cons_succ, List.set_cons_zero]
  refine seqP_free rfl rfl rfl (v := .int .i64 need) rfl ?_ ?_
  · intro w' hw' K hK
    go_wp2_with fail
    exact hK _ _ rfl (Below.refl _ _)
  simp only [Act.put, List.setIfInBounds_toArray, List.set_cons_succ, List.set_cons_zero]
  refine seqP_free rfl rfl rfl (v := .agg #[.int .i64 need, .int .i64 1, .int .i64 4]) rfl ?_ ?_
  · intro w' hw' K hK
    go_wp2_with fail
    refine (needed_any need _).mono ?_
    rintro e w2 ⟨rfl, hb2⟩
    go_wp2_with fail
    exact hK _ _ rfl hb2
  simp only [Act.put, List.setIfInBounds_toArray, List.set_cons_succ, List.set_cons_zero]
  refine seqP_free rfl rfl rfl (v := .int .i64 days) rfl ?_ ?_
  · intro w' hw' K hK
    go_wp2_with fail
    exact hK _ _ rfl (Below.refl _ _)
  simp only [Act.put, List.setIfInBounds_toArray, List.set_cons_succ, List.set_cons_zero]
  refine seqP_free rfl rfl rfl (v := .agg #[.int .i64 days, .int .i64 0, .int .i64 60]) rfl ?_ ?_
  · intro w' hw' K hK
    go_wp2_with fail
    exact hK _ _ rfl (Below.refl _ _)
  simp only [Act.put, List.setIfInBounds_toArray, List.set_cons_succ, List.set_cons_zero]
  refine seqP_call rfl rfl (v := .slice (some ⟨p, 0, none⟩) 2 2) rfl ?_ ?_
  · rintro w' hw' rfl K hK
    go_wp2_with fail
    exact hK _ _ rfl ((Below.refl _ _).alloc (Nat.le_refl _) _) (Holds.new _ _ _)
  simp only [Act.put, List.setIfInBounds_toArray, List.set_cons_succ, List.set_cons_zero]
  intro W2 _ hW2 hp
  have j0 := g0.below hW2 g0.lt
  have j1 := g1.below hW2 g1.lt
  have j2 := g2.below hW2 g2.lt
  have hB2 : Below u w W2 := hB1.trans (hW2.mono (by have := g0.lt; omega))
  clear hW2 g0 g1 g2 hB1 r0 r1
  go_wp2_with fail
  refine (HC.out _ _ hp).mono ?_
  rintro e W3 ⟨⟨x, rfl, hx⟩, hb1⟩
  have k0 := j0.below hb1 j0.lt
  have k1 := j1.below hb1 j1.lt
  have k2 := j2.below hb1 j2.lt
  have hB3 : Below u w W3 := hB2.trans (hb1.mono (by have := j0.lt; omega))
  clear hb1 j0 j1 j2 hB2 hp HC HCT
  rcases hx with ⟨rfl, hc⟩ | ⟨hc, t, a, rfl, hr⟩
  · obtain ⟨hw, hn, hd, hR⟩ := HRG.out hc
    obtain ⟨n, rfl⟩ : ∃ n : Nat, need = n := ⟨need.toNat, by omega⟩
    obtain ⟨D, rfl⟩ : ∃ D : Nat, days = D := ⟨days.toNat, by omega⟩
    simp only [Int.toNat_natCast] at hR
    have HRR := Lib.hid hR
    have HCC := Lib.hid hc
    have hn1 : 1 ≤ n := by omega
    have hn4 : n ≤ 4 := by omega
    have hD60 : D ≤ 60 := by omega
    have HSO := Lib.hid (spreadingOn_any L (weedB_true hw).1 HL.out n)
    have HLA := Lib.hid (fun s a b w ha hb => later_any (soilS L) n hn1 hn4 s a b w ha hb)
    have hE : ∀ args w, (callFunc 86 args).run Tryd.prog w = .ok (.enter 86 args) w := fun args w => by kernel_rfl
    obtain ⟨r0, -, -, -, l0⟩ := k0.facts
    clear hc hw hn hd hR HRG HRB HT
    go_wp2_with fail
    refine (HSO.out _).mono ?_
    rintro e W4 ⟨⟨f, rfl, q, hq, rfl, qa, qb⟩, hb4⟩
    have i0 := k0.below hb4 k0.lt
    have i1 := k1.below hb4 k1.lt
    have i2 := k2.below hb4 k2.lt
    have hB4 : Below u w W4 := hB3.trans (hb4.mono (by omega))
    have hqu : u + 3 ≤ q := by have := k2.lt; omega
    clear hb4 k0 k1 k2 hB3 r0 l0 hq HSO
    go_wp2_with fail
    go_loopw [29] (fun x wr => ∃ k : Nat, k ≤ D ∧ x = .int .i64 k ∧ Holds wr (u + 1) (bV 10 (daysS L n s k)) ∧ Holds wr (u + 2) (bV 10 fun _ _ => false) ∧ Holds wr q (bV 10 (soilS L)) ∧ Holds wr (q + 1) #[.int .i64 n] ∧ Below u w wr) (fun x _ => D - (intOf x).toNat)
    case atStart => exact ⟨0, by omega, rfl, i1, i2, qa, qb, hB4⟩
    case round =>
      obtain ⟨k, hk, rfl, h1, h2, ha, hbn, hb⟩ := hrel
      by_cases hlt : k < D
      · have hd : decide ((k : Int) < (D : Int)) = true := by simp; omega
        obtain ⟨r1, -, -, -, l1⟩ := h1.facts
        go_wp2_with fail
        refine (HLA.out _ q (q + 1) _ ha hbn).mono ?_
        rintro e w5 ⟨rfl, hb5⟩
        have m1 := h1.below hb5 h1.lt
        have m2 := h2.below hb5 h2.lt
        have ma := ha.below hb5 ha.lt
        have mb := hbn.below hb5 hbn.lt
        have hb6 : Below u w w5 := hb.trans (hb5.mono (by omega))
        have HM := Lib.hid (show daysS L n s (k + 1) = dayS (soilS L) n (daysS L n s k) from rfl)
        clear hb5 h1 h2 ha hbn hb r1 l1
        obtain ⟨r1, f1, -, z1, l1⟩ := m1.facts
        go_wp2_with fail
        go_roundw
        case rel => exact ⟨k + 1, by omega, by go_num, by rw [HM.out]; exact m1.setRow _, m2.setRow_other _ (by omega), ma.setRow_other _ (by omega), mb.setRow_other _ (by omega), below_setRow' hb6 (by omega) _⟩
        case measure => simp [intOf]; omega
      · obtain rfl : k = D := by omega
        have hd : decide ((k : Int) < (k : Int)) = false := by simp
        obtain ⟨r1, -, -, -, l1⟩ := h1.facts
        obtain ⟨r2, f2, -, z2, l2⟩ := h2.facts
        go_wp2_with fail
        exact bodyPost_ret (results_cell_tmp_holds rfl wideWd _ rfl (h2.setRow (bV 10 (daysS L n s k))) (by simp)) rfl ⟨by rw [HRR.out, HCC.out]; rfl, by rw [HU.out]; exact below_setRow' hb (by omega) _⟩
  · have HR := Lib.hid hr
    have HZ := Lib.hid (HRB.out hc)
    clear hc hr HRG HRB HT
    go_wp2_with fail
    refine (HR.out _).mono ?_
    rintro e w2 ⟨rfl, hb3⟩
    have m2 := k2.below hb3 k2.lt
    have hb6 : Below u w w2 := hB3.trans (hb3.mono (by have := k2.lt; omega))
    clear hb3 k0 k1 k2 hB3
    obtain ⟨r2, f2, -, z2, l2⟩ := m2.facts
    go_wp2_with fail
    exact bodyPost_ret (results_cell_tmp_holds rfl wideWd _ rfl (m2.setRow (bV 10 fun _ _ => false)) (by simp)) rfl ⟨by rw [HZ.out]; rfl, by rw [HU.out]; exact below_setRow' hb6 (by omega) _⟩

theorem l07Need_is (n : Int) (v : Bool) (h : inB n 1 4 = v) (w : World) :
    Calls Tryd.prog 48 #[.int .i64 n] w fun e w' => e = .returned (.bool v) ∧ w' = w := by
  have H := Lib.hid h
  clear h
  go_enter Tryd.func48, Tryd.ntmps48
  go_wp2_with fail
  refine (in_q _ _ _ _).mono ?_
  rintro e w1 ⟨rfl, rfl⟩
  rw [H.out]
  go_wp2_with fail
  go_ret
  exact ⟨rfl, rfl⟩

set_option maxRecDepth 100000 in
set_option maxHeartbeats 4000000 in
theorem specSpread_any (L : Lawn) (hL : L.Fits) (s : Nat → Nat → Bool) (need days : Int) (w : World) :
    Calls Tryd.prog 21 #[.agg L.cells, .agg (bV 10 s), .int .i64 need, .int .i64 days] w fun e w' => e = .returned (.tuple #[.agg (bV 10 (spreadR L s need days)), .int .i64 (spreadC L s need days)]) ∧ Below w.heap.size w w' := by
  obtain ⟨u, hu⟩ : ∃ u, w.heap.size = u := ⟨_, rfl⟩
  obtain ⟨W1, hW1⟩ : ∃ W1, ((w.alloc (.cells L.cells 31)).alloc (.cells (bV 10 s) 33)).alloc (.cells (bV 10 fun _ _ => false) 33) = W1 := ⟨_, rfl⟩
  have g0 : Holds W1 u L.cells := by rw [← hW1]; exact ((Holds.new' _ _ _ _ hu.symm).alloc _).alloc _
  have g1 : Holds W1 (u + 1) (bV 10 s) := by rw [← hW1]; exact (Holds.new' _ _ _ _ (by simp; omega)).alloc _
  have g2 : Holds W1 (u + 2) (bV 10 fun _ _ => false) := by rw [← hW1]; exact Holds.new' _ _ _ _ (by simp; omega)
  have hB1 : Below u w W1 := by rw [← hW1]; exact (((Below.refl u w).alloc (by omega) _).alloc (by simp; omega) _).alloc (by simp; omega) _
  have HU := Lib.hid hu
  have HO := Lib.hid (fun fine => l07Asked_any L hL s _ _ fine W1 g0 g1)
  have HDY := Lib.hid (fun (n : Nat) (h : n ≤ 4) (s : Nat → Nat → Bool) (hw : weedB L s = true) (a b : Nat) (w : World) ha hb => l07Day_any L hL s hw n h a b w ha hb)
  obtain ⟨vn, hvn⟩ : ∃ vn, inB need 1 4 = vn := ⟨_, rfl⟩
  obtain ⟨vd, hvd⟩ : ∃ vd, inB days 0 60 = vd := ⟨_, rfl⟩
  have HN := Lib.hid (l07Need_is need vn hvn)
  have HD := Lib.hid (fun w => show Calls Tryd.prog 50 #[.int .i64 days, .int .i64 0, .int .i64 60] w fun e w' => e = .returned (.bool vd) ∧ w' = w from hvd ▸ in_q _ _ _ w)
  have HC := Lib.hid (show spreadC L s need days = told (weedB L s) (vn && vd) by rw [spreadC, hvn, hvd])
  have HR := Lib.hid (show spreadR L s need days = if weedB L s && (vn && vd) then daysS L need.toNat s days.toNat else fun _ _ => false by rw [spreadR, hvn, hvd])
  have HV := Lib.hid (fun k => weedB_days (L := L) (s := s) (n := need.toNat) (k := k))
  have HNB := Lib.hid (show vn = true → 1 ≤ need ∧ need ≤ 4 from fun h => inB_true (hvn.trans h))
  have HDB := Lib.hid (show vd = true → 0 ≤ days ∧ days ≤ 60 from fun h => inB_true (hvd.trans h))
  obtain ⟨v, hv⟩ : ∃ v, weedB L s = v := ⟨_, rfl⟩
  rw [hv] at HC HR
  have HVV := Lib.hid hv
  simp only [hv] at HO
  clear hL hvn hvd hv
  go_enter Tryd.func21, Tryd.ntmps21
  go_wp2_with fail
  try simp only [hu, Nat.add_assoc, Nat.reduceAdd]
  try rw [hW1]
  clear hW1 hu
  refine (HN.out _).mono ?_
  rintro e w2 ⟨rfl, hw2⟩
  rw [hw2]
  clear hw2
  cases vn
  · have HOx := Lib.hid (HO.out false)
    go_wp2_with fail
    refine HOx.out.mono ?_
    rintro e w3 ⟨rfl, hb3⟩
    have k2 := g2.below hb3 g2.lt
    have hB3 : Below u w w3 := hB1.trans (hb3.mono (by have := g0.lt; omega))
    have hne : told v false ≠ 0 := by cases v <;> decide
    have HZ := Lib.hid (show spreadR L s need days = fun _ _ => false by rw [HR.out]; cases v <;> rfl)
    have HCC := HC
    obtain ⟨m, hm⟩ : ∃ m, told v false = m := ⟨_, rfl⟩
    have HM := Lib.hid (show spreadC L s need days = m by rw [HCC.out]; exact hm)
    rw [hm] at hne ⊢
    have hmn : ((m : Int) != 0) = true := by simp [hne]
    clear hm hne hb3 HC HCC HR
    obtain ⟨r2, f2, -, z2, l2⟩ := k2.facts
    go_wp2_with fail
    exact bodyPost_ret (results_cell_tmp_holds rfl wideWd _ rfl (k2.setRow (bV 10 fun _ _ => false)) (by simp)) rfl ⟨by rw [HZ.out, HM.out]; rfl, by rw [HU.out]; exact below_setRow' hB3 (by omega) _⟩
  · go_wp2_with fail
    refine (HD.out _).mono ?_
    rintro e w2 ⟨rfl, hw2⟩
    rw [hw2]
    clear hw2
    cases vd
    · have HOx := Lib.hid (HO.out false)
      go_wp2_with fail
      refine HOx.out.mono ?_
      rintro e w3 ⟨rfl, hb3⟩
      have k2 := g2.below hb3 g2.lt
      have hB3 : Below u w w3 := hB1.trans (hb3.mono (by have := g0.lt; omega))
      have hne : told v false ≠ 0 := by cases v <;> decide
      have HZ := Lib.hid (show spreadR L s need days = fun _ _ => false by rw [HR.out]; cases v <;> rfl)
      have HCC := HC
      obtain ⟨m, hm⟩ : ∃ m, told v false = m := ⟨_, rfl⟩
      have HM := Lib.hid (show spreadC L s need days = m by rw [HCC.out]; exact hm)
      rw [hm] at hne ⊢
      have hmn : ((m : Int) != 0) = true := by simp [hne]
      clear hm hne hb3 HC HCC HR
      obtain ⟨r2, f2, -, z2, l2⟩ := k2.facts
      go_wp2_with fail
      exact bodyPost_ret (results_cell_tmp_holds rfl wideWd _ rfl (k2.setRow (bV 10 fun _ _ => false)) (by simp)) rfl ⟨by rw [HZ.out, HM.out]; rfl, by rw [HU.out]; exact below_setRow' hB3 (by omega) _⟩
    · cases v
      · have HOx := Lib.hid (HO.out true)
        go_wp2_with fail
        refine HOx.out.mono ?_
        rintro e w3 ⟨rfl, hb3⟩
        have k2 := g2.below hb3 g2.lt
        have hB3 : Below u w w3 := hB1.trans (hb3.mono (by have := g0.lt; omega))
        have hne : told false true ≠ 0 := by decide
        have HZ := Lib.hid (show spreadR L s need days = fun _ _ => false by rw [HR.out]; rfl)
        have HCC := HC
        obtain ⟨m, hm⟩ : ∃ m, told false true = m := ⟨_, rfl⟩
        have HM := Lib.hid (show spreadC L s need days = m by rw [HCC.out]; exact hm)
        rw [hm] at hne ⊢
        have hmn : ((m : Int) != 0) = true := by simp [hne]
        clear hm hne hb3 HC HCC HR
        obtain ⟨r2, f2, -, z2, l2⟩ := k2.facts
        go_wp2_with fail
        exact bodyPost_ret (results_cell_tmp_holds rfl wideWd _ rfl (k2.setRow (bV 10 fun _ _ => false)) (by simp)) rfl ⟨by rw [HZ.out, HM.out]; rfl, by rw [HU.out]; exact below_setRow' hB3 (by omega) _⟩
      · have HOx := Lib.hid (HO.out true)
        have ht : told true true = 0 := rfl
        have hnb := HNB.out (by trivial)
        have hdb := HDB.out (by trivial)
        obtain ⟨n, rfl⟩ : ∃ n : Nat, need = n := ⟨need.toNat, by omega⟩
        obtain ⟨D, rfl⟩ : ∃ D : Nat, days = D := ⟨days.toNat, by omega⟩
        have hn4 : n ≤ 4 := by omega
        have hD60 : D ≤ 60 := by omega
        have HRR := Lib.hid (show spreadR L s n D = daysS L n s D by rw [HR.out]; simp)
        have HCC := Lib.hid (show spreadC L s n D = 0 by rw [HC.out]; rfl)
        have HVD := Lib.hid (fun k => weedB_days (L := L) (s := s) HVV.out n k)
        clear hnb hdb HR HC HV
        go_wp2_with fail
        refine HOx.out.mono ?_
        rintro e w3 ⟨rfl, hb3⟩
        have k0 := g0.below hb3 g0.lt
        have k1 := g1.below hb3 g1.lt
        have k2 := g2.below hb3 g2.lt
        have hB3 : Below u w w3 := hB1.trans (hb3.mono (by have := g0.lt; omega))
        clear hb3 g0 g1 g2 hB1
        go_wp2_with fail
        go_loopw [11] (fun x wr => ∃ k : Nat, k ≤ D ∧ x = .int .i64 k ∧ Holds wr u L.cells ∧ Holds wr (u + 1) (bV 10 (daysS L n s k)) ∧ Holds wr (u + 2) (bV 10 fun _ _ => false) ∧ Below u w wr) (fun x _ => D - (intOf x).toNat)
        case atStart => exact ⟨0, by omega, rfl, k0, k1, k2, hB3⟩
        case round =>
          obtain ⟨k, hk, rfl, h0, h1, h2, hb⟩ := hrel
          by_cases hlt : k < D
          · have hd : decide ((k : Int) < (D : Int)) = true := by simp; omega
            go_wp2_with fail
            refine (HDY.out n hn4 _ (HVD.out k) u (u + 1) _ h0 h1).mono ?_
            rintro e w5 ⟨rfl, hb5⟩
            have m0 := h0.below hb5 h0.lt
            have m1 := h1.below hb5 h1.lt
            have m2 := h2.below hb5 h2.lt
            have hb6 : Below u w w5 := hb.trans (hb5.mono (by have := h0.lt; omega))
            have HM := Lib.hid (show daysS L n s (k + 1) = dayS (soilS L) n (daysS L n s k) from rfl)
            clear hb5 h0 h1 h2 hb
            obtain ⟨r1, f1, -, z1, l1⟩ := m1.facts
            go_wp2_with fail
            go_roundw
            case rel => exact ⟨k + 1, by omega, by go_num, m0.setRow_other _ (by omega), by rw [HM.out]; exact m1.setRow _, m2.setRow_other _ (by omega), below_setRow' hb6 (by omega) _⟩
            case measure => simp [intOf]; omega
          · obtain rfl : k = D := by omega
            have hd : decide ((k : Int) < (k : Int)) = false := by simp
            obtain ⟨r1, -, -, -, l1⟩ := h1.facts
            obtain ⟨r2, f2, -, z2, l2⟩ := h2.facts
            go_wp2_with fail
            exact bodyPost_ret (results_cell_tmp_holds rfl wideWd _ rfl (h2.setRow (bV 10 (daysS L n s k))) (by simp)) rfl ⟨by rw [HRR.out, HCC.out]; rfl, by rw [HU.out]; exact below_setRow' hb (by omega) _⟩

/-- What SpreadOnce answers. -/
def onceR (L : Lawn) (s : Nat → Nat → Bool) (need : Int) : Nat → Nat → Bool := spreadR L s need 1
def onceC (L : Lawn) (s : Nat → Nat → Bool) (need : Int) : Int := spreadC L s need 1

set_option maxRecDepth 100000 in
set_option maxHeartbeats 2000000 in
theorem implOnce_any (L : Lawn) (hL : L.Fits) (s : Nat → Nat → Bool) (need : Int) (w : World) :
    Calls Tryd.prog 19 #[.agg L.cells, .agg (bV 10 s), .int .i64 need] w fun e w' => e = .returned (.tuple #[.agg (bV 10 (onceR L s need)), .int .i64 (onceC L s need)]) ∧ Below w.heap.size w w' := by
  obtain ⟨u, hu⟩ : ∃ u, w.heap.size = u := ⟨_, rfl⟩
  obtain ⟨W1, hW1⟩ : ∃ W1, ((w.alloc (.cells L.cells 31)).alloc (.cells (bV 10 s) 33)).alloc (.cells (bV 10 fun _ _ => false) 33) = W1 := ⟨_, rfl⟩
  have g0 : Holds W1 u L.cells := by rw [← hW1]; exact ((Holds.new' _ _ _ _ hu.symm).alloc _).alloc _
  have g1 : Holds W1 (u + 1) (bV 10 s) := by rw [← hW1]; exact (Holds.new' _ _ _ _ (by simp; omega)).alloc _
  have g2 : Holds W1 (u + 2) (bV 10 fun _ _ => false) := by rw [← hW1]; exact Holds.new' _ _ _ _ (by simp; omega)
  have hB1 : Below u w W1 := by rw [← hW1]; exact (((Below.refl u w).alloc (by omega) _).alloc (by simp; omega) _).alloc (by simp; omega) _
  have HU := Lib.hid hu
  have HS := Lib.hid (implSpread_any L hL s need 1)
  have HR := Lib.hid (show onceR L s need = spreadR L s need 1 from rfl)
  have HC := Lib.hid (show onceC L s need = spreadC L s need 1 from rfl)
  clear hL
  go_enter Tryd.func19, Tryd.ntmps19
  obtain ⟨r0, -, -, -, l0⟩ := g0.facts
  obtain ⟨r1, -, -, -, l1⟩ := g1.facts
  go_wp2_with fail
  try simp only [hu, Nat.add_assoc, Nat.reduceAdd]
  clear hW1 hu r0 r1 l0 l1
  refine (HS.out _).mono ?_
  rintro e w3 ⟨rfl, hb3⟩
  have k2 := g2.below hb3 g2.lt
  have hB3 : Below u w w3 := hB1.trans (hb3.mono (by have := g0.lt; omega))
  clear hb3
  obtain ⟨r2, f2, -, z2, l2⟩ := k2.facts
  go_wp2_with fail
  exact bodyPost_ret (results_cell_tmp_holds rfl wideWd _ rfl (k2.setRow (bV 10 (spreadR L s need 1))) (by simp)) rfl ⟨by rw [HR.out, HC.out]; rfl, by rw [HU.out]; exact below_setRow' hB3 (by omega) _⟩

set_option maxRecDepth 100000 in
set_option maxHeartbeats 4000000 in
theorem specOnce_any (L : Lawn) (hL : L.Fits) (s : Nat → Nat → Bool) (need : Int) (w : World) :
    Calls Tryd.prog 18 #[.agg L.cells, .agg (bV 10 s), .int .i64 need] w fun e w' => e = .returned (.tuple #[.agg (bV 10 (onceR L s need)), .int .i64 (onceC L s need)]) ∧ Below w.heap.size w w' := by
  obtain ⟨u, hu⟩ : ∃ u, w.heap.size = u := ⟨_, rfl⟩
  obtain ⟨W1, hW1⟩ : ∃ W1, ((w.alloc (.cells L.cells 31)).alloc (.cells (bV 10 s) 33)).alloc (.cells (bV 10 fun _ _ => false) 33) = W1 := ⟨_, rfl⟩
  have g0 : Holds W1 u L.cells := by rw [← hW1]; exact ((Holds.new' _ _ _ _ hu.symm).alloc _).alloc _
  have g1 : Holds W1 (u + 1) (bV 10 s) := by rw [← hW1]; exact (Holds.new' _ _ _ _ (by simp; omega)).alloc _
  have g2 : Holds W1 (u + 2) (bV 10 fun _ _ => false) := by rw [← hW1]; exact Holds.new' _ _ _ _ (by simp; omega)
  have hB1 : Below u w W1 := by rw [← hW1]; exact (((Below.refl u w).alloc (by omega) _).alloc (by simp; omega) _).alloc (by simp; omega) _
  have HU := Lib.hid hu
  have HO := Lib.hid (fun fine => l07Asked_any L hL s _ _ fine W1 g0 g1)
  have HDY := Lib.hid (fun (n : Nat) (h : n ≤ 4) (s : Nat → Nat → Bool) (hw : weedB L s = true) (a b : Nat) (w : World) ha hb => l07Day_any L hL s hw n h a b w ha hb)
  obtain ⟨vn, hvn⟩ : ∃ vn, inB need 1 4 = vn := ⟨_, rfl⟩
  have HN := Lib.hid (l07Need_is need vn hvn)
  have h60 : inB 1 0 60 = true := by decide
  have HC := Lib.hid (show onceC L s need = told (weedB L s) vn by rw [onceC, spreadC, hvn, h60, Bool.and_true])
  have HR := Lib.hid (show onceR L s need = if weedB L s && vn then daysS L need.toNat s 1 else fun _ _ => false by rw [onceR, spreadR, hvn, h60, Bool.and_true]; rfl)
  have HNB := Lib.hid (show vn = true → 1 ≤ need ∧ need ≤ 4 from fun h => inB_true (hvn.trans h))
  obtain ⟨v, hv⟩ : ∃ v, weedB L s = v := ⟨_, rfl⟩
  rw [hv] at HC HR
  have HVV := Lib.hid hv
  simp only [hv] at HO
  clear hL hvn hv h60
  go_enter Tryd.func18, Tryd.ntmps18
  go_wp2_with fail
  try simp only [hu, Nat.add_assoc, Nat.reduceAdd]
  try rw [hW1]
  clear hW1 hu
  refine (HN.out _).mono ?_
  rintro e w2 ⟨rfl, hw2⟩
  rw [hw2]
  clear hw2
  cases vn
  · have HOx := Lib.hid (HO.out false)
    go_wp2_with fail
    refine HOx.out.mono ?_
    rintro e w3 ⟨rfl, hb3⟩
    have k2 := g2.below hb3 g2.lt
    have hB3 : Below u w w3 := hB1.trans (hb3.mono (by have := g0.lt; omega))
    have hne : told v false ≠ 0 := by cases v <;> decide
    have HZ := Lib.hid (show onceR L s need = fun _ _ => false by rw [HR.out]; cases v <;> rfl)
    have HCC := HC
    obtain ⟨m, hm⟩ : ∃ m, told v false = m := ⟨_, rfl⟩
    have HM := Lib.hid (show onceC L s need = m by rw [HCC.out]; exact hm)
    rw [hm] at hne ⊢
    have hmn : ((m : Int) != 0) = true := by simp [hne]
    clear hm hne hb3 HC HCC HR
    obtain ⟨r2, f2, -, z2, l2⟩ := k2.facts
    go_wp2_with fail
    exact bodyPost_ret (results_cell_tmp_holds rfl wideWd _ rfl (k2.setRow (bV 10 fun _ _ => false)) (by simp)) rfl ⟨by rw [HZ.out, HM.out]; rfl, by rw [HU.out]; exact below_setRow' hB3 (by omega) _⟩
  · cases v
    · have HOx := Lib.hid (HO.out true)
      go_wp2_with fail
      refine HOx.out.mono ?_
      rintro e w3 ⟨rfl, hb3⟩
      have k2 := g2.below hb3 g2.lt
      have hB3 : Below u w w3 := hB1.trans (hb3.mono (by have := g0.lt; omega))
      have hne : told false true ≠ 0 := by decide
      have HZ := Lib.hid (show onceR L s need = fun _ _ => false by rw [HR.out]; rfl)
      have HCC := HC
      obtain ⟨m, hm⟩ : ∃ m, told false true = m := ⟨_, rfl⟩
      have HM := Lib.hid (show onceC L s need = m by rw [HCC.out]; exact hm)
      rw [hm] at hne ⊢
      have hmn : ((m : Int) != 0) = true := by simp [hne]
      clear hm hne hb3 HC HCC HR
      obtain ⟨r2, f2, -, z2, l2⟩ := k2.facts
      go_wp2_with fail
      exact bodyPost_ret (results_cell_tmp_holds rfl wideWd _ rfl (k2.setRow (bV 10 fun _ _ => false)) (by simp)) rfl ⟨by rw [HZ.out, HM.out]; rfl, by rw [HU.out]; exact below_setRow' hB3 (by omega) _⟩
    · have HOx := Lib.hid (HO.out true)
      have ht : told true true = 0 := rfl
      have hnb := HNB.out (by trivial)
      obtain ⟨n, rfl⟩ : ∃ n : Nat, need = n := ⟨need.toNat, by omega⟩
      have hn4 : n ≤ 4 := by omega
      have HRR := Lib.hid (show onceR L s n = dayS (soilS L) n s by rw [HR.out]; simp [daysS])
      have HCC := Lib.hid (show onceC L s n = 0 by rw [HC.out]; rfl)
      clear hnb HR HC
      go_wp2_with fail
      refine HOx.out.mono ?_
      rintro e w3 ⟨rfl, hb3⟩
      have k0 := g0.below hb3 g0.lt
      have k1 := g1.below hb3 g1.lt
      have k2 := g2.below hb3 g2.lt
      have hB3 : Below u w w3 := hB1.trans (hb3.mono (by have := g0.lt; omega))
      clear hb3 g0 g1 g2 hB1
      go_wp2_with fail
      refine (HDY.out n hn4 _ HVV.out u (u + 1) _ k0 k1).mono ?_
      rintro e w5 ⟨rfl, hb5⟩
      have m2 := k2.below hb5 k2.lt
      have hb6 : Below u w w5 := hB3.trans (hb5.mono (by have := k0.lt; omega))
      clear hb5 k0 k1 k2 hB3
      obtain ⟨r2, f2, -, z2, l2⟩ := m2.facts
      go_wp2_with fail
      exact bodyPost_ret (results_cell_tmp_holds rfl wideWd _ rfl (m2.setRow (bV 10 (dayS (soilS L) n s))) (by simp)) rfl ⟨by rw [HRR.out, HCC.out]; rfl, by rw [HU.out]; exact below_setRow' hb6 (by omega) _⟩
end Go.Proofs.YtoengjabakcpjaaDoor
