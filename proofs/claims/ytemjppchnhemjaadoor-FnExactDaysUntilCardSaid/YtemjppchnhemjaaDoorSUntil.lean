/- DaysUntil, of the model. -/
import Derived.Test.YtemjppchnhemjaaDoorUntil
import Derived.Test.YtemjppchnhemjaaDoorCntP
namespace Go.Proofs.YtemjppchnhemjaaDoor
open Go.RowKit
set_option linter.unusedVariables false
set_option linter.unusedSimpArgs false
attribute [local go_sem ↓] loadRow loadGrid loadLawn loadMirror storeRow storeGrid storeLawn allocRow allocGrid allocLawn buildZero buildSides loadWd storeWd allocWd buildZWd eqlWd neqWd

theorem weedB_its {L : Lawn} {s : Nat → Nat → Bool} (hw : weedB L s = true) (n : Nat) : ∀ k, weedB L (itS (soilS L) n s k) = true
  | 0 => hw
  | k + 1 => weedB_day (weedB_its hw n k) n

set_option maxRecDepth 100000 in
set_option maxHeartbeats 4000000 in
theorem specUntil_good (L : Lawn) (hL : L.Fits) (s : Nat → Nat → Bool) (n C : Nat) (hw : weedB L s = true) (h1 : 1 ≤ n) (h4 : n ≤ 4) (hC : C ≤ 100) (N : Nat) (hN : StillAt (soilS L) n s N) (hN1 : N ≤ 160) (E : Nat) (hit : Bool) (hE : UntilAt (soilS L) n s C N E hit) (w : World) :
    Calls Tryd.prog 8 #[.agg L.cells, .agg (bV 10 s), .int .i64 n, .int .i64 C] w fun e w' => e = .returned (.tuple #[.int .i64 (if hit then (E : Int) else 0), .int .i64 (if hit then 0 else 6)]) ∧ Below w.heap.size w w' := by
  obtain ⟨need, hneed⟩ : ∃ need : Int, need = n := ⟨_, rfl⟩
  obtain ⟨c, hcC⟩ : ∃ c : Int, c = C := ⟨_, rfl⟩
  have hb1 : inB need 1 4 = true := by rw [hneed]; simp [inB]; omega
  have hb2 : inB c 0 100 = true := by rw [hcC]; simp [inB]; omega
  rw [← hneed, ← hcC]
  have HCC := Lib.hid hcC
  have HNE := Lib.hid hneed
  have HHN := Lib.hid hN
  have HHE := Lib.hid hE
  obtain ⟨A0, hA0⟩ : ∃ A0, (if hit then (E : Int) else 0) = A0 := ⟨_, rfl⟩
  obtain ⟨A1, hA1⟩ : ∃ A1 : Int, (if hit then 0 else 6) = A1 := ⟨_, rfl⟩
  rw [hA0, hA1]
  have HA0 := Lib.hid hA0.symm
  have HA1 := Lib.hid hA1.symm
  obtain ⟨u, hu⟩ : ∃ u, w.heap.size = u := ⟨_, rfl⟩
  obtain ⟨W1, hW1⟩ : ∃ W1, (w.alloc (.cells L.cells 31)).alloc (.cells (bV 10 s) 33) = W1 := ⟨_, rfl⟩
  have g0 : Holds W1 u L.cells := by rw [← hW1]; exact (Holds.new' _ _ _ _ hu.symm).alloc _
  have g1 : Holds W1 (u + 1) (bV 10 s) := by rw [← hW1]; exact Holds.new' _ _ _ _ (by simp; omega)
  have hB1 : Below u w W1 := by rw [← hW1]; exact ((Below.refl u w).alloc (by omega) _).alloc (by simp; omega) _
  have HU := Lib.hid hu
  have HO := Lib.hid (l07Asked_any L hL s _ _ true W1 g0 g1)
  have ht : told true true = 0 := rfl
  rw [hw, ht] at HO
  have HDY := Lib.hid (fun (k : Nat) (a b : Nat) (w : World) ha hb => l07Day_any L hL (itS (soilS L) n s k) (weedB_its hw n k) n h4 a b w ha hb)
  rw [← hneed] at HDY
  have HN := Lib.hid (l07Need_is need true hb1)
  have HD := Lib.hid (fun w => show Calls Tryd.prog 32 #[.int .i64 c, .int .i64 0, .int .i64 100] w fun e w' => e = .returned (.bool true) ∧ w' = w from hb2 ▸ in_q _ _ _ w)
  clear hL hb1 hb2 hN hE hA0 hA1 hneed hcC hw ht
  go_enter Tryd.func8, Tryd.ntmps8
  go_wp2_with fail
  try simp only [hu, Nat.add_assoc, Nat.reduceAdd]
  try rw [hW1]
  clear hW1 hu
  refine (HN.out _).mono ?_
  rintro e w2 ⟨rfl, hw2⟩
  rw [hw2]
  clear hw2
  go_wp2_with fail
  refine (HD.out _).mono ?_
  rintro e w2 ⟨rfl, hw2⟩
  rw [hw2]
  clear hw2
  go_wp2_with fail
  refine HO.out.mono ?_
  rintro e w3 ⟨rfl, hb3⟩
  have k0 := g0.below hb3 g0.lt
  have k1 := g1.below hb3 g1.lt
  have hB3 : Below u w w3 := hB1.trans (hb3.mono (by have := g0.lt; omega))
  clear hb3 g0 g1 hB1 HO
  go_wp2_with fail
  go_loopw [11, 12] (fun x _ wr => ∃ k : Nat, k ≤ E ∧ x = .int .i64 k ∧ Holds wr u L.cells ∧ Holds wr (u + 1) (bV 10 (itS (soilS L) n s k)) ∧ Below u w wr) (fun x _ _ => E + 1 - (intOf x).toNat)
  case atStart => exact ⟨0, by omega, rfl, k0, k1, hB3⟩
  case round =>
    obtain ⟨k, hk, rfl, h0, h1, hb⟩ := hrel
    have HE160 := Lib.hid (show E ≤ 160 by have := HHE.out.le; omega)
    have hk160 : k ≤ 160 := by have := HE160.out; omega
    obtain ⟨t, htt⟩ : ∃ t, itS (soilS L) n s k = t := ⟨_, rfl⟩
    have HDYk := Lib.hid (HDY.out k)
    rw [htt] at HDYk h1
    obtain ⟨t2, ht2⟩ : ∃ t2, dayS (soilS L) n t = t2 := ⟨_, rfl⟩
    rw [ht2] at HDYk
    have HT2 := Lib.hid (show itS (soilS L) n s (k + 1) = t2 by rw [← ht2, ← htt]; rfl)
    obtain ⟨D, hD⟩ : ∃ D, cntR t 10 = D := ⟨_, rfl⟩
    have hD160 : D ≤ 160 := by rw [← hD]; exact Nat.le_trans (cntR_le t 10) (by omega)
    have HCT := Lib.hid (l07Count_any t (u + 1))
    rw [hD] at HCT
    have HBF := Lib.hid (show k < E → D < C from fun h => by rw [← hD, ← htt]; exact HHE.out.before k h)
    have HAT := Lib.hid (show k = E → hit = decide (C ≤ D) from fun h => by rw [← hD, ← htt, h]; exact HHE.out.at_)
    obtain ⟨q, hq⟩ : ∃ q, bEq 10 t2 t = q := ⟨_, rfl⟩
    have HQ0 := Lib.hid (show q = true → k = N from fun h => Classical.byContradiction fun hne => by
      have hlt : k < N := by have := HHE.out.le; omega
      have := HHN.out.1 k hlt
      rw [HT2.out, htt, hq, h] at this
      cases this)
    have HQ1 := Lib.hid (show q = false → k ≠ N from fun h e => by
      have := HHN.out.2
      rw [← e, HT2.out, htt, hq, h] at this
      cases this)
    clear htt ht2 hD k0 k1 hB3 HDY
    have HQ := Lib.hid hq
    clear hq
    go_wp2_with fail
    refine (HCT.out _ h1).mono ?_
    rintro e w5 ⟨rfl, hw5⟩
    rw [hw5]
    clear hw5
    by_cases hc : C ≤ D
    · have hci : decide (c ≤ (D : Int)) = true := by rw [HCC.out]; simp; omega
      have HR := Lib.hid (show k = E ∧ hit = true from by
        have hkE : k = E := Classical.byContradiction fun hne => by have := HBF.out (by omega); omega
        exact ⟨hkE, by rw [HAT.out hkE]; simpa using hc⟩)
      clear hc
      go_wp2_with fail
      go_ret2
      exact ⟨by rw [HA0.out, HA1.out, HR.out.1, HR.out.2]; rfl, by rw [HU.out]; exact hb⟩
    · have hci : decide (c ≤ (D : Int)) = false := by rw [HCC.out]; simp; omega
      have HL2 := Lib.hid (show D < C by omega)
      clear hc
      go_wp2_with fail
      refine (HDYk.out _ _ _ h0 h1).mono ?_
      rintro e W7 ⟨rfl, hb7⟩
      obtain ⟨y, hy⟩ : ∃ y, W7.heap.size = y := ⟨_, rfl⟩
      have n0 := h0.below hb7 h0.lt
      have n1 := h1.below hb7 h1.lt
      have hB7 : Below u w W7 := hb.trans (hb7.mono (by have := h0.lt; omega))
      have hyu : u + 2 ≤ y := by have := n1.lt; omega
      clear hb7 h0 h1 hb
      have i0 := n0.alloc (.cells (bV 10 t2) 33)
      have i1 := n1.alloc (.cells (bV 10 t2) 33)
      have ip := Holds.new' W7 (bV 10 t2) 33 y hy.symm
      have hB8 : Below u w (W7.alloc (.cells (bV 10 t2) 33)) := hB7.alloc (by omega) _
      obtain ⟨W8, hW8⟩ : ∃ W8, W7.alloc (.cells (bV 10 t2) 33) = W8 := ⟨_, rfl⟩
      rw [hW8] at i0 i1 ip hB8
      obtain ⟨r1, f1, -, z1, l1⟩ := i1.facts
      obtain ⟨rp, -, -, -, lp⟩ := ip.facts
      have hq := HQ.out
      have hkN := HQ0.out
      have hkM := HQ1.out
      have HKE := Lib.hid (show k = E → hit = false from fun h => by rw [HAT.out h]; have := HL2.out; simp; omega)
      clear HQ HQ0 HQ1 HDYk HCT
      cases q
      · have HK1 := Lib.hid (show k + 1 ≤ E from Classical.byContradiction fun hn => by
          have he : k = E := by omega
          have := HHE.out.last (HKE.out he)
          exact hkM rfl (by omega))
        clear hkN hkM
        go_wp2_with fail
        go_roundw
        case rel => exact ⟨k + 1, HK1.out, by go_num, i0.setRow_other _ (by omega), by rw [HT2.out]; exact i1.setRow _, below_setRow' hB8 (by omega) _⟩
        case measure =>
          have := HK1.out
          simp [intOf]
          omega
      · have HK1 := Lib.hid (show hit = false from by
          have h1 := hkN rfl
          have h2 := HHE.out.le
          exact HKE.out (by omega))
        clear hkN hkM
        go_wp2_with fail
        go_ret2
        exact ⟨by rw [HA0.out, HA1.out, HK1.out]; rfl, by rw [HU.out]; exact hB8⟩
set_option maxRecDepth 100000 in
set_option maxHeartbeats 4000000 in
theorem specUntil_bad (L : Lawn) (hL : L.Fits) (s : Nat → Nat → Bool) (need c : Int) (hbad : untilC L s need c ≠ 0) (w : World) :
    Calls Tryd.prog 8 #[.agg L.cells, .agg (bV 10 s), .int .i64 need, .int .i64 c] w fun e w' => e = .returned (.tuple #[.int .i64 0, .int .i64 (untilC L s need c)]) ∧ Below w.heap.size w w' := by
  obtain ⟨u, hu⟩ : ∃ u, w.heap.size = u := ⟨_, rfl⟩
  obtain ⟨W1, hW1⟩ : ∃ W1, (w.alloc (.cells L.cells 31)).alloc (.cells (bV 10 s) 33) = W1 := ⟨_, rfl⟩
  have g0 : Holds W1 u L.cells := by rw [← hW1]; exact (Holds.new' _ _ _ _ hu.symm).alloc _
  have g1 : Holds W1 (u + 1) (bV 10 s) := by rw [← hW1]; exact Holds.new' _ _ _ _ (by simp; omega)
  have hB1 : Below u w W1 := by rw [← hW1]; exact ((Below.refl u w).alloc (by omega) _).alloc (by simp; omega) _
  have HU := Lib.hid hu
  obtain ⟨vn, hvn⟩ : ∃ vn, inB need 1 4 = vn := ⟨_, rfl⟩
  obtain ⟨vd, hvd⟩ : ∃ vd, inB c 0 100 = vd := ⟨_, rfl⟩
  obtain ⟨m, hm⟩ : ∃ m, untilC L s need c = m := ⟨_, rfl⟩
  have HO := Lib.hid (fun fine => l07Asked_any L hL s _ _ fine W1 g0 g1)
  have HN := Lib.hid (l07Need_is need vn hvn)
  have HD := Lib.hid (fun w => show Calls Tryd.prog 32 #[.int .i64 c, .int .i64 0, .int .i64 100] w fun e w' => e = .returned (.bool vd) ∧ w' = w from hvd ▸ in_q _ _ _ w)
  have HC := Lib.hid (show told (weedB L s) (vn && vd) = m by rw [← hm, untilC, hvn, hvd])
  rw [hm] at hbad ⊢
  have hmn : ((m : Int) != 0) = true := by simp [hbad]
  clear hL hvn hvd hbad hm
  go_enter Tryd.func8, Tryd.ntmps8
  go_wp2_with fail
  try simp only [hu, Nat.add_assoc, Nat.reduceAdd]
  try rw [hW1]
  clear hW1 hu
  refine (HN.out _).mono ?_
  rintro e w2 ⟨rfl, hw2⟩
  rw [hw2]
  clear hw2
  cases vn
  · have HOx := Lib.hid (HO.out false)
    rw [show told (weedB L s) false = m from HC.out] at HOx
    clear HO HC HD HN
    go_wp2_with fail
    refine HOx.out.mono ?_
    rintro e w3 ⟨rfl, hb3⟩
    have hB3 : Below u w w3 := hB1.trans (hb3.mono (by have := g0.lt; omega))
    clear hb3 g0 g1 hB1 HOx
    go_wp2_with fail
    go_ret2
    exact ⟨rfl, by rw [HU.out]; exact hB3⟩
  · have HOx := Lib.hid (HO.out vd)
    rw [show told (weedB L s) vd = m from HC.out] at HOx
    clear HO HC HN
    go_wp2_with fail
    refine (HD.out _).mono ?_
    rintro e w2 ⟨rfl, hw2⟩
    rw [hw2]
    clear hw2
    go_wp2_with fail
    refine HOx.out.mono ?_
    rintro e w3 ⟨rfl, hb3⟩
    have hB3 : Below u w w3 := hB1.trans (hb3.mono (by have := g0.lt; omega))
    clear hb3 g0 g1 hB1 HOx HD
    go_wp2_with fail
    go_ret2
    exact ⟨rfl, by rw [HU.out]; exact hB3⟩

theorem untilC_good {L : Lawn} {s : Nat → Nat → Bool} {need c : Int} (h : untilC L s need c = 0) : weedB L s = true ∧ (1 ≤ need ∧ need ≤ 4) ∧ 0 ≤ c ∧ c ≤ 100 := by
  unfold untilC told at h
  cases hw : weedB L s with
  | false => rw [hw] at h; simp at h
  | true =>
    rw [hw] at h
    cases h1 : inB need 1 4 with
    | false => rw [h1] at h; simp at h
    | true =>
      cases h2 : inB c 0 100 with
      | false => rw [h1, h2] at h; simp at h
      | true => exact ⟨rfl, inB_true h1, inB_true h2⟩
/-- Both answer the same. -/
theorem until_both (L : Lawn) (hL : L.Fits) (s : Nat → Nat → Bool) (need c : Int) : ∃ r0 r1 : Int,
    (∀ w : World, Calls Tryd.prog 11 #[.agg L.cells, .agg (bV 10 s), .int .i64 need, .int .i64 c] w fun e w' => e = .returned (.tuple #[.int .i64 r0, .int .i64 r1]) ∧ Below w.heap.size w w') ∧
    (∀ w : World, Calls Tryd.prog 8 #[.agg L.cells, .agg (bV 10 s), .int .i64 need, .int .i64 c] w fun e w' => e = .returned (.tuple #[.int .i64 r0, .int .i64 r1]) ∧ Below w.heap.size w w') := by
  by_cases h : untilC L s need c = 0
  · obtain ⟨hw, h1, h2⟩ := untilC_good h
    obtain ⟨n, rfl⟩ : ∃ n : Nat, need = n := ⟨need.toNat, by omega⟩
    obtain ⟨C, rfl⟩ : ∃ C : Nat, c = C := ⟨c.toNat, by omega⟩
    obtain ⟨N, hN1, hN⟩ := still_ex (soilS L) n s
    obtain ⟨E, hit, hE⟩ := until_ex (soilS L) n s C N
    exact ⟨_, _, implUntil_good L hL s n C hw (by omega) (by omega) (by omega) N hN hN1 E hit hE, specUntil_good L hL s n C hw (by omega) (by omega) (by omega) N hN hN1 E hit hE⟩
  · exact ⟨_, _, implUntil_bad L hL s need c h, specUntil_bad L hL s need c h⟩
end Go.Proofs.YtemjppchnhemjaaDoor
