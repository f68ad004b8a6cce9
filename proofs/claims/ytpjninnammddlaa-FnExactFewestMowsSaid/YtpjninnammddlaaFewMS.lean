/- FewestMows, of the model. -/
import Derived.Test.YtpjninnammddlaaLateQ
import Derived.Test.YtpjninnammddlaaFewMI
namespace Go.Proofs.Ytpjninnammddlaa
open Go.RowKit
set_option linter.unusedVariables false
set_option linter.unusedSimpArgs false

theorem rainZ_drop (zs : List Int) (k i : Nat) : rainZ (zs.drop (k * 2)) i = rainZ zs (k + i) := by
  unfold rainZ
  rw [List.getD_eq_getElem?_getD, List.getD_eq_getElem?_getD, List.getElem?_drop, show k * 2 + i * 2 = (k + i) * 2 by omega]
theorem warmZ_drop (zs : List Int) (k i : Nat) : warmZ (zs.drop (k * 2)) i = warmZ zs (k + i) := by
  unfold warmZ
  rw [List.getD_eq_getElem?_getD, List.getD_eq_getElem?_getD, List.getElem?_drop, show k * 2 + (i * 2 + 1) = (k + i) * 2 + 1 by omega]
theorem growZ_drop (zs : List Int) (k i : Nat) : growZ (zs.drop (k * 2)) i = growZ zs (k + i) := by
  unfold growZ; rw [rainZ_drop, warmZ_drop]
theorem dayB_drop (zs : List Int) (k i : Nat) : dayB (zs.drop (k * 2)) i = dayB zs (k + i) := by
  unfold dayB; rw [rainZ_drop, warmZ_drop]
theorem growL_cut (zs : List Int) {N k : Nat} (h : k ≤ N) : growL (zs.drop (k * 2)) (N - k) = (growL zs N).drop k := by
  apply List.ext_getElem?
  intro i
  rw [List.getElem?_drop]
  by_cases hi : k + i < N
  · rw [growL_at _ hi, growL_at _ (show i < N - k by omega), growZ_drop]
  · rw [List.getElem?_eq_none (by rw [growL_length]; omega), List.getElem?_eq_none (by rw [growL_length]; omega)]
theorem own_held {w : World} {B : Nat} {e : TypeId} {size n : Nat} {v : Value} {xs : List Value} (h : w.ownsRow B e size v n xs) (hn : 0 < n) : ∃ g cap cs, v = .slice (some ⟨g, 0, none⟩) n cap ∧ Holds w g cs ∧ (∀ (i : Nat) u, xs[i]? = some u → cs[i]? = some u) ∧ n ≤ cap ∧ cap ≤ 9223372036854775807 := by
  rcases h.2 with ⟨-, h0⟩ | ⟨g, cap, cur, rfl, hb, hg, hnc, hm, hs, ht⟩
  · omega
  · have hh : Holds w g cur := ⟨_, hg⟩
    refine ⟨g, cap, cur, rfl, hh, fun i u hu => ?_, hnc, by unfold maxLen at hm; omega⟩
    rw [← hh.cell i]
    exact own_cell h i u hu
/-- The model's test of a day. -/
theorem few_test {zs : List Int} {N k q : Nat} {cut most low : Int} (h30 : N ≤ 30) (hall : ∀ j, j < N → dayB zs j = true) (hk : k < N) (hq : FirstNo (lateB (zs.drop ((k + 1) * 2)) cut most low) (N - (k + 1)) q) (left : Int) (hl : left ≤ 30) :
    ((1 + fewC cut most ((growL zs N).drop (k + 1)) low) == left) = (decide (low ≤ most) && decide (q = N - (k + 1)) && (((lateN (zs.drop ((k + 1) * 2)) cut most low (N - (k + 1)) q : Nat) : Int) == left - 1)) := by
  have hall' : ∀ j, j < N - (k + 1) → dayB (zs.drop ((k + 1) * 2)) j = true := fun j hj => by rw [dayB_drop]; exact hall _ (by omega)
  have hf : fewC cut most ((growL zs N).drop (k + 1)) low = if most < low then 31 else fewO (if q = N - (k + 1) then some (lateP (zs.drop ((k + 1) * 2)) cut most low (N - (k + 1))).length else none) := by
    unfold fewC
    by_cases hm : most < low
    · rw [if_pos hm, if_pos hm]
    · rw [if_neg hm, if_neg hm, ← growL_cut zs (show k + 1 ≤ N by omega), few_late _ low (by rw [growL_length]; omega) (fun g hg => by
        obtain ⟨j, hj, e⟩ := List.getElem_of_mem hg
        exact (growL_range hall' j g (by rw [List.getElem?_eq_getElem hj, e])).1), lateO_is hq]
  rw [hf]
  unfold lateN
  by_cases hm : most < low
  · rw [if_pos hm, show decide (low ≤ most) = false from decide_eq_false (by omega), Bool.false_and, Bool.false_and, beq_eq_false_iff_ne]
    omega
  · rw [if_neg hm, show decide (low ≤ most) = true from decide_eq_true (by omega), Bool.true_and]
    by_cases e : q = N - (k + 1)
    · rw [if_pos e, if_pos e, show decide (q = N - (k + 1)) = true from decide_eq_true e, Bool.true_and, Bool.eq_iff_iff, beq_iff_eq, beq_iff_eq]
      simp only [fewO]
      constructor <;> intro h <;> omega
    · rw [if_neg e, if_neg e, show decide (q = N - (k + 1)) = false from decide_eq_false e, Bool.false_and, beq_eq_false_iff_ne]
      simp only [fewO]
      omega

set_option maxRecDepth 100000 in
set_option maxHeartbeats 8000000 in
theorem l03Few_any (B N : Nat) (v : Value) (hN : N ≤ 2000000) (zs : List Int) (hz : zs.length = N * 2) (hm : FirstNo (dayP zs) N N) (start cut most : Int) (hs : 0 ≤ start ∧ start ≤ 200) (hc : 0 ≤ cut ∧ cut ≤ 200) (hmo : 0 ≤ most ∧ most ≤ 200) (hF : fewW cut most (growL zs N) start ≤ 30) (w : World) (ho : w.ownsRow B 46 2 v N (intsV .i8 zs)) :
    Calls Try.prog 22 #[.int .i64 start, .int .i64 cut, .int .i64 most, v] w fun e w' => (∃ u, e = .returned u ∧ w'.ownsRow w.heap.size 2 1 u (fmP cut most (growL zs N) start N).length (intsV .i64 (fmP cut most (growL zs N) start N))) ∧ Below w.heap.size w w' := by
  have hall := (first_all hm).1 rfl
  have h30 := hall.1
  obtain ⟨q, hq⟩ := firstNo_ex (lateB zs cut most start) N
  have hfl := few_late (cut := cut) (most := most) (growL zs N) start (by rw [growL_length]; exact h30) (fun g hg => by
    obtain ⟨j, hj, e⟩ := List.getElem_of_mem hg
    exact (growL_range hall.2 j g (by rw [List.getElem?_eq_getElem hj, e])).1)
  rw [lateO_is hq] at hfl
  have hqN : q = N := by
    rcases Nat.lt_or_ge q N with h1 | h1
    · rw [if_neg (by omega)] at hfl
      simp only [fewO] at hfl
      omega
    · have := hq.le; omega
  have HL0 := Lib.hid (l03Late_any B N v hN zs hz hm start cut most hs hc hmo q hq w ho)
  have hln : ((lateN zs cut most start N q : Nat) : Int) = fewW cut most (growL zs N) start := by
    rw [hfl, if_pos hqN]
    unfold lateN
    rw [if_pos hqN]
    rfl
  have HGR := Lib.hid (growL_range hall.2)
  have HQ := Lib.hid (show ∀ (k : Nat), k < N → ∀ low, 0 ≤ low → low ≤ 224 → ∃ (d : Bool) (kk : Nat), (∀ left : Int, left ≤ 30 → ((1 + fewC cut most ((growL zs N).drop (k + 1)) low) == left) = (decide (low ≤ most) && d && ((kk : Int) == left - 1))) ∧ ∀ (g off cv : Nat) (cs : Array Value), (∀ (i : Nat) u, (intsV .i8 (zs.drop ((k + 1) * 2)))[i]? = some u → cs[off + i]? = some u) → ∀ w, Holds w g cs → Calls Try.prog 21 #[.int .i64 low, .int .i64 cut, .int .i64 most, .slice (some ⟨g, off, none⟩) (N - (k + 1)) cv] w fun e w' => (∃ u xs, e = .returned (.tuple #[u, .bool d]) ∧ w'.ownsRow w.heap.size 2 1 u kk xs) ∧ Below w.heap.size w w' from fun k hk low l0 l1 => by
    obtain ⟨q', hq'⟩ := firstNo_ex (lateB (zs.drop ((k + 1) * 2)) cut most low) (N - (k + 1))
    refine ⟨decide (q' = N - (k + 1)), lateN (zs.drop ((k + 1) * 2)) cut most low (N - (k + 1)) q', fun left hl => few_test h30 hall.2 hk hq' left hl, fun g off cv cs hcs w hw => ?_⟩
    have hm' : FirstNo (dayP (zs.drop ((k + 1) * 2))) (N - (k + 1)) (N - (k + 1)) := ⟨Nat.le_refl _, fun j hj => by
      unfold dayP
      rw [dayB_drop, hall.2 _ (show k + 1 + j < N by omega), decide_eq_true (show j < 30 by omega)]
      rfl, fun h => absurd h (Nat.lt_irrefl _)⟩
    refine (l03LateQ_any g off (N - (k + 1)) cv cs (zs.drop ((k + 1) * 2)) (by rw [List.length_drop]; omega) hm' low cut most ⟨l0, l1⟩ hc hmo q' hq' hcs w hw).mono ?_
    rintro e w' ⟨⟨u, rfl, hu⟩, hb⟩
    exact ⟨⟨u, _, rfl, hu⟩, hb⟩)
  have HZ := Lib.hid (show ∀ i, i < N → (zs[i * 2]? = some (rainZ zs i) ∧ zs[i * 2 + 1]? = some (warmZ zs i)) ∧ ((0 ≤ rainZ zs i ∧ rainZ zs i ≤ 50) ∧ 0 ≤ warmZ zs i ∧ warmZ zs i ≤ 40) ∧ (growL zs N)[i]? = some ((rainZ zs i / 10 + 1) * (warmZ zs i / 10)) from fun i hi => ⟨⟨by simp [rainZ, List.getElem?_eq_getElem (show i * 2 < zs.length by omega)], by simp [warmZ, List.getElem?_eq_getElem (show i * 2 + 1 < zs.length by omega)]⟩, dayB_range (hall.2 i hi), growL_at zs hi⟩)
  have HGL := Lib.hid (growL_length zs N)
  obtain ⟨G, hGe⟩ : ∃ G, growL zs N = G := ⟨_, rfl⟩
  rw [hGe] at HGL HGR hF hln
  simp only [hGe] at HQ HZ
  rw [hGe]
  obtain ⟨FH, hFH⟩ : ∃ f, fmH cut most G start = f := ⟨_, rfl⟩
  obtain ⟨FP, hFP⟩ : ∃ f, fmP cut most G start = f := ⟨_, rfl⟩
  obtain ⟨LF, hLF⟩ : ∃ f : Nat → Int, (fun k => fewW cut most (G.drop k) (FH k)) = f := ⟨_, rfl⟩
  have hLFk : ∀ k, fewW cut most (G.drop k) (FH k) = LF k := fun k => by rw [← hLF]
  have HFS : Hid (∀ (k : Nat) gk, G[k]? = some gk → ∃ mb : Bool, ((1 + fewC cut most (G.drop (k + 1)) (minZ (FH k) cut + gk)) == LF k) = mb ∧ FH (k + 1) = (if mb = true then minZ (FH k) cut + gk else FH k + gk) ∧ FP (k + 1) = FP k ++ (if mb = true then [(k : Int)] else []) ∧ LF (k + 1) = LF k - if mb = true then 1 else 0) := Lib.hid fun k gk hgk => by
    have e : G.getD k 0 = gk := by rw [List.getD_eq_getElem?_getD, hgk]; rfl
    refine ⟨fmB cut most G k (FH k), by unfold fmB; rw [e, hLFk], ?_, ?_, ?_⟩
    · rw [← hFH, fmH, e]
    · rw [← hFP, ← hFH, fmP]
    · rw [← hLFk, ← hLFk, ← hFH]
      exact fm_left hF (List.getElem?_eq_some_iff.1 hgk).1
  have HFL : Hid (∀ k, (FP k).length ≤ k) := Lib.hid fun k => by rw [← hFP]; exact fmP_le k
  have HF00 : Hid (FH 0 = start ∧ FP 0 = [] ∧ LF 0 = fewW cut most G start) := Lib.hid ⟨by rw [← hFH]; rfl, by rw [← hFP]; rfl, by rw [← hLFk, ← hFH]; rfl⟩
  have HGD : Hid (∀ k, k ≤ N → (0 ≤ LF k ∧ LF k ≤ 30) ∧ 0 ≤ FH k ∧ (0 < k → FH k ≤ most)) := Lib.hid fun k hk => by
    have h1 := fm_good (start := start) hF k (by rw [HGL.out]; exact hk)
    have h2 := fm_nonneg (cut := cut) (most := most) hs.1 hc.1 HGR.out k (by rw [HGL.out]; exact hk)
    rw [hFH] at h1 h2
    rw [hLFk] at h1
    have h3 := fewW_range (cut := cut) (most := most) (G.drop k) (FH k)
    rw [hLFk] at h3
    exact ⟨⟨h3.1, h1.1⟩, h2, h1.2⟩
  have HRS : Hid (∀ k, k ≤ N → LF k = 0 → FP N = FP k) := Lib.hid fun k hk hz => by
    have := (fm_rest (start := start) hF (k := k) (by rw [hFH, hLFk]; exact hz) (N - k) (by rw [HGL.out]; omega)).1
    rw [hFP, show k + (N - k) = N by omega] at this
    exact this
  rw [hFP]
  rw [← HF00.out.2.2] at hln
  have HLN := Lib.hid hln
  have hqd : decide (q = N) = true := decide_eq_true hqN
  rw [hqd] at HL0
  obtain ⟨LN, hLN⟩ : ∃ LN, lateN zs cut most start N q = LN := ⟨_, rfl⟩
  rw [hLN] at HL0 HLN
  have HO := Lib.hid ho
  obtain ⟨av, cv, rfl⟩ := own_slice ho
  have hlow := fun z (hz : (Value.slice av N cv).ownBlock = some z) => (ho.lt z hz).2
  have HLW := Lib.hid hlow
  obtain ⟨s1, s2⟩ := hs
  obtain ⟨t1, t2⟩ := hc
  obtain ⟨m1, m2⟩ := hmo
  obtain ⟨i0, hi, hq0, hq1, hq2⟩ := info_parts i64Info
  have HI := Lib.hid (show Try.prog.info? 2 = some i0 ∧ i0.zero = some (.int .i64 0) ∧ i0.size = 1 ∧ i0.bytes = 8 from ⟨hi, hq0, hq1, hq2⟩)
  have HZ2 := Lib.hid hz
  clear hall hq hfl hqN hln hGe hF hFH hFP hLF hLFk hqd hLN ho hlow hi hq0 hq1 hq2 hz hm
  go_enter Try.func22, Try.ntmps22
  go_wp2_with fail
  refine HL0.out.mono ?_
  rintro e w1 ⟨⟨u, rfl, hu⟩, hb1⟩
  obtain ⟨au, cu, rfl⟩ := own_slice hu
  have HO1 := Lib.hid (own_below HO.out hb1)
  obtain ⟨W2, hW2⟩ : ∃ W2, w1.alloc (.cells #[] 2) = W2 := ⟨_, rfl⟩
  have hb2 : Below w.heap.size w W2 := by rw [← hW2]; exact hb1.alloc hb1.size _
  have HO2 : Hid (W2.ownsRow B 46 2 (.slice av N cv) N (intsV .i8 zs)) := Lib.hid (by rw [← hW2]; exact HO1.out.alloc _)
  have HM0 : Hid (W2.ownsRow w.heap.size 2 1 (.slice (some ⟨w1.heap.size, 0, none⟩) 0 0) 0 []) := Lib.hid (by rw [← hW2]; exact ownsRow_low (World.ownsRow_made (e := 2) (size := 1) w1 #[] 0 (Nat.le_refl _) (by simp [maxLen]) rfl) hb1.size)
  clear hu HL0 HO hb1 HO1
  go_wp2_with fail
  try rw [hW2]
  clear hW2
  go_loopw [0, 11, 12, 13] (fun h lf o i wr => ∃ k : Nat, k ≤ N ∧ i = .int .i64 k ∧ h = .int .i64 (FH k) ∧ lf = .int .i64 (LF k) ∧ wr.ownsRow w.heap.size 2 1 o (FP k).length (intsV .i64 (FP k)) ∧ wr.ownsRow B 46 2 (.slice av N cv) N (intsV .i8 zs) ∧ Below w.heap.size w wr) (fun _ _ _ i _ => N - (intOf i).toNat)
  case atStart => exact ⟨0, by omega, rfl, by rw [HF00.out.1], by rw [HLN.out], by rw [HF00.out.2.1]; exact HM0.out, HO2.out, hb2⟩
  case round =>
    obtain ⟨k, hk, rfl, rfl, rfl, hp, ho, hb⟩ := hrel
    have HP := Lib.hid hp
    have HOk := Lib.hid ho
    have hle := HFL.out k
    clear HM0 HO2 hb2 hp
    have hgd := HGD.out k hk
    obtain ⟨h, hh⟩ : ∃ h, FH k = h := ⟨_, rfl⟩
    obtain ⟨lf, hlf⟩ : ∃ lf, LF k = lf := ⟨_, rfl⟩
    have hrs := HRS.out k hk
    rw [hh, hlf] at hgd
    rw [hlf] at hrs
    obtain ⟨⟨lf0, lf1⟩, hn0, hmx⟩ := hgd
    have hk200 : h ≤ 200 := by
      rcases Nat.eq_zero_or_pos k with e | e
      · rw [← hh, e, HF00.out.1]; exact s2
      · have := hmx e; omega
    have HHH := Lib.hid hh
    have HLL := Lib.hid hlf
    rw [hh, hlf]
    by_cases hgo : k < N ∧ 0 < lf
    · obtain ⟨hlt, hpos⟩ := hgo
      have hd0 : decide ((k : Int) < (N : Int)) = true := by simp; omega
      have hd1 : decide (0 < lf) = true := decide_eq_true hpos
      obtain ⟨ga, capg, cs, he, hhld, hcs, hncap, hcmax⟩ := own_held ho (by omega)
      simp only [Value.slice.injEq, true_and] at he
      obtain ⟨rfl, rfl⟩ := he
      obtain ⟨⟨z0, z1⟩, ⟨r1, r2⟩, hgk⟩ := HZ.out k hlt
      have c0 := own_cell ho _ _ (intsV_get (k := .i8) z0)
      have c1 := own_cell ho _ _ (intsV_get (k := .i8) z1)
      obtain ⟨gz, hgz⟩ : ∃ gz, (rainZ zs k / 10 + 1) * (warmZ zs k / 10) = gz := ⟨_, rfl⟩
      have HGW := Lib.hid (show ∀ w, Calls Try.prog 29 #[.agg #[.int .i8 (rainZ zs k), .int .i8 (warmZ zs k)]] w fun e w' => e = .returned (.int .i64 gz) ∧ Below w.heap.size w w' from fun w => hgz ▸ l03Growth_is _ _ r1 r2 w)
      rw [hgz] at hgk
      have hgr := HGR.out k gz hgk
      obtain ⟨mb, hmb, hmH, hmP, hmL⟩ := HFS.out k gz hgk
      rw [hh] at hmb hmH
      rw [hlf] at hmb hmL
      obtain ⟨y, hy⟩ : ∃ y, minZ h cut = y := ⟨_, rfl⟩
      have hyr : 0 ≤ y ∧ y ≤ 200 := by rw [← hy, minZ]; split <;> omega
      have HMN := Lib.hid (show ∀ w, Calls Try.prog 30 #[.int .i64 h, .int .i64 cut] w fun e w' => e = .returned (.int .i64 y) ∧ w' = w from fun w => hy ▸ l00Min_is h cut w)
      rw [hy] at hmb hmH
      have e1 : wrap64 (y + gz) = y + gz := by unfold wrap64; omega
      have e2 : wrap64 (h + gz) = h + gz := by unfold wrap64; omega
      have e3 : wrap64 (lf - 1) = lf - 1 := by unfold wrap64; omega
      obtain ⟨d, kk, hT, hLQ⟩ := HQ.out k hlt (y + gz) (by omega) (by omega)
      rw [hT lf lf1] at hmb
      have HM := Lib.hid (And.intro hmH (And.intro hmP hmL))
      have hoff : ∀ (i : Nat) u, (intsV .i8 (zs.drop ((k + 1) * 2)))[i]? = some u → cs[(k + 1) * 2 + i]? = some u := fun i u hu => hcs _ u (by
        unfold intsV at hu ⊢
        rw [List.getElem?_map, List.getElem?_drop] at hu
        rw [List.getElem?_map]
        exact hu)
      have HLQ := Lib.hid hLQ
      have HOFF := Lib.hid hoff
      have hhl := hhld.lt
      have HHLD := Lib.hid hhld
      clear hh hlf hrs hgk hgz hy hmH hmP hmL hT hLQ hoff hhld hcs z0 z1 r1 r2 ho
      go_wp2_with fail
      refine (HGW.out _).mono ?_
      rintro e w4 ⟨rfl, hb3⟩
      have hb4 := hb.trans (hb3.mono hb.size)
      have HP4 := Lib.hid (own_below HP.out hb3)
      have HO4 := Lib.hid (own_below HOk.out hb3)
      have HH4 := Lib.hid (HHLD.out.below hb3 hhl)
      clear c0 c1 hb3 hb HP HOk HHLD
      go_wp2_with fail
      refine (HMN.out _).mono ?_
      rintro e w5 ⟨rfl, hw5⟩
      rw [hw5]
      clear hw5
      have HMB := Lib.hid hmb
      have hcap : k + 1 < cv ∨ k + 1 = cv := by omega
      clear hmb
      rcases hcap with hcap | hcap
      · have HLC := Lib.hid (HLQ.out ga ((k + 1) * 2) (cv - (k + 1)) cs HOFF.out)
        clear HLQ HOFF
        go_wp2_with fail
        · skip
          refine (HLC.out w4 HH4.out).mono ?_
          rintro e w6 ⟨⟨u6, xs, rfl, hu6⟩, hb6⟩
          have hb7 := hb4.trans (hb6.mono hb4.size)
          have HP6 := Lib.hid (own_below HP4.out hb6)
          have HO6 := Lib.hid (own_below HO4.out hb6)
          obtain ⟨a6, c6, rfl⟩ := own_slice hu6
          clear hu6 hb4 hb6 HP4 HO4 HH4 HLC
          cases mb with
          | false =>
            have HM2 := Lib.hid (show FH (k + 1) = h + gz ∧ FP (k + 1) = FP k ∧ LF (k + 1) = lf from ⟨HM.out.1, by rw [HM.out.2.1]; exact List.append_nil _, by rw [HM.out.2.2]; exact Int.sub_zero _⟩)
            have hcs3 : decide (y + gz ≤ most) = false ∨ (decide (y + gz ≤ most) = true ∧ d = false) ∨ (decide (y + gz ≤ most) = true ∧ d = true ∧ ((kk : Int) == lf - 1) = false) := by
              have h9 := HMB.out
              cases h1 : decide (y + gz ≤ most) with
              | false => exact .inl rfl
              | true =>
                cases d with
                | false => exact .inr (.inl ⟨rfl, rfl⟩)
                | true =>
                  rw [h1, Bool.true_and, Bool.true_and] at h9
                  exact .inr (.inr ⟨rfl, rfl, h9⟩)
            rcases hcs3 with hd2 | ⟨hd2, rfl⟩ | ⟨hd2, rfl, hd3⟩
            · go_wp2_with fail
              go_roundw
              case rel => exact ⟨k + 1, by omega, by go_num, by rw [HM2.out.1], by rw [HM2.out.2.2], by rw [HM2.out.2.1]; exact HP6.out, HO6.out, hb7⟩
              case measure => simp [intOf]; omega
            · go_wp2_with fail
              go_roundw
              case rel => exact ⟨k + 1, by omega, by go_num, by rw [HM2.out.1], by rw [HM2.out.2.2], by rw [HM2.out.2.1]; exact HP6.out, HO6.out, hb7⟩
              case measure => simp [intOf]; omega
            · go_wp2_with fail
              go_roundw
              case rel => exact ⟨k + 1, by omega, by go_num, by rw [HM2.out.1], by rw [HM2.out.2.2], by rw [HM2.out.2.1]; exact HP6.out, HO6.out, hb7⟩
              case measure => simp [intOf]; omega
          | true =>
            have HM2 := Lib.hid (show FH (k + 1) = y + gz ∧ FP (k + 1) = FP k ++ [(k : Int)] ∧ LF (k + 1) = lf - 1 from ⟨HM.out.1, HM.out.2.1, HM.out.2.2⟩)
            have hcs3 : decide (y + gz ≤ most) = true ∧ d = true ∧ ((kk : Int) == lf - 1) = true := by
              have h9 := HMB.out
              simp only [Bool.and_eq_true] at h9
              exact ⟨h9.1.1, h9.1.2, h9.2⟩
            obtain ⟨hd2, rfl, hd3⟩ := hcs3
            obtain ⟨pl, hpl⟩ : ∃ pl, (FP k).length = pl := ⟨_, rfl⟩
            rw [hpl] at HP6 hle
            have HPL := Lib.hid hpl
            obtain ⟨ap, cp, rfl⟩ := own_slice HP6.out
            clear hpl
            go_wp2_with (at_builtin; refine wpList_append_own_at _ rfl _ _ 24 rfl w.heap.size 2 i0 (.int .i64 0) 1 8 Try.underlying24 HI.out.1 HI.out.2.1 HI.out.2.2.1 HI.out.2.2.2 rfl (by decide) _ _ _ rfl (HP6.out.alloc _) ⟨w6.heap.size, 0, none⟩ 1 1 [.int .i64 k] rfl rfl ?c1 ?c2 ?c3 ?c4 ?c5 ?_)
            case c1 =>
              intro j z hj
              match j, hj with
              | 0, hj => simp at hj; subst hj; exact (Holds.new w6 #[.int .i64 k] 2).cell 0
            case c2 => intro z hz; simp at hz; subst hz; rfl
            case c3 => unfold maxLen; omega
            case c4 => omega
            case c5 => have := hb7.size; simp; omega
            intro v' w9 hown' hgrow _ hat
            have hb9 : Below w.heap.size w w9 := (hb7.alloc hb7.size _).grown hgrow (by have := hb7.size; simp; omega) (fun k hk => by have := own_far HP6.out k hk; omega)
            have HO9 := Lib.hid ((HO6.out.alloc (.cells #[.int .i64 k] 2)).kept hgrow (.inr (by
              intro e
              have h1 := HLW.out ga (by simp [Value.ownBlock])
              have h2 := own_far HP6.out ga e.symm
              omega)))
            have HU9 := Lib.hid (show w9.ownsRow w.heap.size 2 1 v' (FP (k + 1)).length (intsV .i64 (FP (k + 1))) by
              rw [HM2.out.2.1, List.length_append, HPL.out]
              have e : intsV .i64 (FP k ++ [(k : Int)]) = intsV .i64 (FP k) ++ [.int .i64 (k : Int)] := by simp [intsV]
              rw [e]
              exact hown')
            clear hown' hgrow hat hb7
            go_wp2_with fail
            go_roundw
            case rel => exact ⟨k + 1, by omega, by go_num, by rw [HM2.out.1], by first | rw [HM2.out.2.2] | rw [HM2.out.2.2, e3], HU9.out, HO9.out, hb9⟩
            case measure => simp [intOf]; omega
      · have hN0 : N - (k + 1) = 0 := by omega
        have HLC := Lib.hid (HLQ.out ga 0 0 cs (fun i u hu => by
          have h1 := HOFF.out i u hu
          unfold intsV at hu
          rw [List.getElem?_map, List.getElem?_drop, List.getElem?_eq_none (by rw [HZ2.out]; omega)] at hu
          simp at hu))
        rw [hN0] at HLC
        clear HLQ HOFF hN0
        go_wp2_with fail
        · skip
          refine (HLC.out w4 HH4.out).mono ?_
          rintro e w6 ⟨⟨u6, xs, rfl, hu6⟩, hb6⟩
          have hb7 := hb4.trans (hb6.mono hb4.size)
          have HP6 := Lib.hid (own_below HP4.out hb6)
          have HO6 := Lib.hid (own_below HO4.out hb6)
          obtain ⟨a6, c6, rfl⟩ := own_slice hu6
          clear hu6 hb4 hb6 HP4 HO4 HH4 HLC
          cases mb with
          | false =>
            have HM2 := Lib.hid (show FH (k + 1) = h + gz ∧ FP (k + 1) = FP k ∧ LF (k + 1) = lf from ⟨HM.out.1, by rw [HM.out.2.1]; exact List.append_nil _, by rw [HM.out.2.2]; exact Int.sub_zero _⟩)
            have hcs3 : decide (y + gz ≤ most) = false ∨ (decide (y + gz ≤ most) = true ∧ d = false) ∨ (decide (y + gz ≤ most) = true ∧ d = true ∧ ((kk : Int) == lf - 1) = false) := by
              have h9 := HMB.out
              cases h1 : decide (y + gz ≤ most) with
              | false => exact .inl rfl
              | true =>
                cases d with
                | false => exact .inr (.inl ⟨rfl, rfl⟩)
                | true =>
                  rw [h1, Bool.true_and, Bool.true_and] at h9
                  exact .inr (.inr ⟨rfl, rfl, h9⟩)
            rcases hcs3 with hd2 | ⟨hd2, rfl⟩ | ⟨hd2, rfl, hd3⟩
            · go_wp2_with fail
              go_roundw
              case rel => exact ⟨k + 1, by omega, by go_num, by rw [HM2.out.1], by rw [HM2.out.2.2], by rw [HM2.out.2.1]; exact HP6.out, HO6.out, hb7⟩
              case measure => simp [intOf]; omega
            · go_wp2_with fail
              go_roundw
              case rel => exact ⟨k + 1, by omega, by go_num, by rw [HM2.out.1], by rw [HM2.out.2.2], by rw [HM2.out.2.1]; exact HP6.out, HO6.out, hb7⟩
              case measure => simp [intOf]; omega
            · go_wp2_with fail
              go_roundw
              case rel => exact ⟨k + 1, by omega, by go_num, by rw [HM2.out.1], by rw [HM2.out.2.2], by rw [HM2.out.2.1]; exact HP6.out, HO6.out, hb7⟩
              case measure => simp [intOf]; omega
          | true =>
            have HM2 := Lib.hid (show FH (k + 1) = y + gz ∧ FP (k + 1) = FP k ++ [(k : Int)] ∧ LF (k + 1) = lf - 1 from ⟨HM.out.1, HM.out.2.1, HM.out.2.2⟩)
            have hcs3 : decide (y + gz ≤ most) = true ∧ d = true ∧ ((kk : Int) == lf - 1) = true := by
              have h9 := HMB.out
              simp only [Bool.and_eq_true] at h9
              exact ⟨h9.1.1, h9.1.2, h9.2⟩
            obtain ⟨hd2, rfl, hd3⟩ := hcs3
            obtain ⟨pl, hpl⟩ : ∃ pl, (FP k).length = pl := ⟨_, rfl⟩
            rw [hpl] at HP6 hle
            have HPL := Lib.hid hpl
            obtain ⟨ap, cp, rfl⟩ := own_slice HP6.out
            clear hpl
            go_wp2_with (at_builtin; refine wpList_append_own_at _ rfl _ _ 24 rfl w.heap.size 2 i0 (.int .i64 0) 1 8 Try.underlying24 HI.out.1 HI.out.2.1 HI.out.2.2.1 HI.out.2.2.2 rfl (by decide) _ _ _ rfl (HP6.out.alloc _) ⟨w6.heap.size, 0, none⟩ 1 1 [.int .i64 k] rfl rfl ?c1 ?c2 ?c3 ?c4 ?c5 ?_)
            case c1 =>
              intro j z hj
              match j, hj with
              | 0, hj => simp at hj; subst hj; exact (Holds.new w6 #[.int .i64 k] 2).cell 0
            case c2 => intro z hz; simp at hz; subst hz; rfl
            case c3 => unfold maxLen; omega
            case c4 => omega
            case c5 => have := hb7.size; simp; omega
            intro v' w9 hown' hgrow _ hat
            have hb9 : Below w.heap.size w w9 := (hb7.alloc hb7.size _).grown hgrow (by have := hb7.size; simp; omega) (fun k hk => by have := own_far HP6.out k hk; omega)
            have HO9 := Lib.hid ((HO6.out.alloc (.cells #[.int .i64 k] 2)).kept hgrow (.inr (by
              intro e
              have h1 := HLW.out ga (by simp [Value.ownBlock])
              have h2 := own_far HP6.out ga e.symm
              omega)))
            have HU9 := Lib.hid (show w9.ownsRow w.heap.size 2 1 v' (FP (k + 1)).length (intsV .i64 (FP (k + 1))) by
              rw [HM2.out.2.1, List.length_append, HPL.out]
              have e : intsV .i64 (FP k ++ [(k : Int)]) = intsV .i64 (FP k) ++ [.int .i64 (k : Int)] := by simp [intsV]
              rw [e]
              exact hown')
            clear hown' hgrow hat hb7
            go_wp2_with fail
            go_roundw
            case rel => exact ⟨k + 1, by omega, by go_num, by rw [HM2.out.1], by first | rw [HM2.out.2.2] | rw [HM2.out.2.2, e3], HU9.out, HO9.out, hb9⟩
            case measure => simp [intOf]; omega
    · have hF : FP N = FP k := by
        rcases Nat.lt_or_ge k N with h1 | h1
        · exact hrs (by omega)
        · rw [show k = N by omega]
      have HF := Lib.hid hF
      clear hF hrs ho
      have hd : decide ((k : Int) < (N : Int)) = false ∨ (decide ((k : Int) < (N : Int)) = true ∧ decide (0 < lf) = false) := by
        rcases Nat.lt_or_ge k N with h1 | h1
        · exact .inr ⟨by simp; omega, by simp; omega⟩
        · exact .inl (by simp; omega)
      clear hgo hmx
      rcases hd with hd0 | ⟨hd0, hd1⟩
      · have hnl : ¬ (k : Int) < (N : Int) := by simpa using hd0
        have hnl2 : ¬ k < N := by omega
        have hnl3 : N ≤ k := by omega
        go_wp2_with fail
        all_goals
          first
            | exact absurd (by assumption) hnl
            | exact absurd (by assumption) hnl2
            | (go_ret
               exact ⟨⟨_, rfl, by rw [HF.out]; exact HP.out⟩, hb⟩)
      · have hnl : ¬ 0 < lf := by simpa using hd1
        go_wp2_with fail
        all_goals
          first
            | exact absurd (by assumption) hnl
            | (go_ret
               exact ⟨⟨_, rfl, by rw [HF.out]; exact HP.out⟩, hb⟩)
end Go.Proofs.Ytpjninnammddlaa
