/- SeedFor, of the program and of the model. -/
import Derived.Test.YtoengjabakcpjaaDoorCheckW
import Derived.Test.YtoengjabakcpjaaDoorSDay
import Derived.Test.YtoengjabakcpjaaDoorGrowMP
import Derived.Test.YtoengjabakcpjaaDoorCntP
namespace Go.Proofs.YtoengjabakcpjaaDoor
open Go.RowKit
set_option linter.unusedVariables false
set_option linter.unusedSimpArgs false
attribute [local go_sem ↓] loadRow loadGrid loadLawn loadMirror storeRow storeGrid storeLawn allocRow allocGrid allocLawn buildZero buildSides loadWd storeWd allocWd buildZWd eqlWd

/-- How many cells of grass have weeds. -/
def grassN (L : Lawn) (s : Nat → Nat → Bool) : Nat := cntR (fun y x => s y x && kindS L [0] y x) 10
def seedWZ (L : Lawn) (s : Nat → Nat → Bool) (e : Int) : Int := if weedB L s && inB e 0 1000 then e * (grassN L s : Nat) else 0
def seedWC (L : Lawn) (s : Nat → Nat → Bool) (e : Int) : Int := told (weedB L s) (inB e 0 1000)
theorem seedW_bad {L : Lawn} {s : Nat → Nat → Bool} {e : Int} (h : seedWC L s e ≠ 0) : seedWZ L s e = 0 := by
  unfold seedWC told at h
  unfold seedWZ
  cases hv : weedB L s <;> cases hf : inB e 0 1000 <;> simp_all
theorem seedW_good {L : Lawn} {s : Nat → Nat → Bool} {e : Int} (h : seedWC L s e = 0) : weedB L s = true ∧ (0 ≤ e ∧ e ≤ 1000) ∧ seedWZ L s e = e * (grassN L s : Nat) := by
  unfold seedWC told at h
  cases hv : weedB L s
  · rw [hv] at h; simp at h
  · rw [hv] at h
    cases hf : inB e 0 1000
    · rw [hf] at h; simp at h
    · refine ⟨rfl, inB_true hf, ?_⟩
      unfold seedWZ
      rw [hv, hf]
      rfl
theorem grassN_le (L : Lawn) (s : Nat → Nat → Bool) : grassN L s ≤ 160 := Nat.le_trans (cntR_le _ 10) (by omega)

set_option maxRecDepth 100000 in
set_option maxHeartbeats 4000000 in
theorem implSeedW_any (L : Lawn) (hL : L.Fits) (s : Nat → Nat → Bool) (each : Int) (w : World) :
    Calls Tryd.prog 34 #[.agg L.cells, .agg (bV 10 s), .int .i64 each] w fun e w' => e = .returned (.tuple #[.int .i64 (seedWZ L s each), .int .i64 (seedWC L s each)]) ∧ Below w.heap.size w w' := by
  have HC := Lib.hid (checkWeeds_any L hL s [(each, 0, 1000)] (by simp))
  have HCT := Lib.hid (show told (weedB L s) ([(each, (0 : Int), (1000 : Int))].all limB) = seedWC L s each by simp only [List.all_cons, List.all_nil, Bool.and_true, limB, seedWC])
  rw [HCT.out] at HC
  have HRB := Lib.hid (fun h => seedW_bad (L := L) (s := s) (e := each) h)
  have HRG := Lib.hid (fun h => seedW_good (L := L) (s := s) (e := each) h)
  obtain ⟨u, hu⟩ : ∃ u, w.heap.size = u := ⟨_, rfl⟩
  obtain ⟨W1, hW1⟩ : ∃ W1, (w.alloc (.cells L.cells 31)).alloc (.cells (bV 10 s) 33) = W1 := ⟨_, rfl⟩
  have g0 : Holds W1 u L.cells := by rw [← hW1]; exact (Holds.new' _ _ _ _ hu.symm).alloc _
  have g1 : Holds W1 (u + 1) (bV 10 s) := by rw [← hW1]; exact Holds.new' _ _ _ _ (by simp; omega)
  have hB1 : Below u w W1 := by rw [← hW1]; exact ((Below.refl u w).alloc (by omega) _).alloc (by simp; omega) _
  have HU := Lib.hid hu
  have HL := Lib.hid hL
  clear hL
  go_enter Tryd.func34, Tryd.ntmps34
  obtain ⟨r0, -, -, -, l0⟩ := g0.facts
  obtain ⟨r1, -, -, -, l1⟩ := g1.facts
  go_wp2_with fail
  try simp only [hu, Nat.add_assoc, Nat.reduceAdd]
  clear hW1 hu r0 r1 l0 l1
  have hp := Holds.new W1 (limV [(each, 0, 1000)]) 71
  refine (HC.out _ _ hp).mono ?_
  rintro e W3 ⟨⟨x, rfl, hx⟩, hb1⟩
  have k0 := (g0.alloc (.cells (limV [(each, 0, 1000)]) 71)).below hb1 (g0.alloc _).lt
  have k1 := (g1.alloc (.cells (limV [(each, 0, 1000)]) 71)).below hb1 (g1.alloc _).lt
  have hB3 : Below u w W3 := (hB1.alloc (by have := g0.lt; omega) (.cells (limV [(each, 0, 1000)]) 71)).trans (hb1.mono (by have := g0.lt; simp; omega))
  clear hb1 g0 g1 hB1 hp HC HCT
  rcases hx with ⟨rfl, hc⟩ | ⟨hc, t, a, rfl, hr⟩
  · obtain ⟨hw, ⟨he0, he1⟩, hR⟩ := HRG.out hc
    have HRR := Lib.hid hR
    have HCC := Lib.hid hc
    have HWI := Lib.hid (fun ga w hk => weedsIn_any L (weedB_true hw).1 HL.out [0] (by decide) ga w hk)
    have hle := grassN_le L s
    have hGD := Lib.hid (show grassN L s = cntR (fun y x => s y x && kindS L [0] y x) 10 from rfl)
    obtain ⟨G, hG⟩ : ∃ G, grassN L s = G := ⟨_, rfl⟩
    have hprod : 0 ≤ each * (G : Int) ∧ each * (G : Int) ≤ 160000 := ⟨Int.mul_nonneg he0 (Int.natCast_nonneg _), by
      have h1 : each * (G : Int) ≤ 1000 * (G : Int) := Int.mul_le_mul_of_nonneg_right he1 (Int.natCast_nonneg _)
      omega⟩
    have hwm : IntKind.i64.wrap (each * (G : Int)) = each * (G : Int) := IntWalk.i64_in _ (by omega)
    rw [hG] at hGD HRR
    clear hprod hle hG hR hc hw he0 he1 HRB HRG
    go_wp2_with fail
    obtain ⟨r0, -⟩ := k0.later
    obtain ⟨r1, -⟩ := k1.later
    refine wp_region_growMP 8 3 [4] (fun p w' => Holds w' p (kV [0])) (fun p a b h hb => h.below hb h.lt)
      (fun p => [.int .i64 each, .agg (bV 10 s), .agg L.cells, .slice (some ⟨p, 0, none⟩) 1 1, .agg (bV 10 (kindS L [0])), .agg (bV 10 fun y x => s y x && kindS L [0] y x), .int .i64 (G : Nat), .int .i64 (each * (G : Int))]) ?hv (by kernel_rfl) (by decide) (by kernel_rfl) (by kernel_rfl) (by kernel_rfl) ?_
    case hv =>
      intro p p' j h1 h2
      match j with
      | 0 => rfl
      | 1 => rfl
      | 2 => rfl
      | 3 => exact absurd rfl h1
      | 4 => exact absurd h2 (by decide)
      | 5 => rfl
      | 6 => rfl
      | 7 => rfl
      | j + 8 => rfl
    intro p
    simp only [List.take_succ_cons, List.take_zero, List.drop_succ_cons, List.drop_zero]
    refine seqP_free rfl rfl rfl (v := .int .i64 each) rfl ?_ ?_
    · intro w' hw' K hK
      go_wp2_with fail
      exact hK _ _ rfl (Below.refl _ _)
    simp only [Act.put, List.setIfInBounds_toArray, List.set_cons_succ, List.set_cons_zero]
    refine seqP_free rfl rfl rfl (v := .agg (bV 10 s)) rfl ?_ ?_
    · intro w' hw' K hK
      go_wp2_with fail
      exact hK _ _ rfl (Below.refl _ _)
    simp only [Act.put, List.setIfInBounds_toArray, List.set_cons_succ, List.set_cons_zero]
    refine seqP_free rfl rfl rfl (v := .agg L.cells) rfl ?_ ?_
    · intro w' hw' K hK
      go_wp2_with fail
      exact hK _ _ rfl (Below.refl _ _)
    simp only [Act.put, List.setIfInBounds_toArray, List.set_cons_succ, List.set_cons_zero]
    refine seqP_call rfl rfl (v := .slice (some ⟨p, 0, none⟩) 1 1) rfl ?_ ?_
    · rintro w' hw' rfl K hK
      go_wp2_with fail
      exact hK _ _ rfl ((Below.refl _ _).alloc (Nat.le_refl _) _) (Holds.new _ _ _)
    simp only [Act.put, List.setIfInBounds_toArray, List.set_cons_succ, List.set_cons_zero]
    refine seqP_dep rfl rfl rfl (v := .agg (bV 10 (kindS L [0]))) rfl ?_ ?_
    · intro w' hw' hi K hK
      go_wp2_with fail
      refine (HWI.out _ _ hi).mono ?_
      rintro e w5 ⟨rfl, hb5⟩
      go_wp2_with fail
      exact hK _ _ rfl hb5
    simp only [Act.put, List.setIfInBounds_toArray, List.set_cons_succ, List.set_cons_zero]
    refine seqP_free rfl rfl rfl (v := .agg (bV 10 fun y x => s y x && kindS L [0] y x)) rfl ?_ ?_
    · intro w' hw' K hK
      go_wp2_with fail
      refine (wdWithin_any _ _ _).mono ?_
      rintro e w5 ⟨rfl, hb5⟩
      go_wp2_with fail
      exact hK _ _ rfl hb5
    simp only [Act.put, List.setIfInBounds_toArray, List.set_cons_succ, List.set_cons_zero]
    refine seqP_free rfl rfl rfl (v := .int .i64 (G : Nat)) rfl ?_ ?_
    · intro w' hw' K hK
      go_wp2_with fail
      refine (wdCount_any _ _).mono ?_
      rintro e w5 ⟨rfl, hb5⟩
      rw [← hGD.out]
      go_wp2_with fail
      exact hK _ _ rfl hb5
    simp only [Act.put, List.setIfInBounds_toArray, List.set_cons_succ, List.set_cons_zero]
    refine seqP_free rfl rfl rfl (v := .int .i64 (each * (G : Int))) rfl ?_ ?_
    · intro w' hw' K hK
      go_wp2_with fail
      exact hK _ _ rfl (Below.refl _ _)
    simp only [Act.put, List.setIfInBounds_toArray, List.set_cons_succ, List.set_cons_zero]
    intro W4 _ hW4 hpp
    go_wp2_with fail
    go_ret2
    exact ⟨by rw [HRR.out, HCC.out]; rfl, by rw [HU.out]; exact hB3.trans (hW4.mono (by have := k0.lt; omega))⟩
  · have HR := Lib.hid hr
    have HZ := Lib.hid (HRB.out hc)
    clear hc hr HRB HRG
    go_wp2_with fail
    refine (HR.out _).mono ?_
    rintro e w2 ⟨rfl, hb3⟩
    go_wp2_with fail
    go_ret2
    exact ⟨by rw [HZ.out]; rfl, by rw [HU.out]; exact hB3.trans (hb3.mono (by have := k0.lt; omega))⟩

/-- The cells of grass with weeds, counted as they come. -/
theorem grass_count {L : Lawn} {s : Nat → Nat → Bool} (hw : weedB L s = true) {W H : Nat} (hLw : L.wide = W) (hLh : L.high = H) (hW : W ≤ 10) (hH : H ≤ 10) : (ofKind L W H 0).countP (fun c => s c.2 c.1) = grassN L s := by
  unfold grassN ofKind
  rw [List.countP_filter, cnt_grid, cntR_all (W := W) (H := H) _ hW hH]
  · refine List.countP_congr fun c _ => ?_
    have h1 := c.1.isLt
    have h2 := c.2.isLt
    have hi : isB L (c.1.val : Int) (c.2.val : Int) = true := by rw [isB_nat hLw hLh]; simp
    simp [gridS, kindS, hi, show c.2.val < 10 by omega, show c.1.val < 16 by omega, List.contains, List.elem]
    cases h : (L.kind c.2 c.1 == 0) <;> simp_all
  · intro y x h
    simp only [gridS, Bool.and_eq_true] at h
    have := kindS_in h.2.2.2
    rw [isB_nat hLw hLh] at this
    simpa using this


set_option maxRecDepth 100000 in
set_option maxHeartbeats 4000000 in
theorem specSeedW_any (L : Lawn) (hL : L.Fits) (s : Nat → Nat → Bool) (each : Int) (w : World) :
    Calls Tryd.prog 33 #[.agg L.cells, .agg (bV 10 s), .int .i64 each] w fun e w' => e = .returned (.tuple #[.int .i64 (seedWZ L s each), .int .i64 (seedWC L s each)]) ∧ Below w.heap.size w w' := by
  obtain ⟨u, hu⟩ : ∃ u, w.heap.size = u := ⟨_, rfl⟩
  obtain ⟨W1, hW1⟩ : ∃ W1, (w.alloc (.cells L.cells 31)).alloc (.cells (bV 10 s) 33) = W1 := ⟨_, rfl⟩
  have g0 : Holds W1 u L.cells := by rw [← hW1]; exact (Holds.new' _ _ _ _ hu.symm).alloc _
  have g1 : Holds W1 (u + 1) (bV 10 s) := by rw [← hW1]; exact Holds.new' _ _ _ _ (by simp; omega)
  have hB1 : Below u w W1 := by rw [← hW1]; exact ((Below.refl u w).alloc (by omega) _).alloc (by simp; omega) _
  have HU := Lib.hid hu
  obtain ⟨ve, hve⟩ : ∃ ve, inB each 0 1000 = ve := ⟨_, rfl⟩
  have HIE := Lib.hid (fun w => show Calls Tryd.prog 50 #[.int .i64 each, .int .i64 0, .int .i64 1000] w fun e w' => e = .returned (.bool ve) ∧ w' = w from hve ▸ in_q _ _ _ w)
  have HO := Lib.hid (l07Asked_any L hL s u (u + 1) ve W1 g0 g1)
  have HCC := Lib.hid (show seedWC L s each = told (weedB L s) ve by rw [seedWC, hve])
  have HRB := Lib.hid (fun h => seedW_bad (L := L) (s := s) (e := each) h)
  have HRG := Lib.hid (fun h => seedW_good (L := L) (s := s) (e := each) h)
  rw [← HCC.out] at HO
  have HHAS := Lib.hid (fun (x y : Nat) (hx : x < 10) (hy : y < 10) (w : World) (h : Holds w (u + 1) (bV 10 s)) => hasS_any s (u + 1) x y hx hy w h)
  have HCE := Lib.hid (fun (Wn Hn : Nat) (h1 : Wn ≤ 10) (h2 : Hn ≤ 10) (h3 : 1 ≤ Wn) (h4 : 1 ≤ Hn) (h5 : L.wide = Wn) (h6 : L.high = Hn) (w : World) (h : Holds w u L.cells) => l01Cells_any Wn Hn h1 h2 h3 h4 L hL h5 h6 0 u w h)
  clear hL hve
  go_enter Tryd.func33, Tryd.ntmps33
  go_wp2_with fail
  try simp only [hu, Nat.add_assoc, Nat.reduceAdd]
  try rw [hW1]
  clear hW1 hu
  refine (HIE.out _).mono ?_
  rintro e w2 ⟨rfl, hw2⟩
  rw [hw2]
  clear hw2 HIE
  go_wp2_with fail
  refine HO.out.mono ?_
  rintro e W3 ⟨rfl, hb3⟩
  have k0 := g0.below hb3 g0.lt
  have k1 := g1.below hb3 g1.lt
  have hB3 : Below u w W3 := hB1.trans (hb3.mono (by have := g0.lt; omega))
  clear hb3 g0 g1 hB1 HO
  by_cases hz : seedWC L s each = 0
  · obtain ⟨hw, ⟨he0, he1⟩, hR⟩ := HRG.out hz
    obtain ⟨hv1, hv2, -⟩ := validB_true (weedB_true hw).1
    obtain ⟨Wn, hWn⟩ : ∃ n : Nat, L.wide = n := ⟨L.wide.toNat, by omega⟩
    obtain ⟨Hn, hHn⟩ : ∃ n : Nat, L.high = n := ⟨L.high.toNat, by omega⟩
    have HRR := Lib.hid hR
    have HCZ := Lib.hid hz
    have HGC := Lib.hid (grass_count hw hWn hHn (by omega) (by omega))
    have HLL := Lib.hid (HCE.out Wn Hn (by omega) (by omega) (by omega) (by omega) hWn hHn)
    have hle := grassN_le L s
    have hw10 : Wn ≤ 10 := by omega
    have hh10 : Hn ≤ 10 := by omega
    rw [hz]
    obtain ⟨G, hG⟩ : ∃ G, grassN L s = G := ⟨_, rfl⟩
    rw [hG] at HGC HRR hle
    have hprod : 0 ≤ each * (G : Int) ∧ each * (G : Int) ≤ 160000 := ⟨Int.mul_nonneg he0 (Int.natCast_nonneg _), by
      have h1 : each * (G : Int) ≤ 1000 * (G : Int) := Int.mul_le_mul_of_nonneg_right he1 (Int.natCast_nonneg _)
      omega⟩
    have hwm : IntKind.i64.wrap (each * (G : Int)) = each * (G : Int) := IntWalk.i64_in _ (by omega)
    have hlen : (ofKind L Wn Hn 0).length ≤ 100 := by
      unfold ofKind
      refine Nat.le_trans (List.length_filter_le _ _) ?_
      rw [allC_length]
      exact Nat.le_trans (Nat.mul_le_mul hh10 hw10) (by omega)
    clear hprod hG hR hw he0 he1 HRB HRG hv1 hv2 hWn hHn hz HCE HCC
    go_wp2_with fail
    refine (HLL.out _ k0).mono ?_
    rintro e W4 ⟨v, rfl, ho, hb4⟩
    have j1 := k1.below hb4 k1.lt
    have hB4 : Below u w W4 := hB3.trans (hb4.mono (by have := k0.lt; omega))
    have hsz : u + 2 ≤ W3.heap.size := by have := k1.lt; omega
    clear hb4 k0 k1 hB3 HLL
    obtain ⟨l, hl⟩ : ∃ l, ofKind L Wn Hn 0 = l := ⟨_, rfl⟩
    rw [hl] at ho HGC hlen
    clear hl
    obtain ⟨a, c, rfl⟩ := own_slice ho
    have hO := Lib.hid ho
    clear ho
    obtain ⟨N, hN⟩ : ∃ N, l.length = N := ⟨_, rfl⟩
    have HN := Lib.hid hN
    rw [hN] at hO hlen ⊢
    clear hN
    go_wp2_with fail
    go_loopw [9, 11] (fun n x wr => ∃ i : Nat, i ≤ N ∧ x = .int .i64 i ∧ n = .int .i64 (((l.take i).countP fun c => s c.2 c.1 : Nat) : Int) ∧ Holds wr (u + 1) (bV 10 s) ∧ wr.ownsRow W3.heap.size 90 2 (.slice a N c) N (flatV l) ∧ Below u w wr) (fun _ x _ => N - (intOf x).toNat)
    case atStart => exact ⟨0, by omega, rfl, rfl, j1, hO.out, hB4⟩
    case round =>
      obtain ⟨i, hi, rfl, rfl, h1, ho, hb⟩ := hrel
      have HO := Lib.hid ho
      by_cases hlt : i < N
      · have hd : decide ((i : Int) < (N : Int)) = true := by simp; omega
        obtain ⟨p, hp⟩ : ∃ p, l[i]? = some p := ⟨_, List.getElem?_eq_getElem (by rw [HN.out]; exact hlt)⟩
        have HT := Lib.hid (show (l.take (i + 1)).countP (fun c => s c.2 c.1) = (l.take i).countP (fun c => s c.2 c.1) + (if s p.2 p.1 then 1 else 0) by
          rw [List.take_add_one, hp, Option.toList_some, List.countP_append]
          simp [List.countP_cons])
        have hcl : (l.take i).countP (fun c => s c.2 c.1) ≤ i := Nat.le_trans List.countP_le_length (List.length_take_le _ _)
        obtain ⟨fa, fb⟩ := flatV_get _ _ _ hp
        obtain ⟨g, cap, he, -, -⟩ := own_form ho (by omega)
        simp only [Value.slice.injEq, true_and] at he
        obtain ⟨hav, -⟩ := he
        have hix := fun w => index_cells a g hav N c i hlt w
        rw [hav] at ho
        have da := own_cell ho _ _ fa
        have db := own_cell ho _ _ fb
        have hpx := p.1.isLt
        have hpy := p.2.isLt
        obtain ⟨⟨x, hx⟩, ⟨y, hy⟩⟩ := p
        dsimp only at *
        obtain ⟨sb, hsb⟩ : ∃ sb, s y x = sb := ⟨_, rfl⟩
        have HH := Lib.hid (HHAS.out x y (by omega) (by omega))
        rw [hsb] at HH
        simp only [hsb] at HT
        obtain ⟨q, hq⟩ : ∃ q, (l.take i).countP (fun c => s c.2 c.1) = q := ⟨_, rfl⟩
        rw [hq] at HT hcl ⊢
        clear ho hav fa fb hp hsb hq hx hy
        go_wp2_with fail
        refine (HH.out _ h1).mono ?_
        rintro e w2 ⟨rfl, hb2⟩
        have HO2 := Lib.hid (own_below HO.out hb2)
        have i1 := h1.below hb2 h1.lt
        have hb3 := hb.trans (hb2.mono (by have := h1.lt; omega))
        clear hb2 h1 hb da db HO HH
        cases sb
        · have HE := Lib.hid HT.out
          clear HT
          go_wp2_with fail
          go_roundw
          case rel => exact ⟨i + 1, by omega, by go_num, by rw [HE.out]; rfl, i1, HO2.out, hb3⟩
          case measure => simp [intOf]; omega
        · have hw1 : IntKind.i64.wrap ((q : Int) + 1) = ((q + 1 : Nat) : Int) := by rw [IntWalk.i64_in _ (by omega)]; rfl
          have HE := Lib.hid HT.out
          clear HT
          go_wp2_with fail
          go_roundw
          case rel => exact ⟨i + 1, by omega, by go_num, by rw [HE.out]; rfl, i1, HO2.out, hb3⟩
          case measure => simp [intOf]; omega
      · obtain rfl : i = N := by omega
        have hd : decide ((i : Int) < (i : Int)) = false := by simp
        have HE := Lib.hid (show (l.take i).countP (fun c => s c.2 c.1) = G by rw [← HGC.out, List.take_of_length_le (by have := HN.out; omega)])
        rw [HE.out]
        go_wp2_with fail
        go_ret2
        exact ⟨by rw [HRR.out, HCZ.out]; rfl, by rw [HU.out]; exact hb⟩
  · have HZ := Lib.hid (HRB.out hz)
    obtain ⟨m, hm⟩ : ∃ m, seedWC L s each = m := ⟨_, rfl⟩
    have HM := Lib.hid hm
    rw [hm] at hz ⊢
    have hmn : ((m : Int) != 0) = true := by simp [hz]
    clear hm hz HRB HRG HCC
    go_wp2_with fail
    go_ret2
    exact ⟨by rw [HZ.out, HM.out]; rfl, by rw [HU.out]; exact hB3⟩
end Go.Proofs.YtoengjabakcpjaaDoor
