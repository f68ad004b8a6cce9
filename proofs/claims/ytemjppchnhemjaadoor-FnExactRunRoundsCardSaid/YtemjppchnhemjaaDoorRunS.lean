/- RunRounds, of the model. -/
import Derived.Test.YtemjppchnhemjaaDoorRunP
namespace Go.Proofs.YtemjppchnhemjaaDoor
open Go.RowKit
set_option linter.unusedVariables false
set_option linter.unusedSimpArgs false
attribute [local go_sem ↓] loadRow loadGrid loadLawn loadMirror storeRow storeGrid storeLawn allocRow allocGrid allocLawn buildZero buildSides loadWd storeWd allocWd buildZWd eqlWd neqWd

theorem inB_upZ (r m : Int) : inB r 0 m = upZ r m := by
  simp only [inB, upZ]
/-- The first rows are rows of the lawn. -/
def fineK (L : Lawn) (vn : Bool) (rs : List (Int × Bool)) (k : Nat) : Bool := vn && rowsB L (rs.take k)
theorem fineK_succ {L : Lawn} {vn : Bool} {rs : List (Int × Bool)} {k : Nat} {r : Int × Bool} (h : rs[k]? = some r) : fineK L vn rs (k + 1) = (fineK L vn rs k && upZ r.1 (L.high - 1)) := by
  unfold fineK rowsB
  rw [List.take_add_one, h, Option.toList_some, List.all_append]
  simp [Bool.and_assoc]
theorem fineK_all {L : Lawn} {vn : Bool} {rs : List (Int × Bool)} {k : Nat} (h : rs.length ≤ k) : fineK L vn rs k = (vn && rowsB L rs) := by
  unfold fineK
  rw [List.take_of_length_le h]
theorem runC_bad {L : Lawn} {s : Nat → Nat → Bool} {need : Int} {rs : List (Int × Bool)} (h : told (weedB L s) (inB need 1 4 && rowsB L rs) ≠ 0) : runC L s need rs = told (weedB L s) (inB need 1 4 && rowsB L rs) := by
  unfold runC roundsC
  cases hw : weedB L s <;> cases hn : inB need 1 4 <;> cases hr : rowsB L rs <;> simp_all [told]
theorem runC_many {L : Lawn} {s : Nat → Nat → Bool} {need : Int} {rs : List (Int × Bool)} (h : told (weedB L s) (inB need 1 4 && rowsB L rs) = 0) (h6 : 60 < rs.length) : runC L s need rs = 3 := by
  obtain ⟨h1, h2⟩ := told_zero h
  simp only [Bool.and_eq_true] at h2
  unfold runC roundsC
  rw [h1, h2.1, h2.2]
  simp [told, h6]
theorem runC_good {L : Lawn} {s : Nat → Nat → Bool} {need : Int} {rs : List (Int × Bool)} (h : told (weedB L s) (inB need 1 4 && rowsB L rs) = 0) (h6 : ¬ 60 < rs.length) : runC L s need rs = 0 := by
  obtain ⟨h1, h2⟩ := told_zero h
  simp only [Bool.and_eq_true] at h2
  unfold runC roundsC
  rw [h1, h2.1, h2.2]
  simp [told, h6]

set_option maxRecDepth 100000 in
set_option maxHeartbeats 8000000 in
theorem specRun_any (L : Lawn) (hL : L.Fits) (s : Nat → Nat → Bool) (need : Int) (N : Nat) (rs : List (Int × Bool)) (hl : rs.length = N) (hN : N ≤ 1048576) (hr : ∀ r ∈ rs, -128 ≤ r.1 ∧ r.1 ≤ 127) (v : Value) (B : Nat) (w : World) (hown : w.ownsRow B 94 2 v N (rndV rs)) :
    Calls Tryd.prog 18 #[.agg L.cells, .agg (bV 10 s), .int .i64 need, v] w fun e w' => e = .returned (.tuple #[.agg (bV 10 (runR L s need rs)), .int .i64 (runF L s need rs), .int .i64 (runC L s need rs)]) ∧ Below w.heap.size w w' := by
  have HR := Lib.hid (show runR L s need rs = if runC L s need rs = 0 then (runK L need.toNat s rs rs.length).1 else fun _ _ => false from rfl)
  have HF := Lib.hid (show runF L s need rs = if runC L s need rs = 0 then (runK L need.toNat s rs rs.length).2 else 0 from rfl)
  obtain ⟨a0, c0', hv⟩ := own_slice hown
  have HOW := Lib.hid hown
  have HL2 := Lib.hid hl
  have HRB := Lib.hid hr
  obtain ⟨u, hu⟩ : ∃ u, w.heap.size = u := ⟨_, rfl⟩
  obtain ⟨W1, hW1⟩ : ∃ W1, ((w.alloc (.cells L.cells 31)).alloc (.cells (bV 10 s) 33)).alloc (.cells (bV 10 fun _ _ => false) 33) = W1 := ⟨_, rfl⟩
  have g0 : Holds W1 u L.cells := by rw [← hW1]; exact ((Holds.new' _ _ _ _ hu.symm).alloc _).alloc _
  have g1 : Holds W1 (u + 1) (bV 10 s) := by rw [← hW1]; exact (Holds.new' _ _ _ _ (by simp; omega)).alloc _
  have g2 : Holds W1 (u + 2) (bV 10 fun _ _ => false) := by rw [← hW1]; exact Holds.new' _ _ _ _ (by simp; omega)
  have hB1 : Below u w W1 := by rw [← hW1]; exact (((Below.refl u w).alloc (by omega) _).alloc (by simp; omega) _).alloc (by simp; omega) _
  have HU := Lib.hid hu
  have HL := Lib.hid hL
  obtain ⟨vn, hvn⟩ : ∃ vn, inB need 1 4 = vn := ⟨_, rfl⟩
  have HNE := Lib.hid (l07Need_is need vn hvn)
  have HVN := Lib.hid hvn
  have HRW := Lib.hid (fun (r : Int) (v : Bool) (h : upZ r (L.high - 1) = v) (w : World) (ha : Holds w u L.cells) => l07Row_any L hL r u w ha v ((inB_upZ _ _).trans h))
  have HAS := Lib.hid (fun (fine : Bool) (w : World) ha hb => l07Asked_any L hL s u (u + 1) fine w ha hb)
  clear hL hown hl hr hvn
  subst hv
  go_enter Tryd.func18, Tryd.ntmps18
  go_wp2_with fail
  try simp only [hu, Nat.add_assoc, Nat.reduceAdd]
  try rw [hW1]
  clear hW1 hu
  refine (HNE.out _).mono ?_
  rintro e w2 ⟨rfl, hw2⟩
  rw [hw2]
  clear hw2 HNE
  go_wp2_with fail
  go_loopw [11, 12] (fun f x wr => ∃ k : Nat, k ≤ N ∧ x = .int .i64 k ∧ f = .bool (fineK L vn rs k) ∧ Holds wr u L.cells ∧ Holds wr (u + 1) (bV 10 s) ∧ Holds wr (u + 2) (bV 10 fun _ _ => false) ∧ Below u w wr) (fun _ x _ => N - (intOf x).toNat)
  case atStart => exact ⟨0, by omega, rfl, by simp [fineK, rowsB], g0, g1, g2, hB1⟩
  case round =>
    obtain ⟨k, hk, rfl, rfl, h0, h1, h2, hb⟩ := hrel
    clear g0 g1 g2 hB1
    have HOr := Lib.hid (own_below HOW.out (by rw [HU.out]; exact hb : Below w.heap.size w wr))
    by_cases hlt : k < N
    · have hd : decide ((k : Int) < (N : Int)) = true := by simp; omega
      obtain ⟨⟨x, y⟩, hz⟩ : ∃ r, rs[k]? = some r := ⟨_, List.getElem?_eq_getElem (by rw [HL2.out]; omega)⟩
      obtain ⟨hz0, -⟩ := rndV_get rs k _ hz
      have HFS := Lib.hid (fineK_succ (L := L) (vn := vn) hz)
      obtain ⟨hx0, hx1⟩ := HRB.out _ (List.mem_of_getElem? hz)
      obtain ⟨gd, capd, he, -, -⟩ := own_form HOr.out (by omega)
      simp only [Value.slice.injEq, true_and] at he
      obtain ⟨rfl, rfl⟩ := he
      have c0 := own_cell HOr.out _ _ hz0
      dsimp only at hz0 hx0 hx1 c0 HFS
      have e1 : IntKind.i64.wrap x = x := IntWalk.i64_in _ (by omega)
      obtain ⟨vr, hvr⟩ : ∃ v, upZ x (L.high - 1) = v := ⟨_, rfl⟩
      have HRx := Lib.hid (HRW.out x vr hvr)
      rw [hvr] at HFS
      obtain ⟨f, hf⟩ : ∃ f, fineK L vn rs k = f := ⟨_, rfl⟩
      rw [hf] at HFS ⊢
      clear hz hz0 hvr hf
      cases f
      · go_wp2_with fail
        go_roundw
        case rel => exact ⟨k + 1, by omega, by go_num, by rw [HFS.out]; rfl, h0, h1, h2, hb⟩
        case measure => simp [intOf]; omega
      · go_wp2_with fail
        refine (HRx.out _ h0).mono ?_
        rintro e w5 ⟨rfl, hw5⟩
        rw [hw5]
        clear hw5
        go_wp2_with fail
        go_roundw
        case rel => exact ⟨k + 1, by omega, by go_num, by rw [HFS.out]; rfl, h0, h1, h2, hb⟩
        case measure => simp [intOf]; omega
    · obtain rfl : k = N := by omega
      have hd : decide ((k : Int) < (k : Int)) = false := by simp
      have HFA := Lib.hid (show fineK L vn rs k = (inB need 1 4 && rowsB L rs) by rw [fineK_all (by rw [HL2.out]; exact Nat.le_refl _), HVN.out])
      obtain ⟨b, hbb⟩ : ∃ b, fineK L vn rs k = b := ⟨_, rfl⟩
      have HAx := Lib.hid (HAS.out b)
      have HBB := Lib.hid (show (inB need 1 4 && rowsB L rs) = b from HFA.out.symm.trans hbb)
      rw [hbb]
      clear hbb HFA
      go_wp2_with fail
      refine (HAx.out _ h0 h1).mono ?_
      rintro e W3 ⟨rfl, hb3⟩
      have j0 := h0.below hb3 h0.lt
      have j1 := h1.below hb3 h1.lt
      have j2 := h2.below hb3 h2.lt
      have hB3 : Below u w W3 := hb.trans (hb3.mono (by have := h0.lt; omega))
      clear hb3 h0 h1 h2 hb HAx HAS
      obtain ⟨m, hm⟩ : ∃ m, told (weedB L s) b = m := ⟨_, rfl⟩
      have HM := Lib.hid hm
      rw [hm]
      clear hm
      by_cases hmz : m = 0
      · subst hmz
        by_cases h6 : 60 < k
        · have hd6 : decide ((60 : Int) < (k : Int)) = true := by simp; omega
          have HC3 := Lib.hid (show runC L s need rs = 3 from runC_many (by rw [HBB.out]; exact HM.out) (by rw [HL2.out]; exact h6))
          obtain ⟨r2, f2, -, z2, l2⟩ := j2.facts
          go_wp2_with fail
          exact bodyPost_ret (results_cell_tmp2_wd rfl wideWd _ rfl (j2.setRow (bV 10 fun _ _ => false)) (by simp)) rfl ⟨by rw [HR.out, HF.out, HC3.out]; rfl, by rw [HU.out]; exact below_setRow' hB3 (by omega) _⟩
        · have hd6 : decide ((60 : Int) < (k : Int)) = false := by simp; omega
          have HC0 := Lib.hid (show runC L s need rs = 0 from runC_good (by rw [HBB.out]; exact HM.out) (by rw [HL2.out]; exact h6))
          obtain ⟨hw, hbt⟩ := told_zero HM.out
          have hBB := HBB.out
          rw [hbt] at hBB
          simp only [Bool.and_eq_true] at hBB
          obtain ⟨hnb, hrb⟩ := hBB
          have hn := inB_true hnb
          obtain ⟨n, rfl⟩ : ∃ n : Nat, need = n := ⟨need.toNat, by omega⟩
          have hn4 : n ≤ 4 := by omega
          have HE0 := Lib.hid (show runR L s n rs = (runK L n s rs k).1 by rw [HR.out, if_pos HC0.out, HL2.out]; simp)
          have HE1 := Lib.hid (show runF L s n rs = (runK L n s rs k).2 by rw [HF.out, if_pos HC0.out, HL2.out]; simp)
          have HW := Lib.hid hw
          have HKW := Lib.hid (fun i => runK_weed (L := L) (n := n) (s := s) (rs := rs) HW.out i)
          have HKB := Lib.hid (fun i => runK_bound (L := L) (n := n) (s := s) (rs := rs) HW.out i)
          have HKS := Lib.hid (fun i r h => runK_succ (L := L) (n := n) (s := s) (rs := rs) (k := i) (r := r) h)
          have HDY := Lib.hid (fun (t : Nat → Nat → Bool) (ht : weedB L t = true) (a b : Nat) (w : World) ha hb => l07Day_any L HL.out t ht n hn4 a b w ha hb)
          have HCT := Lib.hid (fun (i : Nat) (r : Int × Bool) (h : rs[i]? = some r) (t : Nat → Nat → Bool) (w : World) (ha : Holds w u L.cells) => show Calls Tryd.prog 51 #[.pointer (some ⟨u, 0, none⟩), .agg (bV 10 t), .int .i64 r.1, .bool r.2] w fun e w' => e = .returned (.agg (bV 10 (cutS L r.1.toNat r.2 t))) ∧ Below w.heap.size w w' from by
            have h1 := rowsB_get hrb h
            have := l07Cut_any L (weedB_true HW.out).1 r.1.toNat (by omega) r.2 t u w ha
            rwa [show ((r.1.toNat : Nat) : Int) = r.1 by omega] at this)
          obtain ⟨K, hK⟩ : ∃ K, runK L n s rs = K := ⟨_, rfl⟩
          rw [hK] at HE0 HE1 HKW HKB HKS
          have HK0 := Lib.hid (show K 0 = (s, 0) by rw [← hK]; rfl)
          have HOW3 := Lib.hid (own_below HOW.out (by rw [HU.out]; exact hB3 : Below w.heap.size w W3))
          clear hK hw hbt hnb hrb hn HM HBB
          go_wp2_with fail
          go_loopw [14, 15, 16] (fun fr x _ wr => ∃ i : Nat, i ≤ k ∧ x = .int .i64 i ∧ fr = .int .i64 (K i).2 ∧ Holds wr u L.cells ∧ Holds wr (u + 1) (bV 10 (K i).1) ∧ Holds wr (u + 2) (bV 10 fun _ _ => false) ∧ Below u w wr) (fun _ x _ _ => k - (intOf x).toNat)
          case atStart => exact ⟨0, by omega, rfl, by rw [HK0.out], j0, by rw [HK0.out]; exact j1, j2, hB3⟩
          case round =>
          obtain ⟨i, hi, rfl, rfl, h0, h1, h2, hb⟩ := hrel
          clear j0 j1 j2 hB3 HOW3
          have HOr := Lib.hid (own_below HOW.out (by rw [HU.out]; exact hb : Below w.heap.size w wr))
          have hkb := HKB.out i
          by_cases hlt : i < k
          · have hd : decide ((i : Int) < (k : Int)) = true := by simp; omega
            obtain ⟨⟨x, y⟩, hz⟩ : ∃ r, rs[i]? = some r := ⟨_, List.getElem?_eq_getElem (by rw [HL2.out]; omega)⟩
            obtain ⟨hz0, hz1⟩ := rndV_get rs i _ hz
            have HKk := Lib.hid (HKS.out i _ hz)
            have HCTk := Lib.hid (HCT.out i _ hz)
            obtain ⟨hx0, hx1⟩ := HRB.out _ (List.mem_of_getElem? hz)
            have hwt := HKW.out i
            have HZ0 := Lib.hid hz0
            have HZ1 := Lib.hid hz1
            obtain ⟨t, F, hKk⟩ : ∃ t F, K i = (t, F) := ⟨_, _, rfl⟩
            rw [hKk] at h1 hkb HKk hwt ⊢
            obtain ⟨gd, capd, he, -, -⟩ := own_form HOr.out (by omega)
            simp only [Value.slice.injEq, true_and] at he
            obtain ⟨rfl, rfl⟩ := he
            dsimp only at hx0 hx1 h1 hkb HKk HCTk hwt HZ0 HZ1
            have e1 : IntKind.i64.wrap x = x := IntWalk.i64_in _ (by omega)
            have hcl1 := cnt_le (weedB_day hwt n)
            have hcl2 := cut_le (L := L) (t := dayS (soilS L) n t) (r := x.toNat) (h := y)
            have HDYk := Lib.hid (HDY.out t hwt)
            obtain ⟨t1, ht1⟩ : ∃ t1, dayS (soilS L) n t = t1 := ⟨_, rfl⟩
            rw [ht1] at hcl1 hcl2 HDYk HKk
            obtain ⟨t2, ht2⟩ : ∃ t2, cutS L x.toNat y t1 = t2 := ⟨_, rfl⟩
            have HT2 := Lib.hid ht2
            rw [ht2] at hcl2 HKk
            obtain ⟨C1, hC1⟩ : ∃ C, cntR t1 10 = C := ⟨_, rfl⟩
            obtain ⟨C2, hC2⟩ : ∃ C, cntR t2 10 = C := ⟨_, rfl⟩
            have HC1 := Lib.hid hC1
            have HC2 := Lib.hid hC2
            rw [hC1] at hcl1 hcl2 HKk
            rw [hC2] at hcl2 HKk
            clear hz hz0 hz1 hwt ht1 ht2 hKk hC1 hC2
            go_wp2_with fail
            refine (HDYk.out u (u + 1) _ h0 h1).mono ?_
            rintro e W5 ⟨rfl, hb5⟩
            have n0 := h0.below hb5 h0.lt
            have n1 := h1.below hb5 h1.lt
            have n2 := h2.below hb5 h2.lt
            have HO1 := Lib.hid (own_below HOr.out hb5)
            have hb6 : Below u w W5 := hb.trans (hb5.mono (by have := h0.lt; omega))
            clear hb5 h0 h1 h2 HOr hb
            obtain ⟨r1, f1, -, z1, l1⟩ := n1.facts
            have i0 := n0.setRow_other (bV 10 t1) (show u ≠ u + 1 by omega)
            have i1 := n1.setRow (bV 10 t1)
            have i2 := n2.setRow_other (bV 10 t1) (show u + 2 ≠ u + 1 by omega)
            have hb7 : Below u w (W5.setRow (u + 1) (bV 10 t1)) := below_setRow' hb6 (by omega) _
            go_wp2_with fail
            obtain ⟨W6, hW6⟩ : ∃ W, W5.setRow (u + 1) (bV 10 t1) = W := ⟨_, rfl⟩
            rw [hW6] at i0 i1 i2 hb7 ⊢
            clear r1 f1 z1 l1 n0 n1 n2 hb6 hW6 HO1
            have HO2 := Lib.hid (own_below HOW.out (by rw [HU.out]; exact hb7 : Below w.heap.size w W6))
            have cc0 : ∀ w', Below W6.heap.size W6 w' → w'.cell? ⟨gd, i * 2, none⟩ = some (.int .i8 x) := fun w' hw => own_cell (own_below HO2.out hw) _ _ HZ0.out
            have cc1 : ∀ w', Below W6.heap.size W6 w' → w'.cell? ⟨gd, i * 2 + 1, none⟩ = some (.bool y) := fun w' hw => own_cell (own_below HO2.out hw) _ _ HZ1.out
            obtain ⟨l1, -⟩ := i1.later
            refine wp_region_growMS 14 13 [] (fun p w' => W6.heap.size ≤ p ∧ Holds w' p (bV 10 fun _ _ => false)) (fun p a b h hb => ⟨h.1, h.2.below hb h.2.lt⟩) (fun p => [.agg (bV 10 t1), .slice (some ⟨gd, 0, none⟩) k c0', .int .i64 i, .pointer (some ⟨gd, i * 2, none⟩), .pointer (some ⟨gd, i * 2, none⟩), .int .i8 x, .int .i64 x, .slice (some ⟨gd, 0, none⟩) k c0', .int .i64 i, .pointer (some ⟨gd, i * 2, none⟩), .pointer (some ⟨gd, i * 2 + 1, none⟩), .bool y, .agg (bV 10 t2), .pointer (some ⟨p, 0, none⟩)]) ?hv (by rfl) (by rfl) (by kernel_rfl) (by kernel_rfl) (by kernel_rfl) ?_
            case hv =>
              intro p p' j h1 h2
              match j with
              | 0 => rfl
              | 1 => rfl
              | 2 => rfl
              | 3 => rfl
              | 4 => rfl
              | 5 => rfl
              | 6 => rfl
              | 7 => rfl
              | 8 => rfl
              | 9 => rfl
              | 10 => rfl
              | 11 => rfl
              | 12 => rfl
              | 13 => exact absurd rfl h1
              | j + 14 => rfl
            intro p
            simp only [List.take_succ_cons, List.take_zero, List.drop_succ_cons, List.drop_zero]
            refine seqP_free rfl rfl rfl (v := .agg (bV 10 t1)) rfl ?_ ?_
            · intro w' hw' K hK
              go_wp2_with fail
              exact hK _ _ rfl (Below.refl _ _)
            simp only [Act.put, List.setIfInBounds_toArray, List.set_cons_succ, List.set_cons_zero]
            refine seqP_free rfl rfl rfl (v := .slice (some ⟨gd, 0, none⟩) k c0') rfl ?_ ?_
            · intro w' hw' K hK
              go_wp2_with fail
              exact hK _ _ rfl (Below.refl _ _)
            simp only [Act.put, List.setIfInBounds_toArray, List.set_cons_succ, List.set_cons_zero]
            refine seqP_free rfl rfl rfl (v := .int .i64 i) rfl ?_ ?_
            · intro w' hw' K hK
              go_wp2_with fail
              exact hK _ _ rfl (Below.refl _ _)
            simp only [Act.put, List.setIfInBounds_toArray, List.set_cons_succ, List.set_cons_zero]
            refine seqP_free rfl rfl rfl (v := .pointer (some ⟨gd, i * 2, none⟩)) rfl ?_ ?_
            · intro w' hw' K hK
              go_wp2_with fail
              exact hK _ _ rfl (Below.refl _ _)
            simp only [Act.put, List.setIfInBounds_toArray, List.set_cons_succ, List.set_cons_zero]
            refine seqP_free rfl rfl rfl (v := .pointer (some ⟨gd, i * 2, none⟩)) rfl ?_ ?_
            · intro w' hw' K hK
              go_wp2_with fail
              exact hK _ _ rfl (Below.refl _ _)
            simp only [Act.put, List.setIfInBounds_toArray, List.set_cons_succ, List.set_cons_zero]
            refine seqP_free rfl rfl rfl (v := .int .i8 x) rfl ?_ ?_
            · intro w' hw' K hK
              have e0 := cc0 _ hw'
              go_wp2_with fail
              exact hK _ _ rfl (Below.refl _ _)
            simp only [Act.put, List.setIfInBounds_toArray, List.set_cons_succ, List.set_cons_zero]
            refine seqP_free rfl rfl rfl (v := .int .i64 x) rfl ?_ ?_
            · intro w' hw' K hK
              go_wp2_with fail
              exact hK _ _ rfl (Below.refl _ _)
            simp only [Act.put, List.setIfInBounds_toArray, List.set_cons_succ, List.set_cons_zero]
            refine seqP_free rfl rfl rfl (v := .slice (some ⟨gd, 0, none⟩) k c0') rfl ?_ ?_
            · intro w' hw' K hK
              go_wp2_with fail
              exact hK _ _ rfl (Below.refl _ _)
            simp only [Act.put, List.setIfInBounds_toArray, List.set_cons_succ, List.set_cons_zero]
            refine seqP_free rfl rfl rfl (v := .int .i64 i) rfl ?_ ?_
            · intro w' hw' K hK
              go_wp2_with fail
              exact hK _ _ rfl (Below.refl _ _)
            simp only [Act.put, List.setIfInBounds_toArray, List.set_cons_succ, List.set_cons_zero]
            refine seqP_free rfl rfl rfl (v := .pointer (some ⟨gd, i * 2, none⟩)) rfl ?_ ?_
            · intro w' hw' K hK
              go_wp2_with fail
              exact hK _ _ rfl (Below.refl _ _)
            simp only [Act.put, List.setIfInBounds_toArray, List.set_cons_succ, List.set_cons_zero]
            refine seqP_free rfl rfl rfl (v := .pointer (some ⟨gd, i * 2 + 1, none⟩)) rfl ?_ ?_
            · intro w' hw' K hK
              go_wp2_with fail
              exact hK _ _ rfl (Below.refl _ _)
            simp only [Act.put, List.setIfInBounds_toArray, List.set_cons_succ, List.set_cons_zero]
            refine seqP_free rfl rfl rfl (v := .bool y) rfl ?_ ?_
            · intro w' hw' K hK
              have e0 := cc1 _ hw'
              go_wp2_with fail
              exact hK _ _ rfl (Below.refl _ _)
            simp only [Act.put, List.setIfInBounds_toArray, List.set_cons_succ, List.set_cons_zero]
            refine seqP_free rfl rfl rfl (v := .agg (bV 10 t2)) rfl ?_ ?_
            · intro w' hw' K hK
              go_wp2_with fail
              refine (HCTk.out t1 _ (i0.below hw' i0.lt)).mono ?_
              rintro e w5 ⟨rfl, hb5⟩
              rw [HT2.out]
              go_wp2_with fail
              exact hK _ _ rfl hb5
            simp only [Act.put, List.setIfInBounds_toArray, List.set_cons_succ, List.set_cons_zero]
            refine seqP_call rfl rfl (v := .pointer (some ⟨p, 0, none⟩)) rfl ?_ ?_
            · rintro w' hw' rfl K hK
              go_wp2_with fail
              exact hK _ _ rfl ((Below.refl _ _).alloc (Nat.le_refl _) _) ⟨hw'.size, Holds.new _ _ _⟩
            simp only [Act.put, List.setIfInBounds_toArray, List.set_cons_succ, List.set_cons_zero]
            refine seqP_nil ?_
            rintro W7 - hW7 ⟨hp, hP⟩
            have hpu : u + 3 ≤ p := by have := i2.lt; omega
            have m0 := i0.below hW7 i0.lt
            have m1 := i1.below hW7 i1.lt
            have m2 := i2.below hW7 i2.lt
            have hb8 : Below u w W7 := hb7.trans (hW7.mono (by have := i0.lt; omega))
            clear hW7 i0 i1 i2 hb7 cc0 cc1 l1 hp HO2 HZ0 HZ1
            obtain ⟨rp, fp, -, zp, lp⟩ := hP.facts
            have n0 := m0.setRow_other (bV 10 t2) (show u ≠ p by omega)
            have n1 := m1.setRow_other (bV 10 t2) (show u + 1 ≠ p by omega)
            have n2 := m2.setRow_other (bV 10 t2) (show u + 2 ≠ p by omega)
            have np := hP.setRow (bV 10 t2)
            have hb9 : Below u w (W7.setRow p (bV 10 t2)) := below_setRow' hb8 (by omega) _
            have hF6 : F ≤ 6000 := by omega
            have hsz : (W7.setRow p (bV 10 t2)).heap.size = W7.heap.size := by simp [World.setRow]
            go_wp2_with fail
            obtain ⟨W8, hW8⟩ : ∃ W, W7.setRow p (bV 10 t2) = W := ⟨_, rfl⟩
            rw [hW8] at n0 n1 n2 np hb9 hsz ⊢
            clear hW8 m0 m1 m2 hP hb8 rp fp zp lp
            intro W9 hW9
            have i0 := n0.below hW9 (by have := n0.lt; omega)
            have i1 := n1.below hW9 (by have := n1.lt; omega)
            have i2 := n2.below hW9 (by have := n2.lt; omega)
            have ip := np.below hW9 (by have := np.lt; omega)
            have hb10 : Below u w W9 := hb9.trans (hW9.mono (by have := n0.lt; omega))
            clear hW9 n0 n1 n2 np hb9 hsz
            obtain ⟨r1, f1, -, z1, l1⟩ := i1.facts
            obtain ⟨rp, fp, -, zp, lp⟩ := ip.facts
            have n0 := i0.setRow_other (bV 10 t2) (show u ≠ u + 1 by omega)
            have n1 := i1.setRow (bV 10 t2)
            have n2 := i2.setRow_other (bV 10 t2) (show u + 2 ≠ u + 1 by omega)
            have hb11 : Below u w (W9.setRow (u + 1) (bV 10 t2)) := below_setRow' hb10 (by omega) _
            go_wp2_with fail
            refine (l07Count_any t1 (u + 1) _ i1).mono ?_
            rintro e w5 ⟨rfl, hw5⟩
            rw [hw5, HC1.out]
            clear hw5
            go_wp2_with fail
            refine (l07Count_any t2 p _ ip).mono ?_
            rintro e w5 ⟨rfl, hw5⟩
            rw [hw5, HC2.out]
            clear hw5
            go_wp2_with fail
            go_roundw
            case rel => exact ⟨i + 1, by omega, by go_num, by rw [HKk.out], n0, by rw [HKk.out]; exact n1, n2, hb11⟩
            case measure => simp [intOf]; omega
          · obtain rfl : i = k := by omega
            have hd : decide ((i : Int) < (i : Int)) = false := by simp
            obtain ⟨r1, -, -, -, l1⟩ := h1.facts
            obtain ⟨r2, f2, -, z2, l2⟩ := h2.facts
            go_wp2_with fail
            exact bodyPost_ret (results_cell_tmp2_wd rfl wideWd _ rfl (h2.setRow (bV 10 (K i).1)) (by simp)) rfl ⟨by rw [HE0.out, HE1.out, HC0.out]; rfl, by rw [HU.out]; exact below_setRow' hb (by omega) _⟩
      · have hmn : ((m : Int) != 0) = true := by simp [hmz]
        have hme : ((m : Int) == 0) = false := by simp [hmz]
        have HCm := Lib.hid (show runC L s need rs = m by rw [← HM.out, ← HBB.out]; exact runC_bad (by rw [HBB.out, HM.out]; exact hmz))
        have HRz := Lib.hid (show runR L s need rs = fun _ _ => false by rw [HR.out, if_neg (by rw [HCm.out]; exact hmz)])
        have HFz := Lib.hid (show runF L s need rs = 0 by rw [HF.out, if_neg (by rw [HCm.out]; exact hmz)])
        clear hmz
        obtain ⟨r2, f2, -, z2, l2⟩ := j2.facts
        go_wp2_with fail
        exact bodyPost_ret (results_cell_tmp2_wd rfl wideWd _ rfl (j2.setRow (bV 10 fun _ _ => false)) (by simp)) rfl ⟨by rw [HRz.out, HFz.out, HCm.out]; rfl, by rw [HU.out]; exact below_setRow' hB3 (by omega) _⟩
end Go.Proofs.YtemjppchnhemjaaDoor
