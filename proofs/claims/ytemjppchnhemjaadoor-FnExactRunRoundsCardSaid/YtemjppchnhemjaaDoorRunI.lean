/- RunRounds, of the program. -/
import Derived.Test.YtemjppchnhemjaaDoorRunP
namespace Go.Proofs.YtemjppchnhemjaaDoor
open Go.RowKit
set_option linter.unusedVariables false
set_option linter.unusedSimpArgs false
attribute [local go_sem ↓] loadRow loadGrid loadLawn loadMirror storeRow storeGrid storeLawn allocRow allocGrid allocLawn buildZero buildSides loadWd storeWd allocWd buildZWd eqlWd neqWd

set_option maxRecDepth 100000 in
set_option maxHeartbeats 8000000 in
theorem implRun_any (L : Lawn) (hL : L.Fits) (s : Nat → Nat → Bool) (need : Int) (N : Nat) (rs : List (Int × Bool)) (hl : rs.length = N) (hN : N ≤ 1048576) (hr : ∀ r ∈ rs, -128 ≤ r.1 ∧ r.1 ≤ 127) (v : Value) (B : Nat) (w : World) (hown : w.ownsRow B 94 2 v N (rndV rs)) :
    Calls Tryd.prog 20 #[.agg L.cells, .agg (bV 10 s), .int .i64 need, v] w fun e w' => e = .returned (.tuple #[.agg (bV 10 (runR L s need rs)), .int .i64 (runF L s need rs), .int .i64 (runC L s need rs)]) ∧ Below w.heap.size w w' := by
  have HC := Lib.hid (checkWeeds_any L hL s [(need, 1, 4)] (by simp))
  have HCT := Lib.hid (show told (weedB L s) ([(need, (1 : Int), (4 : Int))].all limB) = told (weedB L s) (inB need 1 4) by simp only [List.all_cons, List.all_nil, Bool.and_true, limB])
  rw [HCT.out] at HC
  have HEA := Lib.hid (fun w h => each_any N v rs hl hN hr B w h)
  have HCR := Lib.hid (fun v B w h => checkRounds_own L hL rs N hl hN v B w h)
  have HR := Lib.hid (show runR L s need rs = if runC L s need rs = 0 then (runK L need.toNat s rs rs.length).1 else fun _ _ => false from rfl)
  have HF := Lib.hid (show runF L s need rs = if runC L s need rs = 0 then (runK L need.toNat s rs rs.length).2 else 0 from rfl)
  have HRC := Lib.hid (show runC L s need rs = if told (weedB L s) (inB need 1 4) = 0 then roundsC L rs else told (weedB L s) (inB need 1 4) from rfl)
  obtain ⟨a0, c0', hv⟩ := own_slice hown
  have HOW := Lib.hid hown
  have HL2 := Lib.hid hl
  obtain ⟨u, hu⟩ : ∃ u, w.heap.size = u := ⟨_, rfl⟩
  obtain ⟨W1, hW1⟩ : ∃ W1, ((w.alloc (.cells L.cells 31)).alloc (.cells (bV 10 s) 33)).alloc (.cells (bV 10 fun _ _ => false) 33) = W1 := ⟨_, rfl⟩
  have g0 : Holds W1 u L.cells := by rw [← hW1]; exact ((Holds.new' _ _ _ _ hu.symm).alloc _).alloc _
  have g1 : Holds W1 (u + 1) (bV 10 s) := by rw [← hW1]; exact (Holds.new' _ _ _ _ (by simp; omega)).alloc _
  have g2 : Holds W1 (u + 2) (bV 10 fun _ _ => false) := by rw [← hW1]; exact Holds.new' _ _ _ _ (by simp; omega)
  have hB1 : Below u w W1 := by rw [← hW1]; exact (((Below.refl u w).alloc (by omega) _).alloc (by simp; omega) _).alloc (by simp; omega) _
  have HU := Lib.hid hu
  have HL := Lib.hid hL
  clear hL hown hl hr
  subst hv
  go_enter Tryd.func20, Tryd.ntmps20
  go_wp2_with fail
  try simp only [hu, Nat.add_assoc, Nat.reduceAdd]
  try rw [hW1]
  clear hW1 hu
  obtain ⟨r0, -⟩ := g0.later
  obtain ⟨r1, -⟩ := g1.later
  refine wp_region_growMP 5 4 [] (fun p w' => Holds w' p (limV [(need, 1, 4)])) (fun p a b h hb => h.below hb h.lt)
    (fun p => [.agg L.cells, .agg (bV 10 s), .int .i64 need, .agg #[.int .i64 need, .int .i64 1, .int .i64 4], .slice (some ⟨p, 0, none⟩) 1 1]) ?hv (by kernel_rfl) (by decide) (by kernel_rfl) (by kernel_rfl) (by kernel_rfl) ?_
  case hv =>
    intro p p' j h1 h2
    match j with
    | 0 => rfl
    | 1 => rfl
    | 2 => rfl
    | 3 => rfl
    | 4 => exact absurd rfl h1
    | j + 5 => rfl
  intro p
  simp only [List.take_succ_cons, List.take_zero, List.drop_succ_cons, List.drop_zero]
  refine seqP_free rfl rfl rfl (v := .agg L.cells) rfl ?_ ?_
  · intro w' hw' K hK
    go_wp2_with fail
    exact hK _ _ rfl (Below.refl _ _)
  simp only [Act.put, List.setIfInBounds_toArray, List.set_cons_succ, List.set_cons_zero]
  refine seqP_free rfl rfl rfl (v := .agg (bV 10 s)) rfl ?_ ?_
  · intro w' hw' K hK
    go_wp2_with fail
    exact hK _ _ rfl (Below.refl _ _)
  simp only [Act.put, List.setIfInBounds_toArray, List.set_cons_succ, List.set_cons_zero]
  refine seqP_free rfl rfl rfl (v := .int .i64 need) rfl ?_ ?_
  · intro w' hw' K hK
    go_wp2_with fail
    exact hK _ _ rfl (Below.refl _ _)
  simp only [Act.put, List.setIfInBounds_toArray, List.set_cons_succ, List.set_cons_zero]
  refine seqP_free rfl rfl rfl (v := .agg #[.int .i64 need, .int .i64 1, .int .i64 4]) rfl ?_ ?_
  · intro w' hw' K hK
    go_wp2_with fail
    refine (needed_any need _).mono ?_
    rintro e w5 ⟨rfl, hb5⟩
    go_wp2_with fail
    exact hK _ _ rfl hb5
  simp only [Act.put, List.setIfInBounds_toArray, List.set_cons_succ, List.set_cons_zero]
  refine seqP_call rfl rfl (v := .slice (some ⟨p, 0, none⟩) 1 1) rfl ?_ ?_
  · rintro w' hw' rfl K hK
    go_wp2_with fail
    exact hK _ _ rfl ((Below.refl _ _).alloc (Nat.le_refl _) _) (Holds.new _ _ _)
  simp only [Act.put, List.setIfInBounds_toArray, List.set_cons_succ, List.set_cons_zero]
  intro W2 _ hW2 hp
  have j0 := g0.below hW2 g0.lt
  have j1 := g1.below hW2 g1.lt
  have j2 := g2.below hW2 g2.lt
  have hB2 : Below u w W2 := hB1.trans (hW2.mono (by have := g0.lt; omega))
  clear hW2 g0 g1 g2 hB1 r0 r1
  go_wp2_with fail
  refine (HC.out _ _ hp).mono ?_
  rintro e W3 ⟨⟨x, rfl, hx⟩, hb1⟩
  have hB3 : Below u w W3 := hB2.trans (hb1.mono (by have := j0.lt; omega))
  replace j0 := j0.below hb1 j0.lt
  replace j1 := j1.below hb1 j1.lt
  replace j2 := j2.below hb1 j2.lt
  clear hb1 hB2 hp HC HCT
  rcases hx with ⟨rfl, hc⟩ | ⟨hc, t, a, rfl, hr⟩
  · obtain ⟨hw, hnb⟩ := told_zero hc
    have hn := inB_true hnb
    obtain ⟨n, rfl⟩ : ∃ n : Nat, need = n := ⟨need.toNat, by omega⟩
    have hn1 : 1 ≤ n := by omega
    have hn4 : n ≤ 4 := by omega
    rw [if_pos hc] at HRC
    have HW := Lib.hid hw
    have HOW3 := Lib.hid (own_below HOW.out (by rw [HU.out]; exact hB3 : Below w.heap.size w W3))
    clear hc hw hn hnb HOW
    go_wp2_with fail
    refine (HEA.out _ HOW3.out).mono ?_
    rintro e W4 ⟨⟨vd, rfl, hod⟩, hb4⟩
    obtain ⟨B4, hB4⟩ : ∃ B4, W3.heap.size = B4 := ⟨_, rfl⟩
    rw [hB4] at hod
    have HOD := Lib.hid hod
    have i0 := j0.below hb4 j0.lt
    have i1 := j1.below hb4 j1.lt
    have i2 := j2.below hb4 j2.lt
    have hBB : u + 3 ≤ B4 := by have := j2.lt; omega
    have hB5 : Below u w W4 := hB3.trans (hb4.mono (by have := j0.lt; omega))
    clear hb4 j0 j1 j2 hB3 HOW3 HEA hod hB4
    obtain ⟨r0, -, -, -, l0⟩ := i0.facts
    go_wp2_with fail
    refine (HCR.out _ _ _ HOD.out).mono ?_
    rintro e W5 ⟨⟨x, rfl, hx⟩, hb5⟩
    have k0 := i0.below hb5 i0.lt
    have k1 := i1.below hb5 i1.lt
    have k2 := i2.below hb5 i2.lt
    have HOD5 := Lib.hid (own_below HOD.out hb5)
    have hB6 : Below u w W5 := hB5.trans (hb5.mono (by have := i0.lt; omega))
    clear hb5 i0 i1 i2 hB5 r0 l0 HOD HCR
    rcases hx with ⟨rfl, hc⟩ | ⟨hc, t, a, rfl, hr⟩
    · obtain ⟨hrb, hN60⟩ := roundsC_zero hc
      have hC0 : runC L s n rs = 0 := by rw [HRC.out]; exact hc
      have HE0 := Lib.hid (show runR L s n rs = (runK L n s rs N).1 by rw [HR.out, if_pos hC0, HL2.out]; simp)
      have HE1 := Lib.hid (show runF L s n rs = (runK L n s rs N).2 by rw [HF.out, if_pos hC0, HL2.out]; simp)
      have HCC := Lib.hid hC0
      rw [HL2.out] at hN60
      have HSO := Lib.hid (spreadingOn_any L (weedB_true HW.out).1 HL.out n)
      have HLA := Lib.hid (fun s a b w ha hb => later_any (soilS L) n hn1 hn4 s a b w ha hb)
      have HTK := Lib.hid (fun (k : Nat) (r : Int × Bool) (h : rs[k]? = some r) w => show Calls Tryd.prog 56 #[.agg #[.int .i64 r.1, .bool r.2], .agg L.cells] w fun e w' => e = .returned (.agg (bV 10 (takeS L r.1.toNat r.2))) ∧ Below w.heap.size w w' from by
        have h1 := rowsB_get hrb h
        have := taken_any L (weedB_true HW.out).1 HL.out r.1.toNat (by omega) r.2 w
        rwa [show ((r.1.toNat : Nat) : Int) = r.1 by omega] at this)
      have hE : ∀ args w, (callFunc 71 args).run Tryd.prog w = .ok (.enter 71 args) w := fun args w => by kernel_rfl
      obtain ⟨r0, -, -, -, l0⟩ := k0.facts
      obtain ⟨ad, cd, rfl⟩ := own_slice HOD5.out
      clear hc hrb hC0 HR HF HRC
      go_wp2_with fail
      refine (HSO.out _).mono ?_
      rintro e W6 ⟨⟨f, rfl, q, hq, rfl, qa, qb⟩, hb6⟩
      have i0 := k0.below hb6 k0.lt
      have i1 := k1.below hb6 k1.lt
      have i2 := k2.below hb6 k2.lt
      have HOD6 := Lib.hid (own_below HOD5.out hb6)
      have hB7 : Below u w W6 := hB6.trans (hb6.mono (by have := k0.lt; omega))
      have hqu : u + 3 ≤ q := by have := k2.lt; omega
      clear hb6 k0 k1 k2 hB6 r0 l0 hq HSO HOD5
      go_wp2_with fail
      have HKW := Lib.hid (fun k => runK_weed (L := L) (n := n) (s := s) (rs := rs) HW.out k)
      have HKB := Lib.hid (fun k => runK_bound (L := L) (n := n) (s := s) (rs := rs) HW.out k)
      have HKS := Lib.hid (fun k r h => runK_succ (L := L) (n := n) (s := s) (rs := rs) (k := k) (r := r) h)
      obtain ⟨K, hK⟩ : ∃ K, runK L n s rs = K := ⟨_, rfl⟩
      rw [hK] at HE0 HE1 HKW HKB HKS
      have HK0 := Lib.hid (show K 0 = (s, 0) by rw [← hK]; rfl)
      clear hK
      go_loopw [15, 17, 18, 45] (fun fr _ _ x wr => ∃ k : Nat, k ≤ N ∧ x = .int .i64 k ∧ fr = .int .i64 (K k).2 ∧ wr.ownsRow B4 102 2 (.slice ad N cd) N (dayV rs) ∧ Holds wr u L.cells ∧ Holds wr (u + 1) (bV 10 (K k).1) ∧ Holds wr (u + 2) (bV 10 fun _ _ => false) ∧ Holds wr q (bV 10 (soilS L)) ∧ Holds wr (q + 1) #[.int .i64 n] ∧ Below u w wr) (fun _ _ _ x _ => N - (intOf x).toNat)
      case atStart => exact ⟨0, by omega, rfl, by rw [HK0.out], HOD6.out, i0, by rw [HK0.out]; exact i1, i2, qa, qb, hB7⟩
      case round =>
        obtain ⟨k, hk, rfl, rfl, ho, h0, h1, h2, ha, hbn, hb⟩ := hrel
        have HO := Lib.hid ho
        have hkb := HKB.out k
        clear ho i0 i1 i2 qa qb hB7
        by_cases hlt : k < N
        · have hd : decide ((k : Int) < (N : Int)) = true := by simp; omega
          obtain ⟨⟨x, y⟩, hz⟩ : ∃ r, rs[k]? = some r := ⟨_, List.getElem?_eq_getElem (by rw [HL2.out]; omega)⟩
          obtain ⟨hz0, hz1⟩ := dayV_get rs k _ hz
          have HKk := Lib.hid (HKS.out k _ hz)
          have HTKk := Lib.hid (HTK.out k _ hz)
          obtain ⟨t, F, hKk⟩ : ∃ t F, K k = (t, F) := ⟨_, _, rfl⟩
          rw [hKk] at h1 hkb HKk ⊢
          obtain ⟨gd, capd, he, -, -⟩ := own_form HO.out (by omega)
          simp only [Value.slice.injEq, true_and] at he
          obtain ⟨rfl, rfl⟩ := he
          have c0 := own_cell HO.out _ _ hz0
          have c1 := own_cell HO.out _ _ hz1
          have hwt : weedB L t = true := by have := HKW.out k; rwa [hKk] at this
          have hcl1 := cnt_le (weedB_day hwt n)
          have hcl2 := cut_le (L := L) (t := dayS (soilS L) n t) (r := x.toNat) (h := y)
          obtain ⟨t1, ht1⟩ : ∃ t1, dayS (soilS L) n t = t1 := ⟨_, rfl⟩
          have HLAk := Lib.hid (HLA.out t)
          dsimp only at hz0 hz1 c0 c1 h1 hkb HKk HTKk
          rw [ht1] at hcl1 hcl2 HLAk HKk
          obtain ⟨t2, ht2⟩ : ∃ t2, cutS L x.toNat y t1 = t2 := ⟨_, rfl⟩
          have HT2 := Lib.hid (show (fun v u => t1 v u && !takeS L x.toNat y v u) = t2 from ht2)
          rw [ht2] at hcl2 HKk
          obtain ⟨C1, hC1⟩ : ∃ C, cntR t1 10 = C := ⟨_, rfl⟩
          obtain ⟨C2, hC2⟩ : ∃ C, cntR t2 10 = C := ⟨_, rfl⟩
          have HC1 := Lib.hid hC1
          have HC2 := Lib.hid hC2
          rw [hC1] at hcl1 hcl2 HKk
          rw [hC2] at hcl2 HKk
          clear hz hz0 hz1 hwt ht1 ht2 hKk hC1 hC2
          obtain ⟨z, hzz⟩ : ∃ z, wr.heap.size = z := ⟨_, rfl⟩
          have hzu : u + 3 ≤ z := by have := h2.lt; omega
          have hzq : q + 2 ≤ z := by have := hbn.lt; omega
          have m0 := h0.alloc (.cells #[.int .i64 x, .bool y] 102)
          have m1 := h1.alloc (.cells #[.int .i64 x, .bool y] 102)
          have m2 := h2.alloc (.cells #[.int .i64 x, .bool y] 102)
          have ma := ha.alloc (.cells #[.int .i64 x, .bool y] 102)
          have mb := hbn.alloc (.cells #[.int .i64 x, .bool y] 102)
          have mp := Holds.new' wr #[.int .i64 x, .bool y] 102 z hzz.symm
          have HO1 := Lib.hid (HO.out.alloc (.cells #[.int .i64 x, .bool y] 102))
          have hb1 : Below u w (wr.alloc (.cells #[.int .i64 x, .bool y] 102)) := hb.alloc (by omega) _
          obtain ⟨W7, hW7⟩ : ∃ W, wr.alloc (.cells #[.int .i64 x, .bool y] 102) = W := ⟨_, rfl⟩
          rw [hW7] at m0 m1 m2 ma mb mp HO1 hb1
          obtain ⟨r1, -, -, -, l1⟩ := m1.facts
          go_wp2_with fail
          try simp only [hzz]
          try rw [hW7]
          clear hW7 hzz h0 h1 h2 ha hbn hb HO c0 c1
          refine (HLAk.out q (q + 1) _ ma mb).mono ?_
          rintro e W8 ⟨rfl, hb8⟩
          have n0 := m0.below hb8 m0.lt
          have n1 := m1.below hb8 m1.lt
          have n2 := m2.below hb8 m2.lt
          have na := ma.below hb8 ma.lt
          have nb := mb.below hb8 mb.lt
          have np := mp.below hb8 mp.lt
          have HO2 := Lib.hid (own_below HO1.out hb8)
          have hb9 : Below u w W8 := hb1.trans (hb8.mono (by have := m0.lt; omega))
          clear hb8 m0 m1 m2 ma mb mp HO1 hb1 r1 l1
          obtain ⟨y8, hy8⟩ : ∃ z, W8.heap.size = z := ⟨_, rfl⟩
          have hyz : z < y8 := by have := np.lt; omega
          have m0 := n0.alloc (.cells (bV 10 t1) 33)
          have m1 := n1.alloc (.cells (bV 10 t1) 33)
          have m2 := n2.alloc (.cells (bV 10 t1) 33)
          have ma := na.alloc (.cells (bV 10 t1) 33)
          have mb := nb.alloc (.cells (bV 10 t1) 33)
          have mp := np.alloc (.cells (bV 10 t1) 33)
          have mg := Holds.new' W8 (bV 10 t1) 33 y8 hy8.symm
          have HO3 := Lib.hid (HO2.out.alloc (.cells (bV 10 t1) 33))
          have hb10 : Below u w (W8.alloc (.cells (bV 10 t1) 33)) := hb9.alloc (by have := n0.lt; omega) _
          obtain ⟨W9, hW9⟩ : ∃ W, W8.alloc (.cells (bV 10 t1) 33) = W := ⟨_, rfl⟩
          rw [hW9] at m0 m1 m2 ma mb mp mg HO3 hb10
          go_wp2_with fail
          try simp only [hy8]
          try rw [hW9]
          clear hW9 hy8 n0 n1 n2 na nb np HO2 hb9
          obtain ⟨c0, -⟩ := m0.later
          obtain ⟨cg, -⟩ := mg.later
          obtain ⟨-, cp⟩ := mp.later
          have cp0 : ∀ w', Below W9.heap.size W9 w' → w'.cell? ⟨z, 0, none⟩ = some (.int .i64 x) := fun w' hw => (cp w' hw 0).trans rfl
          have cp1 : ∀ w', Below W9.heap.size W9 w' → w'.cell? ⟨z, 1, none⟩ = some (.bool y) := fun w' hw => (cp w' hw 1).trans rfl
          clear cp
          refine wp_region_grow 5 (by kernel_rfl) (by kernel_rfl) ?_
          simp only [List.take_succ_cons, List.take_zero, List.drop_succ_cons, List.drop_zero]
          apply wpGrow_plain rfl (v := .agg (bV 10 t1))
          · intro w' hw' K hK
            go_wp2_with fail
            exact hK _ _ rfl hw'
          simp only [Act.put, List.setIfInBounds_toArray, List.set_cons_succ, List.set_cons_zero]
          apply wpGrow_plain rfl (v := .agg #[.int .i64 x, .bool y])
          · intro w' hw' K hK
            have e0 := cp0 _ hw'
            have e1 := cp1 _ hw'
            go_wp2_with fail
            exact hK _ _ rfl hw'
          simp only [Act.put, List.setIfInBounds_toArray, List.set_cons_succ, List.set_cons_zero]
          apply wpGrow_plain rfl (v := .agg L.cells)
          · intro w' hw' K hK
            go_wp2_with fail
            exact hK _ _ rfl hw'
          simp only [Act.put, List.setIfInBounds_toArray, List.set_cons_succ, List.set_cons_zero]
          apply wpGrow_plain rfl (v := .agg (bV 10 (takeS L x.toNat y)))
          · intro w' hw' K hK
            go_wp2_with fail
            refine (HTKk.out _).mono ?_
            rintro e w5 ⟨rfl, hb5⟩
            go_wp2_with fail
            exact hK _ _ rfl (below_onto hw' hb5)
          simp only [Act.put, List.setIfInBounds_toArray, List.set_cons_succ, List.set_cons_zero]
          apply wpGrow_plain rfl (v := .agg (bV 10 t2))
          · intro w' hw' K hK
            go_wp2_with fail
            refine (wdWithout_any _ _ _).mono ?_
            rintro e w5 ⟨rfl, hb5⟩
            rw [HT2.out]
            go_wp2_with fail
            exact hK _ _ rfl (below_onto hw' hb5)
          simp only [Act.put, List.setIfInBounds_toArray, List.set_cons_succ, List.set_cons_zero]
          refine wpGrow_nil ?_
          intro W10 hW10
          have n0 := m0.below hW10 m0.lt
          have n1 := m1.below hW10 m1.lt
          have n2 := m2.below hW10 m2.lt
          have na := ma.below hW10 ma.lt
          have nb := mb.below hW10 mb.lt
          have ng := mg.below hW10 mg.lt
          have HO4 := Lib.hid (own_below HO3.out hW10)
          have hb11 : Below u w W10 := hb10.trans (hW10.mono (by have := m0.lt; omega))
          clear hW10 m0 m1 m2 ma mb mp mg HO3 hb10 c0 cg cp0 cp1
          obtain ⟨r1, f1, -, z1, l1⟩ := n1.facts
          have m0 := n0.setRow_other (bV 10 t2) (show u ≠ u + 1 by omega)
          have m1 := n1.setRow (bV 10 t2)
          have m2 := n2.setRow_other (bV 10 t2) (show u + 2 ≠ u + 1 by omega)
          have ma := na.setRow_other (bV 10 t2) (show q ≠ u + 1 by omega)
          have mb := nb.setRow_other (bV 10 t2) (show q + 1 ≠ u + 1 by omega)
          have mg := ng.setRow_other (bV 10 t2) (show y8 ≠ u + 1 by omega)
          have HO5 := Lib.hid (own_setRow_low (g := u + 1) HO4.out (bV 10 t2) (by omega))
          have hb12 : Below u w (W10.setRow (u + 1) (bV 10 t2)) := below_setRow' hb11 (by omega) _
          go_wp2_with fail
          clear r1 f1 z1 l1 n0 n1 n2 na nb ng HO4 hb11
          obtain ⟨W11, hW11⟩ : ∃ W, W10.setRow (u + 1) (bV 10 t2) = W := ⟨_, rfl⟩
          rw [hW11] at m0 m1 m2 ma mb mg HO5 hb12 ⊢
          clear hW11
          obtain ⟨cg, -⟩ := mg.later
          obtain ⟨cw, -⟩ := m1.later
          have hF6 : F ≤ 6000 := by omega
          refine wp_region_grow 7 (by kernel_rfl) (by kernel_rfl) ?_
          simp only [List.take_succ_cons, List.take_zero, List.drop_succ_cons, List.drop_zero]
          apply wpGrow_plain rfl (v := .int .i64 F)
          · intro w' hw' K hK
            go_wp2_with fail
            exact hK _ _ rfl hw'
          simp only [Act.put, List.setIfInBounds_toArray, List.set_cons_succ, List.set_cons_zero]
          apply wpGrow_plain rfl (v := .agg (bV 10 t1))
          · intro w' hw' K hK
            go_wp2_with fail
            exact hK _ _ rfl hw'
          simp only [Act.put, List.setIfInBounds_toArray, List.set_cons_succ, List.set_cons_zero]
          apply wpGrow_plain rfl (v := .int .i64 (C1 : Int))
          · intro w' hw' K hK
            go_wp2_with fail
            refine (wdCount_any _ _).mono ?_
            rintro e w5 ⟨rfl, hb5⟩
            rw [HC1.out]
            go_wp2_with fail
            exact hK _ _ rfl (below_onto hw' hb5)
          simp only [Act.put, List.setIfInBounds_toArray, List.set_cons_succ, List.set_cons_zero]
          apply wpGrow_plain rfl (v := .agg (bV 10 t2))
          · intro w' hw' K hK
            go_wp2_with fail
            exact hK _ _ rfl hw'
          simp only [Act.put, List.setIfInBounds_toArray, List.set_cons_succ, List.set_cons_zero]
          apply wpGrow_plain rfl (v := .int .i64 (C2 : Int))
          · intro w' hw' K hK
            go_wp2_with fail
            refine (wdCount_any _ _).mono ?_
            rintro e w5 ⟨rfl, hb5⟩
            rw [HC2.out]
            go_wp2_with fail
            exact hK _ _ rfl (below_onto hw' hb5)
          simp only [Act.put, List.setIfInBounds_toArray, List.set_cons_succ, List.set_cons_zero]
          apply wpGrow_plain rfl (v := .int .i64 ((C1 : Int) - C2))
          · intro w' hw' K hK
            go_wp2_with fail
            exact hK _ _ rfl hw'
          simp only [Act.put, List.setIfInBounds_toArray, List.set_cons_succ, List.set_cons_zero]
          apply wpGrow_plain rfl (v := .int .i64 (F + ((C1 : Int) - C2)))
          · intro w' hw' K hK
            go_wp2_with fail
            exact hK _ _ rfl hw'
          simp only [Act.put, List.setIfInBounds_toArray, List.set_cons_succ, List.set_cons_zero]
          refine wpGrow_nil ?_
          intro W12 hW12
          have n0 := m0.below hW12 m0.lt
          have n1 := m1.below hW12 m1.lt
          have n2 := m2.below hW12 m2.lt
          have na := ma.below hW12 ma.lt
          have nb := mb.below hW12 mb.lt
          have HO6 := Lib.hid (own_below HO5.out hW12)
          have hb13 : Below u w W12 := hb12.trans (hW12.mono (by have := m0.lt; omega))
          clear hW12 m0 m1 m2 ma mb mg HO5 hb12 cg cw
          go_wp2_with fail
          go_roundw
          case rel => exact ⟨k + 1, by omega, by go_num, by rw [HKk.out], HO6.out, n0, by rw [HKk.out]; exact n1, n2, na, nb, hb13⟩
          case measure => simp [intOf]; omega
        · obtain rfl : k = N := by omega
          have hd : decide ((k : Int) < (k : Int)) = false := by simp
          obtain ⟨r1, -, -, -, l1⟩ := h1.facts
          obtain ⟨r2, f2, -, z2, l2⟩ := h2.facts
          go_wp2_with fail
          exact bodyPost_ret (results_cell_tmp2_wd rfl wideWd _ rfl (h2.setRow (bV 10 (K k).1)) (by simp)) rfl ⟨by rw [HE0.out, HE1.out, HCC.out]; rfl, by rw [HU.out]; exact below_setRow' hb (by omega) _⟩
    · have HX := Lib.hid hr
      have HCC := Lib.hid (show runC L s n rs = roundsC L rs from HRC.out)
      have HE0 := Lib.hid (show runR L s n rs = fun _ _ => false by rw [HR.out, if_neg (by rw [HRC.out]; exact hc)])
      have HE1 := Lib.hid (show runF L s n rs = 0 by rw [HF.out, if_neg (by rw [HRC.out]; exact hc)])
      clear hc hr
      go_wp2_with fail
      refine (HX.out _).mono ?_
      rintro e w2 ⟨rfl, hb3⟩
      have i2 := k2.below hb3 k2.lt
      have hB7 : Below u w w2 := hB6.trans (hb3.mono (by have := k0.lt; omega))
      clear hb3 k0 k1 k2 hB6
      obtain ⟨r2, f2, -, z2, l2⟩ := i2.facts
      go_wp2_with fail
      exact bodyPost_ret (results_cell_tmp2_wd rfl wideWd _ rfl (i2.setRow (bV 10 fun _ _ => false)) (by simp)) rfl ⟨by rw [HE0.out, HE1.out, HCC.out]; rfl, by rw [HU.out]; exact below_setRow' hB7 (by omega) _⟩
  · have HX := Lib.hid hr
    have hcn : runC L s need rs = told (weedB L s) (inB need 1 4) := by rw [HRC.out, if_neg hc]
    have HCC := Lib.hid hcn
    have HE0 := Lib.hid (show runR L s need rs = fun _ _ => false by rw [HR.out, if_neg (by rw [hcn]; exact hc)])
    have HE1 := Lib.hid (show runF L s need rs = 0 by rw [HF.out, if_neg (by rw [hcn]; exact hc)])
    clear hc hr hcn HRC HR HF
    go_wp2_with fail
    refine (HX.out _).mono ?_
    rintro e w2 ⟨rfl, hb3⟩
    have i2 := j2.below hb3 j2.lt
    have hB7 : Below u w w2 := hB3.trans (hb3.mono (by have := j0.lt; omega))
    clear hb3 j0 j1 j2 hB3
    obtain ⟨r2, f2, -, z2, l2⟩ := i2.facts
    go_wp2_with fail
    exact bodyPost_ret (results_cell_tmp2_wd rfl wideWd _ rfl (i2.setRow (bV 10 fun _ _ => false)) (by simp)) rfl ⟨by rw [HE0.out, HE1.out, HCC.out]; rfl, by rw [HU.out]; exact below_setRow' hB7 (by omega) _⟩
end Go.Proofs.YtemjppchnhemjaaDoor
