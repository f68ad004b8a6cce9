/- ReadWeeds, of the model. -/
import Derived.Test.YtojccgaldadcnaaSplit
namespace Go.Proofs.Ytojccgaldadcnaa
open Go.RowKit Go.Shelf
set_option linter.unusedVariables false
set_option linter.unusedSimpArgs false
attribute [local go_sem ↓] loadRow loadGrid loadLawn loadMirror storeRow storeGrid storeLawn allocRow allocGrid allocLawn buildZero buildSides loadWd storeWd allocWd buildZWd eqlWd

/-- What has been read of a grid, ahead of a place. -/
def upTo2 (G : Nat → Nat → Bool) (k j : Nat) : Nat → Nat → Bool := fun y x => (decide (y < k) || (decide (y = k) && decide (x < j))) && G y x
theorem upTo2_zero (G : Nat → Nat → Bool) : bV 10 (upTo2 G 0 0) = bV 10 fun _ _ => false := bV_ext fun y x _ _ => by simp [upTo2]
theorem upTo2_hit {G : Nat → Nat → Bool} {k j : Nat} (h : G k j = true) : bV 10 (withB (upTo2 G k j) k j) = bV 10 (upTo2 G k (j + 1)) := bV_ext fun y x _ _ => by
  unfold withB upTo2
  by_cases hy : y = k
  · subst hy
    by_cases hx : x = j
    · subst hx; simp [h]
    · have : (x < j + 1) = (x < j) := by simp; omega
      simp [hx, this]
  · simp [hy]
theorem upTo2_miss {G : Nat → Nat → Bool} {k j : Nat} (h : G k j = false) : bV 10 (upTo2 G k (j + 1)) = bV 10 (upTo2 G k j) := bV_ext fun y x _ _ => by
  unfold upTo2
  by_cases hy : y = k
  · subst hy
    by_cases hx : x = j
    · subst hx; simp [h]
    · have : (x < j + 1) = (x < j) := by simp; omega
      simp [this]
  · simp [hy]
theorem upTo2_row {G : Nat → Nat → Bool} {k W : Nat} (h : ∀ x, G k x = true → x < W) : bV 10 (upTo2 G k W) = bV 10 (upTo2 G (k + 1) 0) := bV_ext fun y x _ _ => by
  unfold upTo2
  by_cases hy : y = k
  · subst hy
    cases hg : G y x with
    | false => simp
    | true => simp [h x hg]
  · have : (y < k + 1) = (y < k) := by simp; omega
    simp [hy, this]
theorem upTo2_all {G : Nat → Nat → Bool} {H : Nat} (h : ∀ y x, G y x = true → y < H) : bV 10 (upTo2 G H 0) = bV 10 G := bV_ext fun y x _ _ => by
  unfold upTo2
  cases hg : G y x with
  | false => simp
  | true => simp [h y x hg]
def RowOk2 (W : Nat) (ls : List (List UInt8)) (y : Nat) : Prop := ∃ r, ls[y]? = some r ∧ r.length = W ∧ ∀ x, x < W → r[x]? = some 119 ∨ r[x]? = some 46

set_option maxRecDepth 100000 in
set_option maxHeartbeats 4000000 in
theorem specRead_good (L : Lawn) (hL : L.Fits) (hV : validB L = true) (s : ByteArray) (hs : s.size ≤ 1048576) (w : World) :
    Calls Try.prog 15 #[.agg L.cells, .string s] w fun e w' => e = .returned (.tuple #[.agg (bV 10 (readR L s)), .int .i64 (readC L s)]) ∧ Below w.heap.size w w' := by
  obtain ⟨v1, v2, -⟩ := validB_true hV
  obtain ⟨W, hW⟩ : ∃ W : Nat, L.wide = (W : Int) := ⟨L.wide.toNat, by omega⟩
  obtain ⟨H, hH⟩ : ∃ H : Nat, L.high = (H : Int) := ⟨L.high.toNat, by omega⟩
  have hWn : L.wide.toNat = W := by omega
  have hHn : L.high.toNat = H := by omega
  have hW10 : W ≤ 10 := by omega
  have hH10 : H ≤ 10 := by omega
  have HGOOD := Lib.hid (fun h => readC_good (L := L) (s := s) hV h)
  have HBAD := Lib.hid (fun h => show readC L s = 5 ∧ readR L s = fun _ _ => false from by
    have h1 := readC_bad (L := L) (s := s) hV h
    exact ⟨h1, by unfold readR; rw [if_neg (by rw [h1]; decide)]⟩)
  rw [hWn, hHn] at HGOOD HBAD
  have HSP := Lib.hid (fun w => split_any s hs 10 w)
  have hne := splitS_ne 10 s.data.toList
  have hlen : (splitS 10 s.data.toList).length ≤ 1048577 := by
    obtain ⟨segs, b, h⟩ : ∃ segs b, CutTo 10 s.data.toList s.data.toList.length segs b := by
      have key : ∀ i, i ≤ s.data.toList.length → ∃ segs b, CutTo 10 s.data.toList i segs b := by
        intro i
        induction i with
        | zero => exact fun _ => ⟨[], 0, cutTo_zero _ _⟩
        | succ i ih =>
          intro hi
          obtain ⟨segs, b, h⟩ := ih (by omega)
          obtain ⟨a, ha⟩ : ∃ a, s.data.toList[i]? = some a := ⟨_, List.getElem?_eq_getElem (by omega)⟩
          by_cases e : a = 10
          · subst e; exact ⟨_, _, cutTo_hit h ha⟩
          · exact ⟨_, _, cutTo_miss h ha e⟩
      exact key _ (Nat.le_refl _)
    have h1 := cutTo_end h (Nat.le_refl _)
    have h2 := h.2.1
    have h3 : s.data.toList.length = s.size := by rw [Array.length_toList]; rfl
    rw [h1]
    simp only [List.length_append, List.length_singleton]
    omega
  obtain ⟨ls, hls⟩ : ∃ ls, splitS 10 s.data.toList = ls := ⟨_, rfl⟩
  rw [hls] at HGOOD HBAD HSP hne hlen
  obtain ⟨m, hm⟩ : ∃ m, ls.length = m + 1 := ⟨ls.length - 1, by have := List.length_pos_iff.2 hne; omega⟩
  have HM := Lib.hid hm
  rw [hm] at hlen HSP
  obtain ⟨G, hG⟩ : ∃ G, lsG W H ls = G := ⟨_, rfl⟩
  have HGin := Lib.hid (show ∀ y x, G y x = true → x < W ∧ y < H from fun y x h => by
    rw [← hG] at h
    simp only [lsG, Bool.and_eq_true, decide_eq_true_eq] at h
    exact ⟨h.1, h.2.1⟩)
  have HGv := Lib.hid (show ∀ y x r a, y < H → x < W → ls[y]? = some r → r[x]? = some a → G y x = (a == 119) from fun y x r a hy hx hr ha => by
    rw [← hG]; simp [lsG, hx, hy, hr, ha])
  rw [hG] at HGOOD
  have HOKW := Lib.hid (fun (b c : Nat) (w' : World) h h' => l07Ok_any L hL G b c w' h h')
  have HLO := Lib.hid (fun (h1 : m = H) (h2 : ls[m]? = some []) (h3 : ∀ y, y < H → RowOk2 W ls y) (h4 : weedB L G = true) => show LinesOk L W H ls from ⟨by rw [HM.out, h1], by rw [← h1]; exact h2, h3, by rw [hG]; exact h4⟩)
  have HLW := Lib.hid (show LinesOk L W H ls → weedB L G = true from fun h => by rw [← hG]; exact h.weed)
  have HO := Lib.hid (fun w' h => l01Ok_any L hL w.heap.size w' h)
  rw [hV] at HO
  have HF := Lib.hid (show ∀ w' : World, Holds w' w.heap.size L.cells → w'.cell? ⟨w.heap.size, 0, none⟩ = some (.int .i8 (W : Int)) ∧ w'.cell? ⟨w.heap.size, 1, none⟩ = some (.int .i8 (H : Int)) from fun w' g => ⟨by rw [g.cell, Lawn.cells_0, hW], by rw [g.cell, Lawn.cells_1, hH]⟩)
  clear hls hG hm hL hV hW hH hWn hHn v1 v2 hne hs
  obtain ⟨u, hu⟩ : ∃ u, w.heap.size = u := ⟨_, rfl⟩
  obtain ⟨W1, hW1⟩ : ∃ W1, (w.alloc (.cells L.cells 30)).alloc (.cells (bV 10 fun _ _ => false) 32) = W1 := ⟨_, rfl⟩
  have g0 : Holds W1 u L.cells := by rw [← hW1]; exact (Holds.new' _ _ _ _ hu.symm).alloc _
  have g1 : Holds W1 (u + 1) (bV 10 fun _ _ => false) := by rw [← hW1]; exact Holds.new' _ _ _ _ (by simp; omega)
  have hB1 : Below u w W1 := by rw [← hW1]; exact ((Below.refl u w).alloc (by omega) _).alloc (by simp; omega) _
  have HU := Lib.hid hu
  rw [hu] at HO HF
  go_enter Try.func15, Try.ntmps15
  go_wp2_with fail
  try simp only [hu, Nat.add_assoc, Nat.reduceAdd]
  try rw [hW1]
  clear hW1 hu
  refine (HO.out _ g0).mono ?_
  rintro e W2 ⟨rfl, hb2⟩
  have j0 := g0.below hb2 g0.lt
  have j1 := g1.below hb2 g1.lt
  have hB2 : Below u w W2 := hB1.trans (hb2.mono (by have := g0.lt; omega))
  clear hb2 g0 g1 hB1 HO
  go_wp2_with fail
  refine (HSP.out _).mono ?_
  rintro e W3 ⟨⟨v, rfl, ho⟩, hb3⟩
  have k0 := j0.below hb3 j0.lt
  have k1 := j1.below hb3 j1.lt
  have hB3 : Below u w W3 := hB2.trans (hb3.mono (by have := j0.lt; omega))
  obtain ⟨B, hBB⟩ : ∃ B, W2.heap.size = B := ⟨_, rfl⟩
  have hBu : u + 2 ≤ B := by have := j1.lt; omega
  rw [hBB] at ho
  obtain ⟨g, cap, rfl, hg0, hg1⟩ := own_form ho (by omega)
  have HOW := Lib.hid ho
  have HCE := Lib.hid (fun (w' : World) (h : Below W3.heap.size W3 w') (y : Nat) (r : List UInt8) (hr : ls[y]? = some r) => own_cell (own_below HOW.out h) y _ (strV_get hr))
  clear hb3 j0 j1 hB2 hBB ho HSP
  obtain ⟨l, hl⟩ : ∃ l, ls[m]? = some l := ⟨_, List.getElem?_eq_getElem (by rw [HM.out]; omega)⟩
  have cl := HCE.out W3 (Below.refl _ _) m l hl
  obtain ⟨-, ch⟩ := HF.out _ k0
  have eH : IntKind.i64.wrap (H : Int) = H := IntWalk.i64_in _ (by omega)
  have em : wrap64 (((m + 1 : Nat) : Int) - 1) = (m : Int) := by rw [show ((m + 1 : Nat) : Int) - 1 = (m : Int) by omega]; exact IntWalk.wrap64_in _ (by omega)
  have hm0 : (0 : Int) ≤ m := by omega
  have hm1 : (m : Int) < ((m + 1 : Nat) : Int) := by omega
  by_cases hln : l = []
  · subst hln
    have hq : ((⟨([] : List UInt8).toArray⟩ : ByteArray).toList == (⟨#[]⟩ : ByteArray).toList) = true := beq_self_eq_true _
    have HL0 := Lib.hid hl
    clear hl
    by_cases hmH : m = H
    · subst hmH
      go_wp2_with fail
      obtain ⟨p, hp⟩ : ∃ p, W3.heap.size = p := ⟨_, rfl⟩
      have hpu : u + 2 ≤ p := by have := k1.lt; omega
      have m0 := k0.alloc (.cells (bV 10 fun _ _ => false) 32)
      have m1 := k1.alloc (.cells (bV 10 fun _ _ => false) 32)
      have mp := Holds.new' W3 (bV 10 fun _ _ => false) 32 p hp.symm
      have hB4 : Below p W3 (W3.alloc (.cells (bV 10 fun _ _ => false) 32)) := (Below.refl p W3).alloc (by omega) _
      obtain ⟨W4, hW4⟩ : ∃ W4, W3.alloc (.cells (bV 10 fun _ _ => false) 32) = W4 := ⟨_, rfl⟩
      rw [hW4] at m0 m1 mp hB4 ⊢
      try simp only [hp]
      rw [hp] at HCE
      have HP3 := Lib.hid (show Below u w W3 from hB3)
      have hpw : p ≤ W3.heap.size := by omega
      clear hW4 hp k0 k1 hB3 cl ch hq
      go_loopw [9] (fun x wr => ∃ k : Nat, k ≤ m ∧ x = .int .i64 k ∧ Holds wr u L.cells ∧ Holds wr (u + 1) (bV 10 fun _ _ => false) ∧ Holds wr p (bV 10 (upTo2 G k 0)) ∧ (∀ y, y < k → RowOk2 W ls y) ∧ Below p W3 wr) (fun x _ => m - (intOf x).toNat)
      case atStart => exact ⟨0, by omega, rfl, m0, m1, by rw [upTo2_zero]; exact mp, fun y hy => by omega, hB4⟩
      case round =>
        obtain ⟨k, hk, rfl, h0, h1, h2, hall, hb⟩ := hrel
        have HALL := Lib.hid hall
        clear m0 m1 mp hB4 hall
        have hbu : Below u w wr := HP3.out.trans (hb.mono (by omega))
        by_cases hlt : k < m
        · have hd : decide ((k : Int) < (m : Int)) = true := by simp; omega
          obtain ⟨r, hr⟩ : ∃ r, ls[k]? = some r := ⟨_, List.getElem?_eq_getElem (by rw [HM.out]; omega)⟩
          have HCR := Lib.hid (fun w' h => HCE.out w' h k r hr)
          have HRR := Lib.hid hr
          obtain ⟨rb, hrb⟩ : ∃ rb : ByteArray, (⟨r.toArray⟩ : ByteArray) = rb := ⟨_, rfl⟩
          have hrs : rb.size = r.length := by rw [← hrb, size_of_list]
          have HGT := Lib.hid (show ∀ (x : Nat) (h : x < rb.size), r[x]? = some (rb[x]'h) from fun x h => by
            subst hrb
            show r[x]? = some (r.toArray[x]'_)
            rw [List.getElem_toArray]
            exact List.getElem?_eq_getElem _)
          rw [hrb] at HCR
          have cr := HCR.out wr hb
          obtain ⟨cw, -⟩ := HF.out _ h0
          have eW : IntKind.i64.wrap (W : Int) = W := IntWalk.i64_in _ (by omega)
          have hk0 : (0 : Int) ≤ k := by omega
          have hk1 : (k : Int) < ((m + 1 : Nat) : Int) := by omega
          clear hr hrb
          by_cases hrW : rb.size = W
          · have hq : ((rb.size : Int) != (W : Int)) = false := by simp [hrW]
            have hdw : decide ((W : Int) < (rb.size : Int)) = false := by simp; omega
            go_wp2_with fail
            go_quiet (fail)
            all_goals go_wp2_with fail
            go_loopw [10] (fun x wi => ∃ j : Nat, j ≤ W ∧ x = .int .i64 j ∧ Holds wi u L.cells ∧ Holds wi (u + 1) (bV 10 fun _ _ => false) ∧ Holds wi p (bV 10 (upTo2 G k j)) ∧ (∀ x, x < j → r[x]? = some 119 ∨ r[x]? = some 46) ∧ Below p W3 wi) (fun x _ => W - (intOf x).toNat)
            case atStart => exact ⟨0, by omega, rfl, h0.drewN _, h1.drewN _, h2.drewN _, fun y hy => by omega, below_drewN hb _⟩
            case round =>
              obtain ⟨j, hj, rfl, i0, i1, i2, hlet, hbi⟩ := hrel
              have HLET := Lib.hid hlet
              clear h0 h1 h2 hb hbu hlet cr cw
              have cr := HCR.out wr hbi
              have hbv : Below u w wr := HP3.out.trans (hbi.mono (by omega))
              by_cases hltj : j < W
              · have hdj : decide ((j : Int) < (rb.size : Int)) = true := by simp; omega
                have hjr : j < rb.size := by omega
                have HG := Lib.hid (HGT.out j hjr)
                have HGG := Lib.hid (HGv.out k j r (rb[j]'hjr) hlt hltj HRR.out HG.out)
                obtain ⟨a, ha⟩ : ∃ a, rb[j]'hjr = a := ⟨_, rfl⟩
                rw [ha] at HG HGG
                have HA := Lib.hid ha
                clear ha
                by_cases h119 : a = 119
                · subst h119
                  have hv : (((rb[j]'hjr).toNat : Int) == 119) = true := by rw [HA.out]; rfl
                  have hset := with_set (upTo2 G k j) k j (by omega)
                  have hpw := wrap_pow j (by omega)
                  have HM2 := Lib.hid (upTo2_hit (G := G) (k := k) (j := j) (by rw [HGG.out]; rfl))
                  obtain ⟨-, -, c2, z2, l2⟩ := i2.facts
                  have ck := (c2 k).trans (bV_get 10 _ k (by omega))
                  have zk := z2 k
                  have hk10 : (k : Int) < 10 := by omega
                  have hj0 : (0 : Int) ≤ j := by omega
                  have hj1 : (j : Int) < 10 := by omega
                  have H1 := Lib.hid (i2.setCell k (.int .u16 ((rowN (fun x => upTo2 G k j k x || x == j) : Nat) : Int)))
                  rw [hset, HM2.out] at H1
                  clear hset c2 z2
                  go_wp2_with fail
                  go_roundw
                  case rel => exact ⟨j + 1, by omega, by go_num, i0.setCell_other _ _ (by dsimp only; omega), i1.setCell_other _ _ (by dsimp only; omega), H1.out, fun x hx => by
                    rcases Nat.lt_or_ge x j with h | h
                    · exact HLET.out x h
                    · obtain rfl : x = j := by omega
                      exact .inl HG.out, hbi.setCell (p := ⟨p, k, none⟩) (Nat.le_refl _) _⟩
                  case measure => simp [intOf]; omega
                · have hv : (((rb[j]'hjr).toNat : Int) == 119) = false := by
                    rw [HA.out]
                    simp only [beq_eq_false_iff_ne, ne_eq]
                    intro h
                    exact h119 (UInt8.toNat_inj.1 (by show a.toNat = 119; omega))
                  have HM2 := Lib.hid (upTo2_miss (G := G) (k := k) (j := j) (by rw [HGG.out]; simpa using h119))
                  by_cases h46 : a = 46
                  · subst h46
                    have hv2 : (((rb[j]'hjr).toNat : Int) == 46) = true := by rw [HA.out]; rfl
                    go_wp2_with fail
                    go_roundw
                    case rel => exact ⟨j + 1, by omega, by go_num, i0, i1, by rw [HM2.out]; exact i2, fun x hx => by
                      rcases Nat.lt_or_ge x j with h | h
                      · exact HLET.out x h
                      · obtain rfl : x = j := by omega
                        exact .inr HG.out, hbi⟩
                    case measure => simp [intOf]; omega
                  · have hv2 : (((rb[j]'hjr).toNat : Int) == 46) = false := by
                      rw [HA.out]
                      simp only [beq_eq_false_iff_ne, ne_eq]
                      intro h
                      exact h46 (UInt8.toNat_inj.1 (by show a.toNat = 46; omega))
                    have HX := Lib.hid (HBAD.out fun h => by
                      obtain ⟨r', e1, e2, e3⟩ := h.row k hlt
                      obtain rfl := Option.some.inj (HRR.out.symm.trans e1)
                      rcases e3 j hltj with h | h <;> rw [HG.out] at h
                      · exact h119 (Option.some.inj h)
                      · exact h46 (Option.some.inj h))
                    clear h119 h46
                    obtain ⟨r1, f1, -, z1, l1⟩ := i1.facts
                    go_wp2_with fail
                    exact bodyPost_ret (results_cell_tmp_holds rfl wideWd _ rfl (i1.setRow (bV 10 fun _ _ => false)) (by simp)) rfl ⟨by rw [HX.out.1, HX.out.2]; rfl, by rw [HU.out]; exact below_setRow' hbv (by omega) _⟩
              · obtain rfl : j = W := by omega
                have hdj : decide ((j : Int) < (rb.size : Int)) = false := by simp; omega
                have HN := Lib.hid (upTo2_row (G := G) (k := k) (W := j) fun x h => (HGin.out k x h).1)
                go_wp2_with fail
                go_roundw
                case rel => exact ⟨k + 1, by omega, by go_num, i0, i1, by rw [← HN.out]; exact i2, fun y hy => by
                  rcases Nat.lt_or_ge y k with h | h
                  · exact HALL.out y h
                  · obtain rfl : y = k := by omega
                    exact ⟨r, HRR.out, by omega, HLET.out⟩, hbi⟩
                case measure => simp [intOf]; omega
          · have hq : ((rb.size : Int) != (W : Int)) = true := by simp; omega
            have HX := Lib.hid (HBAD.out fun h => by
              obtain ⟨r', e1, e2, -⟩ := h.row k hlt
              obtain rfl := Option.some.inj (HRR.out.symm.trans e1)
              omega)
            have r1 := fun n => (h1.drewN n).facts.1
            have f1 := fun n => (h1.drewN n).facts.2.1
            have z1 := fun n => (h1.drewN n).facts.2.2.2.1
            have l1 := fun n => (h1.drewN n).facts.2.2.2.2
            go_wp2_with fail
            go_quiet (fail)
            all_goals go_wp2_with fail
            exact bodyPost_ret (results_cell_tmp_holds rfl wideWd _ rfl ((h1.drewN _).setRow (bV 10 fun _ _ => false)) (by simp)) rfl ⟨by rw [HX.out.1, HX.out.2]; rfl, by rw [HU.out]; exact below_setRow' (below_drewN hbu _) (by omega) _⟩
        · obtain rfl : k = m := by omega
          have hd : decide ((k : Int) < (k : Int)) = false := by simp
          have HUP := Lib.hid (upTo2_all (G := G) (H := k) fun y x h => (HGin.out y x h).2)
          rw [HUP.out] at h2
          obtain ⟨wb, hwb⟩ : ∃ wb, weedB L G = wb := ⟨_, rfl⟩
          have HOx := Lib.hid (HOKW.out u p)
          rw [hwb] at HOx
          have HWB := Lib.hid hwb
          clear hwb
          go_wp2_with fail
          refine (HOx.out _ h0 h2).mono ?_
          rintro e W5 ⟨rfl, hb5⟩
          have i1 := h1.below hb5 h1.lt
          have i2 := h2.below hb5 h2.lt
          have hbv : Below u w W5 := hbu.trans (hb5.mono (by have := h0.lt; omega))
          clear hb5 h0 h1 h2 hb hbu HOx
          obtain ⟨r1, f1, -, z1, l1⟩ := i1.facts
          obtain ⟨r2, -, -, -, l2⟩ := i2.facts
          cases wb
          · have HX := Lib.hid (HBAD.out fun h => by have := HLW.out h; rw [HWB.out] at this; cases this)
            go_wp2_with fail
            exact bodyPost_ret (results_cell_tmp_holds rfl wideWd _ rfl (i1.setRow (bV 10 fun _ _ => false)) (by simp)) rfl ⟨by rw [HX.out.1, HX.out.2]; rfl, by rw [HU.out]; exact below_setRow' hbv (by omega) _⟩
          · have HX := Lib.hid (HGOOD.out (HLO.out (by trivial) HL0.out HALL.out HWB.out))
            go_wp2_with fail
            exact bodyPost_ret (results_cell_tmp_holds rfl wideWd _ rfl (i1.setRow (bV 10 G)) (by simp)) rfl ⟨by rw [HX.out.1, ← HX.out.2]; rfl, by rw [HU.out]; exact below_setRow' hbv (by omega) _⟩
    · have hq2 : ((m : Int) != (H : Int)) = true := by simp; omega
      have HX := Lib.hid (HBAD.out fun h => by have h1 := h.len; have := HM.out; omega)
      obtain ⟨r1, f1, -, z1, l1⟩ := k1.facts
      go_wp2_with fail
      exact bodyPost_ret (results_cell_tmp_holds rfl wideWd _ rfl (k1.setRow (bV 10 fun _ _ => false)) (by simp)) rfl ⟨by rw [HX.out.1, HX.out.2]; rfl, by rw [HU.out]; exact below_setRow' hB3 (by omega) _⟩
  · have hq : ((⟨l.toArray⟩ : ByteArray).toList == (⟨#[]⟩ : ByteArray).toList) = false := by
      rw [ByteArray.toList_mk]
      simpa using hln
    have hq' : l.isEmpty = false := by simpa using hln
    have HX := Lib.hid (HBAD.out fun h => by
      have h1 := h.len
      have h2 := h.last
      have h3 := HM.out
      obtain rfl : m = H := by omega
      rw [hl] at h2
      exact hln (Option.some.inj h2))
    clear hl hln
    obtain ⟨r1, f1, -, z1, l1⟩ := k1.facts
    go_wp2_with fail
    exact bodyPost_ret (results_cell_tmp_holds rfl wideWd _ rfl (k1.setRow (bV 10 fun _ _ => false)) (by simp)) rfl ⟨by rw [HX.out.1, HX.out.2]; rfl, by rw [HU.out]; exact below_setRow' hB3 (by omega) _⟩
set_option maxRecDepth 100000 in
set_option maxHeartbeats 2000000 in
theorem specRead_any (L : Lawn) (hL : L.Fits) (s : ByteArray) (hs : s.size ≤ 1048576) (w : World) :
    Calls Try.prog 15 #[.agg L.cells, .string s] w fun e w' => e = .returned (.tuple #[.agg (bV 10 (readR L s)), .int .i64 (readC L s)]) ∧ Below w.heap.size w w' := by
  cases hv : validB L
  case true => exact specRead_good L hL hv s hs w
  case false =>
    have HC0 := Lib.hid (show readC L s = 1 by unfold readC; rw [hv]; rfl)
    have HR0 := Lib.hid (show readR L s = fun _ _ => false by unfold readR; rw [if_neg (by rw [HC0.out]; decide)])
    obtain ⟨u, hu⟩ : ∃ u, w.heap.size = u := ⟨_, rfl⟩
    obtain ⟨W1, hW1⟩ : ∃ W1, (w.alloc (.cells L.cells 30)).alloc (.cells (bV 10 fun _ _ => false) 32) = W1 := ⟨_, rfl⟩
    have g0 : Holds W1 u L.cells := by rw [← hW1]; exact (Holds.new' _ _ _ _ hu.symm).alloc _
    have g1 : Holds W1 (u + 1) (bV 10 fun _ _ => false) := by rw [← hW1]; exact Holds.new' _ _ _ _ (by simp; omega)
    have hB1 : Below u w W1 := by rw [← hW1]; exact ((Below.refl u w).alloc (by omega) _).alloc (by simp; omega) _
    have HU := Lib.hid hu
    have HO := Lib.hid (l01Ok_any L hL u W1 g0)
    rw [hv] at HO
    clear hv hL
    go_enter Try.func15, Try.ntmps15
    go_wp2_with fail
    try simp only [hu, Nat.add_assoc, Nat.reduceAdd]
    try rw [hW1]
    clear hW1 hu
    refine HO.out.mono ?_
    rintro e w1 ⟨rfl, hb1⟩
    have j1 := g1.below hb1 g1.lt
    have hb2 : Below u w w1 := hB1.trans (hb1.mono (by have := g0.lt; omega))
    clear hB1 hb1 g0 g1
    obtain ⟨r1, f1, -, z1, l1⟩ := j1.facts
    go_wp2_with fail
    exact bodyPost_ret (results_cell_tmp_holds rfl wideWd _ rfl (j1.setRow (bV 10 fun _ _ => false)) (by simp)) rfl ⟨by rw [HC0.out, HR0.out]; rfl, by rw [HU.out]; exact below_setRow' hb2 (by omega) _⟩
end Go.Proofs.Ytojccgaldadcnaa
