/- The search, of the model: over grass. -/
import Derived.Test.YtaeenkjbmlgcmaaSReach
namespace Go.Proofs.Ytaeenkjbmlgcmaa
open Go.RowKit
set_option linter.unusedVariables false
set_option linter.unusedSimpArgs false
attribute [local go_sem ↓] loadRow loadGrid loadLawn loadMirror storeRow storeGrid storeLawn allocRow allocGrid allocLawn buildZero buildSides loadG64 storeG64 allocG64 buildG64

set_option maxRecDepth 100000 in
set_option maxHeartbeats 10000000 in
theorem reach_grass (L : Lawn) (hL : L.Fits) (hV : validB L = true) (b : Nat) (sx sy : Nat) (hsx : sx < 10) (hsy : sy < 10) (hs : passG L true ((sx : Int), (sy : Int)) = true) (w : World) (h : Holds w b L.cells) :
    Calls Try.prog 60 #[.pointer (some ⟨b, 0, none⟩), .agg #[.int .i8 sx, .int .i8 sy], .bool true] w fun e w' => e = .returned (.agg (grid64 (gridF (found (passG L true) ((sx : Int), (sy : Int)) 100)))) ∧ Below w.heap.size w w' := by
  have HL := Lib.hid hL
  have HV := Lib.hid hV
  have HS := Lib.hid hs
  have H0 := Lib.hid h
  obtain ⟨i0, hi, hz0, hz1, hz2⟩ := info_parts cellInfo
  have HI := Lib.hid (show Try.prog.info? 37 = some i0 ∧ i0.zero = some (.agg #[.int .i8 0, .int .i8 0]) ∧ i0.size = 2 ∧ i0.bytes = 2 from ⟨hi, hz0, hz1, hz2⟩)
  clear hi hz0 hz1 hz2
  have hbw := h.lt
  clear hL hV hs h
  go_enter Try.func60, Try.ntmps60
  go_wp2_with fail
  obtain ⟨s, hs⟩ : ∃ s, w.heap.size = s := ⟨_, rfl⟩
  obtain ⟨W0, hW0⟩ : ∃ W0, ((w.alloc (.cells #[.int .i8 sx, .int .i8 sy] 37)).alloc (.cells (grid64 fun _ _ => 0) 89)).alloc (.cells (grid64 fun _ _ => 0) 89) = W0 := ⟨_, rfl⟩
  have hl0 : Holds W0 b L.cells := by rw [← hW0]; exact ((H0.out.alloc _).alloc _).alloc _
  have hc0 : Holds W0 s #[.int .i8 sx, .int .i8 sy] := by rw [← hW0]; exact ((Holds.new' _ _ _ _ hs.symm).alloc _).alloc _
  have hr0 : Holds W0 (s + 1) (grid64 fun _ _ => 0) := by rw [← hW0]; exact (Holds.new' _ _ _ _ (by simp; omega)).alloc _
  have ho0 : Holds W0 (s + 1 + 1) (grid64 (fill1 0 0)) := by rw [← hW0]; exact (grid64_ext (g := fun _ _ => 0) (g' := fill1 0 0) (by simp [fill1])) ▸ Holds.new' _ _ _ _ (by simp; omega)
  have hB0 : Below s w W0 := by rw [← hW0]; exact (((Below.refl s w).alloc (by omega) _).alloc (by simp; omega) _).alloc (by simp; omega) _
  rw [hW0]
  have HSz := Lib.hid hs
  rw [hs] at hbw ⊢
  clear hW0 hs H0
  go_loopw [8] (fun y wr => ∃ k : Nat, k ≤ 10 ∧ y = .int .i64 k ∧ Holds wr (s + 1 + 1) (grid64 (fill1 k 0)) ∧ Only [s + 1 + 1] W0 wr) (fun y _ => 10 - (intOf y).toNat)
  case atStart => exact ⟨0, by omega, rfl, ho0, Only.refl _ _⟩
  case round =>
    obtain ⟨k, hk, rfl, ho, hO⟩ := hrel
    by_cases hlt : k < 10
    · have hd : decide ((k : Int) < (10 : Int)) = true := by simp; omega
      have HO := Lib.hid hO
      clear hO
      go_wp2_with fail
      go_loopw [9] (fun x wk => ∃ j : Nat, j ≤ 10 ∧ x = .int .i64 j ∧ Holds wk (s + 1 + 1) (grid64 (fill1 k j)) ∧ Only [s + 1 + 1] W0 wk) (fun x _ => 10 - (intOf x).toNat)
      case atStart => exact ⟨0, by omega, rfl, ho, HO.out⟩
      case round =>
        obtain ⟨j, hj, rfl, hoj, hOj⟩ := hrel
        clear ho
        by_cases hltj : j < 10
        · have hdj : decide ((j : Int) < (10 : Int)) = true := by simp; omega
          obtain ⟨-, -, cO, zO, lO⟩ := hoj.facts
          have hgc := grid64_get (fill1 k j) k j hlt hltj
          go_wp2_with fail
          go_roundw
          case rel =>
            refine ⟨j + 1, by omega, by go_num, ?_, hOj.setCell (a := ⟨s + 1 + 1, k * 10 + j, none⟩) (.inl (by simp)) _⟩
            rw [← fill1_succ, ← grid64_set _ _ _ _ hlt hltj]
            exact hoj.setCell _ _
          case measure => simp [intOf]; omega
        · obtain rfl : j = 10 := by omega
          have hdj : decide (((10 : Nat) : Int) < (10 : Int)) = false := by decide
          rw [fill1_row] at hoj
          go_wp2_with fail
          go_roundw
          case rel => exact ⟨k + 1, by omega, by go_num, hoj, hOj⟩
          case measure => simp [intOf]; omega
    · have hk10 : k = 10 := by omega
      have e10 : (k : Int) = 10 := by omega
      rw [hk10] at ho
      rw [e10]
      have hd : decide ((10 : Int) < (10 : Int)) = false := by decide
      clear hk10 e10 hlt hk
      have hc1 := hO.holds hc0 (by simp <;> omega)
      have hl1 := hO.holds hl0 (by simp <;> omega)
      have hr1 := hO.holds hr0 (by simp <;> omega)
      have hB1 : Below s w _ := hB0.trans (hO.toBelow (by simp <;> omega) (by have := hc0.lt; omega))
      clear hc0 hl0 hr0 hB0 hO ho0
      obtain ⟨-, cC⟩ := hc1.later
      obtain ⟨-, cO⟩ := ho.later
      go_wp2_with fail
      refine wp_region_grow 6 (by kernel_rfl) (by kernel_rfl) ?_
      simp only [List.take_succ_cons, List.take_zero, List.drop_succ_cons, List.drop_zero]
      iterate 6
        apply wpGrow_plain rfl
        · intro w' hw' K hK
          have d1 := cC _ hw'
          go_wp2_with fail
          exact hK _ _ rfl hw'
        simp only [Act.put, List.setIfInBounds_toArray, List.set_cons_succ, List.set_cons_zero]
      refine wpGrow_nil ?_
      intro W2 hW2
      have hc2 := hc1.below hW2 hc1.lt
      have hl2 := hl1.below hW2 hl1.lt
      have hr2 := hr1.below hW2 hr1.lt
      have ho2 := ho.below hW2 ho.lt
      have hB2 : Below s w W2 := hB1.trans (hW2.mono (by have := hc1.lt; omega))
      clear cC cO hc1 hl1 hr1 ho hB1 hW2
      obtain ⟨-, -, d1, -, -⟩ := hc2.facts
      obtain ⟨-, -, cO, zO, lO⟩ := ho2.facts
      have hgc := grid64_get (fill1 10 0) sy sx hsy hsx
      go_wp2_with fail
      have hc3 := (hc2.setCell_other ⟨s + 1 + 1, sy * 10 + sx, none⟩ (.int .i64 0) (by dsimp only; omega)).alloc (.cells #[.int .i8 sx, .int .i8 sy] 37)
      have hl3 := (hl2.setCell_other ⟨s + 1 + 1, sy * 10 + sx, none⟩ (.int .i64 0) (by dsimp only; omega)).alloc (.cells #[.int .i8 sx, .int .i8 sy] 37)
      have hr3 := (hr2.setCell_other ⟨s + 1 + 1, sy * 10 + sx, none⟩ (.int .i64 0) (by dsimp only; omega)).alloc (.cells #[.int .i8 sx, .int .i8 sy] 37)
      have ho3 := (ho2.setCell (sy * 10 + sx) (.int .i64 0)).alloc (.cells #[.int .i8 sx, .int .i8 sy] 37)
      rw [grid64_set _ _ _ _ hsy hsx, gridF_start] at ho3
      have hB3 := (hB2.setCell (p := ⟨s + 1 + 1, sy * 10 + sx, none⟩) (by simp; omega) (.int .i64 0)).alloc (by have := hc2.lt; simp; omega) (.cells #[.int .i8 sx, .int .i8 sy] 37)
      have hq3 : ((W2.setCell ⟨s + 1 + 1, sy * 10 + sx, none⟩ (.int .i64 0)).alloc (.cells #[.int .i8 sx, .int .i8 sy] 37)).ownsRow (s + 3) 37 2 (.slice (some ⟨W2.heap.size, 0, none⟩) 1 1) (found (passG L true) ((sx : Int), (sy : Int)) 0).length (flatP ((found (passG L true) ((sx : Int), (sy : Int)) 0).map (·.1))) :=
        ⟨by simp [found, flatP], .inr ⟨_, 1, #[.int .i8 sx, .int .i8 sy], rfl, by omega, by
          have := heap_alloc_new (W2.setCell ⟨s + 1 + 1, sy * 10 + sx, none⟩ (.int .i64 0)) (.cells #[.int .i8 sx, .int .i8 sy] 37)
          simpa using this, by simp [found], by simp [maxLen], rfl, by simp [found, flatP]⟩⟩
      have ho4 : Holds ((W2.setCell ⟨s + 1 + 1, sy * 10 + sx, none⟩ (.int .i64 0)).alloc (.cells #[.int .i8 sx, .int .i8 sy] 37)) (s + 1 + 1) (grid64 (gridF (found (passG L true) ((sx : Int), (sy : Int)) 0))) := ho3
      obtain ⟨W3, hW3⟩ : ∃ W3, (W2.setCell ⟨s + 1 + 1, sy * 10 + sx, none⟩ (.int .i64 0)).alloc (.cells #[.int .i8 sx, .int .i8 sy] 37) = W3 := ⟨_, rfl⟩
      rw [hW3] at hc3 hl3 hr3 ho4 hB3 hq3
      rw [hW3]
      clear hc2 hl2 hr2 ho2 ho3 hB2 d1 cO zO lO hgc hW3 hc3
      go_loopw [10, 11] (fun q x wr => ∃ i : Nat, i ≤ 100 ∧ x = .int .i64 i ∧ wr.ownsRow (s + 3) 37 2 q (found (passG L true) ((sx : Int), (sy : Int)) i).length (flatP ((found (passG L true) ((sx : Int), (sy : Int)) i).map (·.1))) ∧ Holds wr (s + 1 + 1) (grid64 (gridF (found (passG L true) ((sx : Int), (sy : Int)) i))) ∧ Holds wr b L.cells ∧ Holds wr (s + 1) (grid64 fun _ _ => 0) ∧ Below s w wr) (fun _ x _ => 101 - (intOf x).toNat)
      case atStart => exact ⟨0, by omega, rfl, hq3, ho4, hl3, hr3, hB3⟩
      case round =>
        obtain ⟨i, hi, rfl, hq, ho, hl, hr, hb⟩ := hrel
        clear hq3 ho4 hl3 hr3 hB3
        by_cases hlt : i < (found (passG L true) ((sx : Int), (sy : Int)) i).length
        · obtain ⟨p, hpi⟩ : ∃ p, (found (passG L true) ((sx : Int), (sy : Int)) i)[i]? = some p := ⟨_, List.getElem?_eq_getElem hlt⟩
          obtain ⟨⟨px, py⟩, d⟩ := p
          have hxy := passG_near HV.out true _ ((found_good HS.out i).pass _ (List.mem_of_getElem? hpi))
          have hdv := (found_good HS.out i).val i _ hpi
          simp only at hxy hdv
          obtain ⟨a1, rfl⟩ : ∃ a1 : Nat, px = a1 := ⟨px.toNat, by omega⟩
          obtain ⟨a2, rfl⟩ : ∃ a2 : Nat, py = a2 := ⟨py.toNat, by omega⟩
          have ha1 : a1 < 10 := by omega
          have ha2 : a2 < 10 := by omega
          obtain ⟨hd0, hd1⟩ := hdv
          have hl100 := good_length (passG_near HV.out true) (found_good HS.out i)
          have HPI := Lib.hid hpi
          have hgi : ((found (passG L true) ((sx : Int), (sy : Int)) i).map (·.1))[i]? = some ((a1 : Int), (a2 : Int)) := by rw [List.getElem?_map, hpi]; rfl
          obtain ⟨fa, fb⟩ := flatP_get _ _ _ hgi
          obtain ⟨F0, hF0⟩ : ∃ F0, found (passG L true) ((sx : Int), (sy : Int)) i = F0 := ⟨_, rfl⟩
          have HF0 := Lib.hid hF0
          rw [hF0] at hq ho hlt hl100 fa fb
          obtain ⟨n0, hn0⟩ : ∃ n0, F0.length = n0 := ⟨_, rfl⟩
          have HN0 := Lib.hid hn0
          rw [hn0] at hq hlt hl100
          clear hxy hpi hgi hF0 hn0
          obtain ⟨g, cap, rfl, hgB, hgl⟩ := own_form hq (by omega)
          have c1 := own_cell hq _ _ fa
          have c2 := own_cell hq _ _ fb
          have HQ := Lib.hid hq
          have hlw := hl.lt
          have hdd : decide ((i : Int) < (n0 : Int)) = true := by simp; omega
          clear hq fa fb
          go_wp2_with fail
          refine (beside_any L HL.out b a1 a2 (by omega) (by omega) (by omega) (by omega) _ hl).mono ?_
          rintro e w5 ⟨v, rfl, ov, hb1⟩
          have ho5 := ho.below hb1 ho.lt
          have hl5 := hl.below hb1 hl.lt
          have hr5 := hr.below hb1 hr.lt
          have hb5 : Below s w w5 := hb.trans (hb1.mono (by omega))
          have hq5 := own_below HQ.out hb1
          have hap := own_apart HQ.out (Nat.le_refl _) ov
          obtain ⟨av, cv, rfl⟩ := own_slice ov
          have hwb : s + 3 ≤ wr.heap.size := by have := (HQ.out.lt g rfl); omega
          obtain ⟨Bn, hBn⟩ : ∃ Bn, wr.heap.size = Bn := ⟨_, rfl⟩
          rw [hBn] at ov hwb
          obtain ⟨NX, hNX⟩ : ∃ NX, besideK L a1 a2 4 = NX := ⟨_, rfl⟩
          have HNX := Lib.hid hNX
          rw [hNX] at ov hap ⊢
          obtain ⟨nn, hnn⟩ : ∃ nn, NX.length = nn := ⟨_, rfl⟩
          have HNN := Lib.hid hnn
          have hnn4 : nn ≤ 4 := by rw [← hnn, ← hNX]; exact besideK_le _ _ _ _
          rw [hnn] at ov hap ⊢
          clear ho hl hr hb hb1 c1 c2 hBn hNX hnn HQ
          go_wp2_with fail
          go_loopw [10, 13] (fun q x wk => ∃ j : Nat, j ≤ nn ∧ x = .int .i64 j ∧ wk.ownsRow (s + 3) 37 2 q (nextK (passG L true) F0 d NX j).length (flatP ((nextK (passG L true) F0 d NX j).map (·.1))) ∧ (q.ownBlock = none ∨ q.ownBlock ≠ (Value.slice av nn cv).ownBlock) ∧ wk.ownsRow Bn 37 2 (.slice av nn cv) nn (flatP NX) ∧ Holds wk (s + 1 + 1) (grid64 (gridF (nextK (passG L true) F0 d NX j))) ∧ Holds wk b L.cells ∧ Holds wk (s + 1) (grid64 fun _ _ => 0) ∧ Below s w wk) (fun _ x _ => nn - (intOf x).toNat)
          case atStart =>
            refine ⟨0, by omega, rfl, ?_, hap, ov, ?_, hl5, hr5, hb5⟩
            · rw [nextK_zero, HN0.out]; exact hq5
            · rw [nextK_zero]; exact ho5
          case round =>
            obtain ⟨j, hj, rfl, hq, hap2, hn, ho, hl, hr, hb⟩ := hrel
            clear hq5 hap ov ho5 hl5 hr5 hb5
            by_cases hjn : j < nn
            · obtain ⟨c, hc⟩ : ∃ c, NX[j]? = some c := ⟨_, List.getElem?_eq_getElem (by rw [HNN.out]; exact hjn)⟩
              obtain ⟨cx, cy⟩ := c
              have hin : isB L cx cy = true := by
                rw [← HNX.out] at hc
                exact besideK_in hc
              have hxy := isB_near HV.out hin
              obtain ⟨e1, rfl⟩ : ∃ e1 : Nat, cx = e1 := ⟨cx.toNat, by omega⟩
              obtain ⟨e2, rfl⟩ : ∃ e2 : Nat, cy = e2 := ⟨cy.toNat, by omega⟩
              have he1 : e1 < 10 := by omega
              have he2 : e2 < 10 := by omega
              have HC := Lib.hid hc
              have HIN := Lib.hid hin
              obtain ⟨gn, capn, hsl, hgnB, hgnl⟩ := own_form hn (by omega)
              simp only [Value.slice.injEq] at hsl
              obtain ⟨rfl, -, rfl⟩ := hsl
              obtain ⟨fa, fb⟩ := flatP_get _ _ _ hc
              have hgood := nextK_good HS.out HPI.out NX j
              have hlook := nextK_look HS.out HPI.out NX j
              have hfirst := nextK_first HPI.out NX j
              rw [HF0.out] at hgood hlook hfirst
              have hg100 := good_length (passG_near HV.out true) hgood
              obtain ⟨Fj, hFj⟩ : ∃ Fj, nextK (passG L true) F0 d NX j = Fj := ⟨_, rfl⟩
              have HFJ := Lib.hid hFj
              rw [hFj] at hq ho hgood hlook hfirst hg100
              obtain ⟨v, hv⟩ : ∃ v, gridF Fj e2 e1 = v := ⟨_, rfl⟩
              have HVV := Lib.hid hv
              have HLK := Lib.hid hlook
              have HFI := Lib.hid hfirst
              have HGD := Lib.hid hgood
              have hO100 := grid64_get (gridF Fj) e2 e1 he2 he1
              rw [hv] at hO100
              have FX := Lib.hid (show ∀ w', Below wr.heap.size wr w' → w'.cell? ⟨gn, j * 2, none⟩ = some (.int .i8 e1) ∧ w'.cell? ⟨gn, j * 2 + 1, none⟩ = some (.int .i8 e2) ∧ w'.cell? ⟨s + 1 + 1, e2 * 10 + e1, none⟩ = some (.int .i64 v) from fun w' hw' =>
                ⟨own_cell (own_below hn hw') _ _ fa, own_cell (own_below hn hw') _ _ fb, by rw [(ho.below hw' ho.lt).cell, hO100]⟩)
              have HNO := Lib.hid hn
              have HQO := Lib.hid hq
              have hlw := hl.lt
              have hol := ho.lt
              have hk : ∃ kd, L.kind e2 e1 = kd := ⟨_, rfl⟩
              obtain ⟨kd, hkd⟩ := hk
              have HKD := Lib.hid hkd
              have HOC := Lib.hid (show ∀ w', Below wr.heap.size wr w' → Calls Try.prog 59 #[.pointer (some ⟨b, 0, none⟩), .agg #[.int .i8 e1, .int .i8 e2]] w' fun e w'' => e = .returned (.bool (kd == 0 || kd == 3)) ∧ Below w'.heap.size w' w'' from fun w' hw' => hkd ▸ open_any L HL.out b e1 e2 he1 he2 w' (hl.below hw' hl.lt))
              have HAC := Lib.hid (show ∀ w', Below wr.heap.size wr w' → Calls Try.prog 52 #[.pointer (some ⟨b, 0, none⟩), .agg #[.int .i8 e1, .int .i8 e2]] w' fun e w'' => e = .returned (.int .i64 kd) ∧ Below w'.heap.size w' w'' from fun w' hw' => hkd ▸ at_any L HL.out b e1 e2 he1 he2 w' (hl.below hw' hl.lt))
              have hpass : passG L true ((e1 : Int), (e2 : Int)) = (kd == 0) := by
                simp [passG, grassP, grassB, hin, hkd]
              have hknown : 0 ≤ v ∨ v = -1 ∧ alLook Fj ((e1 : Int), (e2 : Int)) = none := by
                rw [← hv]
                unfold gridF stepsAt
                cases hal : alLook Fj ((e1 : Int), (e2 : Int)) with
                | none => exact .inr ⟨rfl, rfl⟩
                | some u => exact .inl (good_some hgood hal)
              have hknown2 : 0 ≤ v → (alLook Fj ((e1 : Int), (e2 : Int))).isSome = true := by
                rw [← hv]
                unfold gridF stepsAt
                cases hal : alLook Fj ((e1 : Int), (e2 : Int)) with
                | none => intro h; simp at h
                | some u => intro _; rfl
              have HPA := Lib.hid hpass
              have HKN := Lib.hid hknown
              have HKN2 := Lib.hid hknown2
              have hdn : decide ((j : Int) < (nn : Int)) = true := by simp; omega
              clear hc hin hxy fa fb hgood hlook hfirst hFj hv hO100 hn hq hkd hpass hknown hknown2
              go_wp2_with fail
              refine wp_region_grow 34 (by kernel_rfl) (by kernel_rfl) ?_
              simp only [List.take_succ_cons, List.take_zero, List.drop_succ_cons, List.drop_zero]
              cases hop : (kd == 0 || kd == 3)
              case false =>
                have hpf : passG L true ((e1 : Int), (e2 : Int)) = false := by
                  rw [HPA.out]
                  simp only [Bool.or_eq_false_iff] at hop
                  simp [hop.1, hop.2]
                have HSK : Hid ((alLook Fj ((e1 : Int), (e2 : Int))).isSome = true ∨ passG L true ((e1 : Int), (e2 : Int)) = false) := Lib.hid (.inr hpf)
                rw [hop] at HOC
                clear hpf
                iterate 8
                  apply wpGrow_plain rfl
                  · intro w' hw' K hK
                    obtain ⟨f1, f2, f3⟩ := FX.out _ hw'
                    go_wp2_with (first | (go_at_call 59; refine (HOC.out _ hw').mono ?_; rintro e w2 ⟨rfl, hb2⟩) | (go_at_call 52; refine (HAC.out _ hw').mono ?_; rintro e w2 ⟨rfl, hb2⟩))
                    first | exact hK _ _ rfl hw' | exact hK _ _ rfl (below_onto hw' hb2)
                  simp only [Act.put, List.setIfInBounds_toArray, List.set_cons_succ, List.set_cons_zero]
                iterate 10
                  apply wpGrow_off rfl
                  simp only [Act.put, List.setIfInBounds_toArray, List.set_cons_succ, List.set_cons_zero]
                iterate 2
                  apply wpGrow_plain rfl
                  · intro w' hw' K hK
                    obtain ⟨f1, f2, f3⟩ := FX.out _ hw'
                    go_wp2_with (first | (go_at_call 59; refine (HOC.out _ hw').mono ?_; rintro e w2 ⟨rfl, hb2⟩) | (go_at_call 52; refine (HAC.out _ hw').mono ?_; rintro e w2 ⟨rfl, hb2⟩))
                    first | exact hK _ _ rfl hw' | exact hK _ _ rfl (below_onto hw' hb2)
                  simp only [Act.put, List.setIfInBounds_toArray, List.set_cons_succ, List.set_cons_zero]
                iterate 14
                  apply wpGrow_off rfl
                  simp only [Act.put, List.setIfInBounds_toArray, List.set_cons_succ, List.set_cons_zero]
                refine wpGrow_nil ?_
                intro W2 hW2
                have hq6 := own_below HQO.out hW2
                have hn6 := own_below HNO.out hW2
                have ho6 := ho.below hW2 ho.lt
                have hl6 := hl.below hW2 hl.lt
                have hr6 := hr.below hW2 hr.lt
                have hb6 : Below s w W2 := hb.trans (hW2.mono (by omega))
                have H6 := Lib.hid hq6
                have H7 := Lib.hid hn6
                have H8 := Lib.hid ho6
                clear hq6 hn6 ho6 ho hl hr hb hW2
                go_wp2_with fail
                go_roundw
                case rel =>
                  refine ⟨j + 1, by omega, by go_num, ?_⟩
                  rw [nextK_succ HC.out, HFJ.out, visit_skip HSK.out]
                  exact ⟨H6.out, hap2, H7.out, H8.out, hl6, hr6, hb6⟩
                case measure => simp [intOf]; omega
              case true =>
                rw [hop] at HOC
                clear hop
                cases hk0 : (kd == 0)
                case false =>
                  have hkn : (kd != 0) = true := by simp [bne, hk0]
                  have HSK : Hid ((alLook Fj ((e1 : Int), (e2 : Int))).isSome = true ∨ passG L true ((e1 : Int), (e2 : Int)) = false) := Lib.hid (.inr (by rw [HPA.out]; simpa using hk0))
                  iterate 8
                    apply wpGrow_plain rfl
                    · intro w' hw' K hK
                      obtain ⟨f1, f2, f3⟩ := FX.out _ hw'
                      go_wp2_with (first | (go_at_call 59; refine (HOC.out _ hw').mono ?_; rintro e w2 ⟨rfl, hb2⟩) | (go_at_call 52; refine (HAC.out _ hw').mono ?_; rintro e w2 ⟨rfl, hb2⟩))
                      first | exact hK _ _ rfl hw' | exact hK _ _ rfl (below_onto hw' hb2)
                    simp only [Act.put, List.setIfInBounds_toArray, List.set_cons_succ, List.set_cons_zero]
                  iterate 10
                    apply wpGrow_on rfl
                    · intro w' hw' K hK
                      obtain ⟨f1, f2, f3⟩ := FX.out _ hw'
                      go_wp2_with (first | (go_at_call 59; refine (HOC.out _ hw').mono ?_; rintro e w2 ⟨rfl, hb2⟩) | (go_at_call 52; refine (HAC.out _ hw').mono ?_; rintro e w2 ⟨rfl, hb2⟩))
                      first | exact hK _ _ rfl hw' | exact hK _ _ rfl (below_onto hw' hb2)
                    simp only [Act.put, List.setIfInBounds_toArray, List.set_cons_succ, List.set_cons_zero]
                  iterate 2
                    apply wpGrow_plain rfl
                    · intro w' hw' K hK
                      obtain ⟨f1, f2, f3⟩ := FX.out _ hw'
                      go_wp2_with (first | (go_at_call 59; refine (HOC.out _ hw').mono ?_; rintro e w2 ⟨rfl, hb2⟩) | (go_at_call 52; refine (HAC.out _ hw').mono ?_; rintro e w2 ⟨rfl, hb2⟩))
                      first | exact hK _ _ rfl hw' | exact hK _ _ rfl (below_onto hw' hb2)
                    simp only [Act.put, List.setIfInBounds_toArray, List.set_cons_succ, List.set_cons_zero]
                  iterate 14
                    apply wpGrow_off rfl
                    simp only [Act.put, List.setIfInBounds_toArray, List.set_cons_succ, List.set_cons_zero]
                  refine wpGrow_nil ?_
                  intro W2 hW2
                  have hq6 := own_below HQO.out hW2
                  have hn6 := own_below HNO.out hW2
                  have ho6 := ho.below hW2 ho.lt
                  have hl6 := hl.below hW2 hl.lt
                  have hr6 := hr.below hW2 hr.lt
                  have hb6 : Below s w W2 := hb.trans (hW2.mono (by omega))
                  have H6 := Lib.hid hq6
                  have H7 := Lib.hid hn6
                  have H8 := Lib.hid ho6
                  clear hq6 hn6 ho6 ho hl hr hb hW2
                  go_wp2_with fail
                  go_roundw
                  case rel =>
                    refine ⟨j + 1, by omega, by go_num, ?_⟩
                    rw [nextK_succ HC.out, HFJ.out, visit_skip HSK.out]
                    exact ⟨H6.out, hap2, H7.out, H8.out, hl6, hr6, hb6⟩
                  case measure => simp [intOf]; omega
                case true =>
                  have hkn : (kd != 0) = false := by simp [bne, hk0]
                  have HPT : Hid (passG L true ((e1 : Int), (e2 : Int)) = true) := Lib.hid (by rw [HPA.out]; simpa using hk0)
                  rcases HKN.out with hv0 | hneg
                  · have HSK : Hid ((alLook Fj ((e1 : Int), (e2 : Int))).isSome = true ∨ passG L true ((e1 : Int), (e2 : Int)) = false) := Lib.hid (.inl (HKN2.out hv0))
                    iterate 8
                      apply wpGrow_plain rfl
                      · intro w' hw' K hK
                        obtain ⟨f1, f2, f3⟩ := FX.out _ hw'
                        go_wp2_with (first | (go_at_call 59; refine (HOC.out _ hw').mono ?_; rintro e w2 ⟨rfl, hb2⟩) | (go_at_call 52; refine (HAC.out _ hw').mono ?_; rintro e w2 ⟨rfl, hb2⟩))
                        first | exact hK _ _ rfl hw' | exact hK _ _ rfl (below_onto hw' hb2)
                      simp only [Act.put, List.setIfInBounds_toArray, List.set_cons_succ, List.set_cons_zero]
                    iterate 10
                      apply wpGrow_on rfl
                      · intro w' hw' K hK
                        obtain ⟨f1, f2, f3⟩ := FX.out _ hw'
                        go_wp2_with (first | (go_at_call 59; refine (HOC.out _ hw').mono ?_; rintro e w2 ⟨rfl, hb2⟩) | (go_at_call 52; refine (HAC.out _ hw').mono ?_; rintro e w2 ⟨rfl, hb2⟩))
                        first | exact hK _ _ rfl hw' | exact hK _ _ rfl (below_onto hw' hb2)
                      simp only [Act.put, List.setIfInBounds_toArray, List.set_cons_succ, List.set_cons_zero]
                    iterate 2
                      apply wpGrow_plain rfl
                      · intro w' hw' K hK
                        obtain ⟨f1, f2, f3⟩ := FX.out _ hw'
                        go_wp2_with (first | (go_at_call 59; refine (HOC.out _ hw').mono ?_; rintro e w2 ⟨rfl, hb2⟩) | (go_at_call 52; refine (HAC.out _ hw').mono ?_; rintro e w2 ⟨rfl, hb2⟩))
                        first | exact hK _ _ rfl hw' | exact hK _ _ rfl (below_onto hw' hb2)
                      simp only [Act.put, List.setIfInBounds_toArray, List.set_cons_succ, List.set_cons_zero]
                    iterate 14
                      apply wpGrow_on rfl
                      · intro w' hw' K hK
                        obtain ⟨f1, f2, f3⟩ := FX.out _ hw'
                        go_wp2_with (first | (go_at_call 59; refine (HOC.out _ hw').mono ?_; rintro e w2 ⟨rfl, hb2⟩) | (go_at_call 52; refine (HAC.out _ hw').mono ?_; rintro e w2 ⟨rfl, hb2⟩))
                        first | exact hK _ _ rfl hw' | exact hK _ _ rfl (below_onto hw' hb2)
                      simp only [Act.put, List.setIfInBounds_toArray, List.set_cons_succ, List.set_cons_zero]
                    refine wpGrow_nil ?_
                    intro W2 hW2
                    have hq6 := own_below HQO.out hW2
                    have hn6 := own_below HNO.out hW2
                    have ho6 := ho.below hW2 ho.lt
                    have hl6 := hl.below hW2 hl.lt
                    have hr6 := hr.below hW2 hr.lt
                    have hb6 : Below s w W2 := hb.trans (hW2.mono (by omega))
                    have H6 := Lib.hid hq6
                    have H7 := Lib.hid hn6
                    have H8 := Lib.hid ho6
                    clear hq6 hn6 ho6 ho hl hr hb hW2
                    go_wp2_with fail
                    go_roundw
                    case rel =>
                      refine ⟨j + 1, by omega, by go_num, ?_⟩
                      rw [nextK_succ HC.out, HFJ.out, visit_skip HSK.out]
                      exact ⟨H6.out, hap2, H7.out, H8.out, hl6, hr6, hb6⟩
                    case measure => simp [intOf]; omega
                  · have HAL := Lib.hid hneg.2
                    have hvn : v < 0 := by have := hneg.1; omega
                    clear hneg
                    iterate 8
                      apply wpGrow_plain rfl
                      · intro w' hw' K hK
                        obtain ⟨f1, f2, f3⟩ := FX.out _ hw'
                        go_wp2_with (first | (go_at_call 59; refine (HOC.out _ hw').mono ?_; rintro e w2 ⟨rfl, hb2⟩) | (go_at_call 52; refine (HAC.out _ hw').mono ?_; rintro e w2 ⟨rfl, hb2⟩))
                        first | exact hK _ _ rfl hw' | exact hK _ _ rfl (below_onto hw' hb2)
                      simp only [Act.put, List.setIfInBounds_toArray, List.set_cons_succ, List.set_cons_zero]
                    iterate 10
                      apply wpGrow_on rfl
                      · intro w' hw' K hK
                        obtain ⟨f1, f2, f3⟩ := FX.out _ hw'
                        go_wp2_with (first | (go_at_call 59; refine (HOC.out _ hw').mono ?_; rintro e w2 ⟨rfl, hb2⟩) | (go_at_call 52; refine (HAC.out _ hw').mono ?_; rintro e w2 ⟨rfl, hb2⟩))
                        first | exact hK _ _ rfl hw' | exact hK _ _ rfl (below_onto hw' hb2)
                      simp only [Act.put, List.setIfInBounds_toArray, List.set_cons_succ, List.set_cons_zero]
                    iterate 2
                      apply wpGrow_plain rfl
                      · intro w' hw' K hK
                        obtain ⟨f1, f2, f3⟩ := FX.out _ hw'
                        go_wp2_with (first | (go_at_call 59; refine (HOC.out _ hw').mono ?_; rintro e w2 ⟨rfl, hb2⟩) | (go_at_call 52; refine (HAC.out _ hw').mono ?_; rintro e w2 ⟨rfl, hb2⟩))
                        first | exact hK _ _ rfl hw' | exact hK _ _ rfl (below_onto hw' hb2)
                      simp only [Act.put, List.setIfInBounds_toArray, List.set_cons_succ, List.set_cons_zero]
                    iterate 14
                      apply wpGrow_on rfl
                      · intro w' hw' K hK
                        obtain ⟨f1, f2, f3⟩ := FX.out _ hw'
                        go_wp2_with (first | (go_at_call 59; refine (HOC.out _ hw').mono ?_; rintro e w2 ⟨rfl, hb2⟩) | (go_at_call 52; refine (HAC.out _ hw').mono ?_; rintro e w2 ⟨rfl, hb2⟩))
                        first | exact hK _ _ rfl hw' | exact hK _ _ rfl (below_onto hw' hb2)
                      simp only [Act.put, List.setIfInBounds_toArray, List.set_cons_succ, List.set_cons_zero]
                    refine wpGrow_nil ?_
                    intro W2 hW2
                    have HQ6 := Lib.hid (own_below HQO.out hW2)
                    have HN6 := Lib.hid (own_below HNO.out hW2)
                    have ho6 := ho.below hW2 ho.lt
                    have hl6 := hl.below hW2 hl.lt
                    have hr6 := hr.below hW2 hr.lt
                    have hb6 : Below s w W2 := hb.trans (hW2.mono (by omega))
                    clear ho hl hr hb hW2 FX HOC HAC HQO HNO
                    obtain ⟨gq, capq, hqe, hgq, hgql⟩ := own_form HQ6.out (by have := (List.getElem?_eq_some_iff.1 HFI.out).1; omega)
                    subst hqe
                    obtain ⟨fa, fb⟩ := flatP_get _ _ _ HC.out
                    have hgi : (Fj.map (·.1))[i]? = some ((a1 : Int), (a2 : Int)) := by rw [List.getElem?_map, HFI.out]; rfl
                    obtain ⟨ga, gb⟩ := flatP_get _ _ _ hgi
                    have hdg : gridF Fj a2 a1 = d := by unfold gridF stepsAt; rw [HLK.out]; rfl
                    have hO1 := grid64_get (gridF Fj) a2 a1 ha2 ha1
                    have hO2 := grid64_get (gridF Fj) e2 e1 he2 he1
                    rw [hdg] at hO1
                    have hiF : i < Fj.length := (List.getElem?_eq_some_iff.1 HFI.out).1
                    obtain ⟨nF, hnF⟩ : ∃ nF, Fj.length = nF := ⟨_, rfl⟩
                    have HNF := Lib.hid hnF
                    have FY := Lib.hid (show ∀ w', Below W2.heap.size W2 w' → w'.cell? ⟨gn, j * 2, none⟩ = some (.int .i8 e1) ∧ w'.cell? ⟨gn, j * 2 + 1, none⟩ = some (.int .i8 e2) ∧ w'.cell? ⟨gq, i * 2, none⟩ = some (.int .i8 a1) ∧ w'.cell? ⟨gq, i * 2 + 1, none⟩ = some (.int .i8 a2) ∧ w'.cell? ⟨s + 1 + 1, a2 * 10 + a1, none⟩ = some (.int .i64 d) from fun w' hw' =>
                      ⟨own_cell (own_below HN6.out hw') _ _ fa, own_cell (own_below HN6.out hw') _ _ fb, own_cell (own_below HQ6.out hw') _ _ ga, own_cell (own_below HQ6.out hw') _ _ gb, by rw [(ho6.below hw' ho6.lt).cell, hO1]⟩)
                    rw [hnF] at hiF HQ6
                    have hnF100 : nF ≤ 100 := hnF ▸ hg100
                    have hdi : decide ((i : Int) < (nF : Int)) = true := by simp; omega
                    rw [hnF]
                    have HO2 := Lib.hid hO2
                    have hol6 := ho6.lt
                    clear fa fb ga gb hgi hdg hO1 hO2 hnF
                    go_wp2_with fail
                    refine wp_region_grow 26 (by kernel_rfl) (by kernel_rfl) ?_
                    simp only [List.take_succ_cons, List.take_zero, List.drop_succ_cons, List.drop_zero]
                    iterate 26
                      apply wpGrow_plain rfl
                      · intro w' hw' K hK
                        obtain ⟨f1, f2, f3, f4, f5⟩ := FY.out _ hw'
                        go_wp2_with fail
                        exact hK _ _ rfl hw'
                      simp only [Act.put, List.setIfInBounds_toArray, List.set_cons_succ, List.set_cons_zero]
                    refine wpGrow_nil ?_
                    intro W3 hW3
                    have HQ7 := Lib.hid (own_below HQ6.out hW3)
                    have HN7 := Lib.hid (own_below HN6.out hW3)
                    have ho7 := ho6.below hW3 ho6.lt
                    have hl7 := hl6.below hW3 hl6.lt
                    have hr7 := hr6.below hW3 hr6.lt
                    have hb7 : Below s w W3 := hb6.trans (hW3.mono (by omega))
                    clear ho6 hl6 hr6 hb6 hW3 FY HQ6 HN6
                    obtain ⟨-, -, cO, zO, lO⟩ := ho7.facts
                    have hO2 := HO2.out
                    have HQ8 := Lib.hid (HQ7.out.kept (grown_put W3 (s + 1 + 1) (e2 * 10 + e1) (.int .i64 (d + 1))) (.inr (by simp [Value.ownBlock]; omega)))
                    have HN8 := Lib.hid (HN7.out.kept (grown_put W3 (s + 1 + 1) (e2 * 10 + e1) (.int .i64 (d + 1))) (.inr (by simp [Value.ownBlock]; omega)))
                    have HS8 := Lib.hid (show (W3.setCell ⟨s + 1 + 1, e2 * 10 + e1, none⟩ (.int .i64 (d + 1))).heap.size = W3.heap.size by simp)
                    have ho8 := ho7.setCell (e2 * 10 + e1) (.int .i64 (d + 1))
                    rw [grid64_set _ _ _ _ he2 he1, gridF_new HAL.out] at ho8
                    have hl8 := hl7.setCell_other ⟨s + 1 + 1, e2 * 10 + e1, none⟩ (.int .i64 (d + 1)) (by dsimp only; omega)
                    have hr8 := hr7.setCell_other ⟨s + 1 + 1, e2 * 10 + e1, none⟩ (.int .i64 (d + 1)) (by dsimp only; omega)
                    have hb8 := hb7.setCell (p := ⟨s + 1 + 1, e2 * 10 + e1, none⟩) (by dsimp only; omega) (.int .i64 (d + 1))
                    have hl7s := hl7.lt
                    have HO8 := Lib.hid ho8
                    have HL8 := Lib.hid hl8
                    have HR8 := Lib.hid hr8
                    have HB8 := Lib.hid hb8
                    obtain ⟨fa, fb⟩ := flatP_get _ _ _ HC.out
                    have c81 := own_cell HN8.out _ _ fa
                    have c82 := own_cell HN8.out _ _ fb
                    have hg3 := (HQ7.out.lt gq rfl).2
                    clear fa fb ho8 hl8 hr8 hb8 ho7 hl7 hr7 hb7
                    go_wp2_with (at_builtin; refine wpList_append_own_at _ rfl _ _ 45 rfl (s + 3) 37 i0 (.agg #[.int .i8 0, .int .i8 0]) 2 2 Try.underlying45 HI.out.1 HI.out.2.1 HI.out.2.2.1 HI.out.2.2.2 rfl (by decide) _ _ _ rfl (HQ8.out.alloc _) ⟨W3.heap.size, 0, none⟩ 1 1 [.int .i8 e1, .int .i8 e2] rfl rfl ?c1 ?c2 ?c3 ?c4 ?c5 ?_)
                    case c2 => first | exact ⟨rfl, rfl⟩ | (intro z hz; simp at hz; rcases hz with rfl | rfl <;> rfl)
                    case c3 => unfold maxLen; omega
                    case c4 => omega
                    case c5 => first | omega | (simp; omega)
                    intro v' w9 hown' hgrow _ hat
                    have hB9 : Below s w w9 := (HB8.out.alloc (by simp; omega) _).grown hgrow (by simp; omega) (fun k hk => by have := own_far HQ8.out k hk; omega)
                    have hl9 := held_grown (HL8.out.alloc (.cells #[.int .i8 e1, .int .i8 e2] 37)) (HQ8.out.alloc _) hgrow (by omega)
                    have hr9 := held_grown (HR8.out.alloc (.cells #[.int .i8 e1, .int .i8 e2] 37)) (HQ8.out.alloc _) hgrow (by omega)
                    have ho9 := held_grown (HO8.out.alloc (.cells #[.int .i8 e1, .int .i8 e2] 37)) (HQ8.out.alloc _) hgrow (by omega)
                    have hn9 := (HN8.out.alloc (.cells #[.int .i8 e1, .int .i8 e2] 37)).kept hgrow (.inr (by
                      rcases hap2 with h | h
                      · simp [Value.ownBlock] at h
                      · exact fun e => h e.symm))
                    have hap9 : v'.ownBlock = none ∨ v'.ownBlock ≠ (Value.slice (some ⟨gn, 0, none⟩) nn cv).ownBlock := by
                      refine .inr ?_
                      rcases hat with h | h
                      · rw [h]
                        rcases hap2 with h2 | h2
                        · simp [Value.ownBlock] at h2
                        · exact h2
                      · rw [h]
                        have := (HN7.out.lt gn rfl).2
                        simp [Value.ownBlock]; omega
                    have HV := visit_new (d := d) HAL.out HPT.out
                    have HX := nextK_succ (pass := passG L true) (F := F0) (d := d) HC.out
                    rw [HFJ.out, HV] at HX
                    rw [← HX] at ho9
                    have hq9 : w9.ownsRow (s + 3) 37 2 v' (nextK (passG L true) F0 d NX (j + 1)).length (flatP ((nextK (passG L true) F0 d NX (j + 1)).map (·.1))) := by
                      rw [HX, List.length_append, HNF.out, List.map_append, flatP_append]
                      exact hown'
                    have HQ9 := Lib.hid hq9
                    have HO9 := Lib.hid ho9
                    have HN9 := Lib.hid hn9
                    have HA9 := Lib.hid hap9
                    clear hq9 ho9 hn9 hap9 hown' hgrow hat HV HX c81 c82
                    go_wp2_with fail
                    go_roundw
                    case rel => exact ⟨j + 1, by omega, by go_num, HQ9.out, HA9.out, HN9.out, HO9.out, hl9, hr9, hB9⟩
                    case measure => simp [intOf]; omega
            · obtain rfl : j = nn := by omega
              have hdn : decide ((j : Int) < (j : Int)) = false := by simp
              have hall := nextK_all true HPI.out
              rw [HNX.out, HF0.out, HNN.out] at hall
              rw [hall] at hq ho
              have HQE := Lib.hid hq
              have HOE := Lib.hid ho
              clear hq ho hall hn
              go_wp2_with fail
              go_roundw
              case rel => exact ⟨i + 1, by omega, by go_num, HQE.out, HOE.out, hl, hr, hb⟩
              case measure => simp [intOf]; omega
        · have hlast := found_last (pass := passG L true) (s := ((sx : Int), (sy : Int))) hi (by omega)
          have hdd : decide ((i : Int) < ((found (passG L true) ((sx : Int), (sy : Int)) i).length : Int)) = false := by simp; omega
          rw [hlast] at ho
          obtain ⟨av, cv, rfl⟩ := own_slice hq
          obtain ⟨r1, f1, -, -, l1⟩ := ho.facts
          obtain ⟨r2, f2, -, -, l2⟩ := hr.facts
          have hend := hr.setRow (grid64 (gridF (found (passG L true) ((sx : Int), (sy : Int)) 100)))
          have hB4 := below_setRow' hb (show s ≤ s + 1 by omega) (grid64 (gridF (found (passG L true) ((sx : Int), (sy : Int)) 100)))
          have HE := Lib.hid hend
          have HB4 := Lib.hid hB4
          clear hq hlast hend hB4
          go_wp2_with fail
          exact bodyPost_ret (results_cell_holds (n := 100) rfl wideG64 _ rfl HE.out (by simp)) rfl ⟨rfl, HSz.out ▸ HB4.out⟩
end Go.Proofs.Ytaeenkjbmlgcmaa
