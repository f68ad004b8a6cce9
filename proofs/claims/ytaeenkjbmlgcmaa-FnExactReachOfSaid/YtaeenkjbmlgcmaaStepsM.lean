/- The search over a method value of an interface (isOpen of a lawn), of the program. Made from XSteps by gen/stepsm.py. -/
import Derived.Test.YtaeenkjbmlgcmaaZG
import Derived.Handy
namespace Go.Proofs.Ytaeenkjbmlgcmaa
open Go.RowKit
set_option linter.unusedVariables false
attribute [local go_sem ↓] loadRow loadGrid loadLawn loadMirror storeRow storeGrid storeLawn allocRow allocGrid allocLawn buildZero buildSides

set_option maxRecDepth 100000 in
set_option maxHeartbeats 2000000 in
theorem steps_anyM (L : Lawn) (pass : Pt → Bool)
    (HP : ∀ (x y : Int) (w : World), Calls Try.prog 78 #[.agg L.cells, .agg #[.int .i8 x, .int .i8 y]] w fun e w' => e = .returned (.bool (pass (x, y))) ∧ Below w.heap.size w w')
    (hp : ∀ c, pass c = true → (0 ≤ c.1 ∧ c.1 < 10) ∧ 0 ≤ c.2 ∧ c.2 < 10) (s : Pt) (hs : pass s = true) (w : World) :
    Calls Try.prog 77 #[.agg #[.int .i8 s.1, .int .i8 s.2], .func (.method "loop.example/g01405/impl.isOpen") #[.iface 29 (.agg L.cells)] #[]] w fun e w' => (∃ b, e = .returned (.map (some b)) ∧ w.heap.size ≤ b ∧ MapIs w' b cellK valI (found pass s 100)) ∧ Below w.heap.size w w' := by
  have HP' := Lib.hid HP
  have Hp := Lib.hid hp
  have Hs := Lib.hid hs
  have hmk := fun w => run_makeMap (P := Try.prog) 112 w
  obtain ⟨i0, hi, hz0, hz1, hz2⟩ := info_parts cellInfo
  have HI := Lib.hid (show Try.prog.info? 37 = some i0 ∧ i0.zero = some (.agg #[.int .i8 0, .int .i8 0]) ∧ i0.size = 2 ∧ i0.bytes = 2 from ⟨hi, hz0, hz1, hz2⟩)
  clear HP hp hs hi hz0 hz1 hz2
  have jM : MapIs ((w.alloc (.cells #[.int .i8 s.1, .int .i8 s.2] 37)).alloc (.map #[] 0)) (w.heap.size + 1) cellK valI [] := by
    have := MapIs.made (enc := cellK) (val := valI) (w.alloc (.cells #[.int .i8 s.1, .int .i8 s.2] 37))
    simpa using this
  obtain ⟨o, hput, hM1⟩ := jM.put cellKey Try.underlying112 s 0
  simp only [cellK, cellV, valI] at hput
  have HM1 := Lib.hid hM1
  have c0 := (((Holds.new w #[.int .i8 s.1, .int .i8 s.2] 37).alloc (.map #[] 0)).putObj (l := w.heap.size + 1) (by omega) o).cell
  clear jM hM1
  go_enter Try.func77, Try.ntmps77
  go_wp2_with fail
  have HS0 := Lib.hid (show w.heap.size = w.heap.size from rfl)
  have hQ0 : QIs ((((w.alloc (.cells #[.int .i8 s.1, .int .i8 s.2] 37)).alloc (.map #[] 0)).putObj (w.heap.size + 1) o).alloc (.cells #[.int .i8 s.1, .int .i8 s.2] 37)) (w.heap.size + 1 + 1) 37 2 (.slice (some ⟨w.heap.size + 1 + 1, 0, none⟩) 1 1) 1 (restQ (found pass s 0) 0) :=
    ⟨w.heap.size + 1 + 1, 0, 1, #[.int .i8 s.1, .int .i8 s.2], rfl, by omega, by
      have := heap_alloc_new (((w.alloc (.cells #[.int .i8 s.1, .int .i8 s.2] 37)).alloc (.map #[] 0)).putObj (w.heap.size + 1) o) (.cells #[.int .i8 s.1, .int .i8 s.2] 37)
      simpa using this, by omega, by simp [maxLen], by simp, by simp [restQ, found, flatP], fun j u hu => by simpa [restQ, found, flatP] using hu⟩
  have hM0 : MapIs ((((w.alloc (.cells #[.int .i8 s.1, .int .i8 s.2] 37)).alloc (.map #[] 0)).putObj (w.heap.size + 1) o).alloc (.cells #[.int .i8 s.1, .int .i8 s.2] 37)) (w.heap.size + 1) cellK valI (found pass s 0) := by
    have := HM1.out.alloc (.cells #[.int .i8 s.1, .int .i8 s.2] 37)
    simpa [alPut, found] using this
  have hB0 : Below w.heap.size w ((((w.alloc (.cells #[.int .i8 s.1, .int .i8 s.2] 37)).alloc (.map #[] 0)).putObj (w.heap.size + 1) o).alloc (.cells #[.int .i8 s.1, .int .i8 s.2] 37)) :=
    ((((Below.refl w.heap.size w).alloc (Nat.le_refl _) _).alloc (by simp) _).grown (grownBy_putObj' _ (w.heap.size + 1) o) (by simp; omega) (fun k e => by cases e; omega)).alloc (by simp; omega) _
  obtain ⟨W0, hW0⟩ : ∃ W0, (((w.alloc (.cells #[.int .i8 s.1, .int .i8 s.2] 37)).alloc (.map #[] 0)).putObj (w.heap.size + 1) o).alloc (.cells #[.int .i8 s.1, .int .i8 s.2] 37) = W0 := ⟨_, rfl⟩
  obtain ⟨B, hB⟩ : ∃ B, w.heap.size = B := ⟨_, rfl⟩
  rw [hW0, hB] at hQ0 hM0 hB0
  rw [hW0, hB]
  have HBw := Lib.hid hB
  clear hW0 hB c0 hput HM1 HS0
  go_loopw [6] (fun q wr => ∃ i n : Nat, i ≤ 100 ∧ n + i = (found pass s i).length ∧ QIs wr (B + 1 + 1) 37 2 q n (restQ (found pass s i) i) ∧ MapIs wr (B + 1) cellK valI (found pass s i) ∧ Below B w wr) (fun q wr => 101 - (mapLen wr (B + 1) - sliceLen q))
  case atStart => exact ⟨0, 1, by omega, rfl, hQ0, hM0, hB0⟩
  case round =>
    obtain ⟨i, n, hi, hn, hq, hM, hb⟩ := hrel
    have HMI := Lib.hid (show mapLen wr (B + 1) - sliceLen _ = i by rw [hM.len, hq.len]; omega)
    obtain ⟨g, off, cap, rfl, hcap, hmax, hBg, hgl⟩ := hq.form
    clear hQ0 hM0 hB0 hmk
    cases n with
    | zero =>
      have hlast := found_last (pass := pass) (s := s) hi (by omega)
      go_wp2_with fail
      go_ret
      refine ⟨⟨B + 1, rfl, by have := HBw.out; omega, ?_⟩, HBw.out ▸ hb⟩
      rw [← hlast]
      exact hM
    | succ m =>
      obtain ⟨p, hpi⟩ : ∃ p, (found pass s i)[i]? = some p := ⟨_, List.getElem?_eq_getElem (by omega)⟩
      have HPI := Lib.hid hpi
      obtain ⟨⟨px, py⟩, d⟩ := p
      have hd := (found_good Hs.out i).val i _ hpi
      have hxy := Hp.out _ ((found_good Hs.out i).pass _ (List.mem_of_getElem? hpi))
      have HQ := Lib.hid hq
      have hr : restQ (found pass s i) i = .int .i8 px :: .int .i8 py :: restQ (found pass s i) (i + 1) := by
        unfold restQ
        rw [List.drop_eq_getElem_cons (by simp; omega)]
        obtain ⟨hl, he⟩ := List.getElem?_eq_some_iff.1 hpi
        simp [flatP, he]
      have e0 := hq.cell 0 (.int .i8 px) (by rw [hr]; rfl)
      have e1 := hq.cell 1 (.int .i8 py) (by rw [hr]; rfl)
      have HR := Lib.hid hr
      rw [Nat.add_zero] at e0
      simp only at hd hxy
      have hcap9 : cap ≤ 9223372036854775807 := by unfold maxLen at hmax; omega
      clear hpi hq hr
      have hfin : ∃ q', (cap = 1 → q' = .slice (some ⟨g, off, none⟩) m 0) ∧ (1 < cap → q' = .slice (some ⟨g, off + 2, none⟩) m (cap - 1)) ∧ QIs wr (B + 1 + 1) 37 2 q' m (restQ (found pass s i) (i + 1)) := by
        rcases (by omega : cap = 1 ∨ 1 < cap) with hc1 | hc1
        · obtain ⟨h0, h1⟩ := HQ.out.cutLast hc1
          have hl : (restQ (found pass s i) i).length = (m + 1) * 2 := by obtain ⟨_, _, _, _, -, -, -, -, -, -, h, -⟩ := HQ.out; exact h
          rw [HR.out] at hl
          have h2 : restQ (found pass s i) (i + 1) = [] := List.eq_nil_of_length_eq_zero (by simp at hl; omega)
          exact ⟨.slice (some ⟨g, off, none⟩) m 0, fun _ => rfl, fun h => by omega, by rw [h2, h0]; exact h1⟩
        · have h1 := HQ.out.cut hc1
          rw [HR.out] at h1
          exact ⟨_, fun h => by omega, fun _ => rfl, h1⟩
      obtain ⟨q', hq1, hq2, hq3⟩ := hfin
      have HQ3 := Lib.hid hq3
      have HQ1 := Lib.hid hq1
      have HQ2 := Lib.hid hq2
      clear hq1 hq2 hq3
      obtain ⟨hxy0, hxy1⟩ := hxy
      obtain ⟨hd0, hd1⟩ := hd
      have hcase : cap = 1 ∨ 1 < cap := by omega
      rcases hcase with hc1 | hc1
      all_goals
        go_wp2_with fail
        first | rw [← HQ2.out hc1] | (rw [← HQ1.out hc1])
        refine (sides_any _).mono ?_
        rintro e w5 ⟨rfl, hb1⟩
        have hA5 : Holds w5 wr.heap.size #[.int .i8 px, .int .i8 py] := (Holds.new wr _ _).below hb1 (by simp)
        have hQ5 := (HQ3.out.below ((Below.refl wr.heap.size wr).alloc (Nat.le_refl _) (.cells #[.int .i8 px, .int .i8 py] 37))).below hb1
        have hM5 := (hM.alloc (.cells #[.int .i8 px, .int .i8 py] 37)).below hb1 (by have := hM.lt; simp; omega)
        have hB5 := (hb.alloc (by omega) (.cells #[.int .i8 px, .int .i8 py] 37)).trans (hb1.mono (by simp; omega))
        have hap : ∀ b, q'.ownBlock = some b → b ≠ wr.heap.size := fun b hb => by have := HQ3.out.far b hb; omega
        obtain ⟨a, ha⟩ : ∃ a, wr.heap.size = a := ⟨_, rfl⟩
        rw [ha] at hA5 hap
        rw [ha]
        have HMI2 := Lib.hid HMI.out
        have hBa : B + 1 + 1 ≤ a := by omega
        clear hM hb hb1 e0 e1 ha
        go_wp2_with fail
        go_loopw [6, 27] (fun q x wk => ∃ k n : Nat, k ≤ 4 ∧ x = .int .i64 k ∧ n + (i + 1) = (sideK pass (found pass s i) ((px, py), d) k).length ∧ QIs wk (B + 1 + 1) 37 2 q n (restQ (sideK pass (found pass s i) ((px, py), d) k) (i + 1)) ∧ (∀ b, q.ownBlock = some b → b ≠ a) ∧ MapIs wk (B + 1) cellK valI (sideK pass (found pass s i) ((px, py), d) k) ∧ Holds wk a #[.int .i8 px, .int .i8 py] ∧ Below B w wk) (fun _ x _ => 4 - (intOf x).toNat)
        case atStart => exact ⟨0, m, by omega, rfl, by rw [sideK_zero]; omega, by rw [sideK_zero]; exact hQ5, hap, by rw [sideK_zero]; exact hM5, hA5, hB5⟩
        case round =>
          obtain ⟨k, n, hk, rfl, hn2, hq, hap2, hM, hA, hb⟩ := hrel
          have hg100 := good_length Hp.out (sideK_good Hs.out HPI.out k)
          clear hQ5 hap hM5 hA5 hB5
          by_cases hlt : k < 4
          · have hdk : decide ((k : Int) < (4 : Int)) = true := by simp; omega
            obtain ⟨c, hc⟩ : ∃ c, (beside (px, py))[k]? = some c := ⟨_, List.getElem?_eq_getElem (by simpa [beside] using hlt)⟩
            have HC := Lib.hid hc
            have HSd := Lib.hid (side_any k hlt (px, py) c hc ⟨hxy0, hxy1⟩)
            obtain ⟨cx, cy⟩ := c
            have hix := fun w => sides_index k hlt w
            have hEs := side_enters k hlt
            have hl := hA.lt
            have HQ5 := Lib.hid hq
            have HN := Lib.hid hn2
            have HAP := Lib.hid hap2
            obtain ⟨-, -, dA, -, -⟩ := hA.facts
            have hml := hM.lt
            clear hc hq hap2 hn2
            go_wp2_with fail
            refine (HSd.out _).mono ?_
            rintro e w6 ⟨rfl, hb6⟩
            have hA6 := hA.below hb6 hA.lt
            have HQ6 := Lib.hid (HQ5.out.below hb6)
            have hM6 := hM.below hb6 hM.lt
            have hB6 : Below B w w6 := hb.trans (hb6.mono (by omega))
            have hlk := ((hM6.alloc (.cells #[.int .i8 cx, .int .i8 cy] 37)).look cellKey Try.underlying112 zero64 (cx, cy)).2
            simp only [cellK, cellV, valI] at hlk
            have hs6 := hA6.lt
            clear hA hM hb hb6 dA HQ5 hix hEs
            cases hal : alLook (sideK pass (found pass s i) ((px, py), d) k) (cx, cy)
            case some u =>
              rw [hal] at hlk
              simp only [Option.getD_some, Option.isSome_some] at hlk
              have HAL := Lib.hid hal
              clear hal
              go_wp2_with fail
              go_roundw
              case rel =>
                refine ⟨k + 1, n, by omega, by go_num, ?_⟩
                rw [sideK_succ HC.out, visit_skip (.inl (by rw [HAL.out]; rfl))]
                exact ⟨HN.out, HQ6.out.below ((Below.refl _ w6).alloc (Nat.le_refl _) _), HAP.out, hM6.alloc _, hA6.alloc _, hB6.alloc (by omega) _⟩
              case measure => simp [intOf]; omega
            case none =>
              rw [hal] at hlk
              simp only [Option.getD_none, Option.isSome_none] at hlk
              have HAL := Lib.hid hal
              clear hal
              have c6 := Holds.new w6 #[.int .i8 cx, .int .i8 cy] 37
              obtain ⟨-, -, dC, -, -⟩ := c6.facts
              go_wp2_with fail
              refine (HP'.out cx cy _).mono ?_
              have HPC := Lib.hid (show pass (cx, cy) = pass (cx, cy) from rfl)
              obtain ⟨pc, hpc⟩ : ∃ pc, pass (cx, cy) = pc := ⟨_, rfl⟩
              rw [hpc]
              rintro e w7 ⟨rfl, hb7⟩
              have HPV := Lib.hid hpc
              have hA7 := (hA6.alloc (.cells #[.int .i8 cx, .int .i8 cy] 37)).below hb7 (by simp; omega)
              have c7 := c6.below hb7 c6.lt
              have HQ7 := Lib.hid ((HQ6.out.below ((Below.refl _ w6).alloc (Nat.le_refl _) (.cells #[.int .i8 cx, .int .i8 cy] 37))).below hb7)
              have hM7 := (hM6.alloc (.cells #[.int .i8 cx, .int .i8 cy] 37)).below hb7 (by have := hM6.lt; simp; omega)
              have hB7 : Below B w w7 := (hB6.alloc (by omega) _).trans (hb7.mono (by simp; omega))
              have hqc : ∀ b, Value.ownBlock _ = some b → b < w6.heap.size := fun b hb => (HQ6.out.far b hb).2
              have HQC := Lib.hid hqc
              have hml7 := hM7.lt
              obtain ⟨nb, hnb⟩ : ∃ nb, w6.heap.size = nb := ⟨_, rfl⟩
              rw [hnb] at c7 HQC hs6
              rw [hnb]
              clear hpc hA6 c6 dC HQ6 hM6 hB6 hb7 hlk hqc hnb
              cases pc
              case false =>
                go_wp2_with fail
                go_roundw
                case rel =>
                  refine ⟨k + 1, n, by omega, by go_num, ?_⟩
                  rw [sideK_succ HC.out, visit_skip (.inr HPV.out)]
                  exact ⟨HN.out, HQ7.out, HAP.out, hM7, hA7, hB7⟩
                case measure => simp [intOf]; omega
              case true =>
                have HLK := Lib.hid (sideK_look Hs.out HPI.out k)
                obtain ⟨-, aL⟩ := hA7.later
                obtain ⟨-, cL⟩ := c7.later
                have c7l := c7.lt
                go_wp2_with fail
                refine wp_region_grow 6 (by kernel_rfl) (by kernel_rfl) ?_
                simp only [List.take_succ_cons, List.take_zero, List.drop_succ_cons, List.drop_zero]
                iterate 6
                  apply wpGrow_plain rfl
                  · intro w' hw' K hK
                    have d1 := aL _ hw'
                    have d2 := cL _ hw'
                    have hlk := ((hM7.below hw' hM7.lt).look cellKey Try.underlying112 zero64 (px, py)).1
                    rw [HLK.out] at hlk
                    simp only [cellK, cellV, valI, Option.getD_some] at hlk
                    go_wp2_with fail
                    exact hK _ _ rfl hw'
                  simp only [Act.put, List.setIfInBounds_toArray, List.set_cons_succ, List.set_cons_zero]
                refine wpGrow_nil ?_
                intro W2 hW2
                have hA8 := hA7.below hW2 hA7.lt
                have c8 := c7.below hW2 c7.lt
                have HQ8 := Lib.hid (HQ7.out.below hW2)
                have hB8 : Below B w W2 := hB7.trans (hW2.mono (by omega))
                obtain ⟨o8, hput8, hM9⟩ := (hM7.below hW2 hM7.lt).put cellKey Try.underlying112 (cx, cy) (d + 1)
                rw [alPut_new _ HAL.out] at hM9
                simp only [cellK, cellV, valI] at hput8
                have hs8 := hA8.lt
                have hn8 := c8.lt
                have c9 := c8.putObj (l := B + 1) (by omega) o8
                have hA9 := hA8.putObj (l := B + 1) (by omega) o8
                have HQ9 := Lib.hid ((HQ8.out.keep (grownBy_putObj' W2 (B + 1) o8) (fun e => by have := (HQ8.out.far _ e).1; omega)).below ((Below.refl _ _).alloc (Nat.le_refl _) (.cells #[.int .i8 cx, .int .i8 cy] 37)))
                have hB9 : Below B w (W2.putObj (B + 1) o8) := hB8.grown (grownBy_putObj' W2 (B + 1) o8) (by omega) (fun k e => by cases e; omega)
                obtain ⟨-, -, d9, -, -⟩ := c9.facts
                have hsz9 : (W2.putObj (B + 1) o8).heap.size = W2.heap.size := by simp
                have HSZ := Lib.hid hsz9
                have hnle : n ≤ 100 := by have := HN.out; omega
                clear hA7 c7 HQ7 hM7 hB7 hW2 aL cL hA8 c8 HQ8 hB8 hsz9
                go_wp2_with (at_builtin; refine wpList_append_q _ rfl _ _ 45 rfl rfl HQ9.out ?cB i0 (.agg #[.int .i8 0, .int .i8 0]) 2 Try.underlying45 HI.out.1 HI.out.2.1 HI.out.2.2.1 HI.out.2.2.2 rfl (by decide) ⟨W2.heap.size, 0, none⟩ 1 [.int .i8 cx, .int .i8 cy] rfl rfl ?c1 ?c2 ?c3 ?c4 ?_)
                case cB => simp; omega
                case c1 =>
                  intro m u hu
                  match m, hu with
                  | 0, hu => simp at hu; subst hu; exact (Holds.new' (W2.putObj (B + 1) o8) #[.int .i8 cx, .int .i8 cy] 37 W2.heap.size HSZ.out.symm).cell 0
                  | 1, hu => simp at hu; subst hu; exact (Holds.new' (W2.putObj (B + 1) o8) #[.int .i8 cx, .int .i8 cy] 37 W2.heap.size HSZ.out.symm).cell 1
                case c2 => intro u hu; simp at hu; rcases hu with rfl | rfl <;> rfl
                case c3 => unfold maxLen; omega
                case c4 => omega
                intro v' w3 hq10 hgrow hown
                have hB10 : Below B w w3 := (hB9.alloc (by simp; omega) (.cells #[.int .i8 cx, .int .i8 cy] 37)).grown hgrow (by simp; omega) (fun b e => by have := (HQ9.out.far b e).1; omega)
                have hA10 : Holds w3 a #[.int .i8 px, .int .i8 py] := by
                  obtain ⟨t, ht⟩ := hA9.alloc (.cells #[.int .i8 cx, .int .i8 cy] 37)
                  exact ⟨t, (hgrow.block a (by simp; omega) (fun e => HAP.out a e.symm rfl)).trans ht⟩
                have hM10 := (hM9.alloc (.cells #[.int .i8 cx, .int .i8 cy] 37)).block (w' := w3) (hgrow.block (B + 1) (by simp; omega) (fun e => by have := (HQ9.out.far _ e.symm).1; omega))
                have hap10 : ∀ b, v'.ownBlock = some b → b ≠ a := fun b e => by
                  rcases hown with h | h
                  · exact HAP.out b (h ▸ e)
                  · have := h b e
                    first | omega | (simp at this; omega)
                have hr10 : restQ (sideK pass (found pass s i) ((px, py), d) k ++ [((cx, cy), d + 1)]) (i + 1) = restQ (sideK pass (found pass s i) ((px, py), d) k) (i + 1) ++ [.int .i8 cx, .int .i8 cy] := by
                  unfold restQ
                  rw [List.map_append, List.drop_append_of_le_length (by simp; have := HN.out; omega), flatP_append]
                  rfl
                rw [← hr10] at hq10
                have HQ10 := Lib.hid hq10
                have HAP10 := Lib.hid hap10
                have HV := Lib.hid (visit_new (d := d) HAL.out HPV.out)
                rw [← sideK_succ (p := ((px, py), d)) HC.out] at HV
                rw [← HV.out] at HQ10 hM10
                have HL := Lib.hid (congrArg List.length HV.out)
                clear hq10 hgrow hown hap10 hr10 hB9 hA9 hM9 d9 c9
                go_wp2_with fail
                go_roundw
                case rel =>
                  exact ⟨k + 1, n + 1, by omega, by go_num, by rw [HL.out, List.length_append, ← HN.out]; simp; omega, HQ10.out, HAP10.out, hM10, hA10, hB10⟩
                case measure => simp [intOf]; omega
          · obtain rfl : k = 4 := by omega
            have hdk : decide (((4 : Nat) : Int) < (4 : Int)) = false := by decide
            have hl100 : i < 100 := by have := good_length Hp.out (found_good Hs.out i); omega
            rw [sideK_all HPI.out] at hn2 hq hM
            have HQE := Lib.hid hq
            have hlen : mapLen wr (B + 1) - sliceLen u6 = i + 1 := by rw [hM.len, hq.len]; omega
            have HLE := Lib.hid hlen
            clear hq hlen
            go_wp2_with fail
            go_roundw
            case rel => exact ⟨i + 1, n, by omega, hn2, HQE.out, hM, hb⟩
            case measure => show 101 - (mapLen _ _ - sliceLen _) < 101 - (mapLen _ _ - sliceLen _); rw [HLE.out, HMI2.out]; omega
end Go.Proofs.Ytaeenkjbmlgcmaa
