/- StripeOf, of the program. -/
import Derived.Test.YtcgkbdbgocoilaaStripeP
namespace Go.Proofs.Ytcgkbdbgocoilaa
open Go.RowKit
set_option linter.unusedVariables false
attribute [local go_sem ↓] loadRow loadGrid loadLawn loadMirror storeRow storeGrid storeLawn allocRow allocGrid allocLawn buildZero buildSides

set_option maxRecDepth 100000 in
set_option maxHeartbeats 400000 in
theorem stripeAt_any (b : Nat) (hx hy x y l : Int) (w : World) (h : Holds w b #[.int .i8 hx, .int .i8 hy]) :
    Calls Try.prog 89 #[.agg #[.int .i8 x, .int .i8 y, .int .i8 l], .pointer (some ⟨b, 0, none⟩)] w fun e w' => e = .returned (.bool (decide (x = hx ∧ y = hy))) ∧ Below w.heap.size w w' := by
  obtain ⟨-, -, c, -, lb⟩ := h.facts
  go_enter Try.func89, Try.ntmps89
  go_wp2_with fail
  all_goals
    go_ret
    exact ⟨ret_bool (by simp [*]), (Below.refl _ _).alloc (Nat.le_refl _) _⟩
theorem stripeAt_is (b : Nat) (hx hy x y l : Int) (v : Bool) (hv : decide (x = hx ∧ y = hy) = v) (w : World) (h : Holds w b #[.int .i8 hx, .int .i8 hy]) :
    Calls Try.prog 89 #[.agg #[.int .i8 x, .int .i8 y, .int .i8 l], .pointer (some ⟨b, 0, none⟩)] w fun e w' => e = .returned (.bool v) ∧ Below w.heap.size w w' := hv ▸ stripeAt_any b hx hy x y l w h

set_option maxRecDepth 100000 in
set_option maxHeartbeats 1000000 in
theorem indexFunc_any (b B n I : Nat) (hx hy : Int) (R : List (Int × Int × Int)) (v : Value) (w : World) (hn : n ≤ 1000) (hR : R.length = n) (hI : I < n) (hu : ∀ (i : Nat) t, R[i]? = some t → ((t.1 = hx ∧ t.2.1 = hy) ↔ i = I))
    (ho : w.ownsRow B 61 3 v n (tripV R)) (h : Holds w b #[.int .i8 hx, .int .i8 hy]) :
    Calls Try.prog 88 #[v, .func (.func 89) #[] #[.pointer (some ⟨b, 0, none⟩)]] w fun e w' => e = .returned (.int .i64 I) ∧ Below w.heap.size w w' := by
  obtain ⟨g, cap, rfl, -, -⟩ := own_form ho (by omega)
  have HO := Lib.hid ho
  have HU := Lib.hid hu
  have HR := Lib.hid hR
  clear ho hu hR
  go_enter Try.func88, Try.ntmps88
  go_wp2_with fail
  go_loopw [5, 8] (fun _ x wr => ∃ i : Nat, i ≤ I ∧ x = .int .i64 i ∧ Below w.heap.size w wr) (fun _ x _ => I + 1 - (intOf x).toNat)
  case atStart => exact ⟨0, by omega, rfl, Below.refl _ _⟩
  case round =>
    obtain ⟨i, hi, rfl, hb⟩ := hrel
    have hd : decide ((i : Int) < (n : Int)) = true := by simp; omega
    obtain ⟨t, ht⟩ : ∃ t, R[i]? = some t := ⟨_, List.getElem?_eq_getElem (by rw [HR.out]; omega)⟩
    have HT := Lib.hid ht
    obtain ⟨f0, f1, f2⟩ := tripV_get _ _ _ ht
    have c0 := own_cell (own_below HO.out hb) _ _ f0
    have c1 := own_cell (own_below HO.out hb) _ _ f1
    have c2 := own_cell (own_below HO.out hb) _ _ f2
    have hh := h.below hb h.lt
    clear ht f0 f1 f2
    by_cases e : i = I
    · have hv := Lib.hid (show decide (t.1 = hx ∧ t.2.1 = hy) = true by simpa using (HU.out i t HT.out).2 e)
      subst e
      go_wp2_with (refine (stripeAt_is b hx hy _ _ _ true hv.out _ hh).mono ?_; rintro e w1 ⟨rfl, hb1⟩)
      have hb2 := below_onto hb hb1
      go_ret
      exact ⟨rfl, hb2⟩
    · have hv := Lib.hid (show decide (t.1 = hx ∧ t.2.1 = hy) = false by
        have := (HU.out i t HT.out).1
        simp only [decide_eq_false_iff_not]
        exact fun h => e (this h))
      go_wp2_with (refine (stripeAt_is b hx hy _ _ _ false hv.out _ hh).mono ?_; rintro e w1 ⟨rfl, hb1⟩)
      have hb2 := below_onto hb hb1
      go_roundw
      case rel => exact ⟨i + 1, by omega, by go_num, hb2⟩
      case measure => simp [intOf]; omega

/-- What StripeOf answers. -/
inductive StripeAns (L : Lawn) (across : Bool) (x y : Int) : Int → Int → Prop
  | code : told (validB L) (isB L x y) ≠ 0 → StripeAns L across x y 0 (told (validB L) (isB L x y))
  | none : validB L = true → isB L x y = true → grassB L x y = false → StripeAns L across x y 0 4
  | some (I kk : Nat) : validB L = true → grassB L x y = true → Stripe L across x y I kk → StripeAns L across x y I 0
theorem stripeAns_ex (L : Lawn) (across : Bool) (x y : Int) : ∃ a m, StripeAns L across x y a m := by
  cases hv : validB L <;> cases hi : isB L x y
  case true.true =>
    cases hg : grassB L x y
    · exact ⟨_, _, .none hv hi hg⟩
    · obtain ⟨I, kk, h⟩ := stripe_of hv across hg
      exact ⟨_, _, .some I kk hv hg h⟩
  all_goals exact ⟨_, _, .code (by simp [told, hv, hi])⟩

set_option maxRecDepth 100000 in
set_option maxHeartbeats 2000000 in
theorem implStripe_any (L : Lawn) (hL : L.Fits) (across : Bool) (x y : Int) (a m : Int) (hA : StripeAns L across x y a m) (w : World) :
    Calls Try.prog 46 #[.agg L.cells, .agg #[.int .i8 x, .int .i8 y], .bool across] w fun e w' => e = .returned (.tuple #[.int .i64 a, .int .i64 m]) ∧ Below w.heap.size w w' := by
  have HL := Lib.hid hL
  have HA := Lib.hid hA
  obtain ⟨v, hv⟩ : ∃ v, validB L = v := ⟨_, rfl⟩
  obtain ⟨f, hf⟩ : ∃ f, isB L x y = f := ⟨_, rfl⟩
  have HV := Lib.hid hv
  have HF := Lib.hid hf
  clear hv hf hL hA
  go_enter Try.func46, Try.ntmps46
  go_wp2_with fail
  have g0 : Holds (((w.alloc (.cells L.cells 30)).alloc (.cells #[.int .i8 x, .int .i8 y] 46)).alloc (.cells #[.int .i8 x, .int .i8 y] 46)) w.heap.size L.cells := ((Holds.new _ _ _).alloc _).alloc _
  have c0 : Holds (((w.alloc (.cells L.cells 30)).alloc (.cells #[.int .i8 x, .int .i8 y] 46)).alloc (.cells #[.int .i8 x, .int .i8 y] 46)) (w.heap.size + 1) #[.int .i8 x, .int .i8 y] := (Holds.new' _ _ _ _ (by simp)).alloc _
  have s0 : Holds (((w.alloc (.cells L.cells 30)).alloc (.cells #[.int .i8 x, .int .i8 y] 46)).alloc (.cells #[.int .i8 x, .int .i8 y] 46)) (w.heap.size + 1 + 1) #[.int .i8 x, .int .i8 y] := Holds.new' _ _ _ _ (by simp)
  have hb : Below w.heap.size w (((w.alloc (.cells L.cells 30)).alloc (.cells #[.int .i8 x, .int .i8 y] 46)).alloc (.cells #[.int .i8 x, .int .i8 y] 46)) := (((Below.refl w.heap.size w).alloc (Nat.le_refl _) _).alloc (by simp) _).alloc (by simp; omega) _
  refine (check_any L HL.out x y _ _ s0).mono ?_
  rw [HV.out, HF.out]
  rintro e w1 ⟨rfl, hb1⟩
  have g1 := g0.below hb1 g0.lt
  have c1 := c0.below hb1 c0.lt
  have hb3 := hb.trans (hb1.mono (by simp; omega))
  clear hb hb1 g0 c0 s0
  cases v <;> cases f
  case true.true =>
    obtain ⟨r1, -, -, -, l1⟩ := g1.facts
    obtain ⟨-, -, d1, -, -⟩ := c1.facts
    simp only [told, if_true]
    obtain ⟨gg, hgg⟩ : ∃ gg, grassB L x y = gg := ⟨_, rfl⟩
    have HGG := Lib.hid hgg
    go_wp2_with fail
    refine (isGrass_any L HV.out HL.out x y _).mono ?_
    rw [hgg]
    rintro e w2 ⟨rfl, hb1⟩
    have g2 := g1.below hb1 g1.lt
    have c2 := c1.below hb1 c1.lt
    have hb4 := below_onto hb3 hb1
    clear hb3 hb1 g1 c1 r1 d1 hgg
    cases gg
    case false =>
      have he := Lib.hid (show a = 0 ∧ m = 4 by
        cases HA.out with
        | code h => simp [told, HV.out, HF.out] at h
        | none => exact ⟨rfl, rfl⟩
        | some I kk _ h => rw [HGG.out] at h; cases h)
      go_wp2_with fail
      go_ret2
      exact ⟨by rw [he.out.1, he.out.2]; rfl, hb4⟩
    case true =>
      obtain ⟨I, kk, he⟩ : ∃ I kk : Nat, (a = I ∧ m = 0) ∧ Stripe L across x y I kk := by
        cases HA.out with
        | code h => simp [told, HV.out, HF.out] at h
        | none _ _ h => rw [HGG.out] at h; cases h
        | some I kk _ _ h => exact ⟨I, kk, ⟨rfl, rfl⟩, h⟩
      have HS := Lib.hid he
      clear he
      go_wp2_with fail
      refine (alongRuns_any across _).mono ?_
      rintro e w3 ⟨rfl, hb1⟩
      have g3 := g2.below hb1 g2.lt
      have c3 := c2.below hb1 c2.lt
      have hb5 := below_onto hb4 hb1
      clear hb4 hb1 g2 c2
      have HBf := Lib.hid (before_any across)
      have hE := before_enters across
      obtain ⟨bf, hbf⟩ : ∃ f, beforeF across = f := ⟨_, rfl⟩
      have HG := Lib.hid (isGrass_any L HV.out HL.out)
      have hxy := isB_in HF.out
      obtain ⟨hw1, hh1, -⟩ := validB_true HV.out
      have hx0 : 0 ≤ x := by omega
      have hx1 : x ≤ 9 := by omega
      have hy0 : 0 ≤ y := by omega
      have hy1 : y ≤ 9 := by omega
      rw [hbf] at HBf hE
      have HE := Lib.hid hE
      have HBF := Lib.hid hbf
      clear hE hbf hxy hw1 hh1
      go_wp2_with fail
      rw [HBF.out]
      obtain ⟨B, hB⟩ : ∃ B, w.heap.size = B := ⟨_, rfl⟩
      rw [hB] at g3 c3 hb5 l1 ⊢
      have HBw := Lib.hid hB
      clear hB
      have hs3 : B + 1 < w3.heap.size := c3.lt
      have hBw3 : B ≤ w.heap.size := by have := HBw.out; omega
      go_loopw [30] (fun _ wr => ∃ j : Nat, j ≤ kk ∧ Holds wr B L.cells ∧ Holds wr (B + 1) #[.int .i8 (negX across x j), .int .i8 (negY across y j)] ∧ Below B w wr) (fun _ wr => (intOf ((rowAt wr (B + 1)).getD 0 undef) + intOf ((rowAt wr (B + 1)).getD 1 undef)).toNat)
      case atStart => exact ⟨0, by omega, g3, by rw [negX_zero, negY_zero]; exact c3, hb5⟩
      case round =>
        obtain ⟨j, hj, h0, h1, hbr⟩ := hrel
        have hk9 := HS.out.2.k9
        have hgj := isB_in (grassB_in (HS.out.2.back j hj))
        have hnb : -1 ≤ negX across x j ∧ negX across x j ≤ 9 ∧ -1 ≤ negY across y j ∧ negY across y j ≤ 9 := by
          cases across <;> simp only [negX, negY] at hgj ⊢ <;> simp at hgj ⊢ <;> omega
        obtain ⟨n1, n2, n3, n4⟩ := hnb
        have HM := Lib.hid h1.row
        clear hgj
        obtain ⟨r0, -⟩ := h0.later
        obtain ⟨-, d1⟩ := h1.later
        have hE := HE.out
        go_wp2_with fail
        refine wp_region_grow 4 (by kernel_rfl) (by kernel_rfl) ?_
        simp only [List.take_succ_cons, List.take_zero, List.drop_succ_cons, List.drop_zero]
        iterate 4
          apply wpGrow_plain rfl
          · intro w' hw' K hK
            have d1' := d1 _ hw'
            go_wp2_with (refine (HBf.out _ _ (by omega) (by omega) (by omega) (by omega) _).mono ?_; rintro e w2 ⟨rfl, hb2⟩)
            first | exact hK _ _ rfl hw' | exact hK _ _ rfl (below_onto hw' hb2)
          simp only [Act.put, List.setIfInBounds_toArray, List.set_cons_succ, List.set_cons_zero]
        refine wpGrow_nil ?_
        intro W2 hW2
        have i0 := h0.below hW2 h0.lt
        have i1 := h1.below hW2 h1.lt
        have hb6 : Below B w W2 := hbr.trans (hW2.mono (by have := h0.lt; omega))
        have hl2 := h0.lt
        clear d1 r0 h0 h1 hbr hW2
        obtain ⟨r0, -, -, -, l0⟩ := i0.facts
        obtain ⟨-, -, d1, -, ld⟩ := i1.facts
        by_cases hjk : j < kk
        · have hgn := HS.out.2.back (j + 1) (by omega)
          have hin := isB_in (grassB_in hgn)
          have HGN := Lib.hid hgn
          have HIN := Lib.hid hin
          clear hgn hin
          go_wp2_with fail
          refine (HG.out _ _ _).mono ?_
          rw [negX_succ, negY_succ, HGN.out]
          rintro e w4 ⟨rfl, hb1⟩
          have k0 := i0.below hb1 i0.lt
          have k1 := i1.below hb1 i1.lt
          have hb7 : Below B w w4 := hb6.trans (hb1.mono (by omega))
          clear i0 i1 hb6 hb1 r0 d1
          obtain ⟨-, -, d1, z1, ld⟩ := k1.facts
          go_wp2_with fail
          refine (HBf.out _ _ (by omega) (by omega) (by omega) (by omega) _).mono ?_
          rw [negX_succ, negY_succ]
          rintro e w5 ⟨rfl, hb1⟩
          have m0 := k0.below hb1 k0.lt
          have m1 := k1.below hb1 k1.lt
          have hb8 : Below B w w5 := hb7.trans (hb1.mono (by omega))
          clear k0 k1 hb7 hb1 d1 z1 hE
          obtain ⟨-, -, d1, z1, ld⟩ := m1.facts
          go_wp2_with fail
          go_roundw
          case rel =>
            exact ⟨j + 1, by omega, (m0.setCell_other _ _ (by simp)).setCell_other _ _ (by simp), (m1.setCell 0 (.int .i8 (negX across x (j + 1)))).setCell 1 (.int .i8 (negY across y (j + 1))), (hb8.setCell (p := ⟨B + 1, 0, none⟩) (by simp) _).setCell (p := ⟨B + 1, 1, none⟩) (by simp) _⟩
          case measure =>
            have hk2 : Holds _ (B + 1) #[.int .i8 (negX across x (j + 1)), .int .i8 (negY across y (j + 1))] := (m1.setCell 0 (.int .i8 (negX across x (j + 1)))).setCell 1 (.int .i8 (negY across y (j + 1)))
            have hin := HIN.out
            rw [hk2.row, HM.out]
            have e1 := negX_succ across x j
            have e2 := negY_succ across y j
            have e3 : stepX across + stepY across = 1 := by cases across <;> rfl
            simp [intOf]; omega
        · obtain rfl : j = kk := by omega
          have hgn := Lib.hid HS.out.2.stop
          go_wp2_with fail
          refine (HG.out _ _ _).mono ?_
          rw [negX_succ, negY_succ, hgn.out]
          rintro e w4 ⟨rfl, hb1⟩
          have k0 := i0.below hb1 i0.lt
          have k1 := i1.below hb1 i1.lt
          have hb7 : Below B w w4 := hb6.trans (hb1.mono (by omega))
          clear i0 i1 hb6 hb1 r0 d1
          obtain ⟨r0, -, -, -, l0⟩ := k0.facts
          have HRU := Lib.hid (implRuns_any L HL.out across)
          clear hE
          go_wp2_with fail
          refine (HRU.out _).mono ?_
          rintro e w5 ⟨⟨v, rfl, ho⟩, hb1⟩
          have m1 := k1.below hb1 k1.lt
          have hb8 : Below B w w5 := hb7.trans (hb1.mono (by omega))
          rw [runsV_trip] at ho
          have HO := Lib.hid ho
          have hlen := Lib.hid (show (runsT L across).length = (runsC L across).length by simp [runsT])
          have hle := runsC_le L across
          clear ho k0 k1 hb7 hb1 r0
          go_wp2_with fail
          refine (indexFunc_any (B + 1) _ _ I _ _ (runsT L across) _ _ (by omega) hlen.out (by rw [← hlen.out]; exact HS.out.2.lt) HS.out.2.head HO.out m1).mono ?_
          rintro e w6 ⟨rfl, hb1⟩
          have hb9 : Below B w w6 := hb8.trans (hb1.mono (by have := m1.lt; omega))
          clear hb8 hb1 m1
          go_wp2_with fail
          go_ret2
          exact ⟨by rw [HS.out.1.1, HS.out.1.2]; rfl, HBw.out ▸ hb9⟩
  all_goals
    have he := Lib.hid (show a = 0 ∧ m = told (validB L) (isB L x y) by
      cases HA.out with
      | code h => exact ⟨rfl, rfl⟩
      | none h1 h2 => simp [HV.out, HF.out] at h1 h2
      | some I kk h1 h2 => have := grassB_in h2; simp [HV.out, HF.out] at h1 this)
    simp only [told, if_true, Bool.false_eq_true, if_false]
    go_wp2_with fail
    go_ret2
    exact ⟨by rw [he.out.1, he.out.2, HV.out, HF.out]; rfl, hb3⟩
end Go.Proofs.Ytcgkbdbgocoilaa
