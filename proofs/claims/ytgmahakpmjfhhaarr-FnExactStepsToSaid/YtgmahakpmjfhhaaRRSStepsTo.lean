/- StepsTo, of the model. -/
import Derived.Test.YtgmahakpmjfhhaaRRSReachO
import Derived.Test.YtgmahakpmjfhhaaRRIStepsTo
namespace Go.Proofs.YtgmahakpmjfhhaaRR
open Go.RowKit
set_option linter.unusedVariables false
attribute [local go_sem ↓] loadRow loadGrid loadLawn loadMirror storeRow storeGrid storeLawn allocRow allocGrid allocLawn buildZero buildSides loadG64 storeG64 allocG64 buildG64

set_option maxRecDepth 100000 in
set_option maxHeartbeats 2000000 in
theorem specStepsTo_any (L : Lawn) (hL : L.Fits) (x y x2 y2 : Int) (x0 : -128 ≤ x) (x1 : x ≤ 127) (y0 : -128 ≤ y) (y1 : y ≤ 127) (x20 : -128 ≤ x2) (x21 : x2 ≤ 127) (y20 : -128 ≤ y2) (y21 : y2 ≤ 127) (w : World) :
    Calls Try.prog 60 #[.agg L.cells, .agg #[.int .i8 x, .int .i8 y], .agg #[.int .i8 x2, .int .i8 y2]] w fun e w' => e = .returned (.tuple #[.int .i64 (toN L x y x2 y2), .int .i64 (toC L x y x2 y2)]) ∧ Below w.heap.size w w' := by
  obtain ⟨v, hv⟩ : ∃ v, validB L = v := ⟨_, rfl⟩
  obtain ⟨f, hf⟩ : ∃ f, isB L x y = f := ⟨_, rfl⟩
  obtain ⟨f2, hf2⟩ : ∃ f, isB L x2 y2 = f := ⟨_, rfl⟩
  obtain ⟨o, ho⟩ : ∃ o, openB L x y = o := ⟨_, rfl⟩
  obtain ⟨o2, ho2⟩ : ∃ o, openB L x2 y2 = o := ⟨_, rfl⟩
  obtain ⟨r, hr⟩ : ∃ r, toR L x y x2 y2 = r := ⟨_, rfl⟩
  obtain ⟨c, hc⟩ : ∃ c, toC L x y x2 y2 = c := ⟨_, rfl⟩
  obtain ⟨n, hn⟩ : ∃ n, toN L x y x2 y2 = n := ⟨_, rfl⟩
  have HC := Lib.hid (show c = if v then (if f && f2 then (if o && o2 then (if r.isSome then 0 else 6) else 4) else 2) else 1 by rw [← hc]; unfold toC; rw [hv, hf, hf2, ho, ho2, hr])
  have HN := Lib.hid (show n = if c = 0 then r.getD 0 else 0 by rw [← hn]; unfold toN; rw [hc, hr])
  have HL := Lib.hid hL
  have HV := Lib.hid hv
  have HF := Lib.hid hf
  have HF2 := Lib.hid hf2
  have HO := Lib.hid ho
  have HO2 := Lib.hid ho2
  have HR := Lib.hid (show alLook (found (openP L) (x, y) 100) (x2, y2) = r from hr)
  rw [hn, hc]
  clear hv hf hf2 ho ho2 hr hc hn hL
  go_enter Try.func60, Try.ntmps60
  go_wp2_with fail
  obtain ⟨W0, hW0⟩ : ∃ W0, ((w.alloc (.cells L.cells 28)).alloc (.cells #[.int .i8 x, .int .i8 y] 35)).alloc (.cells #[.int .i8 x2, .int .i8 y2] 35) = W0 := ⟨_, rfl⟩
  have g0 : Holds W0 w.heap.size L.cells := by rw [← hW0]; exact ((Holds.new _ _ _).alloc _).alloc _
  have c0 : Holds W0 (w.heap.size + 1) #[.int .i8 x, .int .i8 y] := by rw [← hW0]; exact (Holds.new' _ _ _ _ (by simp)).alloc _
  have b0 : Holds W0 (w.heap.size + 1 + 1) #[.int .i8 x2, .int .i8 y2] := by rw [← hW0]; exact Holds.new' _ _ _ _ (by simp)
  have hb : Below w.heap.size w W0 := by rw [← hW0]; exact (((Below.refl w.heap.size w).alloc (Nat.le_refl _) _).alloc (by simp) _).alloc (by simp; omega) _
  rw [hW0]
  clear hW0
  refine (l01Is_is L HL.out w.heap.size _ _ _ g0 (by omega) (by omega) (by omega) (by omega) _ HF.out).mono ?_
  rintro e w1 ⟨rfl, hb1⟩
  have g1 := g0.below hb1 g0.lt
  have c1 := c0.below hb1 c0.lt
  have b1 := b0.below hb1 b0.lt
  have jB := below_onto hb hb1
  clear g0 c0 b0 hb hb1
  have HTOLD := Lib.hid (fun (f : Bool) (w' : World) (h : Holds w' w.heap.size L.cells) => told_any L HL.out w.heap.size w' h f)
  cases f
  case false =>
    go_wp2_with fail
    refine (HTOLD.out false _ g1).mono ?_
    rw [HV.out]
    rintro e w2 ⟨rfl, hb1⟩
    have jB2 := below_onto jB hb1
    clear g1 c1 b1 jB hb1
    cases v
    all_goals
      have HE := Lib.hid (show n = 0 by have h1 := HC.out; have h2 := HN.out; simp at h1; subst h1; simpa using h2)
      have HE2 := Lib.hid HC.out
      simp only [told, if_true, Bool.false_eq_true, if_false]
      go_wp2_with fail
      go_ret2
      exact ⟨by rw [HE.out, HE2.out]; rfl, jB2⟩
  case true =>
    obtain ⟨-, -, d1, -, -⟩ := b1.facts
    go_wp2_with fail
    refine (l01Is_is L HL.out w.heap.size _ _ _ g1 (by omega) (by omega) (by omega) (by omega) _ HF2.out).mono ?_
    rintro e w2 ⟨rfl, hb1⟩
    have g2 := g1.below hb1 g1.lt
    have c2 := c1.below hb1 c1.lt
    have b2 := b1.below hb1 b1.lt
    have jB2 := below_onto jB hb1
    clear g1 c1 b1 jB hb1 d1
    go_wp2_with fail
    refine (HTOLD.out f2 _ g2).mono ?_
    rw [HV.out]
    rintro e w3 ⟨rfl, hb1⟩
    have g3 := g2.below hb1 g2.lt
    have c3 := c2.below hb1 c2.lt
    have b3 := b2.below hb1 b2.lt
    have jB3 := below_onto jB2 hb1
    clear g2 c2 b2 jB2 hb1
    cases v
    case false =>
      have HE := Lib.hid (show n = 0 by have h1 := HC.out; have h2 := HN.out; simp at h1; subst h1; simpa using h2)
      have HE2 := Lib.hid HC.out
      simp only [told, Bool.false_eq_true, if_false]
      go_wp2_with fail
      go_ret2
      exact ⟨by rw [HE.out, HE2.out]; rfl, jB3⟩
    case true =>
      cases f2
      case false =>
        have HE := Lib.hid (show n = 0 by have h1 := HC.out; have h2 := HN.out; simp at h1; subst h1; simpa using h2)
        have HE2 := Lib.hid HC.out
        simp only [told, if_true, Bool.false_eq_true, if_false]
        go_wp2_with fail
        go_ret2
        exact ⟨by rw [HE.out, HE2.out]; rfl, jB3⟩
      case true =>
        simp only [told, if_true]
        have hxy := isB_near HV.out HF.out
        have hxy2 := isB_near HV.out HF2.out
        obtain ⟨a, rfl⟩ : ∃ a : Nat, x = a := ⟨x.toNat, by omega⟩
        obtain ⟨b, rfl⟩ : ∃ b : Nat, y = b := ⟨y.toNat, by omega⟩
        obtain ⟨a2, rfl⟩ : ∃ a : Nat, x2 = a := ⟨x2.toNat, by omega⟩
        obtain ⟨b2', rfl⟩ : ∃ b : Nat, y2 = b := ⟨y2.toNat, by omega⟩
        have ha : a < 10 := by omega
        have hbb : b < 10 := by omega
        have ha2 : a2 < 10 := by omega
        have hb2 : b2' < 10 := by omega
        have HOP := Lib.hid (show (L.kind b a == 0 || L.kind b a == 3) = o by
          have := HO.out
          simp only [openB, HF.out, Bool.true_and, Int.toNat_natCast] at this
          exact this)
        have HOP2 := Lib.hid (show (L.kind b2' a2 == 0 || L.kind b2' a2 == 3) = o2 by
          have := HO2.out
          simp only [openB, HF2.out, Bool.true_and, Int.toNat_natCast] at this
          exact this)
        clear hxy hxy2
        obtain ⟨-, -, d1, -, -⟩ := c3.facts
        go_wp2_with fail
        refine (open_any L HL.out w.heap.size a b ha hbb _ g3).mono ?_
        rw [HOP.out]
        rintro e w4 ⟨rfl, hb1⟩
        have g4 := g3.below hb1 g3.lt
        have c4 := c3.below hb1 c3.lt
        have b4 := b3.below hb1 b3.lt
        have jB4 := below_onto jB3 hb1
        clear g3 c3 b3 jB3 hb1 d1
        cases o
        case false =>
          have HE := Lib.hid (show n = 0 by have h1 := HC.out; have h2 := HN.out; simp at h1; subst h1; simpa using h2)
          have HE2 := Lib.hid HC.out
          go_wp2_with fail
          go_ret2
          exact ⟨by rw [HE.out, HE2.out]; rfl, jB4⟩
        case true =>
          obtain ⟨-, -, d1, -, -⟩ := b4.facts
          go_wp2_with fail
          refine (open_any L HL.out w.heap.size a2 b2' ha2 hb2 _ g4).mono ?_
          rw [HOP2.out]
          rintro e w5 ⟨rfl, hb1⟩
          have g5 := g4.below hb1 g4.lt
          have c5 := c4.below hb1 c4.lt
          have b5 := b4.below hb1 b4.lt
          have jB5 := below_onto jB4 hb1
          clear g4 c4 b4 jB4 hb1 d1
          cases o2
          case false =>
            have HE := Lib.hid (show n = 0 by have h1 := HC.out; have h2 := HN.out; simp at h1; subst h1; simpa using h2)
            have HE2 := Lib.hid HC.out
            go_wp2_with fail
            go_ret2
            exact ⟨by rw [HE.out, HE2.out]; rfl, jB5⟩
          case true =>
            obtain ⟨-, -, d1, -, -⟩ := c5.facts
            go_wp2_with fail
            refine (reach_open L HL.out HV.out w.heap.size a b ha hbb HO.out _ g5).mono ?_
            obtain ⟨G, hG⟩ : ∃ G, gridF (found (passG L false) ((a : Int), (b : Int)) 100) = G := ⟨_, rfl⟩
            obtain ⟨u, hu⟩ : ∃ u, G b2' a2 = u := ⟨_, rfl⟩
            have hgood := found_good (pass := openP L) (s := ((a : Int), (b : Int))) HO.out 100
            have hur : u = r.getD (-1) ∧ (r.isSome = true → 0 ≤ u) := by
              have e : u = stepsAt (found (openP L) ((a : Int), (b : Int)) 100) a2 b2' := by rw [← hu, ← hG]; rfl
              unfold stepsAt at e
              rw [HR.out] at e
              refine ⟨e, fun h => ?_⟩
              cases hr : r with
              | none => rw [hr] at h; cases h
              | some q =>
                rw [hr] at e
                have := good_some hgood (HR.out.trans hr)
                simpa [e] using this
            have HUR := Lib.hid hur
            have HU := Lib.hid hu
            rw [hG]
            rintro e w6 ⟨rfl, hb1⟩
            have b6 := b5.below hb1 b5.lt
            have jB6 := below_onto jB5 hb1
            have hO1 := grid64_get G b2' a2 hb2 ha2
            rw [hu] at hO1
            clear g5 c5 b5 jB5 hb1 d1 hG hu hgood hur
            go_wp2_with fail
            have kG := Holds.new w6 (grid64 G) 138
            have kb := b6.alloc (.cells (grid64 G) 138)
            have jB7 := jB6.alloc jB6.size (.cells (grid64 G) 138)
            obtain ⟨s, hs⟩ : ∃ s, w6.heap.size = s := ⟨_, rfl⟩
            obtain ⟨W7, hW7⟩ : ∃ W7, w6.alloc (.cells (grid64 G) 138) = W7 := ⟨_, rfl⟩
            rw [hW7] at kG kb jB7
            rw [hs] at kG
            rw [hW7, hs]
            have FX := Lib.hid (show ∀ w', Below W7.heap.size W7 w' → (∀ j, w'.cell? ⟨w.heap.size + 1 + 1, j, none⟩ = #[Value.int .i8 a2, Value.int .i8 b2'][j]?) ∧ w'.cell? ⟨s, b2' * 10 + a2, none⟩ = some (.int .i64 u) from fun w' hw' => ⟨(kb.below hw' kb.lt).cell, by rw [(kG.below hw' kG.lt).cell, hO1]⟩)
            clear hW7 hs kG b6 jB6 hO1
            refine wp_region_grow 7 (by kernel_rfl) (by kernel_rfl) ?_
            simp only [List.take_succ_cons, List.take_zero, List.drop_succ_cons, List.drop_zero]
            iterate 7
              apply wpGrow_plain rfl
              · intro w' hw' K hK
                obtain ⟨f1, f3⟩ := FX.out _ hw'
                go_wp2_with fail
                exact hK _ _ rfl hw'
              simp only [Act.put, List.setIfInBounds_toArray, List.set_cons_succ, List.set_cons_zero]
            refine wpGrow_nil ?_
            intro W8 hW8
            have jB8 := below_onto jB7 hW8
            cases hr : r with
            | none =>
              have HE := Lib.hid (show n = 0 ∧ c = 6 by have h1 := HC.out; have h2 := HN.out; rw [hr] at h1; simp at h1; subst h1; exact ⟨by simpa using h2, rfl⟩)
              have hun : u < 0 := by have := HUR.out.1; rw [hr] at this; simp at this; omega
              clear hr
              go_wp2_with fail
              go_ret2
              exact ⟨by rw [HE.out.1, HE.out.2]; rfl, jB8⟩
            | some q =>
              have HE := Lib.hid (show n = u ∧ c = 0 by
                have h1 := HC.out; have h2 := HN.out; have h3 := HUR.out.1
                rw [hr] at h1 h2 h3; simp at h1; subst h1; simp at h2 h3; exact ⟨by omega, rfl⟩)
              have hun : 0 ≤ u := HUR.out.2 (by rw [hr]; rfl)
              have FX2 := Lib.hid (show ∀ w', Below W8.heap.size W8 w' → (∀ j, w'.cell? ⟨w.heap.size + 1 + 1, j, none⟩ = #[Value.int .i8 a2, Value.int .i8 b2'][j]?) ∧ w'.cell? ⟨s, b2' * 10 + a2, none⟩ = some (.int .i64 u) from fun w' (h : Below W8.heap.size W8 w') => FX.out w' (below_onto hW8 h))
              have hud : decide (u < 0) = false := by simp; omega
              clear hr hW8 FX HUR HU HR HC HN kb
              go_wp2_with fail
              refine wp_region_grow 8 (by kernel_rfl) (by kernel_rfl) ?_
              simp only [List.take_succ_cons, List.take_zero, List.drop_succ_cons, List.drop_zero]
              iterate 8
                apply wpGrow_plain rfl
                · intro w' hw' K hK
                  obtain ⟨f1, f3⟩ := FX2.out _ hw'
                  go_wp2_with fail
                  exact hK _ _ rfl hw'
                simp only [Act.put, List.setIfInBounds_toArray, List.set_cons_succ, List.set_cons_zero]
              refine wpGrow_nil ?_
              intro W9 hW9
              have jB9 := below_onto jB8 hW9
              clear hW9 jB8
              go_wp2_with fail
              go_ret2
              exact ⟨by rw [HE.out.1, HE.out.2]; rfl, jB9⟩
end Go.Proofs.YtgmahakpmjfhhaaRR
