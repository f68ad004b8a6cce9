/- StripeOf, of the model. -/
import Derived.Test.YtcgkbdbgocoilaaStripe
namespace Go.Proofs.Ytcgkbdbgocoilaa
open Go.RowKit
set_option linter.unusedVariables false
attribute [local go_sem ↓] loadRow loadGrid loadLawn loadMirror storeRow storeGrid storeLawn allocRow allocGrid allocLawn buildZero buildSides

def bestO (I p : Nat) : Int := if I < p then (I : Int) else 0
def bestI (I kk p k : Nat) : Int := if I < p ∨ (p = I ∧ kk < k) then (I : Int) else 0

set_option maxRecDepth 100000 in
set_option maxHeartbeats 2000000 in
theorem specStripe_any (L : Lawn) (hL : L.Fits) (across : Bool) (x y : Int) (x0 : -128 ≤ x) (x1 : x ≤ 127) (y0 : -128 ≤ y) (y1 : y ≤ 127) (a m : Int) (hA : StripeAns L across x y a m) (w : World) :
    Calls Try.prog 45 #[.agg L.cells, .agg #[.int .i8 x, .int .i8 y], .bool across] w fun e w' => e = .returned (.tuple #[.int .i64 a, .int .i64 m]) ∧ Below w.heap.size w w' := by
  have HL := Lib.hid hL
  have HA := Lib.hid hA
  obtain ⟨v, hv⟩ : ∃ v, validB L = v := ⟨_, rfl⟩
  obtain ⟨f, hf⟩ : ∃ f, isB L x y = f := ⟨_, rfl⟩
  have HV := Lib.hid hv
  have HF := Lib.hid hf
  clear hv hf hL hA
  go_enter Try.func45, Try.ntmps45
  go_wp2_with fail
  obtain ⟨g0, c0, hb0⟩ := cell_new w L x y
  refine (l01Is_is L HL.out w.heap.size _ _ _ g0 (by omega) (by omega) (by omega) (by omega) _ HF.out).mono ?_
  rintro e w1 ⟨rfl, hb1⟩
  have g1 := g0.below hb1 g0.lt
  have c1 := c0.below hb1 c0.lt
  have hb2 := below_onto hb0 hb1
  clear g0 c0 hb0 hb1
  go_wp2_with fail
  refine (told_any L HL.out w.heap.size _ g1 _).mono ?_
  rw [HV.out]
  rintro e w2 ⟨rfl, hb1⟩
  have g2 := g1.below hb1 g1.lt
  have c2 := c1.below hb1 c1.lt
  have hb3 := below_onto hb2 hb1
  clear hb2 hb1 g1 c1
  cases v <;> cases f
  case true.true =>
    obtain ⟨i, j, hi, hj, rfl, rfl⟩ := cell_nat HV.out HF.out
    obtain ⟨-, -, d2, -, -⟩ := c2.facts
    simp only [told, if_true]
    go_wp2_with fail
    refine (at_any L HL.out w.heap.size i j hi hj _ g2).mono ?_
    rintro e w3 ⟨rfl, hb1⟩
    have g3 := g2.below hb1 g2.lt
    have c3 := c2.below hb1 c2.lt
    have hb4 := below_onto hb3 hb1
    clear hb3 hb1 g2 c2 d2
    have hgk : grassB L i j = (L.kind j i == 0) := by simp [grassB, HF.out]
    cases hk : (L.kind j i == 0)
    case false =>
      have hk2 : (L.kind j i != 0) = true := by simp [bne, hk]
      have he := Lib.hid (show a = 0 ∧ m = 4 by
        cases HA.out with
        | code h => simp [told, HV.out, HF.out] at h
        | none => exact ⟨rfl, rfl⟩
        | some I kk _ h => rw [hgk, hk] at h; cases h)
      clear hgk hk
      go_wp2_with fail
      go_ret2
      exact ⟨by rw [he.out.1, he.out.2]; rfl, hb4⟩
    case true =>
      have hk2 : (L.kind j i != 0) = false := by simp [bne, hk]
      obtain ⟨I, kk, he⟩ : ∃ I kk : Nat, (a = I ∧ m = 0) ∧ Stripe L across i j I kk := by
        cases HA.out with
        | code h => simp [told, HV.out, HF.out] at h
        | none _ _ h => rw [hgk, hk] at h; cases h
        | some I kk _ _ h => exact ⟨I, kk, ⟨rfl, rfl⟩, h⟩
      have HS := Lib.hid he
      obtain ⟨hw1, hh1, -⟩ := validB_true HV.out
      have HC := Lib.hid (fun (b : Nat) (w : World) (h : Holds w b L.cells) => l01Runs_any L.wide.toNat L.high.toNat (by omega) (by omega) (by omega) (by omega) L HL.out (by omega) (by omega) HV.out across b w h)
      clear hgk hk he hw1 hh1
      go_wp2_with fail
      refine (HC.out _ _ g3).mono ?_
      rintro e w4 ⟨vv, rfl, ho, hb1⟩
      have c4 := c3.below hb1 c3.lt
      have hb5 := below_onto hb4 hb1
      obtain ⟨R, hR⟩ : ∃ R, runsT L across = R := ⟨_, rfl⟩
      obtain ⟨n, hn⟩ : ∃ n, R.length = n := ⟨_, rfl⟩
      have hn1 : n ≤ 100 := by have := runsC_le L across; rw [← hn, ← hR]; simpa [runsT] using this
      have ho2 : w4.ownsRow w3.heap.size 61 3 vv n (tripV R) := by
        have hrc : runsC L across = filtB (headB L across) (allC L.wide.toNat L.high.toNat) := by simp [runsC, HV.out]
        rw [← hrc, runsV_trip, show (runsC L across).map (runT L across) = R from hR, show (runsC L across).length = n by rw [← hn, ← hR]; simp [runsT]] at ho
        exact ho
      obtain ⟨av, cv, rfl⟩ := own_slice ho2
      have HO := Lib.hid ho2
      have HN := Lib.hid hn
      have HRR := Lib.hid hR
      clear hb4 hb1 g3 c3 ho ho2 hn hR HC
      go_wp2_with fail
      go_loopw [10, 11] (fun bb q wr => ∃ p : Nat, p ≤ n ∧ q = .int .i64 p ∧ bb = .int .i64 (bestO I p) ∧ Below w4.heap.size w4 wr) (fun _ q _ => n - (intOf q).toNat)
      case atStart => exact ⟨0, by omega, rfl, by simp [bestO], Below.refl _ _⟩
      case round =>
        obtain ⟨p, hp, rfl, rfl, hbr⟩ := hrel
        by_cases hlt : p < n
        · have hd : decide ((p : Int) < (n : Int)) = true := by simp; omega
          obtain ⟨t, ht⟩ : ∃ t, R[p]? = some t := ⟨_, List.getElem?_eq_getElem (by rw [HN.out]; exact hlt)⟩
          have HT := Lib.hid (show (runsT L across)[p]? = some t by rw [HRR.out]; exact ht)
          obtain ⟨⟨s1, s2⟩, ⟨s3, s4⟩, s5, s6⟩ := HS.out.2.small p t HT.out
          obtain ⟨g, cap, heq, -, -⟩ := own_form HO.out (by omega)
          simp only [Value.slice.injEq, true_and] at heq
          obtain ⟨rfl, rfl⟩ := heq
          obtain ⟨f0, f1, f2⟩ := tripV_get _ _ _ ht
          have F := Lib.hid (show ∀ w', Below w4.heap.size w4 w' → w'.cell? ⟨g, p * 3, none⟩ = some (.int .i8 t.1) ∧ w'.cell? ⟨g, p * 3 + 1, none⟩ = some (.int .i8 t.2.1) ∧ w'.cell? ⟨g, p * 3 + 2, none⟩ = some (.int .i8 t.2.2) from fun w' hw' =>
            ⟨own_cell (own_below HO.out hw') _ _ f0, own_cell (own_below HO.out hw') _ _ f1, own_cell (own_below HO.out hw') _ _ f2⟩)
          clear ht f0 f1 f2
          go_wp2_with fail
          go_loopw [10, 12] (fun bb q wi => ∃ k : Nat, (k : Int) ≤ t.2.2 ∧ q = .int .i8 k ∧ bb = .int .i64 (bestI I kk p k) ∧ Below w4.heap.size w4 wi) (fun _ q _ => 11 - (intOf q).toNat)
          case atStart => exact ⟨0, by omega, rfl, by simp [bestO, bestI], hbr⟩
          case round =>
            obtain ⟨k, hk, rfl, rfl, hbi⟩ := hrel
            obtain ⟨e0, e1, e2⟩ := F.out _ hbi
            have hk0 : (0 : Int) ≤ k := by omega
            have hk1 : (k : Int) ≤ 10 := by omega
            by_cases hkl : (k : Int) < t.2.2
            · have hdk : decide ((k : Int) < t.2.2) = true := by simpa using hkl
              have hiff := HS.out.2.hit p t k HT.out hkl
              have HIFF := Lib.hid hiff
              have c5 := c4.below hbi c4.lt
              obtain ⟨-, d5⟩ := c5.later
              clear hiff
              go_wp2_with fail
              clear e0 e1 e2
              refine wp_region_grow 10 (by kernel_rfl) (by kernel_rfl) ?_
              simp only [List.take_succ_cons, List.take_zero, List.drop_succ_cons, List.drop_zero]
              iterate 10
                apply wpGrow_plain rfl
                · intro w' hw' K hK
                  obtain ⟨e0, e1, e2⟩ := F.out _ (below_onto hbi hw')
                  have d5' := d5 _ hw'
                  go_wp2_with (go_at_call 87; refine (backTo_any across _ _ k (by omega) (by omega) (by omega) (by omega) (by omega) _).mono ?_; rintro e w2 ⟨rfl, hb2⟩)
                  first | exact hK _ _ rfl hw' | exact hK _ _ rfl (below_onto hw' hb2)
                simp only [Act.put, List.setIfInBounds_toArray, List.set_cons_succ, List.set_cons_zero]
              refine wpGrow_nil ?_
              intro W2 hW2
              have hb6 := below_onto hbi hW2
              clear d5 c5 hW2
              by_cases hit : p = I ∧ k = kk
              · obtain ⟨q1, q2⟩ := HIFF.out.2 hit
                rw [q1, q2]
                obtain ⟨rfl, rfl⟩ := hit
                clear q1 q2
                go_wp2_with fail
                go_roundw
                case rel => exact ⟨k + 1, by omega, by go_num, by simp [bestI], hb6⟩
                case measure => simp [intOf]; omega
              · have hval := Lib.hid (show bestI I kk p (k + 1) = bestI I kk p k by
                  unfold bestI
                  by_cases h1 : I < p
                  · simp [h1]
                  · by_cases h2 : p = I
                    · have : k ≠ kk := fun e => hit ⟨h2, e⟩
                      by_cases h3 : kk < k
                      · simp [h2, h3, show kk < k + 1 by omega]
                      · simp [h2, h3, show ¬ kk < k + 1 by omega]
                    · simp [h1, h2])
                have HNH := Lib.hid (fun h => hit (HIFF.out.1 h))
                clear hit
                by_cases q1 : posX across t.1 k = i
                · have q2 : ¬ posY across t.2.1 k = j := fun h => HNH.out ⟨q1, h⟩
                  rw [q1]
                  clear q1
                  go_wp2_with fail
                  go_roundw
                  case rel => exact ⟨k + 1, by omega, by go_num, by rw [hval.out], hb6⟩
                  case measure => simp [intOf]; omega
                · go_wp2_with fail
                  go_roundw
                  case rel => exact ⟨k + 1, by omega, by go_num, by rw [hval.out], hb6⟩
                  case measure => simp [intOf]; omega
            · have hdk : decide ((k : Int) < t.2.2) = false := by simp; omega
              have hval := Lib.hid (show bestI I kk p k = bestO I (p + 1) by
                have hl := HS.out.2.long t
                unfold bestI bestO
                by_cases h1 : I < p
                · simp [h1, show I < p + 1 by omega]
                · by_cases h2 : p = I
                  · subst h2
                    have := hl HT.out
                    simp [show kk < k by omega]
                  · simp [h1, h2, show ¬ I < p + 1 by omega])
              rw [hval.out]
              go_wp2_with fail
              go_roundw
              case rel => exact ⟨p + 1, by omega, by go_num, rfl, hbi⟩
              case measure => simp [intOf]; omega
        · have hd : decide ((p : Int) < (n : Int)) = false := by simp; omega
          have hlt2 := HS.out.2.lt
          rw [HRR.out, HN.out] at hlt2
          rw [show bestO I p = I from if_pos (by omega)]
          have hb6 := below_onto hb5 hbr
          go_wp2_with fail
          go_ret2
          exact ⟨by rw [HS.out.1.1, HS.out.1.2]; rfl, hb6⟩
  all_goals
    have he := Lib.hid (show a = 0 ∧ m = told (validB L) (isB L x y) by
      cases HA.out with
      | code h => exact ⟨rfl, rfl⟩
      | none h1 h2 => simp [HV.out, HF.out] at h1 h2
      | some I kk h1 h2 => have := grassB_in h2; simp [HV.out, HF.out] at h1 this)
    simp only [told, if_true, Bool.false_eq_true, if_false]
    go_wp2_with fail
    go_ret2
    exact ⟨by rw [he.out.1, he.out.2, HV.out, HF.out]; rfl, hb3⟩
end Go.Proofs.Ytcgkbdbgocoilaa
