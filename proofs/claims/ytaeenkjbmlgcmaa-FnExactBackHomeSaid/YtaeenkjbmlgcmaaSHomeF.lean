/- HomeFrom, of the model. -/
import Derived.Test.YtaeenkjbmlgcmaaSReachO
import Derived.Test.YtaeenkjbmlgcmaaZJ
import Derived.Test.YtaeenkjbmlgcmaaIHomeF
namespace Go.Proofs.Ytaeenkjbmlgcmaa
open Go.RowKit
set_option linter.unusedVariables false
set_option linter.unusedSimpArgs false
attribute [local go_sem ↓] loadRow loadGrid loadLawn loadMirror storeRow storeGrid storeLawn allocRow allocGrid allocLawn buildZero buildSides loadG64 storeG64 allocG64 buildG64

theorem greedy_step {L : Lawn} (hv : validB L = true) {h c : Pt} (hh : openP L h = true) {f : Nat} (hd : homeD L h c = (f : Int) + 1) : ∃ j, j < 4 ∧ openP L (stepW c j) = true ∧ homeD L h (stepW c j) = f ∧ greedyW L h (f + 1) c = j :: greedyW L h f (stepW c j) ∧ ∀ i, i < j → (openP L (stepW c i) && decide (homeD L h (stepW c i) = (f : Int))) = false := by
  obtain ⟨k0, hk0, hp0, hd0⟩ := homeD_next hv hh hd
  obtain ⟨k, e, hk, hq, hmin⟩ := firstK_some (q := fun k => openP L (stepW c k) && decide (homeD L h (stepW c k) = homeD L h c - 1)) hk0 (by
    simp only [Bool.and_eq_true, decide_eq_true_eq]
    exact ⟨hp0, by rw [hd0, hd]; omega⟩)
  simp only [Bool.and_eq_true, decide_eq_true_eq] at hq
  obtain ⟨hp, hdk⟩ := hq
  refine ⟨k, hk, hp, by rw [hdk, hd]; omega, by simp only [greedyW, e], fun i hi => ?_⟩
  have := hmin i hi
  rw [hd, show (f : Int) + 1 - 1 = f by omega] at this
  exact this
theorem homeD_le {L : Lawn} (hv : validB L = true) {h c : Pt} (hh : openP L h = true) : homeD L h c ≤ 100 := by
  by_cases h0 : 0 ≤ homeD L h c
  · have hm := mem_steps (L := L) (a := h) (c := c) (by unfold homeD at h0; exact h0)
    obtain ⟨j, hj, e⟩ := List.getElem_of_mem hm
    have h1 := (found_good (pass := openP L) hh 100).val j _ (by rw [List.getElem?_eq_getElem hj, e])
    have h2 := good_length (openP_near hv) (found_good (pass := openP L) hh 100)
    unfold homeD
    have h3 := h1.2
    dsimp only at h3
    omega
  · omega
theorem side_step {c : Pt} {k : Nat} (hk : k < 4) : (beside c)[k]? = some (stepW c k) := by
  have : k = 0 ∨ k = 1 ∨ k = 2 ∨ k = 3 := by omega
  rcases this with rfl | rfl | rfl | rfl <;> simp [beside, stepW]
theorem wayS_snoc2 (v : List Nat) (k : Nat) : wayS (v ++ [k]) = wayS v ++ (⟨#[letB k]⟩ : ByteArray) := by rw [wayS_snoc, bytes_snoc]
def strLen : Value → Nat | .string b => b.size | _ => 0

set_option maxRecDepth 100000 in
set_option maxHeartbeats 2000000 in
theorem specHomeF_any (L : Lawn) (hL : L.Fits) (x y x2 y2 : Int) (x0 : -128 ≤ x) (x1 : x ≤ 127) (y0 : -128 ≤ y) (y1 : y ≤ 127) (x20 : -128 ≤ x2) (x21 : x2 ≤ 127) (y20 : -128 ≤ y2) (y21 : y2 ≤ 127) (w : World) :
    Calls Try.prog 21 #[.agg L.cells, .agg #[.int .i8 x, .int .i8 y], .agg #[.int .i8 x2, .int .i8 y2]] w fun e w' => e = .returned (.tuple #[.string (homeA L x y x2 y2), .int .i64 (homeC L x y x2 y2)]) ∧ Below w.heap.size w w' := by
  obtain ⟨v, hv⟩ : ∃ v, validB L = v := ⟨_, rfl⟩
  obtain ⟨f, hf⟩ : ∃ f, isB L x y = f := ⟨_, rfl⟩
  obtain ⟨f2, hf2⟩ : ∃ f, isB L x2 y2 = f := ⟨_, rfl⟩
  obtain ⟨o, ho⟩ : ∃ o, openB L x y = o := ⟨_, rfl⟩
  obtain ⟨o2, ho2⟩ : ∃ o, openB L x2 y2 = o := ⟨_, rfl⟩
  obtain ⟨r, hr⟩ : ∃ r, decide (homeD L (x2, y2) (x, y) < 0) = r := ⟨_, rfl⟩
  obtain ⟨c, hc⟩ : ∃ c, homeC L x y x2 y2 = c := ⟨_, rfl⟩
  obtain ⟨n, hn⟩ : ∃ n, homeA L x y x2 y2 = n := ⟨_, rfl⟩
  have HC := Lib.hid (show c = if v then (if f && f2 then (if o && o2 then (if r then 6 else 0) else 4) else 2) else 1 by
    rw [← hc]; unfold homeC openC; rw [hv, hf, hf2, ho, ho2, ← hr]
    cases v <;> cases f <;> cases f2 <;> cases o <;> cases o2 <;> simp)
  have HN := Lib.hid (show n = if c = 0 then homeS L (x, y) (x2, y2) else ⟨#[]⟩ by rw [← hn]; unfold homeA; rw [hc])
  have HL := Lib.hid hL
  have HV := Lib.hid hv
  have HF := Lib.hid hf
  have HF2 := Lib.hid hf2
  have HO := Lib.hid ho
  have HO2 := Lib.hid ho2
  have HR := Lib.hid hr
  rw [hn, hc]
  clear hv hf hf2 ho ho2 hr hc hn hL
  go_enter Try.func21, Try.ntmps21
  go_wp2_with fail
  obtain ⟨W0, hW0⟩ : ∃ W0, ((w.alloc (.cells L.cells 29)).alloc (.cells #[.int .i8 x, .int .i8 y] 37)).alloc (.cells #[.int .i8 x2, .int .i8 y2] 37) = W0 := ⟨_, rfl⟩
  have g0 : Holds W0 w.heap.size L.cells := by rw [← hW0]; exact ((Holds.new _ _ _).alloc _).alloc _
  have c0 : Holds W0 (w.heap.size + 1) #[.int .i8 x, .int .i8 y] := by rw [← hW0]; exact (Holds.new' _ _ _ _ (by simp)).alloc _
  have b0 : Holds W0 (w.heap.size + 1 + 1) #[.int .i8 x2, .int .i8 y2] := by rw [← hW0]; exact Holds.new' _ _ _ _ (by simp)
  have hb : Below w.heap.size w W0 := by rw [← hW0]; exact (((Below.refl w.heap.size w).alloc (Nat.le_refl _) _).alloc (by simp) _).alloc (by simp; omega) _
  rw [hW0]
  clear hW0
  refine (l01Is_is L HL.out w.heap.size _ _ _ g0 (by omega) (by omega) (by omega) (by omega) _ HF.out).mono ?_
  rintro e w1 ⟨rfl, hb1⟩
  have g1 := g0.below hb1 g0.lt
  have c1 := c0.below hb1 c0.lt
  have b1 := b0.below hb1 b0.lt
  have jB := below_onto hb hb1
  clear g0 c0 b0 hb hb1
  have HTOLD := Lib.hid (fun (f : Bool) (w' : World) (h : Holds w' w.heap.size L.cells) => told_any L HL.out w.heap.size w' h f)
  cases f
  case false =>
    go_wp2_with fail
    refine (HTOLD.out false _ g1).mono ?_
    rw [HV.out]
    rintro e w2 ⟨rfl, hb1⟩
    have jB2 := below_onto jB hb1
    clear g1 c1 b1 jB hb1
    cases v
    all_goals
      have HE := Lib.hid (show n = ⟨#[]⟩ by have h1 := HC.out; have h2 := HN.out; simp at h1; subst h1; simpa using h2)
      have HE2 := Lib.hid HC.out
      simp only [told, if_true, Bool.false_eq_true, if_false]
      go_wp2_with fail
      go_ret2
      exact ⟨by rw [HE.out, HE2.out]; rfl, jB2⟩
  case true =>
    obtain ⟨-, -, d1, -, -⟩ := b1.facts
    go_wp2_with fail
    refine (l01Is_is L HL.out w.heap.size _ _ _ g1 (by omega) (by omega) (by omega) (by omega) _ HF2.out).mono ?_
    rintro e w2 ⟨rfl, hb1⟩
    have g2 := g1.below hb1 g1.lt
    have c2 := c1.below hb1 c1.lt
    have b2 := b1.below hb1 b1.lt
    have jB2 := below_onto jB hb1
    clear g1 c1 b1 jB hb1 d1
    go_wp2_with fail
    refine (HTOLD.out f2 _ g2).mono ?_
    rw [HV.out]
    rintro e w3 ⟨rfl, hb1⟩
    have g3 := g2.below hb1 g2.lt
    have c3 := c2.below hb1 c2.lt
    have b3 := b2.below hb1 b2.lt
    have jB3 := below_onto jB2 hb1
    clear g2 c2 b2 jB2 hb1
    cases v
    case false =>
      have HE := Lib.hid (show n = ⟨#[]⟩ by have h1 := HC.out; have h2 := HN.out; simp at h1; subst h1; simpa using h2)
      have HE2 := Lib.hid HC.out
      simp only [told, Bool.false_eq_true, if_false]
      go_wp2_with fail
      go_ret2
      exact ⟨by rw [HE.out, HE2.out]; rfl, jB3⟩
    case true =>
      cases f2
      case false =>
        have HE := Lib.hid (show n = ⟨#[]⟩ by have h1 := HC.out; have h2 := HN.out; simp at h1; subst h1; simpa using h2)
        have HE2 := Lib.hid HC.out
        simp only [told, if_true, Bool.false_eq_true, if_false]
        go_wp2_with fail
        go_ret2
        exact ⟨by rw [HE.out, HE2.out]; rfl, jB3⟩
      case true =>
        simp only [told, if_true]
        have hxy := isB_near HV.out HF.out
        have hxy2 := isB_near HV.out HF2.out
        obtain ⟨a, rfl⟩ : ∃ a : Nat, x = a := ⟨x.toNat, by omega⟩
        obtain ⟨b, rfl⟩ : ∃ b : Nat, y = b := ⟨y.toNat, by omega⟩
        obtain ⟨a2, rfl⟩ : ∃ a : Nat, x2 = a := ⟨x2.toNat, by omega⟩
        obtain ⟨b2', rfl⟩ : ∃ b : Nat, y2 = b := ⟨y2.toNat, by omega⟩
        have ha : a < 10 := by omega
        have hbb : b < 10 := by omega
        have ha2 : a2 < 10 := by omega
        have hb2 : b2' < 10 := by omega
        have HOP := Lib.hid (show (L.kind b a == 0 || L.kind b a == 3) = o by
          have := HO.out
          simp only [openB, HF.out, Bool.true_and, Int.toNat_natCast] at this
          exact this)
        have HOP2 := Lib.hid (show (L.kind b2' a2 == 0 || L.kind b2' a2 == 3) = o2 by
          have := HO2.out
          simp only [openB, HF2.out, Bool.true_and, Int.toNat_natCast] at this
          exact this)
        clear hxy hxy2
        obtain ⟨-, -, d1, -, -⟩ := c3.facts
        go_wp2_with fail
        refine (open_any L HL.out w.heap.size a b ha hbb _ g3).mono ?_
        rw [HOP.out]
        rintro e w4 ⟨rfl, hb1⟩
        have g4 := g3.below hb1 g3.lt
        have c4 := c3.below hb1 c3.lt
        have b4 := b3.below hb1 b3.lt
        have jB4 := below_onto jB3 hb1
        clear g3 c3 b3 jB3 hb1 d1
        cases o
        case false =>
          have HE := Lib.hid (show n = ⟨#[]⟩ by have h1 := HC.out; have h2 := HN.out; simp at h1; subst h1; simpa using h2)
          have HE2 := Lib.hid HC.out
          go_wp2_with fail
          go_ret2
          exact ⟨by rw [HE.out, HE2.out]; rfl, jB4⟩
        case true =>
          obtain ⟨-, -, d1, -, -⟩ := b4.facts
          go_wp2_with fail
          refine (open_any L HL.out w.heap.size a2 b2' ha2 hb2 _ g4).mono ?_
          rw [HOP2.out]
          rintro e w5 ⟨rfl, hb1⟩
          have g5 := g4.below hb1 g4.lt
          have c5 := c4.below hb1 c4.lt
          have b5 := b4.below hb1 b4.lt
          have jB5 := below_onto jB4 hb1
          clear g4 c4 b4 jB4 hb1 d1
          cases o2
          case false =>
            have HE := Lib.hid (show n = ⟨#[]⟩ by have h1 := HC.out; have h2 := HN.out; simp at h1; subst h1; simpa using h2)
            have HE2 := Lib.hid HC.out
            go_wp2_with fail
            go_ret2
            exact ⟨by rw [HE.out, HE2.out]; rfl, jB5⟩
          case true =>
            obtain ⟨-, -, d1, -, -⟩ := b5.facts
            go_wp2_with fail
            refine (reach_open L HL.out HV.out w.heap.size a2 b2' ha2 hb2 HO2.out _ g5).mono ?_
            obtain ⟨G, hG⟩ : ∃ G, gridF (found (passG L false) ((a2 : Int), (b2' : Int)) 100) = G := ⟨_, rfl⟩
            have HGD := Lib.hid (show ∀ p q : Nat, G q p = homeD L ((a2 : Int), (b2' : Int)) ((p : Int), (q : Int)) from fun p q => by rw [← hG]; rfl)
            obtain ⟨u, hu⟩ : ∃ u, G b a = u := ⟨_, rfl⟩
            have HU := Lib.hid hu
            have HRU := Lib.hid (show decide (u < 0) = r by rw [← HR.out, ← hu, HGD.out])
            rw [hG]
            rintro e w6 ⟨rfl, hb1⟩
            have g6 := g5.below hb1 g5.lt
            have c6 := c5.below hb1 c5.lt
            have b6 := b5.below hb1 b5.lt
            have jB6 := below_onto jB5 hb1
            have hO1 := grid64_get G b a hbb ha
            rw [hu] at hO1
            clear g5 c5 b5 jB5 hb1 d1 hG hu
            go_wp2_with fail
            have kG := Holds.new w6 (grid64 G) 89
            have kg := g6.alloc (.cells (grid64 G) 89)
            have kc := c6.alloc (.cells (grid64 G) 89)
            have kb := b6.alloc (.cells (grid64 G) 89)
            have jB7 := jB6.alloc jB6.size (.cells (grid64 G) 89)
            have hgl := g6.lt
            obtain ⟨s, hs⟩ : ∃ s, w6.heap.size = s := ⟨_, rfl⟩
            obtain ⟨W7, hW7⟩ : ∃ W7, w6.alloc (.cells (grid64 G) 89) = W7 := ⟨_, rfl⟩
            rw [hW7] at kG kb kc kg jB7
            rw [hs] at kG
            have hbs := b6.lt
            rw [hs] at hbs
            rw [hW7, hs]
            have FX := Lib.hid (show ∀ w', Below W7.heap.size W7 w' → (∀ j, w'.cell? ⟨w.heap.size + 1, j, none⟩ = #[Value.int .i8 a, Value.int .i8 b][j]?) ∧ w'.cell? ⟨s, b * 10 + a, none⟩ = some (.int .i64 u) from fun w' hw' => ⟨(kc.below hw' kc.lt).cell, by rw [(kG.below hw' kG.lt).cell, hO1]⟩)
            clear hW7 hs b6 c6 g6 jB6 hO1 hgl
            refine wp_region_grow 7 (by kernel_rfl) (by kernel_rfl) ?_
            simp only [List.take_succ_cons, List.take_zero, List.drop_succ_cons, List.drop_zero]
            iterate 7
              apply wpGrow_plain rfl
              · intro w' hw' K hK
                obtain ⟨f1, f3⟩ := FX.out _ hw'
                go_wp2_with fail
                exact hK _ _ rfl hw'
              simp only [Act.put, List.setIfInBounds_toArray, List.set_cons_succ, List.set_cons_zero]
            refine wpGrow_nil ?_
            intro W8 hW8
            have jB8 := below_onto jB7 hW8
            have mG := kG.below hW8 kG.lt
            have mg := kg.below hW8 kg.lt
            have mc := kc.below hW8 kc.lt
            have mb := kb.below hW8 kb.lt
            clear hW8 FX kG kg kc kb jB7
            cases r with
            | true =>
              have HE := Lib.hid (show n = ⟨#[]⟩ ∧ c = 6 by have h1 := HC.out; have h2 := HN.out; simp at h1; subst h1; exact ⟨by simpa using h2, rfl⟩)
              have hun : u < 0 := of_decide_eq_true HRU.out
              have hud : decide (u < 0) = true := decide_eq_true hun
              go_wp2_with fail
              go_ret2
              exact ⟨by rw [HE.out.1, HE.out.2]; rfl, jB8⟩
            | false =>
              have hun : 0 ≤ u := by have := of_decide_eq_false HRU.out; omega
              have hud : decide (u < 0) = false := decide_eq_false (by omega)
              obtain ⟨f0, rfl⟩ : ∃ f : Nat, u = f := ⟨u.toNat, by omega⟩
              have HD0 := Lib.hid (show homeD L ((a2 : Int), (b2' : Int)) ((a : Int), (b : Int)) = (f0 : Int) by rw [← HGD.out, HU.out])
              have hf100 : f0 ≤ 100 := by have := homeD_le HV.out (show openP L ((a2 : Int), (b2' : Int)) = true from HO2.out) (c := ((a : Int), (b : Int))); have := HD0.out; omega
              have HE := Lib.hid (show n = wayS (greedyW L ((a2 : Int), (b2' : Int)) f0 ((a : Int), (b : Int))) ∧ c = 0 by
                have h1 := HC.out; have h2 := HN.out; simp at h1; subst h1
                rw [if_pos rfl] at h2
                refine ⟨?_, rfl⟩
                rw [h2]
                unfold homeS
                rw [HD0.out, Int.toNat_natCast])
              have hhV : openP L ((a2 : Int), (b2' : Int)) = true := HO2.out
              have h1 : ∀ (f : Nat) (c : Pt), homeD L ((a2 : Int), (b2' : Int)) c = (f : Int) + 1 → ∃ j, j < 4 ∧ openP L (stepW c j) = true ∧ homeD L ((a2 : Int), (b2' : Int)) (stepW c j) = f ∧ greedyW L ((a2 : Int), (b2' : Int)) (f + 1) c = j :: greedyW L ((a2 : Int), (b2' : Int)) f (stepW c j) ∧ ∀ i, i < j → (openP L (stepW c i) && decide (homeD L ((a2 : Int), (b2' : Int)) (stepW c i) = (f : Int))) = false := fun f c hd => greedy_step HV.out hhV hd
              have h2 : ∀ c : Pt, homeD L ((a2 : Int), (b2' : Int)) c = 0 → c = ((a2 : Int), (b2' : Int)) := fun c hc => homeD_zero HV.out hhV hc
              have h3 := homeD_home HV.out hhV
              have h4 : ∀ c : Pt, greedyW L ((a2 : Int), (b2' : Int)) 0 c = [] := fun c => rfl
              obtain ⟨D, hD⟩ : ∃ D, homeD L ((a2 : Int), (b2' : Int)) = D := ⟨_, rfl⟩
              obtain ⟨Y, hY⟩ : ∃ Y, greedyW L ((a2 : Int), (b2' : Int)) = Y := ⟨_, rfl⟩
              rw [hD] at HD0 HGD
              rw [hY] at HE
              simp only [hD, hY] at h1
              rw [hD] at h2 h3
              rw [hY] at h4
              have HST := Lib.hid h1
              have HZR := Lib.hid h2
              have HHM := Lib.hid h3
              have HY0 := Lib.hid h4
              clear h1 h2 h3 h4 hD hY hhV
              obtain ⟨gw, hgw⟩ : ∃ v, Y f0 ((a : Int), (b : Int)) = v := ⟨_, rfl⟩
              rw [hgw] at HE
              have HGW := Lib.hid hgw
              clear hgw HN HC HR HRU HU
              go_wp2_with fail
              go_loopw [10] (fun q wk => ∃ (f : Nat) (p : Pt) (v : List Nat), q = .string (wayS v) ∧ v ++ Y f p = gw ∧ D p = (f : Int) ∧ openP L p = true ∧ v.length + f = f0 ∧ Holds wk w.heap.size L.cells ∧ Holds wk (w.heap.size + 1) #[.int .i8 p.1, .int .i8 p.2] ∧ Holds wk (w.heap.size + 1 + 1) #[.int .i8 a2, .int .i8 b2'] ∧ Holds wk s (grid64 G) ∧ Below w.heap.size w wk) (fun q _ => 101 - strLen q)
              case atStart => exact ⟨f0, ((a : Int), (b : Int)), [], rfl, HGW.out, HD0.out, HO.out, by simp, mg, mc, mb, mG, jB8⟩
              case round =>
                clear mg mc mb mG jB8
                obtain ⟨f, ⟨px, py⟩, v, rfl, hcat, hdp, hop, hlen, mg, mc, mb, mG, jB⟩ := hrel
                cases f with
                | zero =>
                  have hz := HZR.out (px, py) (by rw [hdp]; rfl)
                  simp only [Prod.mk.injEq] at hz
                  obtain ⟨rfl, rfl⟩ := hz
                  have hvg : v = gw := by rw [← hcat, HY0.out]; simp
                  subst hvg
                  obtain ⟨-, -, d1, -, -⟩ := mc.facts
                  obtain ⟨-, -, d2, -, -⟩ := mb.facts
                  clear hcat hdp hop hlen
                  go_wp2_with fail
                  go_ret2
                  exact ⟨by rw [HE.out.1, HE.out.2]; rfl, jB⟩
                | succ f =>
                  obtain ⟨j, hj, hjo, hjd, hjg, hjm⟩ := HST.out f (px, py) (by rw [hdp]; simp)
                  have hnr := openP_near HV.out _ hop
                  have hne : ¬ ((px, py) = ((a2 : Int), (b2' : Int))) := fun e => by
                    rw [e, HHM.out] at hdp
                    simp at hdp
                    omega
                  obtain ⟨p, rfl⟩ : ∃ k : Nat, px = k := ⟨px.toNat, by have := hnr.1.1; simp only at this; omega⟩
                  obtain ⟨q, rfl⟩ : ∃ k : Nat, py = k := ⟨py.toNat, by have := hnr.2.1; simp only at this; omega⟩
                  have hp10 : p < 10 := by have := hnr.1.2; simp only at this; omega
                  have hq10 : q < 10 := by have := hnr.2.2; simp only at this; omega
                  have hne2 : (p = a2 ∧ q ≠ b2') ∨ p ≠ a2 := by
                    simp only [Prod.mk.injEq] at hne
                    omega
                  have HJ := Lib.hid (And.intro hjo (And.intro hjd (And.intro hjg hjm)))
                  have HCAT := Lib.hid hcat
                  have HDP := Lib.hid hdp
                  have HOPP := Lib.hid hop
                  obtain ⟨-, -, d1, -, -⟩ := mc.facts
                  obtain ⟨-, -, d2, -, -⟩ := mb.facts
                  clear hcat hdp hop hjo hjd hjg hjm hne hnr
                  obtain ⟨PB, hPB⟩ : ∃ P : World → Prop, P = fun wk => Holds wk (w.heap.size + 1 + 1) #[.int .i8 a2, .int .i8 b2'] := ⟨_, rfl⟩
                  have PB1 := Lib.hid (show ∀ wk, PB wk ↔ Holds wk (w.heap.size + 1 + 1) #[.int .i8 a2, .int .i8 b2'] from fun wk => by rw [hPB])
                  clear hPB
                  rcases hne2 with ⟨rfl, hne2⟩ | hne2
                  all_goals
                    first
                      | (have hne3 : ¬ ((q : Int) = (b2' : Int)) := by omega)
                      | (have hne3 : ¬ ((p : Int) = (a2 : Int)) := by omega)
                    go_wp2_with fail
                    go_loopw [10, 11] (fun q9 x wk => ∃ k : Nat, q9 = .string (wayS v) ∧ x = .int .i64 k ∧ k ≤ j ∧ Holds wk w.heap.size L.cells ∧ Holds wk (w.heap.size + 1) #[.int .i8 p, .int .i8 q] ∧ PB wk ∧ Holds wk s (grid64 G) ∧ Below w.heap.size w wk) (fun _ x _ => 4 - (intOf x).toNat)
                    case atStart => exact ⟨0, rfl, rfl, by omega, mg, mc, (PB1.out _).2 mb, mG, jB⟩
                    case round =>
                      clear mg mc mb mG jB d1 d2
                      obtain ⟨k, rfl, rfl, hkj, mg, mc, mb0, mG, jB⟩ := hrel
                      have mb := (PB1.out _).1 mb0
                      clear mb0
                      have hk4 : k < 4 := by omega
                      have hdk : decide ((k : Int) < (4 : Int)) = true := by simp; omega
                      obtain ⟨⟨dx, dy⟩, hd⟩ : ∃ d, stepW ((p : Int), (q : Int)) k = d := ⟨_, rfl⟩
                      have hsd := side_step (c := ((p : Int), (q : Int))) hk4
                      rw [hd] at hsd
                      have hfar := beside_far (c := ((p : Int), (q : Int))) (by dsimp only; omega) (List.mem_of_getElem? hsd)
                      dsimp only at hfar
                      have HNX := Lib.hid (fun w => l02Next_any k hk4 (p : Int) (q : Int) (dx, dy) hsd (by omega) (by omega) (by omega) (by omega) w)
                      have HST2 := Lib.hid hd
                      obtain ⟨-, -, d1, -, -⟩ := mc.facts
                      clear hsd hd
                      go_wp2_with fail
                      refine (HNX.out _).mono ?_
                      rintro e w9 ⟨rfl, hb9⟩
                      have ng := (mg.below hb9 mg.lt).alloc (.cells #[.int .i8 dx, .int .i8 dy] 37)
                      have nc := (mc.below hb9 mc.lt).alloc (.cells #[.int .i8 dx, .int .i8 dy] 37)
                      have nb := (mb.below hb9 mb.lt).alloc (.cells #[.int .i8 dx, .int .i8 dy] 37)
                      have nG := (mG.below hb9 mG.lt).alloc (.cells #[.int .i8 dx, .int .i8 dy] 37)
                      have nX := Holds.new w9 #[.int .i8 dx, .int .i8 dy] 37
                      have hs9 : s < w9.heap.size := by have := hb9.size; have := mG.lt; omega
                      have jB2 := (below_onto jB hb9).alloc (by have := jB.size; have := hb9.size; omega) (.cells #[.int .i8 dx, .int .i8 dy] 37)
                      obtain ⟨nx, hnx⟩ : ∃ nx, w9.heap.size = nx := ⟨_, rfl⟩
                      obtain ⟨W9, hW9⟩ : ∃ W, w9.alloc (.cells #[.int .i8 dx, .int .i8 dy] 37) = W := ⟨_, rfl⟩
                      rw [hW9] at ng nc nb nG nX jB2
                      rw [hnx] at nX hs9
                      clear mg mc mb mG jB hb9 d1
                      go_wp2_with fail
                      refine wp_region_grow 19 (by kernel_rfl) (by kernel_rfl) ?_
                      simp only [List.take_succ_cons, List.take_zero, List.drop_succ_cons, List.drop_zero]
                      have xL := nX.later.2
                      apply wpGrow_plain rfl
                      · intro w' hw' K hK
                        have e0 := xL _ hw'
                        go_wp2_with fail
                        exact hK _ _ rfl hw'
                      simp only [Act.put, List.setIfInBounds_toArray, List.set_cons_succ, List.set_cons_zero]
                      obtain ⟨o9, ho9⟩ : ∃ o, openB L dx dy = o := ⟨_, rfl⟩
                      have HO9 := Lib.hid ho9
                      refine wpGrow_plain (v := .bool o9) rfl ?_ ?_
                      · intro w' hw' K hK
                        go_wp2_with fail
                        refine (l02Free_any L HL.out HV.out _ dx dy (by omega) (by omega) (by omega) (by omega) _ (ng.below hw' ng.lt)).mono ?_
                        rw [HO9.out]
                        rintro e w5 ⟨rfl, hb5⟩
                        exact hK _ _ rfl (below_onto hw' hb5)
                      simp only [Act.put, List.setIfInBounds_toArray, List.set_cons_succ, List.set_cons_zero]
                      apply wpGrow_plain rfl
                      · intro w' hw' K hK
                        go_wp2_with fail
                        exact hK _ _ rfl hw'
                      simp only [Act.put, List.setIfInBounds_toArray, List.set_cons_succ, List.set_cons_zero]
                      have HJK := Lib.hid (show k = j → openP L (dx, dy) = true ∧ D (dx, dy) = (f : Int) ∧ Y (f + 1) ((p : Int), (q : Int)) = k :: Y f (dx, dy) from fun e => by
                        have h1 := HJ.out
                        rw [← e, HST2.out] at h1
                        exact ⟨h1.1, h1.2.1, h1.2.2.1⟩)
                      have HJM := Lib.hid (show k < j → (openP L (dx, dy) && decide (D (dx, dy) = (f : Int))) = false from fun e => by
                        have h1 := HJ.out.2.2.2 k e
                        rwa [HST2.out] at h1)
                      cases o9
                      case false =>
                        have hkj2 : k < j := by
                          rcases Nat.lt_or_ge k j with h1 | h1
                          · exact h1
                          · have h2 := (HJK.out (by omega)).1
                            have h3 := HO9.out
                            unfold openP at h2
                            dsimp only at h2
                            rw [h2] at h3
                            cases h3
                        iterate 16
                          apply wpGrow_off rfl
                          simp only [Act.put, List.setIfInBounds_toArray, List.set_cons_succ, List.set_cons_zero]
                        refine wpGrow_nil ?_
                        intro W3 hW3
                        have og := ng.below hW3 ng.lt
                        have oc := nc.below hW3 nc.lt
                        have ob := nb.below hW3 nb.lt
                        have oG := nG.below hW3 nG.lt
                        have jB3 := below_onto jB2 hW3
                        clear hW3 ng nc nb nG nX jB2 xL hW9 hnx ho9
                        go_wp2_with fail
                        go_roundw
                        case rel => exact ⟨k + 1, rfl, by go_num, by omega, og, oc, (PB1.out _).2 ob, oG, jB3⟩
                        case measure => simp [intOf]; omega
                      case true =>
                        have hin := openP_near HV.out (dx, dy) ho9
                        dsimp only at hin
                        obtain ⟨x9, hx9⟩ : ∃ k : Nat, dx = k := ⟨dx.toNat, by omega⟩
                        obtain ⟨y9, hy9⟩ : ∃ k : Nat, dy = k := ⟨dy.toNat, by omega⟩
                        subst hx9
                        subst hy9
                        have hx10 : x9 < 10 := by omega
                        have hy10 : y9 < 10 := by omega
                        obtain ⟨ud, hud9⟩ : ∃ u, G y9 x9 = u := ⟨_, rfl⟩
                        have HUD := Lib.hid (show D ((x9 : Int), (y9 : Int)) = ud by rw [← hud9, HGD.out])
                        have hc1 := grid64_get G y9 x9 hy10 hx10
                        have hc2 := grid64_get G q p hq10 hp10
                        rw [hud9] at hc1
                        rw [HGD.out, HDP.out] at hc2
                        have FX := Lib.hid (show ∀ w', Below W9.heap.size W9 w' → (∀ j, w'.cell? ⟨nx, j, none⟩ = #[Value.int .i8 x9, Value.int .i8 y9][j]?) ∧ (∀ j, w'.cell? ⟨w.heap.size + 1, j, none⟩ = #[Value.int .i8 p, Value.int .i8 q][j]?) ∧ w'.cell? ⟨s, y9 * 10 + x9, none⟩ = some (.int .i64 ud) ∧ w'.cell? ⟨s, q * 10 + p, none⟩ = some (.int .i64 ((f + 1 : Nat) : Int)) from fun w' hw' => ⟨(nX.below hw' nX.lt).cell, (nc.below hw' nc.lt).cell, by rw [(nG.below hw' nG.lt).cell, hc1], by rw [(nG.below hw' nG.lt).cell, hc2]⟩)
                        clear hc1 hc2 hud9 hin ho9 xL
                        iterate 14
                          apply wpGrow_on rfl
                          · intro w' hw' K hK
                            obtain ⟨f1, f2, f3, f4⟩ := FX.out _ hw'
                            go_wp2_with fail
                            exact hK _ _ rfl hw'
                          simp only [Act.put, List.setIfInBounds_toArray, List.set_cons_succ, List.set_cons_zero]
                        refine wpGrow_on (v := .int .i64 (f : Int)) rfl ?_ ?_
                        · intro w' hw' K hK
                          go_wp2_with fail
                          first | exact hK _ _ rfl hw' | exact hK _ _ (by simp) hw'
                        simp only [Act.put, List.setIfInBounds_toArray, List.set_cons_succ, List.set_cons_zero]
                        obtain ⟨e9, he9⟩ : ∃ e, (ud == (f : Int)) = e := ⟨_, rfl⟩
                        have HE9 := Lib.hid he9
                        clear he9
                        refine wpGrow_on (v := .bool e9) rfl ?_ ?_
                        · intro w' hw' K hK
                          have h9 := HE9.out
                          go_wp2_with fail
                          first | exact hK _ _ rfl hw' | exact hK _ _ (by rw [h9]) hw'
                        simp only [Act.put, List.setIfInBounds_toArray, List.set_cons_succ, List.set_cons_zero]
                        refine wpGrow_nil ?_
                        intro W3 hW3
                        have og := ng.below hW3 ng.lt
                        have oc := nc.below hW3 nc.lt
                        have ob := nb.below hW3 nb.lt
                        have oG := nG.below hW3 nG.lt
                        have oX := nX.below hW3 nX.lt
                        have jB3 := below_onto jB2 hW3
                        clear hW3 ng nc nb nG nX jB2 hW9 hnx FX
                        cases e9
                        case false =>
                          have hkj2 : k < j := by
                            rcases Nat.lt_or_ge k j with h1 | h1
                            · exact h1
                            · have h2 := (HJK.out (by omega)).2.1
                              rw [HUD.out] at h2
                              have h3 := HE9.out
                              rw [h2] at h3
                              simp at h3
                          go_wp2_with fail
                          go_roundw
                          case rel => exact ⟨k + 1, rfl, by go_num, by omega, og, oc, (PB1.out _).2 ob, oG, jB3⟩
                          case measure => simp [intOf]; omega
                        case true =>
                          have HKJ := Lib.hid (show k = j by
                            rcases Nat.lt_or_ge k j with h1 | h1
                            · have h2 := HJM.out h1
                              have h3 := HE9.out
                              rw [HUD.out] at h2
                              have h4 : openP L ((x9 : Int), (y9 : Int)) = true := HO9.out
                              rw [h4] at h2
                              simp only [beq_iff_eq] at h3
                              rw [h3] at h2
                              simp at h2
                            · omega)
                          have HKJ2 := Lib.hid (HJK.out HKJ.out)
                          have HWS := Lib.hid (wayS_snoc2 v k)
                          have hvl : (wayS v).size = v.length := wayS_size v
                          obtain ⟨wv, hwv⟩ : ∃ x, wayS v = x := ⟨_, rfl⟩
                          rw [hwv] at HWS hvl
                          have HWV := Lib.hid hwv
                          rw [hwv]
                          clear hwv
                          have hnw := nwes_at k hk4
                          have hadd : ¬ (9223372036854775807 < wv.size + (⟨#[letB k]⟩ : ByteArray).size) := by
                            have : (⟨#[letB k]⟩ : ByteArray).size = 1 := rfl
                            omega
                          obtain ⟨-, -, dX, -, -⟩ := oX.facts
                          obtain ⟨rc, fc, dc, zc, lc⟩ := oc.facts
                          have oc2 := (oc.setCell 0 (.int .i8 x9)).setCell 1 (.int .i8 y9)
                          have og2 := (og.setCell_other ⟨w.heap.size + 1, 0, none⟩ (.int .i8 x9) (by dsimp only; omega)).setCell_other ⟨w.heap.size + 1, 1, none⟩ (.int .i8 y9) (by dsimp only; omega)
                          have ob2 := (ob.setCell_other ⟨w.heap.size + 1, 0, none⟩ (.int .i8 x9) (by dsimp only; omega)).setCell_other ⟨w.heap.size + 1, 1, none⟩ (.int .i8 y9) (by dsimp only; omega)
                          have oG2 := (oG.setCell_other ⟨w.heap.size + 1, 0, none⟩ (.int .i8 x9) (by dsimp only; omega)).setCell_other ⟨w.heap.size + 1, 1, none⟩ (.int .i8 y9) (by dsimp only; omega)
                          have jB4 := (jB3.setCell (p := ⟨w.heap.size + 1, 0, none⟩) (by dsimp only; omega) (.int .i8 x9)).setCell (p := ⟨w.heap.size + 1, 1, none⟩) (by dsimp only; omega) (.int .i8 y9)
                          go_wp2_with fail
                          go_roundw
                          case rel =>
                            refine ⟨f, ((x9 : Int), (y9 : Int)), v ++ [k], by rw [HWS.out], ?_, by rw [HKJ2.out.2.1], HKJ2.out.1, by simp; omega, og2, oc2, (PB1.out _).1 ((PB1.out _).2 ob2), oG2, jB4⟩
                            rw [← HCAT.out, HKJ2.out.2.2]
                            simp
                          case measure =>
                            have h1 : (wv ++ (⟨#[letB k]⟩ : ByteArray)).size = wv.size + 1 := by rw [ByteArray.size_append']; rfl
                            simp only [strLen, List.getD_cons_zero, List.getD_cons_succ, Array.getD, List.getElem_toArray, List.size_toArray]
                            simp [strLen, h1, HWV.out]
                            omega
end Go.Proofs.Ytaeenkjbmlgcmaa
