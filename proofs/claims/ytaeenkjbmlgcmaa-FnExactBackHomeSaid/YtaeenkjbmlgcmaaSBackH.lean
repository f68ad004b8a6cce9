/- BackHome, of the model. -/
import Derived.Test.YtaeenkjbmlgcmaaBackP
import Derived.Test.YtaeenkjbmlgcmaaSTold
namespace Go.Proofs.Ytaeenkjbmlgcmaa
open Go.RowKit
set_option linter.unusedVariables false
set_option linter.unusedSimpArgs false
attribute [local go_sem ↓] loadRow loadGrid loadLawn loadMirror storeRow storeGrid storeLawn allocRow allocGrid allocLawn buildZero buildSides loadG64 storeG64 allocG64 buildG64

theorem own_oneC (w : World) (x y : Int) : (w.alloc (.cells #[.int .i8 x, .int .i8 y] 37)).ownsRow w.heap.size 37 2 (.slice (some ⟨w.heap.size, 0, none⟩) 1 1) 1 [.int .i8 x, .int .i8 y] :=
  ⟨rfl, .inr ⟨w.heap.size, 1, #[.int .i8 x, .int .i8 y], rfl, Nat.le_refl _, heap_alloc_new _ _, by omega, by simp [maxLen], by rfl, by rfl⟩⟩
theorem own_setCell_low {W : World} {B n : Nat} {v : Value} {e : TypeId} {size : Nat} {xs : List Value} (h : W.ownsRow B e size v n xs) (g i : Nat) (u : Value) (hg : g < B) : (W.setCell ⟨g, i, none⟩ u).ownsRow B e size v n xs :=
  World.ownsRow.kept h (row := some g) (grown_set (grown_refl W _) i u) (.inr fun e => by have := own_far h g e; omega)
theorem toldC_open (L : Lawn) (x y hx hy : Int) : toldC L [(hx, hy), (x, y)] true = openC L x y hx hy := by
  unfold toldC openC
  have e : ∀ a b : Bool, (true && [(hx, hy), (x, y)].all (isP L)) = (isB L x y && isB L hx hy) := fun _ _ => by
    simp only [List.all_cons, List.all_nil, Bool.and_true, Bool.true_and, isP]
    rw [Bool.and_comm]
  have e2 : [(hx, hy), (x, y)].all (openP L) = (openB L x y && openB L hx hy) := by
    simp only [List.all_cons, List.all_nil, Bool.and_true, openP]
    rw [Bool.and_comm]
  rw [e true true, e2]

set_option maxRecDepth 100000 in
set_option maxHeartbeats 4000000 in
theorem specBackH_any (L : Lawn) (hL : L.Fits) (hx hy x y : Int) (hx0 : -128 ≤ hx) (hx1 : hx ≤ 127) (hy0 : -128 ≤ hy) (hy1 : hy ≤ 127) (x0 : -128 ≤ x) (x1 : x ≤ 127) (y0 : -128 ≤ y) (y1 : y ≤ 127) (w : World) :
    Calls Try.prog 38 #[.agg L.cells, .agg #[.int .i8 hx, .int .i8 hy], .agg #[.int .i8 x, .int .i8 y]] w fun e w' => (∃ v, e = .returned (.tuple #[v, .int .i64 (homeC L x y hx hy)]) ∧ w'.ownsRow w.heap.size 37 2 v (backL L (x, y) (hx, hy)).length (flatP (backL L (x, y) (hx, hy)))) ∧ Below w.heap.size w w' := by
  have HTO := Lib.hid (fun (b g : Nat) (w : World) (h : Holds w b L.cells) (hc : ∀ w', Below w.heap.size w w' → ∀ (i : Nat) (c : Pt), [(hx, hy), (x, y)][i]? = some c → w'.cell? ⟨g, i * 2, none⟩ = some (.int .i8 c.1) ∧ w'.cell? ⟨g, i * 2 + 1, none⟩ = some (.int .i8 c.2)) =>
    l04Told_list L hL [(hx, hy), (x, y)] 2 2 rfl (by omega) (fun c hc => by
      simp only [List.mem_cons, List.not_mem_nil, or_false] at hc
      rcases hc with rfl | rfl
      · exact ⟨⟨hx0, hx1⟩, hy0, hy1⟩
      · exact ⟨⟨x0, x1⟩, y0, y1⟩) true b g w h hc)
  rw [toldC_open] at HTO
  have HL := Lib.hid hL
  obtain ⟨c, hc⟩ : ∃ c, openC L x y hx hy = c := ⟨_, rfl⟩
  have HC := Lib.hid hc
  rw [hc] at HTO
  have HHC := Lib.hid (show homeC L x y hx hy = if c = 0 then (if homeD L (hx, hy) (x, y) < 0 then 6 else 0) else c by rw [← hc]; rfl)
  have HBL := Lib.hid (show backL L (x, y) (hx, hy) = if homeC L x y hx hy = 0 then backW L (x, y) (hx, hy) else [] from rfl)
  obtain ⟨cv, e1⟩ : ∃ v, homeC L x y hx hy = v := ⟨_, rfl⟩
  obtain ⟨R, e2⟩ : ∃ v, backL L (x, y) (hx, hy) = v := ⟨_, rfl⟩
  rw [e1] at HHC HBL ⊢
  rw [e2] at HBL ⊢
  clear hc e1 e2 hL hx0 hx1 hy0 hy1 x0 x1 y0 y1
  obtain ⟨s, hs⟩ : ∃ s, w.heap.size = s := ⟨_, rfl⟩
  obtain ⟨W0, hW0⟩ : ∃ W0, (((w.alloc (.cells L.cells 29)).alloc (.cells #[.int .i8 hx, .int .i8 hy] 37)).alloc (.cells #[.int .i8 x, .int .i8 y] 37)).alloc (.cells #[.int .i8 hx, .int .i8 hy, .int .i8 x, .int .i8 y] 37) = W0 := ⟨_, rfl⟩
  have g0 : Holds W0 s L.cells := by rw [← hW0, ← hs]; exact (((Holds.new _ _ _).alloc _).alloc _).alloc _
  have g1 : Holds W0 (s + 1) #[.int .i8 hx, .int .i8 hy] := by rw [← hW0, ← hs]; exact ((Holds.new' _ _ _ _ (by simp)).alloc _).alloc _
  have g2 : Holds W0 (s + 1 + 1) #[.int .i8 x, .int .i8 y] := by rw [← hW0, ← hs]; exact (Holds.new' _ _ _ _ (by simp)).alloc _
  have g3 : Holds W0 (s + 1 + 1 + 1) #[.int .i8 hx, .int .i8 hy, .int .i8 x, .int .i8 y] := by rw [← hW0, ← hs]; exact Holds.new' _ _ _ _ (by simp)
  have hb0 : Below s w W0 := by rw [← hW0, ← hs]; exact ((((Below.refl w.heap.size w).alloc (Nat.le_refl _) _).alloc (by simp) _).alloc (by simp; omega) _).alloc (by simp; omega) _
  have HG := Lib.hid (And.intro g0 (And.intro g1 (And.intro g2 hb0)))
  have HCL := Lib.hid (show ∀ w', Below W0.heap.size W0 w' → ∀ (i : Nat) (c : Pt), [(hx, hy), (x, y)][i]? = some c → w'.cell? ⟨s + 1 + 1 + 1, i * 2, none⟩ = some (.int .i8 c.1) ∧ w'.cell? ⟨s + 1 + 1 + 1, i * 2 + 1, none⟩ = some (.int .i8 c.2) from fun w' hw i c h => by
    have k := (g3.below hw g3.lt).cell
    match i, h with
    | 0, h => simp at h; subst h; exact ⟨k 0, k 1⟩
    | 1, h => simp at h; subst h; exact ⟨k 2, k 3⟩
    | i + 2, h => simp at h)
  rw [hs]
  clear g0 g1 g2 g3 hb0
  go_enter Try.func38, Try.ntmps38
  go_wp2_with fail
  refine (HTO.out _ _ _ HG.out.1 HCL.out).mono ?_
  rintro e w1 ⟨rfl, hb1⟩
  have q0 := HG.out.1.below hb1 HG.out.1.lt
  have q1 := HG.out.2.1.below hb1 HG.out.2.1.lt
  have q2 := HG.out.2.2.1.below hb1 HG.out.2.2.1.lt
  have qb := HG.out.2.2.2.trans (hb1.mono (by have := HG.out.1.lt; omega))
  clear hb1 HG hW0 HCL HTO
  by_cases hc0 : c = 0
  case neg =>
    have hcn : (c == 0) = false := by simpa using hc0
    have HE := Lib.hid (show cv = c by rw [HHC.out, if_neg hc0])
    have HE2 := Lib.hid (show R = [] by rw [HBL.out, HE.out, if_neg hc0])
    have HM1 := Lib.hid (World.ownsRow_made (e := 37) (size := 2) w1 #[] 0 (Nat.le_refl w1.heap.size) (by simp [maxLen]) rfl)
    have hsw : s ≤ w1.heap.size := by have := q0.lt; omega
    clear hc0
    go_wp2_with fail
    go_ret2
    exact ⟨⟨_, by rw [HE.out]; rfl, by rw [HE2.out]; exact ownsRow_low HM1.out hsw⟩, qb.alloc hsw _⟩
  case pos =>
    subst hc0
    obtain ⟨hV, ⟨hI, hI2⟩, hO, hO2⟩ := openC_zero HC.out
    have hxy := isB_near hV hI
    have hxy2 := isB_near hV hI2
    obtain ⟨a, rfl⟩ : ∃ a : Nat, x = a := ⟨x.toNat, by omega⟩
    obtain ⟨b, rfl⟩ : ∃ b : Nat, y = b := ⟨y.toNat, by omega⟩
    obtain ⟨a2, rfl⟩ : ∃ a : Nat, hx = a := ⟨hx.toNat, by omega⟩
    obtain ⟨b2', rfl⟩ : ∃ b : Nat, hy = b := ⟨hy.toNat, by omega⟩
    have ha : a < 10 := by omega
    have hbb : b < 10 := by omega
    have ha2 : a2 < 10 := by omega
    have hb2 : b2' < 10 := by omega
    have HV := Lib.hid hV
    have HO := Lib.hid (show openP L ((a : Int), (b : Int)) = true from hO)
    have HO2 := Lib.hid (show openP L ((a2 : Int), (b2' : Int)) = true from hO2)
    obtain ⟨-, -, d1, -⟩ := q1.facts
    clear hxy hxy2 hI hI2 hO hO2 hV HC
    go_wp2_with fail
    refine (reach_open L HL.out HV.out s a2 b2' ha2 hb2 HO2.out _ q0).mono ?_
    obtain ⟨G, hG⟩ : ∃ G, gridF (found (passG L false) ((a2 : Int), (b2' : Int)) 100) = G := ⟨_, rfl⟩
    have HGD := Lib.hid (show ∀ p q : Nat, G q p = homeD L ((a2 : Int), (b2' : Int)) ((p : Int), (q : Int)) from fun p q => by rw [← hG]; rfl)
    obtain ⟨u, hu⟩ : ∃ u, G b a = u := ⟨_, rfl⟩
    have HRU := Lib.hid (show homeD L ((a2 : Int), (b2' : Int)) ((a : Int), (b : Int)) = u by rw [← hu, HGD.out])
    rw [hG]
    rintro e w6 ⟨rfl, hb1⟩
    have kg := (q0.below hb1 q0.lt).alloc (.cells (grid64 G) 89)
    have kb := (q1.below hb1 q1.lt).alloc (.cells (grid64 G) 89)
    have kc := (q2.below hb1 q2.lt).alloc (.cells (grid64 G) 89)
    have kG := Holds.new w6 (grid64 G) 89
    have hs6 : s + 1 + 1 < w6.heap.size := by have := hb1.size; have := q2.lt; omega
    have jB7 := (qb.trans (hb1.mono (by have := q0.lt; omega))).alloc (by omega) (.cells (grid64 G) 89)
    have hO1 := grid64_get G b a hbb ha
    rw [hu] at hO1
    obtain ⟨sg, hsg⟩ : ∃ sg, w6.heap.size = sg := ⟨_, rfl⟩
    obtain ⟨W7, hW7⟩ : ∃ W7, w6.alloc (.cells (grid64 G) 89) = W7 := ⟨_, rfl⟩
    rw [hW7] at kG kb kc kg jB7
    rw [hsg] at kG hs6
    have FX := Lib.hid (show ∀ w', Below W7.heap.size W7 w' → (∀ j, w'.cell? ⟨s + 1 + 1, j, none⟩ = #[Value.int .i8 a, Value.int .i8 b][j]?) ∧ w'.cell? ⟨sg, b * 10 + a, none⟩ = some (.int .i64 u) from fun w' hw' => ⟨(kc.below hw' kc.lt).cell, by rw [(kG.below hw' kG.lt).cell, hO1]⟩)
    clear q0 q1 q2 qb hb1 d1 hG hu hO1
    go_wp2_with fail
    refine wp_region_grow 7 (by kernel_rfl) (by kernel_rfl) ?_
    simp only [List.take_succ_cons, List.take_zero, List.drop_succ_cons, List.drop_zero]
    iterate 7
      apply wpGrow_plain rfl
      · intro w' hw' K hK
        obtain ⟨f1, f3⟩ := FX.out _ hw'
        go_wp2_with fail
        exact hK _ _ rfl hw'
      simp only [Act.put, List.setIfInBounds_toArray, List.set_cons_succ, List.set_cons_zero]
    refine wpGrow_nil ?_
    intro W8 hW8
    have jB8 := jB7.trans (hW8.mono (by have := kg.lt; omega))
    have mG := kG.below hW8 kG.lt
    have mg := kg.below hW8 kg.lt
    have mc := kc.below hW8 kc.lt
    have mb := kb.below hW8 kb.lt
    clear hW8 FX kG kg kc kb jB7 hW7 hsg
    have hs8 : s ≤ W8.heap.size := by have := mg.lt; omega
    rcases (by omega : u < 0 ∨ 0 ≤ u) with hun | hun
    · have hud : decide (u < 0) = true := decide_eq_true hun
      have HE := Lib.hid (show cv = 6 by rw [HHC.out, if_pos trivial, HRU.out, if_pos hun])
      have HE2 := Lib.hid (show R = [] by rw [HBL.out, HE.out]; rfl)
      have HM1 := Lib.hid (World.ownsRow_made (e := 37) (size := 2) W8 #[] 0 (Nat.le_refl W8.heap.size) (by simp [maxLen]) rfl)
      clear HHC HBL
      go_wp2_with fail
      go_ret2
      exact ⟨⟨_, by rw [HE.out]; rfl, by rw [HE2.out]; exact ownsRow_low HM1.out hs8⟩, jB8.alloc hs8 _⟩
    · have hud : decide (u < 0) = false := decide_eq_false (by omega)
      obtain ⟨f0, rfl⟩ : ∃ f : Nat, u = f := ⟨u.toNat, by omega⟩
      have hf100 : f0 ≤ 100 := by have := homeD_le HV.out HO2.out (c := ((a : Int), (b : Int))); rw [HRU.out] at this; omega
      have HE := Lib.hid (show cv = 0 by rw [HHC.out, if_pos trivial, HRU.out, if_neg (by omega)])
      have h1 : ∀ (f : Nat) (c : Pt), homeD L ((a2 : Int), (b2' : Int)) c = (f : Int) + 1 → ∃ i j, j < 4 ∧ (besideK L c.1 c.2 4)[i]? = some (stepW c j) ∧ openP L (stepW c j) = true ∧ homeD L ((a2 : Int), (b2' : Int)) (stepW c j) = f ∧ greedyW L ((a2 : Int), (b2' : Int)) (f + 1) c = j :: greedyW L ((a2 : Int), (b2' : Int)) f (stepW c j) ∧ ∀ (i' : Nat) c', i' < i → (besideK L c.1 c.2 4)[i']? = some c' → homeD L ((a2 : Int), (b2' : Int)) c' ≠ f := fun f c hd => greedy_beside HV.out HO2.out hd
      have h2 : ∀ c : Pt, homeD L ((a2 : Int), (b2' : Int)) c = 0 → c = ((a2 : Int), (b2' : Int)) := fun c hc => homeD_zero HV.out HO2.out hc
      have h3 := homeD_home HV.out HO2.out
      have h4 : ∀ c : Pt, greedyW L ((a2 : Int), (b2' : Int)) 0 c = [] := fun c => rfl
      have h5 : R = cellsK ((a : Int), (b : Int)) ((greedyW L ((a2 : Int), (b2' : Int)) f0 ((a : Int), (b : Int))).map letB) (f0 + 1) := by
        rw [HBL.out, HE.out, if_pos rfl]
        exact backW_is HRU.out (greedy_best HV.out HO2.out f0 ((a : Int), (b : Int)) HO.out HRU.out).2.1
      have h6 := (greedy_best HV.out HO2.out f0 ((a : Int), (b : Int)) HO.out HRU.out).2
      obtain ⟨D, hD⟩ : ∃ D, homeD L ((a2 : Int), (b2' : Int)) = D := ⟨_, rfl⟩
      obtain ⟨Y, hY⟩ : ∃ Y, greedyW L ((a2 : Int), (b2' : Int)) = Y := ⟨_, rfl⟩
      rw [hD] at HRU HGD
      rw [hY] at h5 h6
      simp only [hD, hY] at h1
      rw [hD] at h2 h3
      rw [hY] at h4
      have HST := Lib.hid h1
      have HZR := Lib.hid h2
      have HHM := Lib.hid h3
      have HY0 := Lib.hid h4
      obtain ⟨gw, hgw⟩ : ∃ v, Y f0 ((a : Int), (b : Int)) = v := ⟨_, rfl⟩
      rw [hgw] at h5 h6
      have HR := Lib.hid h5
      have HGL := Lib.hid (And.intro h6.1 h6.2.1)
      have HGW := Lib.hid hgw
      clear h1 h2 h3 h4 h5 h6 hD hY hgw HHC HBL
      have HM1 := Lib.hid (own_oneC W8 (a : Int) (b : Int))
      obtain ⟨B9, hB9⟩ : ∃ b, W8.heap.size = b := ⟨_, rfl⟩
      have ng := mg.alloc (.cells #[.int .i8 a, .int .i8 b] 37)
      have nc := mc.alloc (.cells #[.int .i8 a, .int .i8 b] 37)
      have nb := mb.alloc (.cells #[.int .i8 a, .int .i8 b] 37)
      have nG := mG.alloc (.cells #[.int .i8 a, .int .i8 b] 37)
      have nB := jB8.alloc hs8 (.cells #[.int .i8 a, .int .i8 b] 37)
      have hsg9 : sg < B9 := by rw [← hB9]; exact mG.lt
      rw [hB9] at HM1
      obtain ⟨W9, hW9⟩ : ∃ W, W8.alloc (.cells #[.int .i8 a, .int .i8 b] 37) = W := ⟨_, rfl⟩
      rw [hW9] at ng nc nb nG nB HM1
      obtain ⟨-, -, d1, -, -⟩ := mc.facts
      obtain ⟨i0', hi', hz0, hz1, hz2⟩ := info_parts cellInfo
      have HI := Lib.hid (show Try.prog.info? 37 = some i0' ∧ i0'.zero = some (.agg #[.int .i8 0, .int .i8 0]) ∧ i0'.size = 2 ∧ i0'.bytes = 2 from ⟨hi', hz0, hz1, hz2⟩)
      clear mg mc mb mG jB8 hi' hz0 hz1 hz2
      go_wp2_with fail
      go_loopw [10] (fun q wk => ∃ (i f : Nat) (p : Pt), i + f = f0 ∧ p = posK ((a : Int), (b : Int)) (gw.map letB) i ∧ Y f p = gw.drop i ∧ D p = (f : Int) ∧ openP L p = true ∧ wk.ownsRow B9 37 2 q (i + 1) (flatP (cellsK ((a : Int), (b : Int)) (gw.map letB) (i + 1))) ∧ Holds wk s L.cells ∧ Holds wk (s + 1) #[.int .i8 a2, .int .i8 b2'] ∧ Holds wk (s + 1 + 1) #[.int .i8 p.1, .int .i8 p.2] ∧ Holds wk sg (grid64 G) ∧ Below s w wk) (fun q _ => 201 - sliceLen q)
      case atStart => exact ⟨0, f0, ((a : Int), (b : Int)), by omega, rfl, by rw [HGW.out]; rfl, HRU.out, HO.out, HM1.out, ng, nb, nc, nG, nB⟩
      case round =>
        clear ng nb nc nG nB HM1 d1
        obtain ⟨i, f, ⟨px, py⟩, hif, hpos, hcat, hdp, hop, ro, mg, mb, mc, mG, jB⟩ := hrel
        have HRO := Lib.hid ro
        obtain ⟨qb', qc, rfl, hqB, hql⟩ := own_form ro (by omega)
        clear ro
        cases f with
        | zero =>
          have hz := HZR.out (px, py) (by rw [hdp]; rfl)
          simp only [Prod.mk.injEq] at hz
          obtain ⟨rfl, rfl⟩ := hz
          obtain ⟨-, -, d1, -, -⟩ := mc.facts
          obtain ⟨-, -, d2, -, -⟩ := mb.facts
          have hi0 : i = f0 := by omega
          subst hi0
          have HRF := Lib.hid (show R.length = i + 1 by rw [HR.out]; simp [cellsK])
          clear hpos hcat hdp hop
          go_wp2_with fail
          go_ret2
          exact ⟨⟨_, by rw [HE.out]; rfl, by rw [HRF.out, HR.out]; exact ownsRow_low HRO.out (by omega)⟩, jB⟩
        | succ f =>
          obtain ⟨i0, j, hj, hbk, hjo, hjd, hjg, hjm⟩ := HST.out f (px, py) (by rw [hdp]; simp)
          have hnr := openP_near HV.out _ hop
          have hne : ¬ ((px, py) = ((a2 : Int), (b2' : Int))) := fun e => by
            rw [e, HHM.out] at hdp
            simp at hdp
            omega
          obtain ⟨p, rfl⟩ : ∃ k : Nat, px = k := ⟨px.toNat, by have := hnr.1.1; simp only at this; omega⟩
          obtain ⟨q, rfl⟩ : ∃ k : Nat, py = k := ⟨py.toNat, by have := hnr.2.1; simp only at this; omega⟩
          have hp10 : p < 10 := by have := hnr.1.2; simp only at this; omega
          have hq10 : q < 10 := by have := hnr.2.2; simp only at this; omega
          have hne2 : (p = a2 ∧ q ≠ b2') ∨ p ≠ a2 := by
            simp only [Prod.mk.injEq] at hne
            omega
          have hgi : gw[i]? = some j := by
            rw [hjg] at hcat
            have := congrArg List.head? hcat
            rw [List.head?_drop] at this
            simpa using this.symm
          have hgr : Y f (stepW ((p : Int), (q : Int)) j) = gw.drop (i + 1) := by
            rw [hjg] at hcat
            have := congrArg List.tail hcat
            rw [List.tail_drop] at this
            simpa using this
          have HPN := Lib.hid (show posK ((a : Int), (b : Int)) (gw.map letB) (i + 1) = stepW ((p : Int), (q : Int)) j by rw [pos_next _ _ _ _ hgi hj, ← hpos])
          have HBK := Lib.hid hbk
          have HJ := Lib.hid (And.intro hjo (And.intro hjd (And.intro hgr hjm)))
          have HDP := Lib.hid hdp
          obtain ⟨d9, hd9⟩ : ∃ d, stepW ((p : Int), (q : Int)) j = d := ⟨_, rfl⟩
          rw [hd9] at HPN HBK HJ
          have HBS := Lib.hid (fun (w : World) (h : Holds w s L.cells) => beside_any L HL.out s (p : Int) (q : Int) (by omega) (by omega) (by omega) (by omega) w h)
          obtain ⟨BS, hBS⟩ : ∃ B, besideK L (p : Int) (q : Int) 4 = B := ⟨_, rfl⟩
          have HIB := Lib.hid (show ∀ c ∈ BS, isB L c.1 c.2 = true from fun c hc => by
            rw [← hBS] at hc
            unfold besideK at hc
            exact (List.mem_filter.1 hc).2)
          have hbl4 : BS.length ≤ 4 := by rw [← hBS]; exact besideK_le L _ _ _
          rw [hBS] at HBS
          dsimp only at HBK HJ
          rw [hBS] at HBK HJ
          obtain ⟨PB, hPB⟩ : ∃ P : World → Prop, P = fun wk => Holds wk (s + 1) #[.int .i8 a2, .int .i8 b2'] := ⟨_, rfl⟩
          have PB1 := Lib.hid (show ∀ wk, PB wk ↔ Holds wk (s + 1) #[.int .i8 a2, .int .i8 b2'] from fun wk => by rw [hPB])
          obtain ⟨-, -, d1, -, -⟩ := mc.facts
          obtain ⟨-, -, d2, -, -⟩ := mb.facts
          clear hcat hdp hop hbk hjo hjd hjg hjm hne hnr hgi hgr hpos hd9 hBS hPB hj
          rcases hne2 with ⟨rfl, hne2⟩ | hne2
          all_goals
            first
              | (have hne3 : ¬ ((q : Int) = (b2' : Int)) := by omega)
              | (have hne3 : ¬ ((p : Int) = (a2 : Int)) := by omega)
            go_wp2_with fail
            refine (HBS.out _ mg).mono ?_
            rintro e w5 ⟨v, rfl, hov, hb5⟩
            have ng := mg.below hb5 mg.lt
            have nb := mb.below hb5 mb.lt
            have nc := mc.below hb5 mc.lt
            have nG := mG.below hb5 mG.lt
            have nB := jB.trans (hb5.mono (by have := mg.lt; omega))
            have HRO2 := Lib.hid (own_below HRO.out hb5)
            obtain ⟨bn, hbn⟩ : ∃ n, BS.length = n := ⟨_, rfl⟩
            have hi0n : i0 < bn := by rw [← hbn]; exact (List.getElem?_eq_some_iff.1 HBK.out).1
            rw [hbn] at hov hbl4
            have HBN := Lib.hid hbn
            obtain ⟨lb, lc, rfl, hlb, hlb2⟩ := own_form hov (by omega)
            obtain ⟨bB, hbB⟩ : ∃ b, wr.heap.size = b := ⟨_, rfl⟩
            have hsz5 := hb5.size
            rw [hbB] at hov hsz5 hql hlb
            have HLO := Lib.hid hov
            clear hbB
            clear mg mb mc mG jB hb5 hov hbn d1 d2
            go_wp2_with fail
            go_loopw [12] (fun x wk => ∃ k : Nat, x = .int .i64 k ∧ k ≤ i0 ∧ Holds wk s L.cells ∧ PB wk ∧ Holds wk (s + 1 + 1) #[.int .i8 p, .int .i8 q] ∧ Holds wk sg (grid64 G) ∧ wk.ownsRow B9 37 2 (.slice (some ⟨qb', 0, none⟩) (i + 1) qc) (i + 1) (flatP (cellsK ((a : Int), (b : Int)) (gw.map letB) (i + 1))) ∧ wk.ownsRow bB 37 2 (.slice (some ⟨lb, 0, none⟩) bn lc) bn (flatP BS) ∧ Below s w wk) (fun x _ => 4 - (intOf x).toNat)
            case atStart => exact ⟨0, rfl, by omega, ng, (PB1.out _).2 nb, nc, nG, HRO2.out, HLO.out, nB⟩
            case round =>
              clear ng nb nc nG nB
              obtain ⟨k, rfl, hki, mg, mb0, mc, mG, ro, rl, jB⟩ := hrel
              have mb := (PB1.out _).1 mb0
              have HRO3 := Lib.hid ro
              have HLO3 := Lib.hid rl
              clear mb0 ro rl HRO2 HLO HRO
              have hdk : decide ((k : Int) < (bn : Int)) = true := by simp; omega
              have hdk2 : decide (k < bn) = true := decide_eq_true (by omega)
              obtain ⟨⟨dx, dy⟩, hkc⟩ : ∃ c, BS[k]? = some c := ⟨_, List.getElem?_eq_getElem (by rw [HBN.out]; omega)⟩
              have hin := isB_near HV.out (HIB.out _ (List.mem_of_getElem? hkc))
              dsimp only at hin
              obtain ⟨x9, hx9⟩ : ∃ k : Nat, dx = k := ⟨dx.toNat, by omega⟩
              obtain ⟨y9, hy9⟩ : ∃ k : Nat, dy = k := ⟨dy.toNat, by omega⟩
              subst hx9
              subst hy9
              have hx10 : x9 < 10 := by omega
              have hy10 : y9 < 10 := by omega
              have HKC := Lib.hid hkc
              obtain ⟨ud, hud9⟩ : ∃ u, G y9 x9 = u := ⟨_, rfl⟩
              have HUD := Lib.hid (show D ((x9 : Int), (y9 : Int)) = ud by rw [← hud9, HGD.out])
              have hc1 := grid64_get G y9 x9 hy10 hx10
              have hc2 := grid64_get G q p hq10 hp10
              rw [hud9] at hc1
              rw [HGD.out, HDP.out] at hc2
              have hf := flatP_get BS k _ hkc
              have FX := Lib.hid (show ∀ w', Below wr.heap.size wr w' → (∀ j, w'.cell? ⟨s + 1 + 1, j, none⟩ = #[Value.int .i8 p, Value.int .i8 q][j]?) ∧ w'.cell? ⟨sg, y9 * 10 + x9, none⟩ = some (.int .i64 ud) ∧ w'.cell? ⟨sg, q * 10 + p, none⟩ = some (.int .i64 ((f + 1 : Nat) : Int)) ∧ w'.cell? ⟨lb, k * 2, none⟩ = some (.int .i8 x9) ∧ w'.cell? ⟨lb, k * 2 + 1, none⟩ = some (.int .i8 y9) from fun w' hw' => ⟨(mc.below hw' mc.lt).cell, by rw [(mG.below hw' mG.lt).cell, hc1], by rw [(mG.below hw' mG.lt).cell, hc2], own_cell (own_below HLO3.out hw') _ _ hf.1, own_cell (own_below HLO3.out hw') _ _ hf.2⟩)
              obtain ⟨e9, he9⟩ : ∃ e, (ud == (f : Int)) = e := ⟨_, rfl⟩
              have HE9 := Lib.hid he9
              clear hc1 hc2 hud9 hin hf hkc he9
              go_wp2_with fail
              refine wp_region_grow 21 (by kernel_rfl) (by kernel_rfl) ?_
              simp only [List.take_succ_cons, List.take_zero, List.drop_succ_cons, List.drop_zero]
              iterate 20
                apply wpGrow_plain rfl
                · intro w' hw' K hK
                  obtain ⟨f1, f2, f3, f4, f5⟩ := FX.out _ hw'
                  go_wp2_with fail
                  exact hK _ _ rfl hw'
                simp only [Act.put, List.setIfInBounds_toArray, List.set_cons_succ, List.set_cons_zero]
              refine wpGrow_plain (v := .int .i64 (f : Int)) rfl ?_ ?_
              · intro w' hw' K hK
                go_wp2_with fail
                first | exact hK _ _ rfl hw' | exact hK _ _ (by simp) hw'
              simp only [Act.put, List.setIfInBounds_toArray, List.set_cons_succ, List.set_cons_zero]
              refine wpGrow_nil ?_
              intro W3 hW3
              have og := mg.below hW3 mg.lt
              have oc := mc.below hW3 mc.lt
              have ob := mb.below hW3 mb.lt
              have oG := mG.below hW3 mG.lt
              have HRO4 := Lib.hid (own_below HRO3.out hW3)
              have HLO4 := Lib.hid (own_below HLO3.out hW3)
              have jB3 := jB.trans (hW3.mono (by have := mg.lt; omega))
              obtain ⟨f1, f2, f3, f4, f5⟩ := FX.out _ hW3
              clear hW3 mg mb mc mG jB FX HRO3 HLO3 f2 f3
              cases e9
              case false =>
                have hkj2 : k < i0 := by
                  rcases Nat.lt_or_ge k i0 with h1 | h1
                  · exact h1
                  · have hk : k = i0 := by omega
                    have h2 := HKC.out
                    rw [hk, HBK.out] at h2
                    simp only [Option.some.injEq] at h2
                    have h3 := HJ.out.2.1
                    rw [h2, HUD.out] at h3
                    have h4 := HE9.out
                    rw [h3] at h4
                    simp at h4
                have h9 := HE9.out
                go_wp2_with fail
                go_roundw
                case rel => exact ⟨k + 1, by go_num, by omega, og, (PB1.out _).2 ob, oc, oG, HRO4.out, HLO4.out, jB3⟩
                case measure => simp [intOf]; omega
              case true =>
                have HKI := Lib.hid (show k = i0 by
                  rcases Nat.lt_or_ge k i0 with h1 | h1
                  · have h2 := HJ.out.2.2.2 k _ h1 HKC.out
                    rw [HUD.out] at h2
                    have h3 := HE9.out
                    simp only [beq_iff_eq] at h3
                    exact absurd h3 h2
                  · omega)
                have HD9 := Lib.hid (show d9 = ((x9 : Int), (y9 : Int)) by
                  have h2 := HKC.out
                  rw [HKI.out, HBK.out] at h2
                  simpa using h2)
                have h9 := HE9.out
                obtain ⟨rc, fc, dc, zc, lc'⟩ := oc.facts
                have oc2 := (oc.setCell 0 (.int .i8 x9)).setCell 1 (.int .i8 y9)
                have og2 := (og.setCell_other ⟨s + 1 + 1, 0, none⟩ (.int .i8 x9) (by dsimp only; omega)).setCell_other ⟨s + 1 + 1, 1, none⟩ (.int .i8 y9) (by dsimp only; omega)
                have ob2 := (ob.setCell_other ⟨s + 1 + 1, 0, none⟩ (.int .i8 x9) (by dsimp only; omega)).setCell_other ⟨s + 1 + 1, 1, none⟩ (.int .i8 y9) (by dsimp only; omega)
                have oG2 := (oG.setCell_other ⟨s + 1 + 1, 0, none⟩ (.int .i8 x9) (by dsimp only; omega)).setCell_other ⟨s + 1 + 1, 1, none⟩ (.int .i8 y9) (by dsimp only; omega)
                have jB4 := (jB3.setCell (p := ⟨s + 1 + 1, 0, none⟩) (by dsimp only; omega) (.int .i8 x9)).setCell (p := ⟨s + 1 + 1, 1, none⟩) (by dsimp only; omega) (.int .i8 y9)
                clear hdk hdk2
                have HRO5 := Lib.hid (own_setCell_low (own_setCell_low HRO4.out (s + 1 + 1) 0 (.int .i8 x9) (by omega)) (s + 1 + 1) 1 (.int .i8 y9) (by omega))
                obtain ⟨W5, hW5⟩ : ∃ W, (W3.setCell ⟨s + 1 + 1, 0, none⟩ (.int .i8 x9)).setCell ⟨s + 1 + 1, 1, none⟩ (.int .i8 y9) = W := ⟨_, rfl⟩
                have hl5 : (W3.setCell ⟨s + 1 + 1, 0, none⟩ (.int .i8 x9)).setCell ⟨s + 1 + 1, 1, none⟩ (.int .i8 y9) = W5 := hW5
                rw [hW5] at oc2 og2 ob2 oG2 jB4 HRO5
                simp only [List.setIfInBounds_toArray, List.set_cons_succ, List.set_cons_zero] at oc2
                have hql5 := (own_lt HRO5.out).2
                have dc5 := oc2.cell
                go_wp2_with (at_builtin; refine wpList_append_own_at _ rfl _ _ 45 rfl B9 37 i0' (.agg #[.int .i8 0, .int .i8 0]) 2 2 Try.underlying45 HI.out.1 HI.out.2.1 HI.out.2.2.1 HI.out.2.2.2 rfl (by decide) _ _ _ rfl (HRO5.out.alloc _) ⟨W5.heap.size, 0, none⟩ 1 1 [.int .i8 x9, .int .i8 y9] rfl rfl ?c1 ?c2 ?c3 ?c4 ?c5 ?_)
                case c1 =>
                  intro m z hz
                  have hh := (Holds.new W5 #[.int .i8 x9, .int .i8 y9] 37)
                  match m, hz with
                  | 0, hz => simp at hz; subst hz; exact hh.cell 0
                  | 1, hz => simp at hz; subst hz; exact hh.cell 1
                case c2 => intro z hz; simp at hz; rcases hz with rfl | rfl <;> rfl
                case c3 => unfold maxLen; omega
                case c4 => omega
                case c5 => simp; have := og2.lt; have := oG2.lt; omega
                intro v' w9 hown' hgrow _ hat
                have og9 := held_grown (og2.alloc (.cells #[.int .i8 x9, .int .i8 y9] 37)) (HRO5.out.alloc _) hgrow (by omega)
                have ob9 := held_grown (ob2.alloc (.cells #[.int .i8 x9, .int .i8 y9] 37)) (HRO5.out.alloc _) hgrow (by omega)
                have oc9 := held_grown (oc2.alloc (.cells #[.int .i8 x9, .int .i8 y9] 37)) (HRO5.out.alloc _) hgrow (by omega)
                have oG9 := held_grown (oG2.alloc (.cells #[.int .i8 x9, .int .i8 y9] 37)) (HRO5.out.alloc _) hgrow (by omega)
                have jB9 : Below s w w9 := (jB4.alloc (by have := og2.lt; omega) (.cells #[.int .i8 x9, .int .i8 y9] 37)).grown hgrow (by simp; have := og2.lt; omega) (fun b e => by have := own_far HRO5.out b e; omega)
                have HW9 := Lib.hid (show w9.ownsRow B9 37 2 v' (i + 1 + 1) (flatP (cellsK ((a : Int), (b : Int)) (gw.map letB) (i + 1 + 1))) by
                  rw [cellsK_succ, flatP_append, HPN.out, HD9.out]
                  simpa [flatP] using hown')
                have HD10 := Lib.hid (show D ((x9 : Int), (y9 : Int)) = (f : Int) by rw [← HD9.out]; exact HJ.out.2.1)
                have HO10 := Lib.hid (show openP L ((x9 : Int), (y9 : Int)) = true by rw [← HD9.out]; exact HJ.out.1)
                have HY10 := Lib.hid (show Y f ((x9 : Int), (y9 : Int)) = gw.drop (i + 1) by rw [← HD9.out]; exact HJ.out.2.2.1)
                obtain ⟨qa9, qc9, rfl⟩ := own_slice HW9.out
                clear hown' hgrow hat og2 ob2 oc2 oG2 jB4 dc5 hW5 hl5
                go_wp2_with fail
                go_roundw
                case rel => exact ⟨i + 1, f, ((x9 : Int), (y9 : Int)), by omega, by rw [HPN.out, HD9.out], HY10.out, HD10.out, HO10.out, HW9.out, og9, (PB1.out _).1 ((PB1.out _).2 ob9), oc9, oG9, jB9⟩
                case measure =>
                  simp [sliceLen]
                  omega
end Go.Proofs.Ytaeenkjbmlgcmaa
