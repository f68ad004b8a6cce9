/- ValidLevels, of the program and of the model; a level, and the codes of levels. -/
import Derived.Test.YtabemgplddfemaaGreatDoorZP
namespace Go.Proofs.YtabemgplddfemaaGreatDoor
open Go.RowKit Go.Shelf
set_option linter.unusedVariables false
attribute [local go_sem] Oper.semAt_some
attribute [local go_sem ↓] loadRow loadGrid loadLawn loadMirror storeRow storeGrid storeLawn allocRow allocGrid allocLawn buildZero buildSides loadRow' loadGrid' loadLawn' loadMirror' storeRow' storeGrid' storeLawn' allocRow' allocGrid' allocLawn' buildZero' buildSides' loadR8 loadL8 loadLv storeR8 storeLv allocR8 allocLv buildZLv loadR8' loadL8' loadLv' storeR8' storeLv' allocR8' allocLv' buildZLv' eqlLv eqlLv'

set_option maxRecDepth 100000 in
set_option maxHeartbeats 400000 in
theorem level_any (g : Nat → Nat → Int) (x y : Nat) (hx : x < 10) (hy : y < 10) (w : World) :
    Calls Tryz.prog 58 #[.agg (levV g), .agg #[.int .i8 x, .int .i8 y]] w fun e w' => e = .returned (.int .i8 (g y x)) ∧ Below w.heap.size w w' := by
  have hx0 : (0 : Int) ≤ x := by omega
  have hx1 : (x : Int) < 10 := by omega
  have hy0 : (0 : Int) ≤ y := by omega
  have hy1 : (y : Int) < 10 := by omega
  have ck : (levV g)[y * 10 + x]? = some (.int .i8 (g y x)) := levV_get g y x hy hx
  have cs : y * 10 + x < 100 := by omega
  have ca : (levV g)[y * 10 + x]'(by simp; omega) = .int .i8 (g y x) := by
    rw [Array.getElem?_eq_getElem (by simp; omega)] at ck; exact Option.some.inj ck
  clear ck
  go_enter Tryz.func58, Tryz.ntmps58
  go_wp2
  go_quiet (fail)
  go_wp2
  go_ret
  exact ⟨rfl, below_drewN (((Below.refl _ _).alloc (Nat.le_refl _) _).alloc (by simp) _) _⟩

theorem isLevel8_is (n : Int) (v : Bool) (h : inB n (-9) 9 = v) (w : World) :
    Calls Tryz.prog 57 #[.int .i8 n] w fun e w' => e = .returned (.bool v) ∧ w' = w := by
  have H := Lib.hid h
  by_cases h1 : -9 ≤ n
  · have d1 : decide (-9 ≤ n) = true := by simpa using h1
    obtain ⟨d, hd⟩ : ∃ d, decide (n ≤ 9) = d := ⟨_, rfl⟩
    have HV := Lib.hid (show v = d by rw [← h, inB, d1, hd, Bool.true_and])
    clear h
    go_enter Tryz.func57, Tryz.ntmps57
    go_wp2
    go_ret
    exact ⟨by rw [HV.out, ← hd]; rfl, rfl⟩
  · have d1 : decide (-9 ≤ n) = false := by simpa using h1
    have HV := Lib.hid (show v = false by rw [← h, inB, d1, Bool.false_and])
    clear h
    go_enter Tryz.func57, Tryz.ntmps57
    go_wp2
    go_ret
    exact ⟨by rw [HV.out]; rfl, rfl⟩
theorem l06Level_is (n : Int) (v : Bool) (h : inB n (-9) 9 = v) (w : World) :
    Calls Tryz.prog 52 #[.int .i64 n] w fun e w' => e = .returned (.bool v) ∧ w' = w := by
  have H := Lib.hid h
  clear h
  go_enter Tryz.func52, Tryz.ntmps52
  go_wp2_with fail
  refine (in_q _ _ _ _).mono ?_
  rintro e w1 ⟨rfl, rfl⟩
  rw [H.out]
  go_wp2_with fail
  go_ret
  exact ⟨rfl, rfl⟩
theorem l06At_any (g : Nat → Nat → Int) (b x y : Nat) (hx : x < 10) (hy : y < 10) (hg : -128 ≤ g y x ∧ g y x ≤ 127) (w : World) (h : Holds w b (levV g)) :
    Calls Tryz.prog 56 #[.pointer (some ⟨b, 0, none⟩), .agg #[.int .i8 x, .int .i8 y]] w fun e w' => e = .returned (.int .i64 (g y x)) ∧ Below w.heap.size w w' := by
  have hx0 : (0 : Int) ≤ x := by omega
  have hx1 : (x : Int) < 10 := by omega
  have hy0 : (0 : Int) ≤ y := by omega
  have hy1 : (y : Int) < 10 := by omega
  obtain ⟨-, -, c, -, l⟩ := h.facts
  have ck : w.cell? ⟨b, y * 10 + x, none⟩ = some (.int .i8 (g y x)) := (c _).trans (levV_get g y x hy hx)
  have hwr : IntKind.i64.wrap (g y x) = g y x := IntWalk.i64_in _ (by omega)
  clear c
  go_enter Tryz.func56, Tryz.ntmps56
  go_wp2
  go_quiet (fail)
  go_wp2
  go_ret
  exact ⟨rfl, below_drewN ((Below.refl _ _).alloc (Nat.le_refl _) _) _⟩

set_option maxRecDepth 100000 in
set_option maxHeartbeats 2000000 in
theorem levels_loop (Wn Hn : Nat) (hW : Wn ≤ 10) (hH : Hn ≤ 10) (L : Lawn) (hLw : L.wide = Wn) (hLh : L.high = Hn) (hL : L.Fits) (hV : validB L = true) (g : Nat → Nat → Int) (w : World) :
    Calls Tryz.prog 34 #[.agg L.cells, .agg (levV g)] w fun e w' => e = .returned (.bool (levB L g)) ∧ Below w.heap.size w w' := by
  have HI' := Lib.hid (show ∀ w : World, Calls Tryz.prog 42 #[.agg L.cells] w fun e w' => e = .returned (.bool true) ∧ Below w.heap.size w w' from fun w => hV ▸ implValid_any L hL w)
  have HG := Lib.hid (fun (x y : Int) (v : Bool) (h : grassB L x y = v) => isGrass_is L hV hL x y v h)
  have HF := Lib.hid (lay_final hV hLw hLh g)
  have HL : Hid (L = ⟨(Wn : Int), (Hn : Int), L.kind⟩) := Lib.hid (by cases L; simp_all)
  have HLB := Lib.hid (show ∀ y x : Nat, layB L g y x = (grassB L x y && inB (g y x) (-9) 9) from fun _ _ => rfl)
  clear hV hL hLw hLh
  refine (callsIn_wide (n := 9)).1 ?_
  refine callsIn_of_wp_marks Tryz.func34 rfl trivial ?_ rfl
  simp only [Tryz.ntmps34, List.size_toArray, List.length_cons, List.length_nil, Nat.reduceAdd, Nat.reduceSub, Array.replicate_succ, Array.replicate_zero, List.push_toArray, List.append_toArray, List.nil_append, List.cons_append]
  gi_wp2_with fail
  have g0 := (Holds.new w L.cells 33).alloc (.cells (levV g) 35)
  have g1 := Holds.new' (w.alloc (.cells L.cells 33)) (levV g) 35 (w.heap.size + 1) (by simp)
  have hb0 := ((Below.refl w.heap.size w).alloc (Nat.le_refl _) (.cells L.cells 33)).alloc (by simp) (.cells (levV g) 35)
  refine ⟨trivial, (callsIn_wide.2 (HI'.out _)).mono ?_⟩
  rintro e w1 ⟨rfl, hb1⟩
  have j0 := g0.below hb1 g0.lt
  have j1 := g1.below hb1 g1.lt
  have jB := below_onto hb0 hb1
  clear g0 g1 hb0 hb1
  obtain ⟨r0, -, -, -, l0⟩ := j0.facts
  obtain ⟨-, -, -, -, l1⟩ := j1.facts
  gi_wp2_with (refine ⟨trivial, ?_⟩; gi_at_call 44; refine (each_in Fence.wide _ trivial rfl _ _).mono ?_; rintro e w2 ⟨rfl, rfl⟩)
  obtain ⟨s, hs⟩ : ∃ s, w1.heap.size = s := ⟨_, rfl⟩
  obtain ⟨W0, hW0⟩ : ∃ W0, (w1.alloc (.cells (levV fun _ _ => 0) 35)).alloc (.cells L.cells 33) = W0 := ⟨_, rfl⟩
  have g0 : Holds W0 w.heap.size L.cells := by rw [← hW0]; exact (j0.alloc _).alloc _
  have g1 : Holds W0 (w.heap.size + 1) (levV g) := by rw [← hW0]; exact (j1.alloc _).alloc _
  have g2 : Holds W0 s (levV fun _ _ => 0) := by rw [← hW0]; exact (Holds.new' _ _ _ _ hs.symm).alloc _
  have g3 : Holds W0 (s + 1) L.cells := by rw [← hW0]; exact Holds.new' _ _ _ _ (by simp; omega)
  have hB0 : Below w.heap.size w W0 := by rw [← hW0]; exact (jB.alloc jB.size _).alloc (by simp; omega) _
  have hsz : W0.heap.size = s + 2 := by rw [← hW0]; simp; omega
  rw [hs] at l0 l1 ⊢
  rw [hW0]
  have hz1 : s + 2 ≤ W0.heap.size := by omega
  have hz2 : W0.heap.size ≤ s + 2 := by omega
  clear hW0 hs j0 j1 jB r0 hsz
  refine each_range (by omega) (p := 12) (q := 6) [s] Wn Hn hW hH L.kind rfl (by rw [← HL.out]; exact g3)
    (fun pre W => Holds W s (levV (layG L g pre))) (fun c pre W => False)
    (Own.from (holds_own _ (fun pre => levV (layG L g pre))) _) (fun c => fun _ _ _ _ h _ _ => h.elim) (by rw [layG_nil]; exact g2) ?assign ?body ?done ?stop
  case assign =>
    intro l x y W K hK
    simp only [cellV]
    gi_wp2
    exact hK
  case body =>
    rintro l pre x Bx W hl hr hO i2 hBx bX hlt
    have hx := x.1.isLt
    have hy := x.2.isLt
    have HHit := Lib.hid (layG_hit hW hH L g pre x)
    have HMiss := Lib.hid (layG_miss L g pre x)
    obtain ⟨gb, hgb⟩ : ∃ gb, grassB L x.1.val x.2.val = gb := ⟨_, rfl⟩
    obtain ⟨ib, hib⟩ : ∃ ib, inB (g x.2.val x.1.val) (-9) 9 = ib := ⟨_, rfl⟩
    have HB := Lib.hid (show layB L g x.2.val x.1.val = (gb && ib) by rw [HLB.out, hgb, hib])
    rw [HB.out] at HHit HMiss
    have HGx := Lib.hid (HG.out _ _ _ hgb)
    have HIx := Lib.hid (isLevel8_is _ _ hib)
    clear HB
    obtain ⟨⟨xj, hxj⟩, ⟨xk, hxk⟩⟩ := x
    dsimp only at *
    simp only [cellV, List.setIfInBounds_toArray, List.set_cons_succ, List.set_cons_zero]
    have i0 := hO.holds g0 (by simp; omega)
    have i1 := hO.holds g1 (by simp; omega)
    have hO2 := Lib.hid hO
    clear hr hlt hl hO hgb hib
    obtain ⟨r0, -, -, -, -⟩ := i0.facts
    obtain ⟨rx, -, cx, -, -⟩ := bX.facts
    have hj0 : (0 : Int) ≤ xj := by omega
    have hj1 : (xj : Int) < 10 := by omega
    have hk0 : (0 : Int) ≤ xk := by omega
    have hk1 : (xk : Int) < 10 := by omega
    gi_wp2_with fail
    refine ⟨trivial, (CallsIn.inRound l (callsIn_wide.2 (HGx.out _))).mono ?_⟩
    rintro e w2 ⟨rfl, hb1⟩
    have q1 := i1.below hb1 i1.lt
    have q2 := i2.below hb1 i2.lt
    have qX := bX.below hb1 bX.lt
    have qO : Only [s] W0 w2 := hO2.out.onto hb1
    have qK : KeepsOthers W w2 := keeps_below hb1
    clear hb1 i0 i1 i2 bX r0 cx rx
    cases gb
    case false =>
      have HN := Lib.hid (HMiss.out rfl)
      clear HHit HMiss HIx
      gi_wp2_with fail
      refine ⟨trivial, ?_⟩
      gi_wp2_with fail
      refine ⟨trivial, ?_⟩
      gi_wp2_with fail
      refine eachDone (b := s + 1) (by omega) (by simp) hO2.out qK qO ?_
      rw [HN.out]
      exact q2
    case true =>
      obtain ⟨r1, -, -, -, -⟩ := q1.facts
      obtain ⟨rx, -, cx, -, -⟩ := qX.facts
      gi_wp2_with fail
      refine ⟨trivial, (CallsIn.inRound l (callsIn_wide.2 (level_any g xj xk (by omega) (by omega) _))).mono ?_⟩
      rintro e w3 ⟨rfl, hb1⟩
      have p1 := q1.below hb1 q1.lt
      have p2 := q2.below hb1 q2.lt
      have pX := qX.below hb1 qX.lt
      have pO : Only [s] W0 w3 := qO.onto hb1
      have pK : KeepsOthers W w3 := qK.trans (keeps_below hb1)
      clear hb1 q1 q2 qX qO qK r1 cx rx
      cases ib
      case false =>
        have HN := Lib.hid (HMiss.out rfl)
        clear HHit HMiss
        gi_wp2_with (refine ⟨trivial, ?_⟩; gi_at_call 57; refine (CallsIn.inRound l (callsIn_wide.2 (HIx.out _))).mono ?_; rintro e w4 ⟨rfl, rfl⟩)
        refine eachDone (b := s + 1) (by omega) (by simp) hO2.out pK pO ?_
        rw [HN.out]
        exact p2
      case true =>
        have HN := Lib.hid (HHit.out rfl)
        clear HHit HMiss
        obtain ⟨r1, -⟩ := p1.later
        obtain ⟨rx, cx⟩ := pX.later
        gi_wp2_with (refine ⟨trivial, ?_⟩; gi_at_call 57; refine (CallsIn.inRound l (callsIn_wide.2 (HIx.out _))).mono ?_; rintro e w4 ⟨rfl, rfl⟩)
        refine wpIn_region_grow 9 (by kernel_rfl) rfl (by rintro ⟨_, _, h⟩; exact h) (by kernel_rfl) ?_
        simp only [List.take_succ_cons, List.take_zero, List.drop_succ_cons, List.drop_zero]
        iterate 9
          apply wpGrow_plain rfl
          · intro w' hw' K hK
            go_wp2_with (go_at_call 58; refine (level_any g xj xk (by omega) (by omega) _).mono ?_; rintro e w2 ⟨rfl, hb2⟩)
            first | exact hK _ _ rfl hw' | exact hK _ _ rfl (below_onto hw' hb2)
          simp only [Act.put, List.setIfInBounds_toArray, List.set_cons_succ, List.set_cons_zero]
        refine wpGrow_nil ?_
        intro W2 hW2
        have q2 := p2.below hW2 p2.lt
        have qO : Only [s] W0 W2 := pO.onto hW2
        have qK : KeepsOthers W W2 := pK.trans (keeps_below hW2)
        obtain ⟨-, -, c2, z2, l2⟩ := q2.facts
        have e2 := (c2 (xk * 10 + xj)).trans (levV_get _ xk xj (by omega) (by omega))
        clear r1 rx cx c2 hW2 p1 p2 pX pO pK
        go_wp2_with fail
        refine eachDone (b := s + 1) (by omega) (by simp) hO2.out (qK.trans (KeepsOthers.setCell _ _ _)) (qO.setCell (a := ⟨s, xk * 10 + xj, none⟩) (.inl (by simp)) _) ?_
        rw [← HN.out]
        exact q2.setCell _ _
  case done =>
    rintro D W hD hO i2 hK
    have hB2 : Below w.heap.size w W := hB0.trans (hO.toBelow (by simp; omega) (by omega))
    have i1 := hO.holds g1 (by simp; omega)
    obtain ⟨R, hR⟩ : ∃ R, layG L g (allC Wn Hn) = R := ⟨_, rfl⟩
    rw [hR] at i2 HF
    obtain ⟨r2, f2, c2, z2, l2⟩ := i2.facts
    obtain ⟨r1, f1, c1, z1, l1⟩ := i1.facts
    clear g0 g1 g2 g3 hR HG HI' HLB c2 c1 HL
    gi_wp2
    refine ⟨by simp, .inl ⟨_, _, rfl, run_takeDeferred hK, ?_⟩⟩
    refine ⟨.bool (gridEq g R), ?_, by rw [HF.out], hB2.trans (belowK_b (w := w) (Nat.le_refl _) _ D _ _ (by omega) hK rfl rfl)⟩
    simp [results, Tryz.f34, go_sem]
  case stop =>
    rintro D c pre W hD _ h hK
    exact h.elim

set_option maxRecDepth 100000 in
set_option maxHeartbeats 1000000 in
/-- **ValidLevels answers whether the levels are valid for the lawn.** -/
theorem implLevels_any (L : Lawn) (hL : L.Fits) (g : Nat → Nat → Int) (w : World) :
    Calls Tryz.prog 34 #[.agg L.cells, .agg (levV g)] w fun e w' => e = .returned (.bool (levB L g)) ∧ Below w.heap.size w w' := by
  cases hv : validB L
  case true =>
    obtain ⟨h1, h2, -⟩ := validB_true hv
    exact levels_loop L.wide.toNat L.high.toNat (by omega) (by omega) L (by omega) (by omega) hL hv g w
  case false =>
    rw [levB_lawn hv]
    have HI' := Lib.hid (show ∀ w : World, Calls Tryz.prog 42 #[.agg L.cells] w fun e w' => e = .returned (.bool false) ∧ Below w.heap.size w w' from fun w => hv ▸ implValid_any L hL w)
    clear hv hL
    go_enter Tryz.func34, Tryz.ntmps34
    go_wp2_with fail
    have hb0 := ((Below.refl w.heap.size w).alloc (Nat.le_refl _) (.cells L.cells 33)).alloc (by simp) (.cells (levV g) 35)
    refine (HI'.out _).mono ?_
    rintro e w1 ⟨rfl, hb1⟩
    have jB := below_onto hb0 hb1
    clear hb0 hb1
    go_wp2_with fail
    refine bodyPost_ret (v := .bool false) ?_ rfl ⟨rfl, jB⟩
    simp [results, Tryz.f34, go_sem]

set_option maxRecDepth 100000 in
set_option maxHeartbeats 2000000 in
theorem l06Ok_any (L : Lawn) (hL : L.Fits) (g : Nat → Nat → Int) (hg : LevFits g) (a b : Nat) (w : World) (h : Holds w a L.cells) (hh : Holds w b (levV g)) :
    Calls Tryz.prog 28 #[.pointer (some ⟨a, 0, none⟩), .pointer (some ⟨b, 0, none⟩)] w fun e w' => e = .returned (.bool (levB L g)) ∧ Below w.heap.size w w' := by
  cases hv : validB L
  case false =>
    have HV := Lib.hid (levB_lawn (g := g) hv)
    have HO := Lib.hid (l01Ok_any L hL a w h)
    rw [hv] at HO
    clear hv hL hg h hh
    go_enter Tryz.func28, Tryz.ntmps28
    go_wp2_with fail
    refine HO.out.mono ?_
    rintro e w1 ⟨rfl, hb1⟩
    go_wp2_with fail
    go_ret
    exact ⟨by rw [HV.out]; rfl, hb1⟩
  case true =>
    have HO := Lib.hid (l01Ok_any L hL a w h)
    rw [hv] at HO
    have HH := Lib.hid h
    have HHG := Lib.hid hh
    have HGR := Lib.hid (fun (x y : Int) (x0 : -128 ≤ x) (x1 : x ≤ 127) (y0 : -128 ≤ y) (y1 : y ≤ 127) (w : World) (h : Holds w a L.cells) => grass_any L hv hL a x y x0 x1 y0 y1 w h)
    have HOF := Lib.hid (fun (h : levTo L g 10 0) => levB_of hv h)
    have HNO := Lib.hid (fun (y x : Nat) (hy : y < 10) (hx : x < 10) (h : levAt L g y x = false) => levB_not (L := L) (g := g) hy hx h)
    have HFT := Lib.hid hg
    have HA := Lib.hid (show ∀ y x : Nat, levAt L g y x = (inB (g y x) (-9) 9 && (g y x == 0 || grassB L x y)) from fun _ _ => rfl)
    clear hv hL hg h hh
    go_enter Tryz.func28, Tryz.ntmps28
    go_wp2_with fail
    refine HO.out.mono ?_
    rintro e w1 ⟨rfl, hb1⟩
    have HH1 := Lib.hid (HH.out.below hb1 HH.out.lt)
    have HG1 := Lib.hid (HHG.out.below hb1 HHG.out.lt)
    clear HO HH HHG
    go_wp2_with fail
    go_loopw [5, 6, 7] (fun y _ _ wr => ∃ k : Nat, k ≤ 10 ∧ y = .int .i8 k ∧ Below w1.heap.size w1 wr ∧ levTo L g k 0) (fun y _ _ _ => 10 - (intOf y).toNat)
    case atStart => exact ⟨0, by omega, rfl, Below.refl _ _, levTo_zero L g⟩
    case round =>
      obtain ⟨k, hk, rfl, hb, hok⟩ := hrel
      have HOK := Lib.hid hok
      clear hok
      by_cases hlt : k < 10
      · have hd : decide ((k : Int) < 10) = true := by simp; omega
        go_wp2_with fail
        go_loopw [6, 7] (fun x _ wi => ∃ j : Nat, j ≤ 10 ∧ x = .int .i8 j ∧ Below w1.heap.size w1 wi ∧ levTo L g k j) (fun x _ _ => 10 - (intOf x).toNat)
        case atStart => exact ⟨0, by omega, rfl, hb, HOK.out⟩
        case round =>
          obtain ⟨j, hj, rfl, hbi, hoki⟩ := hrel
          have HOI := Lib.hid hoki
          clear hoki
          by_cases hjt : j < 10
          · have hdj : decide ((j : Int) < 10) = true := by simp; omega
            have ha := HH1.out.below hbi HH1.out.lt
            have hgi := HG1.out.below hbi HG1.out.lt
            obtain ⟨-, -, ci, -, li⟩ := hgi.facts
            have ck : wr.cell? ⟨b, k * 10 + j, none⟩ = some (.int .i8 (g k j)) := (ci _).trans (levV_get g k j hlt hjt)
            obtain ⟨k0, k1⟩ := HFT.out k j hlt hjt
            have hwr : IntKind.i64.wrap (g k j) = g k j := IntWalk.i64_in _ (by omega)
            have HAkj := Lib.hid (HA.out k j)
            clear ci
            cases hin : inB (g k j) (-9) 9
            · have HV := Lib.hid (HNO.out k j hlt hjt (by rw [HA.out, hin]; rfl))
              have HIN := Lib.hid (l06Level_is _ _ hin)
              clear hin HAkj
              go_wp2_with (go_at_call 52; refine (HIN.out _).mono ?_; rintro e w2 ⟨rfl, rfl⟩)
              go_ret
              exact ⟨by rw [HV.out]; rfl, below_onto hb1 hbi⟩
            · have HIN := Lib.hid (l06Level_is _ _ hin)
              by_cases hz : g k j = 0
              · have hz' : ((g k j : Int) != 0) = false := by simp [hz]
                have HOK' := Lib.hid (show levAt L g k j = true by rw [HAkj.out, hin, hz]; rfl)
                clear hz hin HAkj
                go_wp2_with (go_at_call 52; refine (HIN.out _).mono ?_; rintro e w2 ⟨rfl, rfl⟩)
                go_roundw
                case rel => exact ⟨j + 1, by omega, by go_num, hbi, levTo_snoc HOI.out HOK'.out⟩
                case measure => simp [intOf]; omega
              · have hz' : ((g k j : Int) != 0) = true := by simp [hz]
                have hz0 : ((g k j : Int) == 0) = false := by simp [hz]
                have HGkj := Lib.hid (fun w h => HGR.out (j : Int) (k : Int) (by omega) (by omega) (by omega) (by omega) w h)
                obtain ⟨gb, hgb⟩ : ∃ gb, grassB L (j : Int) (k : Int) = gb := ⟨_, rfl⟩
                rw [hgb] at HGkj
                rw [hin, hz0, hgb] at HAkj
                clear hz hz0 hin hgb
                cases gb
                · have HV := Lib.hid (HNO.out k j hlt hjt HAkj.out)
                  clear HAkj
                  go_wp2_with (first | (go_at_call 52; refine (HIN.out _).mono ?_; rintro e w2 ⟨rfl, rfl⟩) | (go_at_call 53; refine (HGkj.out _ ha).mono ?_; rintro e w2 ⟨rfl, hb2⟩; have hb3 := below_onto hbi hb2; clear hb2))
                  go_ret
                  exact ⟨by rw [HV.out]; rfl, below_onto hb1 hb3⟩
                · have HOK' := Lib.hid HAkj.out
                  clear HAkj
                  go_wp2_with (first | (go_at_call 52; refine (HIN.out _).mono ?_; rintro e w2 ⟨rfl, rfl⟩) | (go_at_call 53; refine (HGkj.out _ ha).mono ?_; rintro e w2 ⟨rfl, hb2⟩; have hb3 := below_onto hbi hb2; clear hb2))
                  go_roundw
                  case rel => exact ⟨j + 1, by omega, by go_num, hb3, levTo_snoc HOI.out HOK'.out⟩
                  case measure => simp [intOf]; omega
          · obtain rfl : j = 10 := by omega
            go_wp2_with fail
            go_roundw
            case rel => exact ⟨k + 1, by omega, by go_num, hbi, levTo_row HOI.out⟩
            case measure => simp [intOf]; omega
      · obtain rfl : k = 10 := by omega
        have HVV := Lib.hid (HOF.out HOK.out)
        go_wp2_with fail
        go_ret
        exact ⟨by rw [HVV.out]; rfl, below_onto hb1 hb⟩


set_option maxRecDepth 100000 in
set_option maxHeartbeats 400000 in
theorem l06Asked_any (L : Lawn) (hL : L.Fits) (g : Nat → Nat → Int) (hg : LevFits g) (a b : Nat) (fine : Bool) (w : World) (h : Holds w a L.cells) (hh : Holds w b (levV g)) :
    Calls Tryz.prog 13 #[.pointer (some ⟨a, 0, none⟩), .pointer (some ⟨b, 0, none⟩), .bool fine] w fun e w' => e = .returned (.int .i64 (told (levB L g) fine)) ∧ Below w.heap.size w w' := by
  have HO := Lib.hid (l06Ok_any L hL g hg a b w h hh)
  generalize levB L g = v at HO ⊢
  clear hL hg h hh
  go_enter Tryz.func13, Tryz.ntmps13
  go_wp2_with fail
  refine HO.out.mono ?_
  rintro e w1 ⟨rfl, hb1⟩
  clear HO
  cases v <;> cases fine
  all_goals
    go_wp2_with fail
    go_ret
    exact ⟨rfl, hb1⟩
end Go.Proofs.YtabemgplddfemaaGreatDoor
