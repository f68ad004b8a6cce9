/- MirrorWeeds of the program. -/
import Derived.Test.YtoengjabakcpjaaDoorCheckW
import Derived.Test.YtoengjabakcpjaaDoorWeedsIn
import Derived.Test.YtoengjabakcpjaaDoorSDay
import Derived.BigRegion
namespace Go.Proofs.YtoengjabakcpjaaDoor
open Go.RowKit Go.Shelf
set_option linter.unusedVariables false
set_option linter.unusedSimpArgs false
attribute [local go_sem] Oper.semAt_some
attribute [local go_sem ↓] loadRow loadGrid loadLawn loadMirror storeRow storeGrid storeLawn allocRow allocGrid allocLawn buildZero buildSides loadRow' loadGrid' loadLawn' loadMirror' storeRow' storeGrid' storeLawn' allocRow' allocGrid' allocLawn' buildZero' buildSides' loadWd storeWd allocWd buildZWd eqlWd loadWd' storeWd' allocWd' buildZWd' eqlWd'

/-- Weeds mirrored in a lawn so wide. -/
def mirL (W : Nat) (t : Nat → Nat → Bool) : Nat → Nat → Bool := fun y x => decide (x < W) && t y (W - 1 - x)
theorem mir_nil {W H : Nat} (s : Nat → Nat → Bool) : bV 10 (mirL W (layS s ([] : List (Fin W × Fin H)))) = bV 10 fun _ _ => false := bV_ext fun y x _ _ => by simp [mirL, layS]
theorem mir_hit {W H : Nat} (s : Nat → Nat → Bool) (pre : List (Fin W × Fin H)) (c : Fin W × Fin H) (h : s c.2 c.1 = true) : bV 10 (withB (mirL W (layS s pre)) c.2 (W - 1 - c.1)) = bV 10 (mirL W (layS s (pre ++ [c]))) := by
  refine bV_ext fun y x _ _ => ?_
  have hc := c.1.isLt
  simp only [withB, mirL, layS, List.any_append, List.any_cons, List.any_nil, Bool.or_false]
  by_cases hx : x < W
  · by_cases e : y = c.2.val ∧ W - 1 - x = c.1.val
    · obtain ⟨rfl, e2⟩ := e
      have e4 : (x == W - 1 - c.1.val) = true := by simp; omega
      simp only [e4, e2, beq_self_eq_true, h, Bool.and_true, Bool.or_true, hx, decide_true]
    · have hb : (c.2.val == y && c.1.val == W - 1 - x) = false := by
        cases h : (c.2.val == y && c.1.val == W - 1 - x) with
        | false => rfl
        | true => simp only [Bool.and_eq_true, beq_iff_eq] at h; exact absurd ⟨h.1.symm, h.2.symm⟩ e
      have hb2 : (y == c.2.val && x == W - 1 - c.1.val) = false := by
        cases h : (y == c.2.val && x == W - 1 - c.1.val) with
        | false => rfl
        | true => simp only [Bool.and_eq_true, beq_iff_eq] at h; exact absurd ⟨h.1, by omega⟩ e
      rw [hb, hb2]
      simp
  · have hb2 : (x == W - 1 - c.1.val) = false := by
      cases h : (x == W - 1 - c.1.val) with
      | false => rfl
      | true => rw [beq_iff_eq] at h; omega
    simp [hx, hb2]
theorem mir_miss {W H : Nat} (s : Nat → Nat → Bool) (pre : List (Fin W × Fin H)) (c : Fin W × Fin H) (h : s c.2 c.1 = false) : bV 10 (mirL W (layS s (pre ++ [c]))) = bV 10 (mirL W (layS s pre)) := by
  refine bV_ext fun y x _ _ => ?_
  simp only [mirL, layS, List.any_append, List.any_cons, List.any_nil, Bool.or_false]
  by_cases e : y = c.2.val ∧ W - 1 - x = c.1.val
  · obtain ⟨rfl, e2⟩ := e
    simp [e2, h]
  · have hb : (c.2.val == y && c.1.val == W - 1 - x) = false := by
      cases h : (c.2.val == y && c.1.val == W - 1 - x) with
      | false => rfl
      | true => simp only [Bool.and_eq_true, beq_iff_eq] at h; exact absurd ⟨h.1.symm, h.2.symm⟩ e
    rw [hb]
    simp
/-- What MirrorWeeds answers. -/
def mirR (L : Lawn) (s : Nat → Nat → Bool) : Nat → Nat → Bool := if weedB L s then mirL L.wide.toNat (layS s (allC L.wide.toNat L.high.toNat)) else fun _ _ => false

set_option maxRecDepth 100000 in
set_option maxHeartbeats 2000000 in
theorem mirW_loop (Wn Hn : Nat) (hW : Wn ≤ 10) (hH : Hn ≤ 10) (L : Lawn) (hLw : L.wide = Wn) (hLh : L.high = Hn) (hL : L.Fits) (s : Nat → Nat → Bool) (hw : weedB L s = true) (w : World) :
    Calls Tryd.prog 36 #[.agg L.cells, .agg (bV 10 s)] w fun e w' => e = .returned (.tuple #[.agg (bV 10 (mirL Wn (layS s (allC Wn Hn)))), .int .i64 0]) ∧ Below w.heap.size w w' := by
  have HC := Lib.hid (checkWeeds_nil L hL s)
  rw [hw] at HC
  have HL : Hid (L = ⟨(Wn : Int), (Hn : Int), L.kind⟩) := Lib.hid (by cases L; simp_all)
  have HLw := Lib.hid (show L.cells[0]? = some (.int .i8 (Wn : Int)) by rw [← hLw]; exact Lawn.cells_0 L)
  clear hLw hLh hL hw
  obtain ⟨u, hu⟩ : ∃ u, w.heap.size = u := ⟨_, rfl⟩
  obtain ⟨W1, hW1⟩ : ∃ W1, ((w.alloc (.cells L.cells 31)).alloc (.cells (bV 10 s) 33)).alloc (.cells (bV 10 fun _ _ => false) 33) = W1 := ⟨_, rfl⟩
  have g0 : Holds W1 u L.cells := by rw [← hW1]; exact ((Holds.new' _ _ _ _ hu.symm).alloc _).alloc _
  have g1 : Holds W1 (u + 1) (bV 10 s) := by rw [← hW1]; exact (Holds.new' _ _ _ _ (by simp; omega)).alloc _
  have g2 : Holds W1 (u + 2) (bV 10 fun _ _ => false) := by rw [← hW1]; exact Holds.new' _ _ _ _ (by simp; omega)
  have hB1 : Below u w W1 := by rw [← hW1]; exact (((Below.refl u w).alloc (by omega) _).alloc (by simp; omega) _).alloc (by simp; omega) _
  obtain ⟨r0, -, -, -, l0⟩ := g0.facts
  obtain ⟨r1, -, -, -, l1⟩ := g1.facts
  refine (callsIn_wide (n := 9)).1 ?_
  refine callsIn_of_wp_marks Tryd.func36 rfl trivial ?_ rfl
  simp only [Tryd.ntmps36, List.size_toArray, List.length_cons, List.length_nil, Nat.reduceAdd, Nat.reduceSub, Array.replicate_succ, Array.replicate_zero, List.push_toArray, List.append_toArray, List.nil_append, List.cons_append]
  gi_wp2_with fail
  try simp only [hu, Nat.add_assoc, Nat.reduceAdd]
  try rw [hW1]
  refine ⟨trivial, (callsIn_wide.2 (HC.out _)).mono ?_⟩
  rintro e W2 ⟨⟨x, rfl, hx⟩, hb2⟩
  obtain rfl : x = .nilIface := by
    rcases hx with ⟨h, -⟩ | ⟨hc, -⟩
    · exact h
    · simp [told] at hc
  have j0 := g0.below hb2 g0.lt
  have j1 := g1.below hb2 g1.lt
  have j2 := g2.below hb2 g2.lt
  have hB2 : Below u w W2 := hB1.trans (hb2.mono (by have := g0.lt; omega))
  clear hb2 hx g0 g1 g2 hB1 HC r0 l0 r1 l1 hW1
  obtain ⟨z, hz⟩ : ∃ z, W2.heap.size = z := ⟨_, rfl⟩
  have hzu : u + 3 ≤ z := by have := j2.lt; omega
  obtain ⟨W0, hW0⟩ : ∃ W0, (W2.alloc (.cells (bV 10 fun _ _ => false) 33)).alloc (.cells L.cells 31) = W0 := ⟨_, rfl⟩
  have g0 : Holds W0 u L.cells := by rw [← hW0]; exact (j0.alloc _).alloc _
  have g1 : Holds W0 (u + 1) (bV 10 s) := by rw [← hW0]; exact (j1.alloc _).alloc _
  have g2 : Holds W0 (u + 2) (bV 10 fun _ _ => false) := by rw [← hW0]; exact (j2.alloc _).alloc _
  have g3 : Holds W0 z (bV 10 fun _ _ => false) := by rw [← hW0]; exact (Holds.new' _ _ _ _ hz.symm).alloc _
  have g4 : Holds W0 (z + 1) L.cells := by rw [← hW0]; exact Holds.new' _ _ _ _ (by simp; omega)
  have hB0 : Below u w W0 := by rw [← hW0]; exact (hB2.alloc (by omega) _).alloc (by simp; omega) _
  have hsz : W0.heap.size = z + 2 := by rw [← hW0]; simp; omega
  obtain ⟨r0, -, -, -, l0⟩ := (j0.alloc (.cells (bV 10 fun _ _ => false) 33)).facts
  gi_wp2_with (refine ⟨trivial, ?_⟩; gi_at_call 65; refine (each_in Fence.wide _ trivial rfl _ _).mono ?_; rintro e w2 ⟨rfl, rfl⟩)
  try simp only [hz, World.alloc_size, Nat.add_assoc, Nat.reduceAdd]
  try rw [hW0]
  have hz1 : z + 2 ≤ W0.heap.size := by omega
  have hz2 : W0.heap.size ≤ z + 2 := by omega
  clear hW0 hz j0 j1 j2 hB2 r0 l0 hsz
  refine each_range (by omega) (p := 19) (q := 8) [z] Wn Hn hW hH L.kind rfl (by rw [← HL.out]; exact g4)
    (fun pre W => Holds W z (bV 10 (mirL Wn (layS s pre)))) (fun c pre W => False)
    (Own.from (holds_own _ (fun pre => bV 10 (mirL Wn (layS s pre)))) _) (fun c => fun _ _ _ _ h _ _ => h.elim) (by rw [mir_nil]; exact g3) ?assign ?body ?done ?stop
  case assign =>
    intro l x y W K hK
    simp only [cellV]
    gi_wp2
    exact hK
  case body =>
    rintro l pre x Bx W hl hr hO i3 hBx bX hlt
    have hx := x.1.isLt
    have hy := x.2.isLt
    have HHit := Lib.hid (mir_hit s pre x)
    have HMiss := Lib.hid (mir_miss s pre x)
    have HH := Lib.hid (wdHas_any s x.1.val x.2.val (by omega) (by omega))
    obtain ⟨kb, hkb⟩ : ∃ kb, s x.2.val x.1.val = kb := ⟨_, rfl⟩
    rw [hkb] at HHit HMiss HH
    clear hkb
    obtain ⟨⟨xj, hxj⟩, ⟨xk, hxk⟩⟩ := x
    dsimp only at *
    simp only [cellV, List.setIfInBounds_toArray, List.set_cons_succ, List.set_cons_zero]
    have i0 := hO.holds g0 (by simp; omega)
    have i1 := hO.holds g1 (by simp; omega)
    have hO2 := Lib.hid hO
    clear hr hlt hl hO
    obtain ⟨r1, -, -, -, l1⟩ := i1.facts
    obtain ⟨rx, -, cx, -, lx⟩ := bX.facts
    have cx0 := (cx 0).trans (show _ = some (.int .i8 (xj : Int)) from rfl)
    have cx1 := (cx 1).trans (show _ = some (.int .i8 (xk : Int)) from rfl)
    gi_wp2_with fail
    refine ⟨trivial, (CallsIn.inRound l (callsIn_wide.2 (HH.out _))).mono ?_⟩
    rintro e w3 ⟨rfl, hb3⟩
    have p0 := i0.below hb3 i0.lt
    have p3 := i3.below hb3 i3.lt
    have pX := bX.below hb3 bX.lt
    have pO : Only [z] W0 w3 := hO2.out.onto hb3
    have pK : KeepsOthers W w3 := keeps_below hb3
    clear r1 l1 rx cx cx0 cx1 lx i0 i1 i3 bX hb3 HH
    cases kb
    · have HN := Lib.hid (HMiss.out rfl)
      clear HHit HMiss
      gi_wp2_with fail
      refine eachDone (b := z + 1) (by omega) (by simp) hO2.out pK pO ?_
      rw [HN.out]
      exact p3
    · have HN := Lib.hid (HHit.out rfl)
      clear HHit HMiss
      obtain ⟨-, -, c0, -, l0⟩ := p0.facts
      have cw := (c0 0).trans HLw.out
      obtain ⟨r3, f3, c3, z3, l3⟩ := p3.facts
      obtain ⟨rx, -, cX, -, lX⟩ := pX.facts
      have cx0 := (cX 0).trans (show _ = some (.int .i8 (xj : Int)) from rfl)
      have cx1 := (cX 1).trans (show _ = some (.int .i8 (xk : Int)) from rfl)
      have e1 : IntKind.i8.wrap ((Wn : Int) - 1) = (Wn : Int) - 1 := IntWalk.i8_in _ (by omega)
      have e2 : IntKind.i8.wrap ((Wn : Int) - 1 - xj) = ((Wn - 1 - xj : Nat) : Int) := by rw [IntWalk.i8_in _ (by omega)]; omega
      clear c0 c3 cX rx
      gi_wp2_with fail
      refine ⟨trivial, (CallsIn.inRound l (callsIn_wide.2 (wdWith_any _ (Wn - 1 - xj) xk (by omega) (by omega) _))).mono ?_⟩
      rintro e w4 ⟨rfl, hb4⟩
      have q3 := p3.below hb4 p3.lt
      have qO : Only [z] W0 w4 := pO.onto hb4
      have qK : KeepsOthers W w4 := pK.trans (keeps_below hb4)
      obtain ⟨r3', f3', c3', z3', l3'⟩ := q3.facts
      clear r3 f3 z3 l3 cw l0 cx0 cx1 lX pO pK c3'
      gi_wp2_with fail
      refine eachDone (b := z + 1) (by omega) (by simp) hO2.out (qK.trans (keeps_setRow _ _ _)) (qO.setRow (.inl (by simp)) _) ?_
      rw [← HN.out]
      exact q3.setRow _
  case done =>
    rintro D W hD hO i3 hK
    have hB2 : Below u w W := hB0.trans (hO.toBelow (by simp; omega) (by omega))
    have i2 := hO.holds g2 (by simp; omega)
    obtain ⟨r3, f3, c3, z3, l3⟩ := i3.facts
    obtain ⟨r2, f2, c2, z2, l2⟩ := i2.facts
    clear g0 g1 g2 g3 g4 HL HLw c2 c3
    gi_wp2
    have q2 := i2.setRow (bV 10 (mirL Wn (layS s (allC Wn Hn))))
    have hK' : (W.setRow (u + 2) (bV 10 (mirL Wn (layS s (allC Wn Hn))))).heap[D]? = some (.deferred (some [])) := (setRow_other W _ D _ (by omega)).trans hK
    have hB3 : Below w.heap.size w (W.setRow (u + 2) (bV 10 (mirL Wn (layS s (allC Wn Hn))))) := by rw [hu]; exact below_setRow' hB2 (g := u + 2) (by omega) _
    refine ⟨by simp, .inl ⟨_, _, rfl, run_takeDeferred hK', ?_⟩⟩
    exact ⟨_, results_cell_tmp_holds rfl wideWd _ rfl (q2.grown (grownBy_putObj' _ D _) (fun r e => by cases e; exact ⟨_, hK', rfl⟩)) (by simp), rfl, hB3.trans (belowK_b (w := w) (Nat.le_refl _) _ D _ _ (by omega) hK' rfl rfl)⟩
  case stop =>
    rintro D c pre W hD _ h hK
    exact h.elim

theorem mirR_good {L : Lawn} {s : Nat → Nat → Bool} (h : weedB L s = true) : mirR L s = mirL L.wide.toNat (layS s (allC L.wide.toNat L.high.toNat)) := by unfold mirR; rw [if_pos h]
theorem mirR_bad {L : Lawn} {s : Nat → Nat → Bool} (h : weedB L s = false) : mirR L s = fun _ _ => false := by unfold mirR; rw [if_neg (by rw [h]; simp)]
set_option maxRecDepth 100000 in
set_option maxHeartbeats 2000000 in
theorem implMirW_any (L : Lawn) (hL : L.Fits) (s : Nat → Nat → Bool) (w : World) :
    Calls Tryd.prog 36 #[.agg L.cells, .agg (bV 10 s)] w fun e w' => e = .returned (.tuple #[.agg (bV 10 (mirR L s)), .int .i64 (told (weedB L s) true)]) ∧ Below w.heap.size w w' := by
  cases hv : weedB L s with
  | true =>
    obtain ⟨h1, h2, -⟩ := validB_true (weedB_true hv).1
    rw [mirR_good hv]
    exact mirW_loop L.wide.toNat L.high.toNat (by omega) (by omega) L (by omega) (by omega) hL s hv w
  | false =>
    rw [mirR_bad hv]
    have HC := Lib.hid (checkWeeds_nil L hL s)
    rw [hv] at HC
    clear hv hL
    obtain ⟨u, hu⟩ : ∃ u, w.heap.size = u := ⟨_, rfl⟩
    obtain ⟨W1, hW1⟩ : ∃ W1, ((w.alloc (.cells L.cells 31)).alloc (.cells (bV 10 s) 33)).alloc (.cells (bV 10 fun _ _ => false) 33) = W1 := ⟨_, rfl⟩
    have g0 : Holds W1 u L.cells := by rw [← hW1]; exact ((Holds.new' _ _ _ _ hu.symm).alloc _).alloc _
    have g1 : Holds W1 (u + 1) (bV 10 s) := by rw [← hW1]; exact (Holds.new' _ _ _ _ (by simp; omega)).alloc _
    have g2 : Holds W1 (u + 2) (bV 10 fun _ _ => false) := by rw [← hW1]; exact Holds.new' _ _ _ _ (by simp; omega)
    have hB1 : Below u w W1 := by rw [← hW1]; exact (((Below.refl u w).alloc (by omega) _).alloc (by simp; omega) _).alloc (by simp; omega) _
    have HU := Lib.hid hu
    go_enter Tryd.func36, Tryd.ntmps36
    obtain ⟨r0, -, -, -, l0⟩ := g0.facts
    obtain ⟨r1, -, -, -, l1⟩ := g1.facts
    go_wp2_with fail
    try simp only [hu, Nat.add_assoc, Nat.reduceAdd]
    try rw [hW1]
    clear hW1 hu r0 r1 l0 l1
    refine (HC.out _).mono ?_
    rintro e W2 ⟨⟨x, rfl, hx⟩, hb2⟩
    rcases hx with ⟨-, hc⟩ | ⟨hc, ty, a, rfl, hr⟩
    · simp [told] at hc
    have j2 := g2.below hb2 g2.lt
    have hB2 : Below u w W2 := hB1.trans (hb2.mono (by have := g0.lt; omega))
    have HR := Lib.hid hr
    clear hb2 g0 g1 g2 hB1 HC hc hr
    go_wp2_with fail
    refine (HR.out _).mono ?_
    rintro e w2 ⟨rfl, hb3⟩
    have m2 := j2.below hb3 j2.lt
    have hb6 : Below u w w2 := hB2.trans (hb3.mono (by have := j2.lt; omega))
    clear hb3 j2 hB2
    obtain ⟨r2, f2, -, z2, l2⟩ := m2.facts
    go_wp2_with fail
    exact bodyPost_ret (results_cell_tmp_holds rfl wideWd _ rfl (m2.setRow (bV 10 fun _ _ => false)) (by simp)) rfl ⟨rfl, by rw [HU.out]; exact below_setRow' hb6 (by omega) _⟩

set_option maxRecDepth 100000 in
set_option maxHeartbeats 4000000 in
theorem specMirW_any (L : Lawn) (hL : L.Fits) (s : Nat → Nat → Bool) (w : World) :
    Calls Tryd.prog 35 #[.agg L.cells, .agg (bV 10 s)] w fun e w' => e = .returned (.tuple #[.agg (bV 10 (mirR L s)), .int .i64 (told (weedB L s) true)]) ∧ Below w.heap.size w w' := by
  obtain ⟨u, hu⟩ : ∃ u, w.heap.size = u := ⟨_, rfl⟩
  obtain ⟨W1, hW1⟩ : ∃ W1, ((w.alloc (.cells L.cells 31)).alloc (.cells (bV 10 s) 33)).alloc (.cells (bV 10 fun _ _ => false) 33) = W1 := ⟨_, rfl⟩
  have g0 : Holds W1 u L.cells := by rw [← hW1]; exact ((Holds.new' _ _ _ _ hu.symm).alloc _).alloc _
  have g1 : Holds W1 (u + 1) (bV 10 s) := by rw [← hW1]; exact (Holds.new' _ _ _ _ (by simp; omega)).alloc _
  have g2 : Holds W1 (u + 2) (bV 10 fun _ _ => false) := by rw [← hW1]; exact Holds.new' _ _ _ _ (by simp; omega)
  have hB1 : Below u w W1 := by rw [← hW1]; exact (((Below.refl u w).alloc (by omega) _).alloc (by simp; omega) _).alloc (by simp; omega) _
  have HU := Lib.hid hu
  have HO := Lib.hid (l07Asked_any L hL s u (u + 1) true W1 g0 g1)
  have HGOOD := Lib.hid (fun h => mirR_good (L := L) (s := s) h)
  have HBAD := Lib.hid (fun h => mirR_bad (L := L) (s := s) h)
  have HV := Lib.hid (fun (h : weedB L s = true) => (weedB_true h).1)
  have HHAS := Lib.hid (fun (x y : Nat) (hx : x < 10) (hy : y < 10) (w : World) (h : Holds w (u + 1) (bV 10 s)) => hasS_any s (u + 1) x y hx hy w h)
  have HAL := Lib.hid (fun (Wn Hn : Nat) (h1 : Wn ≤ 10) (h2 : Hn ≤ 10) (h3 : L.wide = Wn) (h4 : L.high = Hn) (w : World) (h : Holds w u L.cells) => l01All_any Wn Hn h1 h2 L h3 h4 u w h)
  obtain ⟨v, hv⟩ : ∃ v, weedB L s = v := ⟨_, rfl⟩
  rw [hv] at HO HGOOD HBAD HV ⊢
  clear hv hL
  go_enter Tryd.func35, Tryd.ntmps35
  go_wp2_with fail
  try simp only [hu, Nat.add_assoc, Nat.reduceAdd]
  try rw [hW1]
  clear hW1 hu
  refine HO.out.mono ?_
  rintro e W3 ⟨rfl, hb3⟩
  have k0 := g0.below hb3 g0.lt
  have k1 := g1.below hb3 g1.lt
  have k2 := g2.below hb3 g2.lt
  have hB3 : Below u w W3 := hB1.trans (hb3.mono (by have := g0.lt; omega))
  clear hb3 g0 g1 g2 hB1 HO
  cases v
  case false =>
    have HE := Lib.hid (HBAD.out (by trivial))
    have et : told false true = 1 := rfl
    obtain ⟨r2, f2, -, z2, l2⟩ := k2.facts
    clear HBAD HGOOD HV
    go_wp2_with fail
    exact bodyPost_ret (results_cell_tmp_holds rfl wideWd _ rfl (k2.setRow (bV 10 fun _ _ => false)) (by simp)) rfl ⟨by rw [HE.out]; rfl, by rw [HU.out]; exact below_setRow' hB3 (by omega) _⟩
  case true =>
  have hR := HGOOD.out (by trivial)
  obtain ⟨v1, v2, -⟩ := validB_true (HV.out (by trivial))
  obtain ⟨Wn, hWn⟩ : ∃ n : Nat, L.wide = n := ⟨L.wide.toNat, by omega⟩
  obtain ⟨Hn, hHn⟩ : ∃ n : Nat, L.high = n := ⟨L.high.toNat, by omega⟩
  have hw10 : Wn ≤ 10 := by omega
  have hh10 : Hn ≤ 10 := by omega
  have hw1 : 1 ≤ Wn := by omega
  have hh1 : 1 ≤ Hn := by omega
  have HA := Lib.hid (HAL.out Wn Hn hw10 hh10 hWn hHn)
  have HR : Hid (mirR L s = mirL Wn (layS s (allC Wn Hn))) := Lib.hid (by
    rw [hR]
    have e1 : L.wide.toNat = Wn := by omega
    have e2 : L.high.toNat = Hn := by omega
    rw [e1, e2])
  have HLw := Lib.hid (show L.cells[0]? = some (.int .i8 (Wn : Int)) by rw [← hWn]; exact Lawn.cells_0 L)
  have et : told true true = 0 := rfl
  clear hR v1 v2 hWn hHn HAL HGOOD HBAD HV
  obtain ⟨p, hp⟩ : ∃ p, W3.heap.size = p := ⟨_, rfl⟩
  have hpu : u + 3 ≤ p := by have := k2.lt; omega
  have m0 := k0.alloc (.cells (bV 10 fun _ _ => false) 33)
  have m1 := k1.alloc (.cells (bV 10 fun _ _ => false) 33)
  have m2 := k2.alloc (.cells (bV 10 fun _ _ => false) 33)
  have mp := Holds.new' W3 (bV 10 fun _ _ => false) 33 p hp.symm
  have hB4 : Below u w (W3.alloc (.cells (bV 10 fun _ _ => false) 33)) := hB3.alloc (by omega) _
  go_wp2_with fail
  obtain ⟨W4, hW4⟩ : ∃ W4, W3.alloc (.cells (bV 10 fun _ _ => false) 33) = W4 := ⟨_, rfl⟩
  try simp only [hp]
  try rw [hW4]
  rw [hW4] at m0 m1 m2 mp hB4
  clear hW4 hp k0 k1 k2 hB3
  refine (HA.out _ m0).mono ?_
  rintro e W5 ⟨vA, rfl, hoA, hb5⟩
  have hn : 0 < Hn * Wn := Nat.mul_pos (by omega) (by omega)
  have hn1 : Hn * Wn ≤ 100 := Nat.le_trans (Nat.mul_le_mul hh10 hw10) (by omega)
  obtain ⟨g, cap, rfl, hg0, hg1⟩ := own_form hoA hn
  have q0 := m0.below hb5 m0.lt
  have q1 := m1.below hb5 m1.lt
  have q2 := m2.below hb5 m2.lt
  have qp := mp.below hb5 mp.lt
  have hB5 : Below u w W5 := hB4.trans (hb5.mono (by have := m0.lt; omega))
  have hpg : p < g := by have := mp.lt; omega
  have HOA := Lib.hid hoA
  have HA := Lib.hid (allC_length Wn Hn)
  obtain ⟨N, hN⟩ : ∃ N, Hn * Wn = N := ⟨_, rfl⟩
  rw [hN] at HOA HA hn hn1 ⊢
  clear hN hoA hb5 m0 m1 m2 mp hB4 hg0 hg1
  go_wp2_with fail
  go_loopw [9] (fun x wr => ∃ i : Nat, i ≤ N ∧ x = .int .i64 i ∧ wr.ownsRow W4.heap.size 90 2 (.slice (some ⟨g, 0, none⟩) N cap) N (flatV (allC Wn Hn)) ∧ Holds wr p (bV 10 (mirL Wn (layS s ((allC Wn Hn).take i)))) ∧ Holds wr u L.cells ∧ Holds wr (u + 1) (bV 10 s) ∧ Holds wr (u + 2) (bV 10 fun _ _ => false) ∧ Below u w wr) (fun x _ => N - (intOf x).toNat)
  case atStart => exact ⟨0, by omega, rfl, HOA.out, by rw [List.take_zero, mir_nil]; exact qp, q0, q1, q2, hB5⟩
  case round =>
    obtain ⟨i, hi, rfl, ho, hpp, h0, h1, h2, hb⟩ := hrel
    have HO := Lib.hid ho
    clear ho HOA q0 q1 q2 qp hB5
    by_cases hlt : i < N
    · have hd : decide ((i : Int) < (N : Int)) = true := by simp; omega
      obtain ⟨c, hc⟩ : ∃ c, (allC Wn Hn)[i]? = some c := ⟨_, List.getElem?_eq_getElem (by rw [HA.out]; exact hlt)⟩
      have HT := Lib.hid (show (allC Wn Hn).take (i + 1) = (allC Wn Hn).take i ++ [c] by rw [List.take_add_one, hc]; rfl)
      obtain ⟨ca, cb⟩ := flatV_get _ _ _ hc
      have CA := Lib.hid ca
      have CB := Lib.hid cb
      have ca := own_cell HO.out _ _ ca
      have cb := own_cell HO.out _ _ cb
      have hcx := c.1.isLt
      have hcy := c.2.isLt
      have HHit := Lib.hid (mir_hit s ((allC Wn Hn).take i) c)
      have HMiss := Lib.hid (mir_miss s ((allC Wn Hn).take i) c)
      obtain ⟨⟨x, hx⟩, ⟨y, hy⟩⟩ := c
      dsimp only at *
      have HH := Lib.hid (HHAS.out x y (by omega) (by omega))
      obtain ⟨sb, hsb⟩ : ∃ sb, s y x = sb := ⟨_, rfl⟩
      rw [hsb] at HH HHit HMiss
      clear hc hsb
      go_wp2_with fail
      refine (HH.out _ h1).mono ?_
      rintro e w2 ⟨rfl, hb2⟩
      have HO2 := Lib.hid (own_below HO.out hb2)
      have jp := hpp.below hb2 hpp.lt
      have j0 := h0.below hb2 h0.lt
      have j1 := h1.below hb2 h1.lt
      have j2 := h2.below hb2 h2.lt
      have hb3 := hb.trans (hb2.mono (by have := h0.lt; omega))
      clear hb2 h0 h1 h2 hpp hb ca cb HO HH
      cases sb
      · have HM := Lib.hid (HMiss.out rfl)
        rw [← HT.out] at HM
        clear HHit HMiss
        go_wp2_with fail
        go_roundw
        case rel => exact ⟨i + 1, by omega, by go_num, HO2.out, by rw [HM.out]; exact jp, j0, j1, j2, hb3⟩
        case measure => simp [intOf]; omega
      · have HM := Lib.hid (HHit.out rfl)
        rw [← HT.out] at HM
        have ca := own_cell HO2.out _ _ CA.out
        have cb := own_cell HO2.out _ _ CB.out
        have hset := with_set (mirL Wn (layS s ((allC Wn Hn).take i))) y (Wn - 1 - x) (by omega)
        have hpw := wrap_pow (Wn - 1 - x) (by omega)
        obtain ⟨-, -, c1, z1, l1⟩ := jp.facts
        have ck := (c1 y).trans (bV_get 10 _ y (by omega))
        have zk := z1 y
        obtain ⟨-, -, c0, -, l0⟩ := j0.facts
        have cw := (c0 0).trans HLw.out
        have e1 : IntKind.i8.wrap ((Wn : Int) - 1) = (Wn : Int) - 1 := IntWalk.i8_in _ (by omega)
        have e2 : IntKind.i8.wrap ((Wn : Int) - 1 - x) = ((Wn - 1 - x : Nat) : Int) := by rw [IntWalk.i8_in _ (by omega)]; omega
        obtain ⟨d, hd2⟩ : ∃ d, Wn - 1 - x = d := ⟨_, rfl⟩
        rw [hd2] at hset hpw e2 HM
        have hd9 : d < 10 := by omega
        have hy0 : (0 : Int) ≤ y := by omega
        have hy1 : (y : Int) < 10 := by omega
        have hx0 : (0 : Int) ≤ d := by omega
        have hx1 : (d : Int) < 10 := by omega
        have H1 := Lib.hid (jp.setCell y (.int .u16 ((rowN (fun j => mirL Wn (layS s ((allC Wn Hn).take i)) y j || j == d) : Nat) : Int)))
        rw [hset, HM.out] at H1
        clear HHit HMiss c1 z1 c0 hset hd2
        go_wp2_with fail
        go_region
        go_wp2_with fail
        go_roundw
        case rel =>
          refine ⟨i + 1, by omega, by go_num, ?_, H1.out.drew, (j0.setCell_other _ _ (by dsimp only; omega)).drew, (j1.setCell_other _ _ (by dsimp only; omega)).drew, (j2.setCell_other _ _ (by dsimp only; omega)).drew, (hb3.setCell (p := ⟨p, y, none⟩) (by dsimp only; omega) _).drew⟩
          exact own_setAt3 HO2.out p y _ (by omega)
        case measure => simp [intOf]; omega
    · obtain rfl : i = N := by omega
      have hd : decide ((i : Int) < (i : Int)) = false := by simp
      rw [show (allC Wn Hn).take i = allC Wn Hn from List.take_of_length_le (by rw [HA.out]; omega), ← HR.out] at hpp
      obtain ⟨rp, -, -, -, lp⟩ := hpp.facts
      obtain ⟨r2, f2, -, z2, l2⟩ := h2.facts
      go_wp2_with fail
      exact bodyPost_ret (results_cell_tmp_holds rfl wideWd _ rfl (h2.setRow (bV 10 (mirR L s))) (by simp)) rfl ⟨rfl, by rw [HU.out]; exact below_setRow' hb (by omega) _⟩
end Go.Proofs.YtoengjabakcpjaaDoor
