/- All sides, of the program; how long the edge is. -/
import Derived.Test.YthpfejbigdjhlaaISide
import Derived.Test.YthpfejbigdjhlaaEqlSd
namespace Go.Proofs.Ythpfejbigdjhlaa
open Go.RowKit Go.Shelf
set_option linter.unusedVariables false
attribute [local go_sem] Oper.semAt_some
attribute [local go_sem ↓] loadRow loadGrid loadLawn loadMirror storeRow storeGrid storeLawn allocRow allocGrid allocLawn buildZero buildSides loadRow' loadGrid' loadLawn' loadMirror' storeRow' storeGrid' storeLawn' allocRow' allocGrid' allocLawn' buildZero' buildSides' loadSd storeSd allocSd buildSd loadSd' storeSd' allocSd' buildSd' eqlSd buildInner

set_option maxRecDepth 100000 in
set_option maxHeartbeats 1000000 in
theorem plus_any (f g : Sd) (hf : ∀ j, 0 ≤ f j ∧ f j ≤ 1000) (hg : ∀ j, 0 ≤ g j ∧ g j ≤ 1000) (w : World) :
    Calls Try.prog 87 #[.agg (sdV f), .agg (sdV g)] w fun e w' => e = .returned (.agg (sdV (addS f g))) ∧ Below w.heap.size w w' := by
  have HF := Lib.hid hf
  have HG := Lib.hid hg
  clear hf hg
  go_enter Try.func87, Try.ntmps87
  go_wp2_with fail
  obtain ⟨W0, hW0⟩ : ∃ W0, ((w.alloc (.cells (sdV f) 28)).alloc (.cells (sdV g) 28)).alloc (.cells (sdV fun _ => 0) 28) = W0 := ⟨_, rfl⟩
  have g0 : Holds W0 w.heap.size (sdV f) := by rw [← hW0]; exact ((Holds.new _ _ _).alloc _).alloc _
  have g2 : Holds W0 (w.heap.size + 1 + 1) (sdV fun _ => 0) := by rw [← hW0]; exact Holds.new' _ _ _ _ (by simp)
  have hb0 : Below w.heap.size w W0 := by rw [← hW0]; exact (((Below.refl w.heap.size w).alloc (Nat.le_refl _) _).alloc (by simp) _).alloc (by simp; omega) _
  rw [hW0]
  obtain ⟨s, hs⟩ : ∃ s, w.heap.size = s := ⟨_, rfl⟩
  rw [hs] at g0 g2 hb0 ⊢
  have HS := Lib.hid hs
  clear hs hW0
  go_loopw [8] (fun q wr => ∃ k : Nat, k ≤ 5 ∧ q = .int .i64 k ∧ Holds wr s (sdV (addTo f g k)) ∧ Holds wr (s + 1 + 1) (sdV fun _ => 0) ∧ Below s w wr) (fun q _ => 5 - (intOf q).toNat)
  case atStart => exact ⟨0, by omega, rfl, by rw [addTo_zero]; exact g0, g2, hb0⟩
  case round =>
    obtain ⟨k, hk, rfl, k0, k2, hb⟩ := hrel
    clear g0 g2 hb0
    by_cases hlt : k < 5
    · have hd : decide ((k : Int) < (5 : Int)) = true := by simp; omega
      have cf := k0.sd k hlt
      rw [addTo_at] at cf
      have hix := sd_index g k hlt
      obtain ⟨-, -, -, fr, hl⟩ := k0.facts
      have b1 := HF.out k
      have b2 := HG.out k
      have hwr : IntKind.i64.wrap (f k + g k) = f k + g k := IntWalk.i64_in _ (by omega)
      go_wp2_with fail
      go_roundw
      case rel =>
        refine ⟨k + 1, by omega, by go_num, ?_, k2.setCell_other _ _ (by dsimp only; omega), hb.setCell (p := ⟨s, k, none⟩) (by dsimp only; omega) _⟩
        rw [← addTo_succ]
        exact k0.setSd k hlt _
      case measure => simp [intOf]; omega
    · obtain rfl : k = 5 := by omega
      have hd : decide (((5 : Nat) : Int) < (5 : Int)) = false := by decide
      rw [addTo_all] at k0
      have r0 := k0.row
      obtain ⟨rr, fr, -, -, -⟩ := k2.facts
      have HR := Lib.hid (k2.setRow (sdV (addS f g)))
      have HB := Lib.hid hb
      go_wp2_with fail
      exact bodyPost_ret (results_cell_holds (n := 5) rfl (by kernel_rfl) _ rfl HR.out rfl) rfl ⟨rfl, by have := HS.out; subst this; exact below_setRow HB.out _ (by omega) _⟩

set_option maxRecDepth 100000 in
set_option maxHeartbeats 1000000 in
theorem edge_any (f : Sd) (hf : ∀ j, 0 ≤ f j ∧ f j ≤ 1000) (w : World) :
    Calls Try.prog 57 #[.agg (sdV f)] w fun e w' => e = .returned (.int .i64 (edgeZ f)) ∧ Below w.heap.size w w' := by
  have HF := Lib.hid hf
  clear hf
  go_enter Try.func57, Try.ntmps57
  go_wp2_with fail
  have g0 := Holds.new w (sdV f) 28
  have hb0 := (Below.refl w.heap.size w).alloc (Nat.le_refl _) (.cells (sdV f) 28)
  obtain ⟨W0, hW0⟩ : ∃ W0, w.alloc (.cells (sdV f) 28) = W0 := ⟨_, rfl⟩
  rw [hW0] at g0 hb0 ⊢
  clear hW0
  go_loopw [3, 7] (fun a q wr => ∃ k : Nat, k ≤ 5 ∧ q = .int .i64 k ∧ a = .int .i64 (preS f k) ∧ wr = W0) (fun _ q _ => 5 - (intOf q).toNat)
  case atStart => exact ⟨0, by omega, rfl, rfl, rfl⟩
  case round =>
    obtain ⟨k, hk, rfl, rfl, rfl⟩ := hrel
    by_cases hlt : k < 5
    · have hd : decide ((k : Int) < (5 : Int)) = true := by simp; omega
      have hix := sd_index f k hlt
      have b1 := HF.out k
      have b2 := preS_bound HF.out k
      have hwr : IntKind.i64.wrap (preS f k + f k) = preS f k + f k := IntWalk.i64_in _ (by omega)
      go_wp2_with fail
      go_roundw
      case rel => exact ⟨k + 1, by omega, by go_num, rfl, trivial⟩
      case measure => simp [intOf]; omega
    · obtain rfl : k = 5 := by omega
      have hd : decide (((5 : Nat) : Int) < (5 : Int)) = false := by decide
      have c0 := g0.sd 0 (by omega)
      have b1 := HF.out 0
      have b2 := preS_bound HF.out 5
      have hwr : IntKind.i64.wrap (preS f 5 - f 0) = preS f 5 - f 0 := IntWalk.i64_in _ (by omega)
      have he := preS_all f
      have HE := Lib.hid he
      clear he
      go_wp2_with fail
      go_ret
      exact ⟨by rw [← HE.out]; rfl, hb0⟩

set_option maxRecDepth 100000 in
set_option maxHeartbeats 1000000 in
theorem isInner_any (L : Lawn) (hv : validB L = true) (x y : Int) (x0 : 0 ≤ x) (x1 : x ≤ 9) (y0 : 0 ≤ y) (y1 : y ≤ 9) (w : World) :
    Calls Try.prog 101 #[.agg L.cells, .agg #[.int .i8 x, .int .i8 y]] w fun e w' => e = .returned (.bool (innerB L (x, y))) ∧ Below w.heap.size w w' := by
  have HSA := Lib.hid (sidesAt_any L hv x y x0 x1 y0 y1)
  have HE := Lib.hid (inner_is hv (x, y))
  clear hv
  go_enter Try.func101, Try.ntmps101
  obtain ⟨g0, c0, hb0⟩ := cell_new w L x y
  go_wp2_with fail
  refine (HSA.out _).mono ?_
  rintro e w1 ⟨rfl, hb1⟩
  have hb2 := below_onto hb0 hb1
  clear hb0 hb1 g0 c0
  go_wp2_with fail
  go_ret
  exact ⟨by rw [HE.out]; rfl, hb2⟩

set_option maxRecDepth 100000 in
set_option maxHeartbeats 2000000 in
theorem allSides_loop (Wn Hn : Nat) (hW : Wn ≤ 10) (hH : Hn ≤ 10) (L : Lawn) (hLw : L.wide = Wn) (hLh : L.high = Hn) (hL : L.Fits) (hV : validB L = true) (w : World) :
    Calls Try.prog 55 #[.agg L.cells] w fun e w' => e = .returned (.agg (sdV (allS L Wn Hn))) ∧ Below w.heap.size w w' := by
  have HGR := Lib.hid (fun (x y : Int) (w : World) => isGrass_any L hV hL x y w)
  have HSA := Lib.hid (fun (c : Fin Wn × Fin Hn) (w : World) => sidesAt_any L hV c.1.val c.2.val (by omega) (by have := c.1.isLt; omega) (by omega) (by have := c.2.isLt; omega) w)
  have HGB := Lib.hid (fun (c : Fin Wn × Fin Hn) => show grassB L c.1.val c.2.val = (L.kind c.2.val c.1.val == 0) by simp [grassB, isB_fin hLw hLh c])
  have HL : Hid (L = ⟨(Wn : Int), (Hn : Int), L.kind⟩) := Lib.hid (by cases L; simp_all)
  clear hLw hLh hV hL
  refine (callsIn_wide (n := 9)).1 ?_
  refine callsIn_of_wp_marks Try.func55 rfl trivial ?_ rfl
  simp only [Try.ntmps55, List.size_toArray, List.length_cons, List.length_nil, Nat.reduceAdd, Nat.reduceSub, Array.replicate_succ, Array.replicate_zero, List.push_toArray, List.append_toArray, List.nil_append, List.cons_append]
  gi_wp2_with (refine ⟨trivial, ?_⟩; gi_at_call 83; refine (each_in Fence.wide _ trivial rfl _ _).mono ?_; rintro e w2 ⟨rfl, rfl⟩)
  obtain ⟨s, hs⟩ : ∃ s, w.heap.size = s := ⟨_, rfl⟩
  obtain ⟨W0, hW0⟩ : ∃ W0, (((w.alloc (.cells L.cells 31)).alloc (.cells (sdV fun _ => 0) 28)).alloc (.cells (sdV fun _ => 0) 28)).alloc (.cells L.cells 31) = W0 := ⟨_, rfl⟩
  have g0 : Holds W0 s L.cells := by rw [← hW0]; exact (((Holds.new' _ _ _ _ hs.symm).alloc _).alloc _).alloc _
  have g1 : Holds W0 (s + 1) (sdV fun _ => 0) := by rw [← hW0]; exact ((Holds.new' _ _ _ _ (by simp; omega)).alloc _).alloc _
  have g2 : Holds W0 (s + 1 + 1) (sdV fun _ => 0) := by rw [← hW0]; exact (Holds.new' _ _ _ _ (by simp; omega)).alloc _
  have g3 : Holds W0 (s + 1 + 1 + 1) L.cells := by rw [← hW0]; exact Holds.new' _ _ _ _ (by simp; omega)
  have hB0 : Below w.heap.size w W0 := by rw [← hW0]; exact ((((Below.refl w.heap.size w).alloc (Nat.le_refl _) _).alloc (by simp) _).alloc (by simp; omega) _).alloc (by simp; omega) _
  have hz1 : s + 4 ≤ W0.heap.size := by rw [← hW0]; simp; omega
  have hz2 : W0.heap.size ≤ s + 4 := by rw [← hW0]; simp; omega
  rw [hs] at hB0 ⊢
  rw [hW0]
  clear hW0
  refine each_range (by omega) (p := 7) (q := 4) [s + 1 + 1] Wn Hn hW hH L.kind rfl (by rw [← HL.out]; exact g3)
    (fun pre W => Holds W (s + 1 + 1) (sdV (grassS L Wn Hn pre))) (fun c pre W => False)
    (Own.from (holds_own _ (fun pre => sdV (grassS L Wn Hn pre))) _) (fun c => fun _ _ _ _ h _ _ => h.elim) g2 ?assign ?body ?done ?stop
  case assign =>
    intro l x y W K hK
    simp only [cellV]
    gi_wp2
    exact hK
  case body =>
    rintro l pre x Bx W hl hr hO i2 hBx bX hlt
    have hpl : pre.length ≤ 100 := by
      have h2 : (allC Wn Hn).length ≤ 100 := by rw [allC_length]; exact Nat.le_trans (Nat.mul_le_mul hH hW) (by omega)
      omega
    have HSx := Lib.hid (HSA.out x)
    have HYes := Lib.hid (fun h => grassS_yes (L := L) pre x h)
    have HNo := Lib.hid (fun h => grassS_no (L := L) pre x h)
    have HBD := Lib.hid (grassS_bound L Wn Hn pre hpl)
    have hgb := HGB.out x
    have HBS := Lib.hid (sidesL_bound L ((x.1.val : Int), (x.2.val : Int)))
    obtain ⟨⟨xj, hxj⟩, ⟨xk, hxk⟩⟩ := x
    dsimp only at *
    simp only [cellV, List.setIfInBounds_toArray, List.set_cons_succ, List.set_cons_zero]
    have i0 := hO.holds g0 (by simp; omega)
    have hO2 := Lib.hid hO
    have HGx := Lib.hid (HGR.out xj xk)
    clear hr hlt hl hO
    obtain ⟨r0, -, -, -, -⟩ := i0.facts
    obtain ⟨-, -, cx, -, -⟩ := bX.facts
    have hsw := i2.lt
    gi_wp2_with fail
    refine ⟨trivial, (CallsIn.inRound l (callsIn_wide.2 (HGx.out _))).mono ?_⟩
    rw [hgb]
    rintro e w1 ⟨rfl, hb1⟩
    have j2 := i2.below hb1 i2.lt
    have j0 := i0.below hb1 i0.lt
    have jX := bX.below hb1 bX.lt
    have jO : Only [s + 1 + 1] W0 w1 := hO2.out.onto hb1
    have jK : KeepsOthers W w1 := keeps_below hb1
    clear i2 i0 bX hb1 r0 cx
    by_cases hk : L.kind xk xj = 0
    · have hkd : ((L.kind xk xj : Int) == 0) = true := by simp [hk]
      have HY := Lib.hid (HYes.out hk)
      clear hk
      obtain ⟨r0, -⟩ := j0.later
      obtain ⟨-, cx⟩ := jX.later
      obtain ⟨r2, -⟩ := j2.later
      gi_wp2_with fail
      refine wpIn_region_grow 5 (by kernel_rfl) rfl (by rintro ⟨_, _, h⟩; exact h) (by kernel_rfl) ?_
      simp only [List.take_succ_cons, List.take_zero, List.drop_succ_cons, List.drop_zero]
      iterate 5
        apply wpGrow_plain rfl
        · intro w' hw' K hK
          have cx' := cx _ hw'
          have r0' := r0 _ hw'
          have r2' := r2 _ hw'
          go_wp2_with (first | (go_at_call 61; refine (HSx.out _).mono ?_; rintro e w2 ⟨rfl, hb2⟩) | (go_at_call 87; refine (plus_any _ _ (fun j => by have := HBD.out j; omega) (fun j => by have := HBS.out j; omega) _).mono ?_; rintro e w2 ⟨rfl, hb2⟩))
          first | exact hK _ _ rfl hw' | exact hK _ _ rfl (below_onto hw' hb2)
        simp only [Act.put, List.setIfInBounds_toArray, List.set_cons_succ, List.set_cons_zero]
      refine wpGrow_nil ?_
      intro W2 hW2
      have q2 := j2.below hW2 j2.lt
      have qO : Only [s + 1 + 1] W0 W2 := jO.onto hW2
      have qK : KeepsOthers W W2 := jK.trans (keeps_below hW2)
      have q3 := q2.setRow (sdV (addS (grassS L Wn Hn pre) (sidesL L ((xj : Int), (xk : Int)))))
      obtain ⟨rr, fr, -, -, -⟩ := q2.facts
      clear r0 r2 cx j0 j2 jX hW2
      go_wp2_with fail
      refine eachDone (b := s + 1 + 1 + 1) (by omega) (by simp) hO2.out (qK.trans (keeps_setRow _ _ _)) (qO.setRow (.inl (by simp)) _) ?_
      rw [HY.out]
      exact q3
    · have hkd : ((L.kind xk xj : Int) == 0) = false := by simp [hk]
      have HY := Lib.hid (HNo.out hk)
      clear hk
      gi_wp2_with fail
      exact eachDone (b := s + 1 + 1 + 1) (by omega) (by simp) hO2.out jK jO (by rw [HY.out]; exact j2)
  case done =>
    rintro D W hD hO i2 hK
    have hB2 : Below s w W := hB0.trans (hO.toBelow (by simp; omega) (by omega))
    have i1 := hO.holds g1 (by simp)
    obtain ⟨r2, f2, c2, z2, l2⟩ := i2.facts
    obtain ⟨r1, f1, c1, z1, l1⟩ := i1.facts
    have q1 := i1.setRow (sdV (grassS L Wn Hn (allC Wn Hn)))
    have hK' : (W.setRow (s + 1) (sdV (grassS L Wn Hn (allC Wn Hn)))).heap[D]? = some (.deferred (some [])) := (setRow_other W _ D _ (by omega)).trans hK
    have hB3 := below_setRow' hB2 (g := s + 1) (by omega) (sdV (grassS L Wn Hn (allC Wn Hn)))
    clear g0 g1 g2 g3 c2 c1
    gi_wp2
    refine ⟨by simp, .inl ⟨_, _, rfl, run_takeDeferred hK', ?_⟩⟩
    refine ⟨_, results_cell_holds (n := 5) rfl (by kernel_rfl) _ rfl (q1.grown (grownBy_putObj' _ D _) (fun r e => by cases e; exact ⟨_, hK', rfl⟩)) rfl, rfl, hs ▸ hB3.trans (belowK_b (w := w) (by omega) _ D _ _ (by omega) hK' rfl rfl)⟩
  case stop =>
    rintro D c pre W hD _ h hK
    exact h.elim
end Go.Proofs.Ythpfejbigdjhlaa
