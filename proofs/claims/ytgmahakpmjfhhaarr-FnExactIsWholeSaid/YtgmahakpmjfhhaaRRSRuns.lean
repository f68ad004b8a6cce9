/- RunsOf of the model. -/
import Derived.Test.YtgmahakpmjfhhaaRRRuns
import Derived.Test.YtgmahakpmjfhhaaRRSCells
namespace Go.Proofs.YtgmahakpmjfhhaaRR
open Go.RowKit
set_option linter.unusedVariables false
attribute [local go_sem ↓] loadRow loadGrid loadLawn loadMirror storeRow storeGrid storeLawn allocRow allocGrid allocLawn buildZero buildSides

theorem backOne_any (across : Bool) (x y : Int) (h0 : -128 < x) (h1 : x ≤ 127) (h2 : -128 < y) (h3 : y ≤ 127) (w : World) :
    Calls Try.prog 171 #[.agg #[.int .i8 x, .int .i8 y], .bool across, .int .i8 1] w fun e w' => e = .returned (.agg #[.int .i8 (x - stepX across), .int .i8 (y - stepY across)]) ∧ Below w.heap.size w w' := by
  cases across
  all_goals
    go_enter Try.func171, Try.ntmps171
    go_wp2_with fail
    exact bodyPost_ret (results_cell_holds (n := 2) rfl (by kernel_rfl) _ rfl (Holds.new' _ _ _ (w.heap.size + 1) (by simp)) rfl) rfl ⟨by simp [stepX, stepY], ((Below.refl _ _).alloc (Nat.le_refl _) _).alloc (by simp) _⟩
theorem backTo_any (across : Bool) (x y : Int) (j : Nat) (hj : j ≤ 10) (h0 : 0 ≤ x) (h1 : x ≤ 9) (h2 : 0 ≤ y) (h3 : y ≤ 9) (w : World) :
    Calls Try.prog 171 #[.agg #[.int .i8 x, .int .i8 y], .bool across, .int .i8 (-(j : Int))] w fun e w' => e = .returned (.agg #[.int .i8 (posX across x j), .int .i8 (posY across y j)]) ∧ Below w.heap.size w w' := by
  have hj0 : (0 : Int) ≤ j := by omega
  have hj1 : (j : Int) ≤ 10 := by omega
  cases across
  all_goals
    go_enter Try.func171, Try.ntmps171
    go_wp2_with fail
    exact bodyPost_ret (results_cell_holds (n := 2) rfl (by kernel_rfl) _ rfl (Holds.new' _ _ _ (w.heap.size + 1) (by simp)) rfl) rfl ⟨rfl, ((Below.refl _ _).alloc (Nat.le_refl _) _).alloc (by simp) _⟩

set_option maxRecDepth 100000 in
set_option maxHeartbeats 1000000 in
theorem grass_any (L : Lawn) (hv : validB L = true) (hL : L.Fits) (b : Nat) (x y : Int) (x0 : -128 ≤ x) (x1 : x ≤ 127) (y0 : -128 ≤ y) (y1 : y ≤ 127) (w : World) (h : Holds w b L.cells) :
    Calls Try.prog 170 #[.pointer (some ⟨b, 0, none⟩), .agg #[.int .i8 x, .int .i8 y]] w fun e w' => e = .returned (.bool (grassB L x y)) ∧ Below w.heap.size w w' := by
  cases hi : isB L x y
  case false =>
    have e : grassB L x y = false := by simp [grassB, hi]
    rw [e]
    have h1 := h.alloc (.cells #[.int .i8 x, .int .i8 y] 35)
    have hb0 := (Below.refl w.heap.size w).alloc (Nat.le_refl _) (.cells #[.int .i8 x, .int .i8 y] 35)
    have HB := Lib.hid (l01Is_is L hL b x y _ h1 x0 x1 y0 y1 false hi)
    clear e hi hv hL h h1
    go_enter Try.func170, Try.ntmps170
    go_wp2_with fail
    refine HB.out.mono ?_
    rintro e w1 ⟨rfl, hb1⟩
    have hb2 := below_onto hb0 hb1
    clear hb0 hb1
    go_wp2_with fail
    go_ret
    exact ⟨rfl, hb2⟩
  case true =>
    have h1 := h.alloc (.cells #[.int .i8 x, .int .i8 y] 35)
    have HB := Lib.hid (l01Is_is L hL b x y _ h1 x0 x1 y0 y1 true hi)
    obtain ⟨i, j, hi10, hj10, rfl, rfl⟩ := cell_nat hv hi
    have e : grassB L i j = (L.kind j i == 0) := by simp [grassB, hi]
    rw [e]
    have hb0 := (Below.refl w.heap.size w).alloc (Nat.le_refl _) (.cells #[.int .i8 i, .int .i8 j] 35)
    have c0 := Holds.new w #[.int .i8 i, .int .i8 j] 35
    clear e hi hv h x0 x1 y0 y1
    go_enter Try.func170, Try.ntmps170
    go_wp2_with fail
    refine HB.out.mono ?_
    rintro e w1 ⟨rfl, hb1⟩
    have hb2 := below_onto hb0 hb1
    have h2 := h1.below hb1 h1.lt
    have c1 := c0.below hb1 c0.lt
    clear hb0 hb1 h1 c0
    obtain ⟨-, -, d1, -⟩ := c1.facts
    go_wp2_with fail
    refine (at_any L hL b i j hi10 hj10 _ h2).mono ?_
    rintro e w2 ⟨rfl, hb1⟩
    have hb3 := below_onto hb2 hb1
    clear hb2 hb1 h2 c1 d1 hL
    go_wp2_with fail
    go_ret
    exact ⟨rfl, hb3⟩

theorem isB_fin {L : Lawn} {W H : Nat} (hW : L.wide = W) (hH : L.high = H) (c : Fin W × Fin H) : isB L c.1.val c.2.val = true := by
  have := c.1.isLt; have := c.2.isLt
  simp only [isB, inB, Bool.and_eq_true, decide_eq_true_eq]; omega
theorem heads_of_grass {L : Lawn} {W H : Nat} (across : Bool) (l : List (Fin W × Fin H)) : filtB (headB L across) (l.filter fun c => L.kind c.2 c.1 == 0) = filtB (headB L across) l := by
  unfold filtB
  rw [List.filter_filter]
  apply List.filter_congr
  intro c _
  cases h : headB L across c.2 c.1
  · simp
  · simp only [headB, grassB, Bool.and_eq_true] at h
    simpa using h.1.2

set_option maxRecDepth 100000 in
set_option maxHeartbeats 2000000 in
theorem l01Runs_any (Wn Hn : Nat) (hW : Wn ≤ 10) (hH : Hn ≤ 10) (hW1 : 1 ≤ Wn) (hH1 : 1 ≤ Hn) (L : Lawn) (hL : L.Fits) (hLw : L.wide = Wn) (hLh : L.high = Hn) (hV : validB L = true) (across : Bool) (b : Nat) (w : World) (h : Holds w b L.cells) :
    Calls Try.prog 102 #[.pointer (some ⟨b, 0, none⟩), .bool across] w fun e w' => ∃ v, e = .returned v ∧ w'.ownsRow w.heap.size 37 3 v (filtB (headB L across) (allC Wn Hn)).length (runsV L across (filtB (headB L across) (allC Wn Hn))) ∧ Below w.heap.size w w' := by
  obtain ⟨i0, hi, hz0, hz1, hz2⟩ := info_parts runInfo
  have HI := Lib.hid (show Try.prog.info? 37 = some i0 ∧ i0.zero = some (.agg #[.int .i8 0, .int .i8 0, .int .i8 0]) ∧ i0.size = 3 ∧ i0.bytes = 3 from ⟨hi, hz0, hz1, hz2⟩)
  have HG := Lib.hid (grass_any L hV hL b)
  have HIS := Lib.hid (fun c => isB_fin hLw hLh (c : Fin Wn × Fin Hn))
  have HGP := Lib.hid (fun (x y : Int) j => grass_pos hV (across := across) (x := x) (y := y) (j := j))
  have HC := Lib.hid (fun w h => l01Cells_any Wn Hn hW hH hW1 hH1 L hL hLw hLh 0 b w h)
  clear hi hz0 hz1 hz2 hLw hLh hL hV
  go_enter Try.func102, Try.ntmps102
  go_wp2_with fail
  have hm : (w.alloc (.cells #[] 37)).ownsRow w.heap.size 37 3 (.slice (some ⟨w.heap.size, 0, none⟩) 0 0) 0 [] := World.ownsRow_made w #[] 0 (Nat.le_refl _) (by simp [maxLen]) rfl
  have hb0 := (Below.refl w.heap.size w).alloc (Nat.le_refl _) (.cells #[] 37)
  have h1 := h.alloc (.cells #[] 37)
  have hs0 : w.heap.size < (w.alloc (.cells #[] 37)).heap.size := by simp
  have hbw := h.lt
  obtain ⟨W0, hW0⟩ : ∃ W0, w.alloc (.cells #[] 37) = W0 := ⟨_, rfl⟩
  rw [hW0] at hm hb0 hs0 h1 ⊢
  clear hW0 h
  refine (HC.out W0 h1).mono ?_
  rintro e w1 ⟨vA, rfl, hoA, hb1⟩
  have hb2 := below_onto hb0 hb1
  have h2 := h1.below hb1 h1.lt
  have hm1 := own_below hm hb1
  have hfar := fun k => (hm.lt k)
  have hN1 : (ofKind L Wn Hn 0).length ≤ 100 := by
    refine Nat.le_trans (List.length_filter_le _ _) ?_
    rw [allC_length]
    exact Nat.le_trans (Nat.mul_le_mul hH hW) (by omega)
  obtain ⟨N, hN⟩ : ∃ N, (ofKind L Wn Hn 0).length = N := ⟨_, rfl⟩
  rw [hN] at hoA hN1
  obtain ⟨aA, cA, rfl⟩ := own_slice hoA
  have HN := Lib.hid hN
  clear hm hb0 hb1 h1 hN hfar
  go_wp2_with fail
  go_loopw [5, 7] (fun v x wr => ∃ i : Nat, i ≤ N ∧ x = .int .i64 i ∧ wr.ownsRow w.heap.size 37 3 v (filtB (headB L across) ((ofKind L Wn Hn 0).take i)).length (runsV L across (filtB (headB L across) ((ofKind L Wn Hn 0).take i))) ∧ wr.ownsRow W0.heap.size 35 2 (.slice aA N cA) N (flatV (ofKind L Wn Hn 0)) ∧ (v.ownBlock = none ∨ v.ownBlock ≠ Value.ownBlock (.slice aA N cA)) ∧ Holds wr b L.cells ∧ Below w.heap.size w wr) (fun _ x _ => N - (intOf x).toNat)
  case atStart =>
    refine ⟨0, by omega, rfl, by simpa [filtB, runsV] using hm1, hoA, .inr ?_, h2, hb2⟩
    intro he
    have := own_far hoA w.heap.size he.symm
    omega
  case round =>
    obtain ⟨i, hi, rfl, ho, hA, hv, hbx, hb⟩ := hrel
    have HO := Lib.hid ho
    have HAo := Lib.hid hA
    have HV := Lib.hid hv
    clear ho hA hv hm1 hoA hb2 h2
    by_cases hlt : i < N
    · have hd : decide ((i : Int) < (N : Int)) = true := by simp; omega
      obtain ⟨c, hc⟩ : ∃ c, (ofKind L Wn Hn 0)[i]? = some c := ⟨_, List.getElem?_eq_getElem (by rw [HN.out]; exact hlt)⟩
      have HCc := Lib.hid hc
      have hcx := c.1.isLt
      have hcy := c.2.isLt
      have hgr : grassB L c.1.val c.2.val = true := by
        have hm := List.mem_of_getElem? hc
        simp only [ofKind, List.mem_filter] at hm
        simp only [grassB, HIS.out c, Bool.true_and]
        simpa using hm.2
      have HGR := Lib.hid hgr
      obtain ⟨g, cap, heq, hg0, hg1⟩ := own_form HAo.out (by omega)
      simp only [Value.slice.injEq, true_and] at heq
      obtain ⟨rfl, rfl⟩ := heq
      obtain ⟨fa, fb⟩ := flatV_get _ _ _ hc
      have ca := own_cell HAo.out _ _ fa
      have cb := own_cell HAo.out _ _ fb
      clear hc hgr
      have hx0 : (0 : Int) ≤ (c.1.val : Int) := by omega
      have hx1 : (c.1.val : Int) ≤ 9 := by omega
      have hy0 : (0 : Int) ≤ (c.2.val : Int) := by omega
      have hy1 : (c.2.val : Int) ≤ 9 := by omega
      go_wp2_with fail
      refine (backOne_any across _ _ (by omega) (by omega) (by omega) (by omega) _).mono ?_
      rintro e w2 ⟨rfl, hb1⟩
      have k2 := hbx.below hb1 hbx.lt
      have hstep : -1 ≤ (c.1.val : Int) - stepX across ∧ (c.1.val : Int) - stepX across ≤ 9 ∧ -1 ≤ (c.2.val : Int) - stepY across ∧ (c.2.val : Int) - stepY across ≤ 9 := by
        cases across <;> simp only [stepX, stepY] <;> simp <;> omega
      obtain ⟨s1, s2, s3, s4⟩ := hstep
      obtain ⟨gb, hgb⟩ : ∃ gb, grassB L ((c.1.val : Int) - stepX across) ((c.2.val : Int) - stepY across) = gb := ⟨_, rfl⟩
      have HGB := Lib.hid hgb
      go_wp2_with fail
      refine (HG.out _ _ (by omega) (by omega) (by omega) (by omega) _ k2).mono ?_
      rw [hgb]
      rintro e w3 ⟨rfl, hb3⟩
      have hb4 := below_onto hb1 hb3
      have hb5 := below_onto hb hb4
      have k3 := hbx.below hb4 hbx.lt
      have HO2 := Lib.hid (own_below HO.out hb4)
      have HA2 := Lib.hid (own_below HAo.out hb4)
      clear hb1 hb3 hb4 hb hbx k2 HO HAo ca cb hgb
      cases gb
      case true =>
        have ho3 : filtB (headB L across) ((ofKind L Wn Hn 0).take (i + 1)) = filtB (headB L across) ((ofKind L Wn Hn 0).take i) := by
          rw [List.take_add_one, HCc.out, Option.toList_some, filtB_miss (by simp [headB, HGB.out])]
        rw [← ho3] at HO2
        clear ho3 s1 s2 s3 s4
        go_wp2_with fail
        go_roundw
        case rel => exact ⟨i + 1, by omega, by go_num, HO2.out, HA2.out, HV.out, k3, hb5⟩
        case measure => simp [intOf]; omega
      case false =>
        have hhd := Lib.hid (show headB L across c.2.val c.1.val = true by simp [headB, HGR.out, HGB.out])
        have ca := own_cell HA2.out _ _ fa
        have cb := own_cell HA2.out _ _ fb
        clear s1 s2 s3 s4 fa fb
        go_wp2_with fail
        obtain ⟨rb, hrb⟩ : ∃ rb, w3.heap.size = rb := ⟨_, rfl⟩
        have n0 : Holds (w3.alloc (.cells #[.int .i8 c.1.val, .int .i8 c.2.val, .int .i8 0] 37)) rb #[.int .i8 c.1.val, .int .i8 c.2.val, .int .i8 ((0 : Nat) : Int)] := Holds.new' _ _ _ _ hrb.symm
        have n1 := k3.alloc (.cells #[.int .i8 c.1.val, .int .i8 c.2.val, .int .i8 0] 37)
        have n2 := hb5.alloc hb5.size (.cells #[.int .i8 c.1.val, .int .i8 c.2.val, .int .i8 0] 37)
        have HO3 := Lib.hid (HO2.out.alloc (.cells #[.int .i8 c.1.val, .int .i8 c.2.val, .int .i8 0] 37))
        have HA3 := Lib.hid (HA2.out.alloc (.cells #[.int .i8 c.1.val, .int .i8 c.2.val, .int .i8 0] 37))
        have hfo := fun k hk => (HO2.out.lt k hk).2
        have hfa := fun k hk => (HA2.out.lt k hk).2
        have hbr := k3.lt
        have hwr := hb5.size
        rw [hrb] at hfo hfa hbr hwr ⊢
        have HFO := Lib.hid hfo
        have HFA := Lib.hid hfa
        obtain ⟨W1, hW1⟩ : ∃ W1, w3.alloc (.cells #[.int .i8 c.1.val, .int .i8 c.2.val, .int .i8 0] 37) = W1 := ⟨_, rfl⟩
        rw [hW1] at n0 n1 n2 HO3 HA3 ⊢
        have hz1 : rb < W1.heap.size := n0.lt
        clear hW1 hrb k3 hb5 HO2 HA2 ca cb hfo hfa
        go_loopw [31] (fun _ wi => ∃ j : Nat, j ≤ 10 ∧ Only [rb] W1 wi ∧ Holds wi rb #[.int .i8 c.1.val, .int .i8 c.2.val, .int .i8 (j : Int)] ∧ (∀ m, m < j → grassB L (posX across c.1.val m) (posY across c.2.val m) = true)) (fun _ wi => 11 - (intOf ((rowAt wi rb).getD 2 undef)).toNat)
        case atStart => exact ⟨0, by omega, Only.refl _ _, n0, fun m hm => by omega⟩
        case round =>
          obtain ⟨j, hj, hO, hrj, hgm⟩ := hrel
          have HGM := Lib.hid hgm
          have hm3 := Lib.hid hrj.row
          have m1 := hO.holds n1 (by simp; omega)
          have HO4 := Lib.hid (hO.own HO3.out (fun k hk => by have := HFO.out k hk; simp; omega))
          have HA4 := Lib.hid (hO.own HA3.out (fun k hk => by have := HFA.out k hk; simp; omega))
          obtain ⟨fa, fb⟩ := flatV_get _ _ _ HCc.out
          have ca := fun w' hw' => own_cell (own_below HA4.out (W' := w') hw') _ _ fa
          have cb := fun w' hw' => own_cell (own_below HA4.out (W' := w') hw') _ _ fb
          obtain ⟨-, cr⟩ := hrj.later
          obtain ⟨gj, hgj⟩ : ∃ gj, grassB L (posX across c.1.val j) (posY across c.2.val j) = gj := ⟨_, rfl⟩
          have HGJ := Lib.hid hgj
          have hj0 : (0 : Int) ≤ j := by omega
          have hj1 : (j : Int) ≤ 10 := by omega
          have hpx : -128 ≤ posX across c.1.val j ∧ posX across c.1.val j ≤ 127 ∧ -128 ≤ posY across c.2.val j ∧ posY across c.2.val j ≤ 127 := by
            cases across <;> simp only [posX, posY] <;> simp <;> omega
          have HPX := Lib.hid hpx
          clear hgm fa fb hgj hpx
          go_wp2_with fail
          refine wp_region_grow 10 (by kernel_rfl) (by kernel_rfl) ?_
          simp only [List.take_succ_cons, List.take_zero, List.drop_succ_cons, List.drop_zero]
          iterate 10
            apply wpGrow_plain rfl
            · intro w' hw' K hK
              have e1 := ca _ hw'
              have e2 := cb _ hw'
              have e3 := cr _ hw'
              go_wp2_with (go_at_call 171; refine (backTo_any across _ _ j hj (by omega) (by omega) (by omega) (by omega) _).mono ?_; rintro e w2 ⟨rfl, hb2⟩)
              first | exact hK _ _ rfl hw' | exact hK _ _ rfl (below_onto hw' hb2)
            simp only [Act.put, List.setIfInBounds_toArray, List.set_cons_succ, List.set_cons_zero]
          refine wpGrow_nil ?_
          intro W2 hW2
          have hO2 := hO.onto hW2
          have m2 := m1.below hW2 m1.lt
          have r2 := hrj.below hW2 hrj.lt
          clear ca cb cr hW2 m1 hrj hO HO4 HA4
          go_wp2_with fail
          refine (HG.out _ _ (HPX.out.1) (HPX.out.2.1) (HPX.out.2.2.1) (HPX.out.2.2.2) _ m2).mono ?_
          rw [HGJ.out]
          rintro e w4 ⟨rfl, hb6⟩
          have hO3 := hO2.onto hb6
          have r3 := r2.below hb6 r2.lt
          clear hO2 m2 r2 hb6
          obtain ⟨r4, -, c4, z4, l4⟩ := r3.facts
          cases gj
          case true =>
            obtain ⟨hj9, -⟩ := HGP.out _ _ j hx0 hy0 HGJ.out
            go_wp2_with fail
            go_roundw
            case rel =>
              refine ⟨j + 1, by omega, hO3.setCell (a := ⟨rb, 2, none⟩) (.inl (by simp)) _, r3.setCell 2 (.int .i8 ((j : Int) + 1)), fun m hm => ?_⟩
              by_cases e : m = j
              · subst e; exact HGJ.out
              · exact HGM.out m (by omega)
            case measure =>
              rw [(r3.setCell 2 (.int .i8 ((j : Int) + 1))).row, hm3.out]
              simp [intOf]; omega
          case false =>
            have hrun := Lib.hid (runLen_of (L := L) (across := across) (x := c.1.val) (y := c.2.val) (n := j) ⟨HGM.out, HGJ.out⟩ hj)
            have HO4 := Lib.hid (hO3.own HO3.out (fun k hk => by have := HFO.out k hk; simp; omega))
            have HA4 := Lib.hid (hO3.own HA3.out (fun k hk => by have := HFA.out k hk; simp; omega))
            have m4 := hO3.holds n1 (by simp; omega)
            have hb7 : Below w.heap.size w w4 := n2.trans (hO3.toBelow (by simp; omega) n2.size)
            have hle : (filtB (headB L across) ((ofKind L Wn Hn 0).take i)).length ≤ 100 := Nat.le_trans (filtB_le _ _) (by simp; omega)
            have hfl : (filtB (headB L across) ((ofKind L Wn Hn 0).take (i + 1))) = filtB (headB L across) ((ofKind L Wn Hn 0).take i) ++ [c] := by
              rw [List.take_add_one, HCc.out, Option.toList_some, filtB_hit hhd.out]
            have HFL := Lib.hid hfl
            clear HO3 HA3 n0 n1 n2 hO3 r3 hfl z4
            go_wp2_with (at_builtin; refine wpList_append_own_at _ rfl _ _ 31 rfl w.heap.size 37 i0 (.agg #[.int .i8 0, .int .i8 0, .int .i8 0]) 3 3 Try.underlying31 HI.out.1 HI.out.2.1 HI.out.2.2.1 HI.out.2.2.2 rfl (by decide) _ _ _ rfl (HO4.out.alloc _) ⟨w4.heap.size, 0, none⟩ 1 1 [.int .i8 c.1.val, .int .i8 c.2.val, .int .i8 (j : Int)] rfl rfl ?c1 ?c2 ?c3 ?c4 ?c5 ?_)
            case c1 =>
              intro m u hu
              match m, hu with
              | 0, hu => simp at hu; subst hu; exact (Holds.new w4 #[.int .i8 c.1.val, .int .i8 c.2.val, .int .i8 (j : Int)] 37).cell 0
              | 1, hu => simp at hu; subst hu; exact (Holds.new w4 #[.int .i8 c.1.val, .int .i8 c.2.val, .int .i8 (j : Int)] 37).cell 1
              | 2, hu => simp at hu; subst hu; exact (Holds.new w4 #[.int .i8 c.1.val, .int .i8 c.2.val, .int .i8 (j : Int)] 37).cell 2
            case c2 => intro u hu; simp at hu; rcases hu with rfl | rfl | rfl <;> rfl
            case c3 => unfold maxLen; omega
            case c4 => omega
            case c5 => have := hb7.size; simp; omega
            intro v' w5 hown' hgrow _ hat
            have hs : w.heap.size ≤ w4.heap.size := hb7.size
            have hb8 : Below w.heap.size w w5 := (hb7.alloc hs _).grown hgrow (by simp; omega) (fun k hk => own_far HO4.out k hk)
            have ho5 : w5.ownsRow w.heap.size 37 3 v' (filtB (headB L across) ((ofKind L Wn Hn 0).take (i + 1))).length (runsV L across (filtB (headB L across) ((ofKind L Wn Hn 0).take (i + 1)))) := by
              rw [HFL.out, runsV_append, List.length_append]
              simp only [runsV, List.flatMap_cons, List.flatMap_nil, List.append_nil, hrun.out]
              exact hown'
            have hA5 := (HA4.out.alloc (.cells #[.int .i8 c.1.val, .int .i8 c.2.val, .int .i8 (j : Int)] 37)).kept hgrow (HV.out.elim (fun h => .inr (by rw [h]; simp [Value.ownBlock])) (fun h => .inr (Ne.symm h)))
            have hv5 : v'.ownBlock = none ∨ v'.ownBlock ≠ Value.ownBlock (.slice (some ⟨g, 0, none⟩) N cA) := by
              rcases hat with h | h
              · rw [h]; exact HV.out
              · refine .inr ?_
                rw [h]
                have := (HA4.out.lt g rfl).2
                simp [Value.ownBlock]; omega
            have m5 : Holds w5 b L.cells := by
              have mm := m4.alloc (.cells #[.int .i8 c.1.val, .int .i8 c.2.val, .int .i8 (j : Int)] 37)
              exact held_grown mm (HO4.out.alloc _) hgrow hbw
            have HO5 := Lib.hid ho5
            have HA5 := Lib.hid hA5
            have HV5 := Lib.hid hv5
            clear hown' hgrow ho5 hA5 hv5 hat hb7 m4 HO4 HA4 r4 c4
            go_wp2_with fail
            go_roundw
            case rel => exact ⟨i + 1, by omega, by go_num, HO5.out, HA5.out, HV5.out, m5, hb8⟩
            case measure => simp [intOf]; omega
    · have hd : decide ((i : Int) < (N : Int)) = false := by simp; omega
      go_wp2_with fail
      go_ret
      refine ⟨_, rfl, ?_, hb⟩
      have := HO.out
      rw [List.take_of_length_le (by rw [HN.out]; omega)] at this
      rw [← heads_of_grass across (allC Wn Hn)]
      exact this

set_option maxRecDepth 100000 in
set_option maxHeartbeats 1000000 in
theorem specRuns_any (L : Lawn) (hL : L.Fits) (across : Bool) (w : World) :
    Calls Try.prog 27 #[.agg L.cells, .bool across] w fun e w' => (∃ v, e = .returned (.tuple #[v, .int .i64 (validC L)]) ∧ w'.ownsRow w.heap.size 37 3 v (runsC L across).length (runsV L across (runsC L across))) ∧ Below w.heap.size w w' := by
  have HL := Lib.hid hL
  obtain ⟨v, hv⟩ : ∃ v, validB L = v := ⟨_, rfl⟩
  have HV := Lib.hid hv
  have hb0 := (Below.refl w.heap.size w).alloc (Nat.le_refl _) (.cells L.cells 28)
  have g0 := Holds.new w L.cells 28
  clear hL hv
  go_enter Try.func27, Try.ntmps27
  go_wp2_with fail
  refine (l01Ok_any L HL.out _ _ g0).mono ?_
  rw [HV.out]
  rintro e w1 ⟨rfl, hb1⟩
  have g1 := g0.below hb1 g0.lt
  have hb2 := below_onto hb0 hb1
  clear g0 hb0 hb1
  cases v
  case true =>
    have e1 : validC L = 0 := by simp [validC, HV.out]
    have e2 : runsC L across = filtB (headB L across) (allC L.wide.toNat L.high.toNat) := by simp [runsC, HV.out]
    have E1 := Lib.hid e1
    have E2 := Lib.hid e2
    obtain ⟨h1, h2, -⟩ := validB_true HV.out
    have HC := Lib.hid (fun (b : Nat) (w : World) (h : Holds w b L.cells) => l01Runs_any L.wide.toNat L.high.toNat (by omega) (by omega) (by omega) (by omega) L HL.out (by omega) (by omega) HV.out across b w h)
    clear e1 e2 h1 h2
    go_wp2_with fail
    refine (HC.out _ _ g1).mono ?_
    rintro e w2 ⟨vv, rfl, ho, hb3⟩
    have hb4 := below_onto hb2 hb3
    obtain ⟨a, c, rfl⟩ := own_slice ho
    have HO := Lib.hid ho
    clear ho g1
    go_wp2_with fail
    go_ret2
    rw [E1.out, E2.out]
    exact ⟨⟨_, rfl, ownsRow_low HO.out hb2.size⟩, hb4⟩
  case false =>
    have e1 : validC L = 1 := by simp [validC, HV.out]
    have e2 : runsC L across = [] := by simp [runsC, HV.out]
    have E1 := Lib.hid e1
    have E2 := Lib.hid e2
    clear e1 e2
    go_wp2_with fail
    go_ret2
    rw [E1.out, E2.out]
    exact ⟨⟨_, rfl, World.ownsRow_made w1 #[] 0 hb2.size (by simp [maxLen]) rfl⟩, hb2.alloc hb2.size _⟩
end Go.Proofs.YtgmahakpmjfhhaaRR
