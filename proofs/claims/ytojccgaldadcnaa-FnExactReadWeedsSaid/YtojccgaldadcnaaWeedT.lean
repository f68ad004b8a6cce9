/- WeedsText: the text of weeds. -/
import Derived.Test.YtojccgaldadcnaaLawnT
import Derived.Test.YtojccgaldadcnaaTextG
import Derived.Test.YtojccgaldadcnaaVWeed
import Derived.Test.YtojccgaldadcnaaSWeed
namespace Go.Proofs.Ytojccgaldadcnaa
open Go.RowKit Go.Shelf
set_option linter.unusedVariables false
set_option linter.unusedSimpArgs false
attribute [local go_sem] Oper.semAt_some
attribute [local go_sem ↓] loadRow loadGrid loadLawn loadMirror storeRow storeGrid storeLawn allocRow allocGrid allocLawn buildZero buildSides loadRow' loadGrid' loadLawn' loadMirror' storeRow' storeGrid' storeLawn' allocRow' allocGrid' allocLawn' buildZero' buildSides' loadWd storeWd allocWd buildZWd eqlWd loadWd' storeWd' allocWd' buildZWd' eqlWd'

def textW (L : Lawn) (s : Nat → Nat → Bool) : ByteArray := if weedB L s then ⟨(rowsG (letW s) L.wide.toNat L.high.toNat).toArray⟩ else ⟨#[]⟩

set_option maxRecDepth 100000 in
set_option maxHeartbeats 4000000 in
theorem weedT_loop (Wn Hn : Nat) (hW : Wn ≤ 10) (hH : Hn ≤ 10) (hW1 : 1 ≤ Wn) (L : Lawn) (hLw : L.wide = Wn) (hLh : L.high = Hn) (hL : L.Fits) (s : Nat → Nat → Bool) (hV : weedB L s = true) (w : World) :
    Calls Try.prog 14 #[.agg L.cells, .agg (bV 10 s)] w fun e w' => e = .returned (.string ⟨(textG (letW s) (allC Wn Hn)).toArray⟩) ∧ Below w.heap.size w w' := by
  have HI := Lib.hid (show ∀ w : World, Calls Try.prog 41 #[.agg L.cells, .agg (bV 10 s)] w fun e w' => e = .returned (.bool true) ∧ Below w.heap.size w w' from fun w => hV ▸ implWeeds_any L hL s w)
  have HHA := Lib.hid (fun (x y : Nat) (hx : x < 10) (hy : y < 10) (w : World) => wdHas_any s x y hx hy w)
  have HL : Hid (L = ⟨(Wn : Int), (Hn : Int), L.kind⟩) := Lib.hid (by cases L; simp_all)
  clear hLw hLh hV hL
  refine (callsIn_wide (n := 9)).1 ?_
  refine callsIn_of_wp_marks Try.func14 rfl trivial ?_ rfl
  simp only [Try.ntmps14, List.size_toArray, List.length_cons, List.length_nil, Nat.reduceAdd, Nat.reduceSub, Array.replicate_succ, Array.replicate_zero, List.push_toArray, List.append_toArray, List.nil_append, List.cons_append]
  obtain ⟨u, hu⟩ : ∃ u, w.heap.size = u := ⟨_, rfl⟩
  obtain ⟨Wa, hWa⟩ : ∃ Wa, (w.alloc (.cells L.cells 30)).alloc (.cells (bV 10 s) 32) = Wa := ⟨_, rfl⟩
  have g0 : Holds Wa u L.cells := by rw [← hWa]; exact (Holds.new' _ _ _ _ hu.symm).alloc _
  have g1 : Holds Wa (u + 1) (bV 10 s) := by rw [← hWa]; exact Holds.new' _ _ _ _ (by simp; omega)
  have hb0 : Below u w Wa := by rw [← hWa]; exact ((Below.refl u w).alloc (by omega) _).alloc (by simp; omega) _
  have HU := Lib.hid hu
  obtain ⟨q0, -, -, -, p0⟩ := g0.facts
  obtain ⟨q1, -, -, -, p1⟩ := g1.facts
  gi_wp2_with fail
  try simp only [hu, Nat.add_assoc, Nat.reduceAdd]
  try rw [hWa]
  clear hWa hu q0 q1 p0 p1
  refine ⟨trivial, (callsIn_wide.2 (HI.out _)).mono ?_⟩
  rintro e w1 ⟨rfl, hb1⟩
  have j0 := g0.below hb1 g0.lt
  have j1 := g1.below hb1 g1.lt
  have jB : Below u w w1 := hb0.trans (hb1.mono (by have := g0.lt; omega))
  have hsw : u + 1 < w1.heap.size := j1.lt
  clear g0 g1 hb0 hb1
  obtain ⟨r0, -, -, -, -⟩ := (j0.alloc (.cells #[.pointer none, .slice none 0 0] 74)).facts
  gi_wp2_with (refine ⟨trivial, ?_⟩; gi_at_call 42; refine (each_in Fence.wide _ trivial rfl _ _).mono ?_; rintro e w2 ⟨rfl, rfl⟩)
  obtain ⟨b, hbe⟩ : ∃ b, w1.heap.size = b := ⟨_, rfl⟩
  obtain ⟨W0, hW0⟩ : ∃ W0, (w1.alloc (.cells #[.pointer none, .slice none 0 0] 74)).alloc (.cells L.cells 30) = W0 := ⟨_, rfl⟩
  have gL : Holds W0 u L.cells := by rw [← hW0]; exact (j0.alloc _).alloc _
  have gS : Holds W0 (u + 1) (bV 10 s) := by rw [← hW0]; exact (j1.alloc _).alloc _
  have gB : Bld W0 b b [] := by rw [← hW0, ← hbe]; exact Lib.IsBuilderF.alloc (Bld.made w1 _ (Nat.le_refl _)) _
  have g3 : Holds W0 (b + 1) L.cells := by rw [← hW0]; exact Holds.new' _ _ _ _ (by simp; omega)
  have hB0 : Below u w W0 := by rw [← hW0]; exact (jB.alloc (by omega) _).alloc (by simp; omega) _
  have hsz : W0.heap.size = b + 2 := by rw [← hW0]; simp; omega
  have HBL := Lib.hid (show ∀ k, b < k → k < W0.heap.size → ∃ o, W0.heap[k]? = some o ∧ ∀ c fz, o ≠ .cells c 5 fz from fun k h1 h2 => by
    have e : k = b + 1 := by omega
    have := World.alloc_heap_new (w1.alloc (.cells #[.pointer none, .slice none 0 0] 74)) (.cells L.cells 30)
    rw [hW0, World.size_alloc, hbe] at this
    exact ⟨_, by rw [e]; exact this, fun c fz h => by simp only [Obj.cells.injEq] at h; exact absurd h.2.1 (by decide)⟩)
  rw [hbe] at hsw ⊢
  try rw [hW0]
  have hz1 : b + 2 ≤ W0.heap.size := by omega
  have hz2 : W0.heap.size ≤ b + 2 := by omega
  clear hW0 hbe j0 j1 jB r0 hsz
  refine each_rangeC (by omega) (p := 14) (q := 6) [b] Wn Hn hW hH L.kind rfl (by rw [← HL.out]; exact g3)
    (fun pre W => Bld W b b (Lib.byteCells (textG (letW s) pre))) (fun c pre W => False)
    (bld_own _ b b fun pre => Lib.byteCells (textG (letW s) pre)) (fun c => fun _ _ _ _ h _ _ => h.elim) gB ?assign ?body ?done ?stop
  case assign =>
    intro l x y W K hK
    simp only [cellV]
    gi_wp2
    exact hK
  case body =>
    rintro l pre x Bx W hl hr hO iB hBx bX hlt
    have hx := x.1.isLt
    have hy := x.2.isLt
    have hTS := Lib.hid (textG_snoc (letW s) pre x)
    obtain ⟨⟨xj, hxj⟩, ⟨xk, hxk⟩⟩ := x
    dsimp only at *
    simp only [cellV, List.setIfInBounds_toArray, List.set_cons_succ, List.set_cons_zero]
    have IB := Lib.hid iB
    have i0 := hO.holds gL (by simp; omega)
    have i1 := hO.holds gS (by simp; omega)
    have hO2 := Lib.hid hO
    clear hr hl hO iB
    obtain ⟨r1, -, -, -, -⟩ := i1.facts
    have hbX : Holds W Bx #[.int .i8 (xj : Int), .int .i8 (xk : Int)] := ⟨_, bX⟩
    obtain ⟨rx, -, cx, -, -⟩ := hbX.facts
    obtain ⟨kd, hkd⟩ : ∃ kd, s xk xj = kd := ⟨_, rfl⟩
    have HHx := Lib.hid (HHA.out xj xk (by omega) (by omega))
    rw [hkd] at HHx
    have HLW := Lib.hid (show letW s xk xj = if kd then 119 else 46 by simp [letW, hkd])
    rw [HLW.out] at hTS
    have htl : (textG (letW s) pre).length ≤ 200 := by
      have h1 := textG_length (letW s) pre
      have h2 : (allC Wn Hn).length ≤ 100 := by rw [allC_length]; exact Nat.le_trans (Nat.mul_le_mul hH hW) (by omega)
      omega
    clear hkd
    gi_wp2_with fail
    refine ⟨trivial, (CallsIn.inRound l (callsIn_wide.2 (HHx.out _))).mono ?_⟩
    rintro e W1 ⟨rfl, hb1⟩
    have IB1 := Lib.hid (bld_below IB.out hb1)
    have hO3 := hO2.out.onto hb1
    have k1 : KeepsOthers W W1 := keeps_below hb1
    have i2 := i0.below hb1 i0.lt
    have bX1 := (hb1.block Bx (Array.getElem?_eq_some_iff.1 bX).1).trans bX
    clear r1 rx cx i0 i1 bX IB hb1 HHx hbX
    cases kd
    all_goals
      gi_wp2_with fail
      refine ⟨trivial, (CallsIn.inRound l (callsIn_wide.2 (writeByte_any _ _ _ _ _ IB1.out (by rw [Lib.byteCells_length]; omega) (by have := hO3.size; omega)))).mono ?_⟩
      rintro e W2 ⟨rfl, hB2, hb2, hk2⟩
      have hO4 := write_only hO3 hb2 hk2 (by omega) HBL.out
      have k2 := k1.trans (write_keeps IB1.out hb2 hk2)
      have IB2 := Lib.hid hB2
      have i3 := hO4.holds gL (by simp; omega)
      have bX2 : Holds W2 Bx #[.int .i8 (xj : Int), .int .i8 (xk : Int)] := ⟨_, hk2 Bx _ bX1 (by simp; omega) (fun c fz h => by simp only [Obj.cells.injEq] at h; exact absurd h.2.1 (by decide))⟩
      clear hB2 hb2 hk2 IB1 hO3 i2 bX1
      obtain ⟨-, -, c2, -, -⟩ := i3.facts
      obtain ⟨-, -, cx, -, -⟩ := bX2.facts
      have hlw : L.wide = (Wn : Int) := congrArg Lawn.wide HL.out
      have hww : IntKind.i8.wrap ((Wn : Int) - 1) = (Wn : Int) - 1 := IntWalk.i8_in _ (by omega)
      by_cases hend : xj + 1 = Wn
      · have heq : ((xj : Int) == (Wn : Int) - 1) = true := by simp; omega
        rw [if_pos hend] at hTS
        gi_wp2_with fail
        refine ⟨trivial, (CallsIn.inRound l (callsIn_wide.2 (writeByte_any _ _ _ _ _ IB2.out (by simp only [List.length_append, Lib.byteCells_length, List.length_singleton]; omega) (by have := hO4.size; omega)))).mono ?_⟩
        rintro e W3 ⟨rfl, hB3, hb3, hk3⟩
        have hO5 := write_only hO4 hb3 hk3 (by omega) HBL.out
        have k3 := k2.trans (write_keeps IB2.out hb3 hk3)
        have IB3 := Lib.hid hB3
        clear hB3 hb3 hk3 IB2 hO4 i3 bX2
        gi_wp2_with fail
        exact eachDone (b := b + 1) (by omega) (by simp) hO2.out k3 hO5 (by rw [hTS.out, gbytes_two]; exact IB3.out)
      · have heq : ((xj : Int) == (Wn : Int) - 1) = false := by simp; omega
        rw [if_neg hend] at hTS
        gi_wp2_with fail
        exact eachDone (b := b + 1) (by omega) (by simp) hO2.out k2 hO4 (by rw [hTS.out, gbytes_one]; exact IB2.out)
  case done =>
    rintro D W hD hO iB hK
    have IB := Lib.hid iB
    have hB2 : Below u w W := hB0.trans (hO.toBelow (by simp; omega) (by omega))
    have hlb := bld_lt iB
    clear iB gL gS gB
    gi_wp2_with fail
    refine ⟨trivial, (callsIn_wide.2 (Try.Builder_String_any_k _ _ _ _ IB.out (by omega))).mono ?_⟩
    rintro e W3 ⟨rfl, hB3, hb3, hk3⟩
    have hK3 : W3.heap[D]? = some (.deferred (some [])) := hk3 D _ hK (by simp; omega) (fun c fz h => by cases h)
    have hB4 := hB2.trans (hb3.mono (by omega))
    clear hB3 hb3 hk3 IB hK hO hB2
    gi_wp2
    refine ⟨by simp, .inl ⟨_, _, rfl, run_takeDeferred hK3, ?_⟩⟩
    refine ⟨.string ⟨(textG (letW s) (allC Wn Hn)).toArray⟩, ?_, ⟨rfl, by rw [HU.out]; exact hB4.trans (belowK_b (w := w) (by have := HU.out; omega) _ D _ _ (by have := HU.out; omega) hK3 rfl rfl)⟩⟩
    simp [results, Try.f14, go_sem]
  case stop =>
    rintro D c pre W hD hO h hK
    exact h.elim

set_option maxRecDepth 100000 in
set_option maxHeartbeats 2000000 in
theorem implWeedT_any (L : Lawn) (hL : L.Fits) (s : Nat → Nat → Bool) (w : World) :
    Calls Try.prog 14 #[.agg L.cells, .agg (bV 10 s)] w fun e w' => e = .returned (.string (textW L s)) ∧ Below w.heap.size w w' := by
  cases hv : weedB L s
  case true =>
    obtain ⟨h1, h2, -⟩ := validB_true (weedB_true hv).1
    have := weedT_loop L.wide.toNat L.high.toNat (by omega) (by omega) (by omega) L (by omega) (by omega) hL s hv w
    rw [textG_all _ _ _ (by omega)] at this
    simpa [textW, hv] using this
  case false =>
    have HI := Lib.hid (show ∀ w : World, Calls Try.prog 41 #[.agg L.cells, .agg (bV 10 s)] w fun e w' => e = .returned (.bool false) ∧ Below w.heap.size w w' from fun w => hv ▸ implWeeds_any L hL s w)
    have e : textW L s = ⟨#[]⟩ := by simp [textW, hv]
    rw [e]
    clear hv hL e
    go_enter Try.func14, Try.ntmps14
    have g0 : Holds ((w.alloc (.cells L.cells 30)).alloc (.cells (bV 10 s) 32)) w.heap.size L.cells := (Holds.new _ _ _).alloc _
    have g1 : Holds ((w.alloc (.cells L.cells 30)).alloc (.cells (bV 10 s) 32)) (w.heap.size + 1) (bV 10 s) := Holds.new' _ _ _ _ (by simp)
    have hb0 := ((Below.refl w.heap.size w).alloc (Nat.le_refl _) (.cells L.cells 30)).alloc (by simp) (.cells (bV 10 s) 32)
    obtain ⟨q0, -, -, -, p0⟩ := g0.facts
    obtain ⟨q1, -, -, -, p1⟩ := g1.facts
    go_wp2_with fail
    refine (HI.out _).mono ?_
    rintro e w1 ⟨rfl, hb1⟩
    have hb2 := below_onto hb0 hb1
    clear hb0 hb1 g0 g1 q0 q1 p0 p1
    go_wp2_with fail
    go_ret
    exact ⟨rfl, hb2⟩

set_option maxRecDepth 100000 in
set_option maxHeartbeats 1000000 in
theorem l07Text_any (L : Lawn) (hV : validB L = true) (s : Nat → Nat → Bool) (b c : Nat) (w : World) (h : Holds w b L.cells) (hc : Holds w c (bV 10 s)) :
    Calls Try.prog 39 #[.pointer (some ⟨b, 0, none⟩), .pointer (some ⟨c, 0, none⟩)] w fun e w' => e = .returned (.string ⟨(rowsG (letW s) L.wide.toNat L.high.toNat).toArray⟩) ∧ Below w.heap.size w w' := by
  obtain ⟨h1, h2, -⟩ := validB_true hV
  obtain ⟨W, hW⟩ : ∃ W : Nat, L.wide = (W : Int) := ⟨L.wide.toNat, by omega⟩
  obtain ⟨H, hH⟩ : ∃ H : Nat, L.high = (H : Int) := ⟨L.high.toNat, by omega⟩
  have hWn : L.wide.toNat = W := by omega
  have hHn : L.high.toNat = H := by omega
  have hW10 : W ≤ 10 := by omega
  have hH10 : H ≤ 10 := by omega
  rw [hWn, hHn]
  clear hWn hHn h1 h2 hV
  have HHA := Lib.hid (fun (x y : Nat) (hx : x < 10) (hy : y < 10) (w : World) (h : Holds w c (bV 10 s)) => hasS_any s c x y hx hy w h)
  go_enter Try.func39, Try.ntmps39
  have HF := Lib.hid (show ∀ w' : World, Holds w' b L.cells → w'.cell? ⟨b, 0, none⟩ = some (.int .i8 (W : Int)) ∧ w'.cell? ⟨b, 1, none⟩ = some (.int .i8 (H : Int)) from fun w' g => ⟨by rw [g.cell, Lawn.cells_0, hW], by rw [g.cell, Lawn.cells_1, hH]⟩)
  clear hW hH
  go_wp2_with fail
  go_loopw [5, 6] (fun v i wr => ∃ y : Nat, y ≤ H ∧ i = .int .i8 y ∧ v = .string ⟨(rowsG (letW s) W y).toArray⟩ ∧ Holds wr b L.cells ∧ Holds wr c (bV 10 s) ∧ Below w.heap.size w wr) (fun _ i _ => H - (intOf i).toNat)
  case atStart => exact ⟨0, Nat.zero_le _, rfl, rfl, h, hc, Below.refl _ _⟩
  case round =>
    obtain ⟨y, hy, rfl, rfl, g1, gc, hb⟩ := hrel
    obtain ⟨-, c1⟩ := HF.out _ g1
    have hlen := rowsG_length (letW s) W hW10 y
    by_cases hlt : y < H
    · have hd : decide ((y : Int) < (H : Int)) = true := by simp; omega
      go_wp2_with fail
      obtain ⟨pl, hpl⟩ : ∃ pl, rowsG (letW s) W y = pl := ⟨_, rfl⟩
      have HPL := Lib.hid hpl
      have hpll : pl.length ≤ 110 := by rw [← hpl]; omega
      clear c1 hpl hlen
      go_loopw [5, 7] (fun v i wr' => ∃ x : Nat, x ≤ W ∧ i = .int .i8 x ∧ v = .string ⟨(pl ++ (List.range x).map fun x => letW s y x).toArray⟩ ∧ Holds wr' b L.cells ∧ Holds wr' c (bV 10 s) ∧ Below w.heap.size w wr') (fun _ i _ => W - (intOf i).toNat)
      case atStart => exact ⟨0, Nat.zero_le _, rfl, by rw [← HPL.out]; simp, g1, gc, hb⟩
      case round =>
        obtain ⟨x, hx, rfl, rfl, g2, gc2, hb2⟩ := hrel
        obtain ⟨c2, -⟩ := HF.out _ g2
        have hl2 : (pl ++ (List.range x).map fun x => letW s y x).length ≤ 200 := by simp only [List.length_append, List.length_map, List.length_range]; omega
        by_cases hltx : x < W
        · have hdx : decide ((x : Int) < (W : Int)) = true := by simp; omega
          obtain ⟨kd, hkd⟩ : ∃ kd, s y x = kd := ⟨_, rfl⟩
          have HHx := Lib.hid (HHA.out x y (by omega) (by omega))
          rw [hkd] at HHx
          have HX := Lib.hid (show (List.range (x + 1)).map (fun x => letW s y x) = (List.range x).map (fun x => letW s y x) ++ [if kd then 119 else 46] by simp [List.range_succ, letW, hkd])
          clear hkd
          obtain ⟨s0, hs0⟩ : ∃ s0, pl ++ (List.range x).map (fun x => letW s y x) = s0 := ⟨_, rfl⟩
          rw [hs0] at hl2
          have HS0 := Lib.hid hs0
          simp only [hs0]
          clear hs0
          go_wp2_with fail
          refine (HHx.out _ gc2).mono ?_
          rintro e w5 ⟨rfl, hb5⟩
          have g3 := g2.below hb5 g2.lt
          have gc3 := gc2.below hb5 gc2.lt
          have hb3 := below_onto hb2 hb5
          clear hb5 g2 gc2 hb2 c2
          cases kd
          all_goals
            go_wp2_with fail
            go_roundw
            case rel => exact ⟨x + 1, by omega, by go_num, by rw [HX.out, ← List.append_assoc, HS0.out]; exact congrArg Value.string (str_snoc s0 _), g3, gc3, hb3⟩
            case measure => simp [intOf]; omega
        · have hdx : decide ((x : Int) < (W : Int)) = false := by simp; omega
          obtain rfl : x = W := by omega
          go_wp2_with fail
          go_roundw
          case rel => exact ⟨y + 1, by omega, by go_num, by rw [str_snoc, rowsG_succ, HPL.out, List.append_assoc], g2, gc2, hb2⟩
          case measure => simp [intOf]; omega
    · have hd : decide ((y : Int) < (H : Int)) = false := by simp; omega
      obtain rfl : y = H := by omega
      go_wp2_with fail
      go_ret
      exact ⟨rfl, hb⟩

set_option maxRecDepth 100000 in
set_option maxHeartbeats 1000000 in
theorem specWeedT_any (L : Lawn) (hL : L.Fits) (s : Nat → Nat → Bool) (w : World) :
    Calls Try.prog 11 #[.agg L.cells, .agg (bV 10 s)] w fun e w' => e = .returned (.string (textW L s)) ∧ Below w.heap.size w w' := by
  have HT := Lib.hid (show textW L s = if weedB L s then ⟨(rowsG (letW s) L.wide.toNat L.high.toNat).toArray⟩ else ⟨#[]⟩ from rfl)
  obtain ⟨u, hu⟩ : ∃ u, w.heap.size = u := ⟨_, rfl⟩
  obtain ⟨W1, hW1⟩ : ∃ W1, (w.alloc (.cells L.cells 30)).alloc (.cells (bV 10 s) 32) = W1 := ⟨_, rfl⟩
  have g0 : Holds W1 u L.cells := by rw [← hW1]; exact (Holds.new' _ _ _ _ hu.symm).alloc _
  have g1 : Holds W1 (u + 1) (bV 10 s) := by rw [← hW1]; exact Holds.new' _ _ _ _ (by simp; omega)
  have hB1 : Below u w W1 := by rw [← hW1]; exact ((Below.refl u w).alloc (by omega) _).alloc (by simp; omega) _
  have HU := Lib.hid hu
  have HO := Lib.hid (l07Ok_any L hL s u (u + 1) W1 g0 g1)
  cases hv : weedB L s
  case false =>
    rw [hv] at HO HT
    clear hv hL
    go_enter Try.func11, Try.ntmps11
    go_wp2_with fail
    try simp only [hu, Nat.add_assoc, Nat.reduceAdd]
    try rw [hW1]
    clear hW1 hu
    refine HO.out.mono ?_
    rintro e w1 ⟨rfl, hb1⟩
    have hb2 : Below u w w1 := hB1.trans (hb1.mono (by have := g0.lt; omega))
    clear g0 g1 hB1 hb1
    go_wp2_with fail
    go_ret
    refine ⟨?_, by rw [HU.out]; exact hb2⟩
    rw [HT.out]
    rfl
  case true =>
    have HX := Lib.hid (fun w' h h' => l07Text_any L (weedB_true hv).1 s u (u + 1) w' h h')
    rw [hv] at HO HT
    clear hv hL
    go_enter Try.func11, Try.ntmps11
    go_wp2_with fail
    try simp only [hu, Nat.add_assoc, Nat.reduceAdd]
    try rw [hW1]
    clear hW1 hu
    refine HO.out.mono ?_
    rintro e w1 ⟨rfl, hb1⟩
    have j0 := g0.below hb1 g0.lt
    have j1 := g1.below hb1 g1.lt
    have hb2 : Below u w w1 := hB1.trans (hb1.mono (by have := g0.lt; omega))
    clear g0 g1 hB1 hb1
    go_wp2_with fail
    refine (HX.out _ j0 j1).mono ?_
    rintro e w2 ⟨rfl, hb3⟩
    have hb4 : Below u w w2 := hb2.trans (hb3.mono (by have := j0.lt; omega))
    clear j0 j1 hb2 hb3
    go_wp2_with fail
    go_ret
    refine ⟨?_, by rw [HU.out]; exact hb4⟩
    rw [HT.out]
    rfl
end Go.Proofs.Ytojccgaldadcnaa
