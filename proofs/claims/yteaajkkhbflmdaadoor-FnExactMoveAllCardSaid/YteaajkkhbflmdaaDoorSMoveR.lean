/- A haul of the model that is made, or is too far. -/
import Derived.Test.YteaajkkhbflmdaaDoorSMove
namespace Go.Proofs.YteaajkkhbflmdaaDoor
open Go.RowKit Go.Shelf
set_option linter.unusedVariables false
set_option linter.unusedSimpArgs false
attribute [local go_sem ↓] loadRow loadGrid loadLawn loadMirror storeRow storeGrid storeLawn allocRow allocGrid allocLawn buildZero buildSides loadR8 loadL8 loadLv storeR8 storeLv allocR8 allocLv buildZLv

set_option maxRecDepth 100000 in
set_option maxHeartbeats 4000000 in
theorem smove_run (L : Lawn) (hL : L.Fits) (g : Nat → Nat → Int) (hv : levB L g = true) (b c : Nat) (hbc : b ≠ c) (x1 y1 x2 y2 : Nat) (n : Int) (w : World) (kb : Holds w b L.cells) (kc : Holds w c (levV g)) (N : Nat) (hN : N ≤ c) (hx1 : x1 < 10) (hy1 : y1 < 10) (hx2 : x2 < 10) (hy2 : y2 < 10)
    (hf : grassB L x1 y1 = true) (ht : grassB L x2 y2 = true) (hn : 1 ≤ n) (hm : n ≤ 18) (hne : ¬(x1 = x2)) (G : Nat → Nat → Int) (hG : upd (upd g y1 x1 (g y1 x1 - n)) y2 x2 (g y2 x2 + n) = G) (p q : Bool) (hp : inB (g y1 x1 - n) (-9) 9 = p) (hq : inB (g y2 x2 + n) (-9) 9 = q) :
    Calls Tryd.prog 34 #[.pointer (some ⟨b, 0, none⟩), .pointer (some ⟨c, 0, none⟩), .agg #[.int .i8 (x1 : Int), .int .i8 (y1 : Int), .int .i8 (x2 : Int), .int .i8 (y2 : Int), .int .i8 n]] w fun e w' => e = .returned (.int .i64 (if p && q then 0 else 4)) ∧ Holds w' b L.cells ∧ Holds w' c (levV fun y x => if p && q then G y x else g y x) ∧ Only [c] w w' := by
  have hV := (levB_true hv).1
  have hwn : IntKind.i64.wrap n = n := IntWalk.i64_in _ (by omega)
  have HF := Lib.hid (fun w h => l01Is_any L hL b x1 y1 w h (by omega) (by omega) (by omega) (by omega))
  have HT := Lib.hid (fun w h => l01Is_any L hL b x2 y2 w h (by omega) (by omega) (by omega) (by omega))
  have HA := Lib.hid (fun w h => grass_any L hV hL b x1 y1 (by omega) (by omega) (by omega) (by omega) w h)
  have HZ := Lib.hid (fun w h => grass_any L hV hL b x2 y2 (by omega) (by omega) (by omega) (by omega) w h)
  rw [grassB_in hf] at HF
  rw [grassB_in ht] at HT
  rw [hf] at HA
  rw [ht] at HZ
  have HN := Lib.hid (fun w => in_yes n 1 18 w (inB_yes (by omega) (by omega)))
  have ra := lev_range hv y1 x1 hy1 hx1
  have rb := lev_range hv y2 x2 hy2 hx2
  have H1 := Lib.hid (fun w h => l06At_any g c x1 y1 hx1 hy1 (by omega) w h)
  have H2 := Lib.hid (fun w h => l06At_any g c x2 y2 hx2 hy2 (by omega) w h)
  obtain ⟨u, hu⟩ : ∃ u, g y1 x1 = u := ⟨_, rfl⟩
  obtain ⟨v, hv'⟩ : ∃ v, g y2 x2 = v := ⟨_, rfl⟩
  have HGA := Lib.hid (And.intro hu hv')
  rw [hu] at hG ra hp H1
  rw [hv'] at hG rb hq H2
  have HGG := Lib.hid hG
  have HP := Lib.hid (fun w => l06Level_is (u - n) p hp w)
  have HQ := Lib.hid (fun w => l06Level_is (v + n) q hq w)
  have hwa : IntKind.i64.wrap (u - n) = u - n := IntWalk.i64_in _ (by omega)
  have hwb : IntKind.i64.wrap (v + n) = v + n := IntWalk.i64_in _ (by omega)
  have hwa8 : IntKind.i8.wrap (u - n) = u - n := IntWalk.i8_in _ (by omega)
  have hwb8 : IntKind.i8.wrap (v + n) = v + n := IntWalk.i8_in _ (by omega)
  have hx10 : (0 : Int) ≤ x1 := by omega
  have hx11 : (x1 : Int) < 10 := by omega
  have hy10 : (0 : Int) ≤ y1 := by omega
  have hy11 : (y1 : Int) < 10 := by omega
  have hx20 : (0 : Int) ≤ x2 := by omega
  have hx21 : (x2 : Int) < 10 := by omega
  have hy20 : (0 : Int) ≤ y2 := by omega
  have hy21 : (y2 : Int) < 10 := by omega
  have hce : ¬((x1 : Int) = x2) := by omega
  have HNE := Lib.hid hne
  have hcw := kc.lt
  clear hV hf ht ra rb hu hv' hp hq hG hne hv hn hm
  obtain ⟨W0, hW0⟩ : ∃ W0, w.alloc (.cells #[.int .i8 (x1 : Int), .int .i8 (y1 : Int), .int .i8 (x2 : Int), .int .i8 (y2 : Int), .int .i8 n] 41) = W0 := ⟨_, rfl⟩
  have g2 : Holds W0 w.heap.size #[.int .i8 (x1 : Int), .int .i8 (y1 : Int), .int .i8 (x2 : Int), .int .i8 (y2 : Int), .int .i8 n] := by rw [← hW0]; exact Holds.new _ _ _
  have kb : Holds W0 b L.cells := by rw [← hW0]; exact kb.alloc _
  have kc : Holds W0 c (levV g) := by rw [← hW0]; exact kc.alloc _
  have hb : Below w.heap.size w W0 := by rw [← hW0]; exact (Below.refl w.heap.size w).alloc (Nat.le_refl _) _
  obtain ⟨-, -, c2, -, l2⟩ := g2.facts
  go_enter Tryd.func34, Tryd.ntmps34
  go_wp2_with fail
  clear hW0
  refine (HF.out _ kb).mono ?_
  rintro e w1 ⟨rfl, hb1⟩
  have hb := below_onto hb hb1
  have kb := kb.below hb1 kb.lt
  have kc := kc.below hb1 kc.lt
  have g2 := g2.below hb1 g2.lt
  clear hb1 c2 l2
  obtain ⟨-, -, c2, -, l2⟩ := g2.facts
  go_wp2_with fail
  refine (HT.out _ kb).mono ?_
  rintro e w2 ⟨rfl, hb1⟩
  have hb := below_onto hb hb1
  have kb := kb.below hb1 kb.lt
  have kc := kc.below hb1 kc.lt
  have g2 := g2.below hb1 g2.lt
  clear hb1 c2 l2
  obtain ⟨-, -, c2, -, l2⟩ := g2.facts
  go_wp2_with (go_at_call 51; refine (HN.out _).mono ?_; rintro e w9 ⟨rfl, hw9⟩; rw [hw9]; clear hw9)
  refine (HA.out _ kb).mono ?_
  rintro e w3 ⟨rfl, hb1⟩
  have hb := below_onto hb hb1
  have kb := kb.below hb1 kb.lt
  have kc := kc.below hb1 kc.lt
  have g2 := g2.below hb1 g2.lt
  clear hb1 c2 l2
  obtain ⟨-, -, c2, -, l2⟩ := g2.facts
  go_wp2_with fail
  refine (HZ.out _ kb).mono ?_
  rintro e w4 ⟨rfl, hb1⟩
  have hb := below_onto hb hb1
  have kb := kb.below hb1 kb.lt
  have kc := kc.below hb1 kc.lt
  have g2 := g2.below hb1 g2.lt
  clear hb1 c2 l2
  obtain ⟨-, -, c2, -, l2⟩ := g2.facts
  go_wp2_with fail
  refine (H1.out _ kc).mono ?_
  rintro e w5 ⟨rfl, hb1⟩
  have hb := below_onto hb hb1
  have kb := kb.below hb1 kb.lt
  have kc := kc.below hb1 kc.lt
  have g2 := g2.below hb1 g2.lt
  clear hb1 c2 l2
  obtain ⟨-, -, c2, -, l2⟩ := g2.facts
  cases p
  case false =>
    go_wp2_with (go_at_call 48; refine (HP.out _).mono ?_; rintro e w9 ⟨rfl, hw9⟩; rw [hw9]; clear hw9)
    go_ret
    exact ⟨rfl, kb, kc, Only.ofBelow hb⟩
  case true =>
    go_wp2_with (go_at_call 48; refine (HP.out _).mono ?_; rintro e w9 ⟨rfl, hw9⟩; rw [hw9]; clear hw9)
    refine (H2.out _ kc).mono ?_
    rintro e w6 ⟨rfl, hb1⟩
    have hb := below_onto hb hb1
    have kb := kb.below hb1 kb.lt
    have kc := kc.below hb1 kc.lt
    have g2 := g2.below hb1 g2.lt
    clear hb1 c2 l2
    obtain ⟨-, -, c2, -, l2⟩ := g2.facts
    have hb : Only [c] w _ := Only.ofBelow hb
    cases q
    case false =>
      go_wp2_with (go_at_call 48; refine (HQ.out _).mono ?_; rintro e w9 ⟨rfl, hw9⟩; rw [hw9]; clear hw9)
      go_ret
      exact ⟨rfl, kb, kc, hb⟩
    case true =>
      obtain ⟨-, -, c0, f0, l0⟩ := kc.facts
      have k0 : w6.cell? ⟨c, y1 * 10 + x1, none⟩ = some (.int .i8 u) := by rw [c0, levV_get _ y1 x1 hy1 hx1, HGA.out.1]
      clear c0
      go_wp2_with (go_at_call 48; refine (HQ.out _).mono ?_; rintro e w9 ⟨rfl, hw9⟩; rw [hw9]; clear hw9)
      go_region
      have kc := (kc.setCell (y1 * 10 + x1) (.int .i8 (u - n))).drew
      rw [levV_set _ y1 x1 _ hy1 hx1] at kc
      have kb := (kb.setCell_other ⟨c, y1 * 10 + x1, none⟩ (.int .i8 (u - n)) (by dsimp only; omega)).drew
      have g2 := (g2.setCell_other ⟨c, y1 * 10 + x1, none⟩ (.int .i8 (u - n)) (by dsimp only; omega)).drew
      have hb := (hb.setCell (a := ⟨c, y1 * 10 + x1, none⟩) (.inl (by simp)) (.int .i8 (u - n))).drew
      clear c2 l2 f0 l0 k0
      obtain ⟨W5, hW5⟩ : ∃ W5, (w6.setCell ⟨c, y1 * 10 + x1, none⟩ (.int .i8 (u - n))).drew = W5 := ⟨_, rfl⟩
      rw [hW5] at kc kb g2 hb
      try rw [hW5]
      obtain ⟨-, -, c2, -, l2⟩ := g2.facts
      obtain ⟨-, -, c0, f0, l0⟩ := kc.facts
      have k0 : W5.cell? ⟨c, y2 * 10 + x2, none⟩ = some (.int .i8 v) := by
        rw [c0, levV_get _ y2 x2 hy2 hx2]
        unfold upd
        rw [if_neg (by have := HNE.out; omega), HGA.out.2]
      clear c0 hW5
      go_wp2_with fail
      go_region
      have kc := (kc.setCell (y2 * 10 + x2) (.int .i8 (v + n))).drew
      rw [levV_set _ y2 x2 _ hy2 hx2, HGG.out] at kc
      have kb := (kb.setCell_other ⟨c, y2 * 10 + x2, none⟩ (.int .i8 (v + n)) (by dsimp only; omega)).drew
      have hb := (hb.setCell (a := ⟨c, y2 * 10 + x2, none⟩) (.inl (by simp)) (.int .i8 (v + n))).drew
      have HK := Lib.hid (And.intro kb kc)
      have HB := Lib.hid hb
      clear c2 l2 f0 l0 k0 g2 kb kc hb
      go_wp2_with fail
      go_ret
      exact ⟨rfl, HK.out.1, HK.out.2, HB.out⟩
set_option maxRecDepth 100000 in
set_option maxHeartbeats 4000000 in
theorem smove_runx (L : Lawn) (hL : L.Fits) (g : Nat → Nat → Int) (hv : levB L g = true) (b c : Nat) (hbc : b ≠ c) (x1 y1 y2 : Nat) (n : Int) (w : World) (kb : Holds w b L.cells) (kc : Holds w c (levV g)) (N : Nat) (hN : N ≤ c) (hx1 : x1 < 10) (hy1 : y1 < 10) (hy2 : y2 < 10)
    (hf : grassB L x1 y1 = true) (ht : grassB L x1 y2 = true) (hn : 1 ≤ n) (hm : n ≤ 18) (hne : ¬(y1 = y2)) (G : Nat → Nat → Int) (hG : upd (upd g y1 x1 (g y1 x1 - n)) y2 x1 (g y2 x1 + n) = G) (p q : Bool) (hp : inB (g y1 x1 - n) (-9) 9 = p) (hq : inB (g y2 x1 + n) (-9) 9 = q) :
    Calls Tryd.prog 34 #[.pointer (some ⟨b, 0, none⟩), .pointer (some ⟨c, 0, none⟩), .agg #[.int .i8 (x1 : Int), .int .i8 (y1 : Int), .int .i8 (x1 : Int), .int .i8 (y2 : Int), .int .i8 n]] w fun e w' => e = .returned (.int .i64 (if p && q then 0 else 4)) ∧ Holds w' b L.cells ∧ Holds w' c (levV fun y x => if p && q then G y x else g y x) ∧ Only [c] w w' := by
  have hV := (levB_true hv).1
  have hwn : IntKind.i64.wrap n = n := IntWalk.i64_in _ (by omega)
  have HF := Lib.hid (fun w h => l01Is_any L hL b x1 y1 w h (by omega) (by omega) (by omega) (by omega))
  have HT := Lib.hid (fun w h => l01Is_any L hL b x1 y2 w h (by omega) (by omega) (by omega) (by omega))
  have HA := Lib.hid (fun w h => grass_any L hV hL b x1 y1 (by omega) (by omega) (by omega) (by omega) w h)
  have HZ := Lib.hid (fun w h => grass_any L hV hL b x1 y2 (by omega) (by omega) (by omega) (by omega) w h)
  rw [grassB_in hf] at HF
  rw [grassB_in ht] at HT
  rw [hf] at HA
  rw [ht] at HZ
  have HN := Lib.hid (fun w => in_yes n 1 18 w (inB_yes (by omega) (by omega)))
  have ra := lev_range hv y1 x1 hy1 hx1
  have rb := lev_range hv y2 x1 hy2 hx1
  have H1 := Lib.hid (fun w h => l06At_any g c x1 y1 hx1 hy1 (by omega) w h)
  have H2 := Lib.hid (fun w h => l06At_any g c x1 y2 hx1 hy2 (by omega) w h)
  obtain ⟨u, hu⟩ : ∃ u, g y1 x1 = u := ⟨_, rfl⟩
  obtain ⟨v, hv'⟩ : ∃ v, g y2 x1 = v := ⟨_, rfl⟩
  have HGA := Lib.hid (And.intro hu hv')
  rw [hu] at hG ra hp H1
  rw [hv'] at hG rb hq H2
  have HGG := Lib.hid hG
  have HP := Lib.hid (fun w => l06Level_is (u - n) p hp w)
  have HQ := Lib.hid (fun w => l06Level_is (v + n) q hq w)
  have hwa : IntKind.i64.wrap (u - n) = u - n := IntWalk.i64_in _ (by omega)
  have hwb : IntKind.i64.wrap (v + n) = v + n := IntWalk.i64_in _ (by omega)
  have hwa8 : IntKind.i8.wrap (u - n) = u - n := IntWalk.i8_in _ (by omega)
  have hwb8 : IntKind.i8.wrap (v + n) = v + n := IntWalk.i8_in _ (by omega)
  have hx10 : (0 : Int) ≤ x1 := by omega
  have hx11 : (x1 : Int) < 10 := by omega
  have hy10 : (0 : Int) ≤ y1 := by omega
  have hy11 : (y1 : Int) < 10 := by omega
  have hy20 : (0 : Int) ≤ y2 := by omega
  have hy21 : (y2 : Int) < 10 := by omega
  have hce : ¬((y1 : Int) = y2) := by omega
  have HNE := Lib.hid hne
  have hcw := kc.lt
  clear hV hf ht ra rb hu hv' hp hq hG hne hv hn hm
  obtain ⟨W0, hW0⟩ : ∃ W0, w.alloc (.cells #[.int .i8 (x1 : Int), .int .i8 (y1 : Int), .int .i8 (x1 : Int), .int .i8 (y2 : Int), .int .i8 n] 41) = W0 := ⟨_, rfl⟩
  have g2 : Holds W0 w.heap.size #[.int .i8 (x1 : Int), .int .i8 (y1 : Int), .int .i8 (x1 : Int), .int .i8 (y2 : Int), .int .i8 n] := by rw [← hW0]; exact Holds.new _ _ _
  have kb : Holds W0 b L.cells := by rw [← hW0]; exact kb.alloc _
  have kc : Holds W0 c (levV g) := by rw [← hW0]; exact kc.alloc _
  have hb : Below w.heap.size w W0 := by rw [← hW0]; exact (Below.refl w.heap.size w).alloc (Nat.le_refl _) _
  obtain ⟨-, -, c2, -, l2⟩ := g2.facts
  go_enter Tryd.func34, Tryd.ntmps34
  go_wp2_with fail
  clear hW0
  refine (HF.out _ kb).mono ?_
  rintro e w1 ⟨rfl, hb1⟩
  have hb := below_onto hb hb1
  have kb := kb.below hb1 kb.lt
  have kc := kc.below hb1 kc.lt
  have g2 := g2.below hb1 g2.lt
  clear hb1 c2 l2
  obtain ⟨-, -, c2, -, l2⟩ := g2.facts
  go_wp2_with fail
  refine (HT.out _ kb).mono ?_
  rintro e w2 ⟨rfl, hb1⟩
  have hb := below_onto hb hb1
  have kb := kb.below hb1 kb.lt
  have kc := kc.below hb1 kc.lt
  have g2 := g2.below hb1 g2.lt
  clear hb1 c2 l2
  obtain ⟨-, -, c2, -, l2⟩ := g2.facts
  go_wp2_with (go_at_call 51; refine (HN.out _).mono ?_; rintro e w9 ⟨rfl, hw9⟩; rw [hw9]; clear hw9)
  refine (HA.out _ kb).mono ?_
  rintro e w3 ⟨rfl, hb1⟩
  have hb := below_onto hb hb1
  have kb := kb.below hb1 kb.lt
  have kc := kc.below hb1 kc.lt
  have g2 := g2.below hb1 g2.lt
  clear hb1 c2 l2
  obtain ⟨-, -, c2, -, l2⟩ := g2.facts
  go_wp2_with fail
  refine (HZ.out _ kb).mono ?_
  rintro e w4 ⟨rfl, hb1⟩
  have hb := below_onto hb hb1
  have kb := kb.below hb1 kb.lt
  have kc := kc.below hb1 kc.lt
  have g2 := g2.below hb1 g2.lt
  clear hb1 c2 l2
  obtain ⟨-, -, c2, -, l2⟩ := g2.facts
  go_wp2_with fail
  refine (H1.out _ kc).mono ?_
  rintro e w5 ⟨rfl, hb1⟩
  have hb := below_onto hb hb1
  have kb := kb.below hb1 kb.lt
  have kc := kc.below hb1 kc.lt
  have g2 := g2.below hb1 g2.lt
  clear hb1 c2 l2
  obtain ⟨-, -, c2, -, l2⟩ := g2.facts
  cases p
  case false =>
    go_wp2_with (go_at_call 48; refine (HP.out _).mono ?_; rintro e w9 ⟨rfl, hw9⟩; rw [hw9]; clear hw9)
    go_ret
    exact ⟨rfl, kb, kc, Only.ofBelow hb⟩
  case true =>
    go_wp2_with (go_at_call 48; refine (HP.out _).mono ?_; rintro e w9 ⟨rfl, hw9⟩; rw [hw9]; clear hw9)
    refine (H2.out _ kc).mono ?_
    rintro e w6 ⟨rfl, hb1⟩
    have hb := below_onto hb hb1
    have kb := kb.below hb1 kb.lt
    have kc := kc.below hb1 kc.lt
    have g2 := g2.below hb1 g2.lt
    clear hb1 c2 l2
    obtain ⟨-, -, c2, -, l2⟩ := g2.facts
    have hb : Only [c] w _ := Only.ofBelow hb
    cases q
    case false =>
      go_wp2_with (go_at_call 48; refine (HQ.out _).mono ?_; rintro e w9 ⟨rfl, hw9⟩; rw [hw9]; clear hw9)
      go_ret
      exact ⟨rfl, kb, kc, hb⟩
    case true =>
      obtain ⟨-, -, c0, f0, l0⟩ := kc.facts
      have k0 : w6.cell? ⟨c, y1 * 10 + x1, none⟩ = some (.int .i8 u) := by rw [c0, levV_get _ y1 x1 hy1 hx1, HGA.out.1]
      clear c0
      go_wp2_with (go_at_call 48; refine (HQ.out _).mono ?_; rintro e w9 ⟨rfl, hw9⟩; rw [hw9]; clear hw9)
      go_region
      have kc := (kc.setCell (y1 * 10 + x1) (.int .i8 (u - n))).drew
      rw [levV_set _ y1 x1 _ hy1 hx1] at kc
      have kb := (kb.setCell_other ⟨c, y1 * 10 + x1, none⟩ (.int .i8 (u - n)) (by dsimp only; omega)).drew
      have g2 := (g2.setCell_other ⟨c, y1 * 10 + x1, none⟩ (.int .i8 (u - n)) (by dsimp only; omega)).drew
      have hb := (hb.setCell (a := ⟨c, y1 * 10 + x1, none⟩) (.inl (by simp)) (.int .i8 (u - n))).drew
      clear c2 l2 f0 l0 k0
      obtain ⟨W5, hW5⟩ : ∃ W5, (w6.setCell ⟨c, y1 * 10 + x1, none⟩ (.int .i8 (u - n))).drew = W5 := ⟨_, rfl⟩
      rw [hW5] at kc kb g2 hb
      try rw [hW5]
      obtain ⟨-, -, c2, -, l2⟩ := g2.facts
      obtain ⟨-, -, c0, f0, l0⟩ := kc.facts
      have k0 : W5.cell? ⟨c, y2 * 10 + x1, none⟩ = some (.int .i8 v) := by
        rw [c0, levV_get _ y2 x1 hy2 hx1]
        unfold upd
        rw [if_neg (by have := HNE.out; omega), HGA.out.2]
      clear c0 hW5
      go_wp2_with fail
      go_region
      have kc := (kc.setCell (y2 * 10 + x1) (.int .i8 (v + n))).drew
      rw [levV_set _ y2 x1 _ hy2 hx1, HGG.out] at kc
      have kb := (kb.setCell_other ⟨c, y2 * 10 + x1, none⟩ (.int .i8 (v + n)) (by dsimp only; omega)).drew
      have hb := (hb.setCell (a := ⟨c, y2 * 10 + x1, none⟩) (.inl (by simp)) (.int .i8 (v + n))).drew
      have HK := Lib.hid (And.intro kb kc)
      have HB := Lib.hid hb
      clear c2 l2 f0 l0 k0 g2 kb kc hb
      go_wp2_with fail
      go_ret
      exact ⟨rfl, HK.out.1, HK.out.2, HB.out⟩
end Go.Proofs.YteaajkkhbflmdaaDoor
