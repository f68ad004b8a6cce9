/- A haul of the program that is made. -/
import Derived.Test.YteaajkkhbflmdaaDoorMoved
namespace Go.Proofs.YteaajkkhbflmdaaDoor
open Go.RowKit Go.Shelf
set_option linter.unusedVariables false
set_option linter.unusedSimpArgs false
attribute [local go_sem ↓] loadRow loadGrid loadLawn loadMirror storeRow storeGrid storeLawn allocRow allocGrid allocLawn buildZero buildSides loadR8 loadL8 loadLv storeR8 storeLv allocR8 allocLv buildZLv

set_option maxRecDepth 100000 in
set_option maxHeartbeats 4000000 in
theorem moved_run (L : Lawn) (hL : L.Fits) (g : Nat → Nat → Int) (hv : levB L g = true) (x1 y1 x2 y2 : Nat) (n : Int) {a0 a1 a2 a3 a4 : Addr} (w : World) (hE : ErrsIn w a0 a1 a2 a3 a4) (hx1 : x1 < 10) (hy1 : y1 < 10) (hx2 : x2 < 10) (hy2 : y2 < 10)
    (hf : grassB L x1 y1 = true) (ht : grassB L x2 y2 = true) (hn : 1 ≤ n) (hm : n ≤ 18) (hne : ¬(x1 = x2)) (G : Nat → Nat → Int) (hG : upd (upd g y1 x1 (g y1 x1 - n)) y2 x2 (g y2 x2 + n) = G) (d : Bool) (hd : levB L G = d) :
    Calls Tryd.prog 36 #[.agg (levV g), .agg L.cells, .agg #[.int .i8 (x1 : Int), .int .i8 (y1 : Int), .int .i8 (x2 : Int), .int .i8 (y2 : Int), .int .i8 n]] w fun e w' => e = .returned (.tuple #[.agg (levV fun y x => if d then G y x else 0), if d then .nilIface else .iface 137 (.pointer (some a3))]) ∧ Below w.heap.size w w' := by
  obtain ⟨W0, hW0⟩ : ∃ W0, (((w.alloc (.cells (levV g) 33)).alloc (.cells L.cells 36)).alloc (.cells #[.int .i8 (x1 : Int), .int .i8 (y1 : Int), .int .i8 (x2 : Int), .int .i8 (y2 : Int), .int .i8 n] 41)).alloc (.cells (levV fun _ _ => 0) 33) = W0 := ⟨_, rfl⟩
  have g0 : Holds W0 w.heap.size (levV g) := by rw [← hW0]; exact (((Holds.new _ _ _).alloc _).alloc _).alloc _
  have g1 : Holds W0 (w.heap.size + 1) L.cells := by rw [← hW0]; exact ((Holds.new' _ _ _ _ (by simp)).alloc _).alloc _
  have g2 : Holds W0 (w.heap.size + 1 + 1) #[.int .i8 (x1 : Int), .int .i8 (y1 : Int), .int .i8 (x2 : Int), .int .i8 (y2 : Int), .int .i8 n] := by rw [← hW0]; exact (Holds.new' _ _ _ _ (by simp)).alloc _
  have g3 : Holds W0 (w.heap.size + 1 + 1 + 1) (levV fun _ _ => 0) := by rw [← hW0]; exact Holds.new' _ _ _ _ (by simp)
  have hb : Below w.heap.size w W0 := by rw [← hW0]; exact ((((Below.refl w.heap.size w).alloc (Nat.le_refl _) _).alloc (by simp) _).alloc (by simp; omega) _).alloc (by simp; omega) _
  have hV := (levB_true hv).1
  have HF := Lib.hid (fun w => has_is L x1 y1 w true (grassB_in hf))
  have HT := Lib.hid (fun w => has_is L x2 y2 w true (grassB_in ht))
  have HA := Lib.hid (fun w => isGrass_is L hV hL x1 y1 true hf w)
  have HZ := Lib.hid (fun w => isGrass_is L hV hL x2 y2 true ht w)
  have HV := Lib.hid (fun w => implLevels_any L hL G w)
  rw [hd] at HV
  have hd1 : decide (n < 1) = false := by simp; omega
  have hd2 : decide (18 < n) = false := by simp; omega
  obtain ⟨a, ha⟩ : ∃ a, g y1 x1 = a := ⟨_, rfl⟩
  obtain ⟨b, hb'⟩ : ∃ b, g y2 x2 = b := ⟨_, rfl⟩
  have ra := lev_range hv y1 x1 hy1 hx1
  have rb := lev_range hv y2 x2 hy2 hx2
  rw [ha] at hG ra
  rw [hb'] at hG rb
  have hwa : IntKind.i8.wrap (a - n) = a - n := IntWalk.i8_in _ (by omega)
  have hwb : IntKind.i8.wrap (b + n) = b + n := IntWalk.i8_in _ (by omega)
  have HGA := Lib.hid (And.intro ha hb')
  have HGG := Lib.hid hG
  have hx10 : (0 : Int) ≤ x1 := by omega
  have hx11 : (x1 : Int) < 10 := by omega
  have hy10 : (0 : Int) ≤ y1 := by omega
  have hy11 : (y1 : Int) < 10 := by omega
  have hx20 : (0 : Int) ≤ x2 := by omega
  have hx21 : (x2 : Int) < 10 := by omega
  have hy20 : (0 : Int) ≤ y2 := by omega
  have hy21 : (y2 : Int) < 10 := by omega
  have hce : ¬((x1 : Int) = x2) := by omega
  have HNE := Lib.hid hne
  clear hv hL hV hf ht hd ha hb' hG hne hn hm ra rb
  obtain ⟨r1, -, -, -, l1⟩ := g1.facts
  obtain ⟨-, -, c2, -, l2⟩ := g2.facts
  go_enter Tryd.func36, Tryd.ntmps36
  go_wp2_with fail
  clear hW0
  refine (HF.out _).mono ?_
  rintro e w1 ⟨rfl, hb1⟩
  have hb := below_onto hb hb1
  have g0 := g0.below hb1 g0.lt
  have g1 := g1.below hb1 g1.lt
  have g2 := g2.below hb1 g2.lt
  have g3 := g3.below hb1 g3.lt
  clear hb1 r1 l1 c2 l2
  obtain ⟨r1, -, -, -, l1⟩ := g1.facts
  obtain ⟨-, -, c2, -, l2⟩ := g2.facts
  go_wp2_with fail
  refine (HT.out _).mono ?_
  rintro e w2 ⟨rfl, hb1⟩
  have hb := below_onto hb hb1
  have g0 := g0.below hb1 g0.lt
  have g1 := g1.below hb1 g1.lt
  have g2 := g2.below hb1 g2.lt
  have g3 := g3.below hb1 g3.lt
  clear hb1 r1 l1 c2 l2
  obtain ⟨r1, -, -, -, l1⟩ := g1.facts
  obtain ⟨-, -, c2, -, l2⟩ := g2.facts
  go_wp2_with fail
  refine (HA.out _).mono ?_
  rintro e w3 ⟨rfl, hb1⟩
  have hb := below_onto hb hb1
  have g0 := g0.below hb1 g0.lt
  have g1 := g1.below hb1 g1.lt
  have g2 := g2.below hb1 g2.lt
  have g3 := g3.below hb1 g3.lt
  clear hb1 r1 l1 c2 l2
  obtain ⟨r1, -, -, -, l1⟩ := g1.facts
  obtain ⟨-, -, c2, -, l2⟩ := g2.facts
  go_wp2_with fail
  refine (HZ.out _).mono ?_
  rintro e w4 ⟨rfl, hb1⟩
  have hb := below_onto hb hb1
  have g0 := g0.below hb1 g0.lt
  have g1 := g1.below hb1 g1.lt
  have g2 := g2.below hb1 g2.lt
  have g3 := g3.below hb1 g3.lt
  clear hb1 r1 l1 c2 l2
  obtain ⟨-, -, c2, -, l2⟩ := g2.facts
  obtain ⟨-, -, c0, f0, l0⟩ := g0.facts
  have k0 : w4.cell? ⟨w.heap.size, y1 * 10 + x1, none⟩ = some (.int .i8 a) := by rw [c0, levV_get _ y1 x1 hy1 hx1, HGA.out.1]
  clear c0
  go_wp2_with fail
  go_region
  have g0 := (g0.setCell (y1 * 10 + x1) (.int .i8 (a - n))).drew
  rw [levV_set _ y1 x1 _ hy1 hx1] at g0
  have g1 := (g1.setCell_other ⟨w.heap.size, y1 * 10 + x1, none⟩ (.int .i8 (a - n)) (by dsimp only; omega)).drew
  have g2 := (g2.setCell_other ⟨w.heap.size, y1 * 10 + x1, none⟩ (.int .i8 (a - n)) (by dsimp only; omega)).drew
  have g3 := (g3.setCell_other ⟨w.heap.size, y1 * 10 + x1, none⟩ (.int .i8 (a - n)) (by dsimp only; omega)).drew
  have hb := (hb.setCell (p := ⟨w.heap.size, y1 * 10 + x1, none⟩) (by dsimp only; omega) (.int .i8 (a - n))).drew
  clear c2 l2 f0 l0 k0
  obtain ⟨W5, hW5⟩ : ∃ W5, (w4.setCell ⟨w.heap.size, y1 * 10 + x1, none⟩ (.int .i8 (a - n))).drew = W5 := ⟨_, rfl⟩
  rw [hW5] at g0 g1 g2 g3 hb
  try rw [hW5]
  obtain ⟨-, -, c2, -, l2⟩ := g2.facts
  obtain ⟨-, -, c0, f0, l0⟩ := g0.facts
  have k0 : W5.cell? ⟨w.heap.size, y2 * 10 + x2, none⟩ = some (.int .i8 b) := by
    rw [c0, levV_get _ y2 x2 hy2 hx2]
    unfold upd
    rw [if_neg (by have := HNE.out; omega), HGA.out.2]
  clear c0 hW5
  go_wp2_with fail
  go_region
  have g0 := (g0.setCell (y2 * 10 + x2) (.int .i8 (b + n))).drew
  rw [levV_set _ y2 x2 _ hy2 hx2, HGG.out] at g0
  have g1 := (g1.setCell_other ⟨w.heap.size, y2 * 10 + x2, none⟩ (.int .i8 (b + n)) (by dsimp only; omega)).drew
  have g3 := (g3.setCell_other ⟨w.heap.size, y2 * 10 + x2, none⟩ (.int .i8 (b + n)) (by dsimp only; omega)).drew
  have hb := (hb.setCell (p := ⟨w.heap.size, y2 * 10 + x2, none⟩) (by dsimp only; omega) (.int .i8 (b + n))).drew
  clear c2 l2 f0 l0 k0 g2
  obtain ⟨W6, hW6⟩ : ∃ W6, (W5.setCell ⟨w.heap.size, y2 * 10 + x2, none⟩ (.int .i8 (b + n))).drew = W6 := ⟨_, rfl⟩
  rw [hW6] at g0 g1 g3 hb
  try rw [hW6]
  obtain ⟨r1, -, -, -, l1⟩ := g1.facts
  obtain ⟨r0, -, -, -, l0⟩ := g0.facts
  clear hW6
  go_wp2_with fail
  refine (HV.out _).mono ?_
  rintro e w7 ⟨rfl, hb1⟩
  have hb := below_onto hb hb1
  have g0 := g0.below hb1 g0.lt
  have g3 := g3.below hb1 g3.lt
  clear hb1 r0 r1 l0 l1 g1
  cases d
  case false =>
    have v3 := (hE.below hb).v3
    have hlow := hE.low
    have v3' : (w7.setRow (w.heap.size + 1 + 1 + 1) (levV fun _ _ => 0)).cell? ⟨3, 0, none⟩ = some (.iface 137 (.pointer (some a3))) := by
      rw [World.cell?, setRow_other w7 (w.heap.size + 1 + 1 + 1) 3 _ (by omega)]
      exact v3
    obtain ⟨rr, fr, -, -, lr⟩ := g3.facts
    have HK := Lib.hid (g3.setRow (levV fun _ _ => 0))
    have HB := Lib.hid hb
    clear hE hb g0 g3
    go_wp2_with fail
    go_region
    all_goals go_wp2_with fail
    all_goals exact bodyPost_ret (results_cell_tmp1' rfl wideLv _ rfl HK.out (by simp)) rfl ⟨rfl, (below_setRow' HB.out (by omega) _).drew⟩
  case true =>
    obtain ⟨r0, -, -, -, l0⟩ := g0.facts
    obtain ⟨rr, fr, -, -, lr⟩ := g3.facts
    have HK := Lib.hid (g3.setRow (levV G))
    have HB := Lib.hid hb
    clear hE hb g0 g3
    go_wp2_with fail
    exact bodyPost_ret (results_cell_tmp1' rfl wideLv _ rfl HK.out (by simp)) rfl ⟨rfl, below_setRow' HB.out (by omega) _⟩
set_option maxRecDepth 100000 in
set_option maxHeartbeats 4000000 in
theorem moved_runx (L : Lawn) (hL : L.Fits) (g : Nat → Nat → Int) (hv : levB L g = true) (x1 y1 y2 : Nat) (n : Int) {a0 a1 a2 a3 a4 : Addr} (w : World) (hE : ErrsIn w a0 a1 a2 a3 a4) (hx1 : x1 < 10) (hy1 : y1 < 10) (hy2 : y2 < 10)
    (hf : grassB L x1 y1 = true) (ht : grassB L x1 y2 = true) (hn : 1 ≤ n) (hm : n ≤ 18) (hne : ¬(y1 = y2)) (G : Nat → Nat → Int) (hG : upd (upd g y1 x1 (g y1 x1 - n)) y2 x1 (g y2 x1 + n) = G) (d : Bool) (hd : levB L G = d) :
    Calls Tryd.prog 36 #[.agg (levV g), .agg L.cells, .agg #[.int .i8 (x1 : Int), .int .i8 (y1 : Int), .int .i8 (x1 : Int), .int .i8 (y2 : Int), .int .i8 n]] w fun e w' => e = .returned (.tuple #[.agg (levV fun y x => if d then G y x else 0), if d then .nilIface else .iface 137 (.pointer (some a3))]) ∧ Below w.heap.size w w' := by
  obtain ⟨W0, hW0⟩ : ∃ W0, (((w.alloc (.cells (levV g) 33)).alloc (.cells L.cells 36)).alloc (.cells #[.int .i8 (x1 : Int), .int .i8 (y1 : Int), .int .i8 (x1 : Int), .int .i8 (y2 : Int), .int .i8 n] 41)).alloc (.cells (levV fun _ _ => 0) 33) = W0 := ⟨_, rfl⟩
  have g0 : Holds W0 w.heap.size (levV g) := by rw [← hW0]; exact (((Holds.new _ _ _).alloc _).alloc _).alloc _
  have g1 : Holds W0 (w.heap.size + 1) L.cells := by rw [← hW0]; exact ((Holds.new' _ _ _ _ (by simp)).alloc _).alloc _
  have g2 : Holds W0 (w.heap.size + 1 + 1) #[.int .i8 (x1 : Int), .int .i8 (y1 : Int), .int .i8 (x1 : Int), .int .i8 (y2 : Int), .int .i8 n] := by rw [← hW0]; exact (Holds.new' _ _ _ _ (by simp)).alloc _
  have g3 : Holds W0 (w.heap.size + 1 + 1 + 1) (levV fun _ _ => 0) := by rw [← hW0]; exact Holds.new' _ _ _ _ (by simp)
  have hb : Below w.heap.size w W0 := by rw [← hW0]; exact ((((Below.refl w.heap.size w).alloc (Nat.le_refl _) _).alloc (by simp) _).alloc (by simp; omega) _).alloc (by simp; omega) _
  have hV := (levB_true hv).1
  have HF := Lib.hid (fun w => has_is L x1 y1 w true (grassB_in hf))
  have HT := Lib.hid (fun w => has_is L x1 y2 w true (grassB_in ht))
  have HA := Lib.hid (fun w => isGrass_is L hV hL x1 y1 true hf w)
  have HZ := Lib.hid (fun w => isGrass_is L hV hL x1 y2 true ht w)
  have HV := Lib.hid (fun w => implLevels_any L hL G w)
  rw [hd] at HV
  have hd1 : decide (n < 1) = false := by simp; omega
  have hd2 : decide (18 < n) = false := by simp; omega
  obtain ⟨a, ha⟩ : ∃ a, g y1 x1 = a := ⟨_, rfl⟩
  obtain ⟨b, hb'⟩ : ∃ b, g y2 x1 = b := ⟨_, rfl⟩
  have ra := lev_range hv y1 x1 hy1 hx1
  have rb := lev_range hv y2 x1 hy2 hx1
  rw [ha] at hG ra
  rw [hb'] at hG rb
  have hwa : IntKind.i8.wrap (a - n) = a - n := IntWalk.i8_in _ (by omega)
  have hwb : IntKind.i8.wrap (b + n) = b + n := IntWalk.i8_in _ (by omega)
  have HGA := Lib.hid (And.intro ha hb')
  have HGG := Lib.hid hG
  have hx10 : (0 : Int) ≤ x1 := by omega
  have hx11 : (x1 : Int) < 10 := by omega
  have hy10 : (0 : Int) ≤ y1 := by omega
  have hy11 : (y1 : Int) < 10 := by omega
  have hy20 : (0 : Int) ≤ y2 := by omega
  have hy21 : (y2 : Int) < 10 := by omega
  have hce : ¬((y1 : Int) = y2) := by omega
  have HNE := Lib.hid hne
  clear hv hL hV hf ht hd ha hb' hG hne hn hm ra rb
  obtain ⟨r1, -, -, -, l1⟩ := g1.facts
  obtain ⟨-, -, c2, -, l2⟩ := g2.facts
  go_enter Tryd.func36, Tryd.ntmps36
  go_wp2_with fail
  clear hW0
  refine (HF.out _).mono ?_
  rintro e w1 ⟨rfl, hb1⟩
  have hb := below_onto hb hb1
  have g0 := g0.below hb1 g0.lt
  have g1 := g1.below hb1 g1.lt
  have g2 := g2.below hb1 g2.lt
  have g3 := g3.below hb1 g3.lt
  clear hb1 r1 l1 c2 l2
  obtain ⟨r1, -, -, -, l1⟩ := g1.facts
  obtain ⟨-, -, c2, -, l2⟩ := g2.facts
  go_wp2_with fail
  refine (HT.out _).mono ?_
  rintro e w2 ⟨rfl, hb1⟩
  have hb := below_onto hb hb1
  have g0 := g0.below hb1 g0.lt
  have g1 := g1.below hb1 g1.lt
  have g2 := g2.below hb1 g2.lt
  have g3 := g3.below hb1 g3.lt
  clear hb1 r1 l1 c2 l2
  obtain ⟨r1, -, -, -, l1⟩ := g1.facts
  obtain ⟨-, -, c2, -, l2⟩ := g2.facts
  go_wp2_with fail
  refine (HA.out _).mono ?_
  rintro e w3 ⟨rfl, hb1⟩
  have hb := below_onto hb hb1
  have g0 := g0.below hb1 g0.lt
  have g1 := g1.below hb1 g1.lt
  have g2 := g2.below hb1 g2.lt
  have g3 := g3.below hb1 g3.lt
  clear hb1 r1 l1 c2 l2
  obtain ⟨r1, -, -, -, l1⟩ := g1.facts
  obtain ⟨-, -, c2, -, l2⟩ := g2.facts
  go_wp2_with fail
  refine (HZ.out _).mono ?_
  rintro e w4 ⟨rfl, hb1⟩
  have hb := below_onto hb hb1
  have g0 := g0.below hb1 g0.lt
  have g1 := g1.below hb1 g1.lt
  have g2 := g2.below hb1 g2.lt
  have g3 := g3.below hb1 g3.lt
  clear hb1 r1 l1 c2 l2
  obtain ⟨-, -, c2, -, l2⟩ := g2.facts
  obtain ⟨-, -, c0, f0, l0⟩ := g0.facts
  have k0 : w4.cell? ⟨w.heap.size, y1 * 10 + x1, none⟩ = some (.int .i8 a) := by rw [c0, levV_get _ y1 x1 hy1 hx1, HGA.out.1]
  clear c0
  go_wp2_with fail
  go_region
  have g0 := (g0.setCell (y1 * 10 + x1) (.int .i8 (a - n))).drew
  rw [levV_set _ y1 x1 _ hy1 hx1] at g0
  have g1 := (g1.setCell_other ⟨w.heap.size, y1 * 10 + x1, none⟩ (.int .i8 (a - n)) (by dsimp only; omega)).drew
  have g2 := (g2.setCell_other ⟨w.heap.size, y1 * 10 + x1, none⟩ (.int .i8 (a - n)) (by dsimp only; omega)).drew
  have g3 := (g3.setCell_other ⟨w.heap.size, y1 * 10 + x1, none⟩ (.int .i8 (a - n)) (by dsimp only; omega)).drew
  have hb := (hb.setCell (p := ⟨w.heap.size, y1 * 10 + x1, none⟩) (by dsimp only; omega) (.int .i8 (a - n))).drew
  clear c2 l2 f0 l0 k0
  obtain ⟨W5, hW5⟩ : ∃ W5, (w4.setCell ⟨w.heap.size, y1 * 10 + x1, none⟩ (.int .i8 (a - n))).drew = W5 := ⟨_, rfl⟩
  rw [hW5] at g0 g1 g2 g3 hb
  try rw [hW5]
  obtain ⟨-, -, c2, -, l2⟩ := g2.facts
  obtain ⟨-, -, c0, f0, l0⟩ := g0.facts
  have k0 : W5.cell? ⟨w.heap.size, y2 * 10 + x1, none⟩ = some (.int .i8 b) := by
    rw [c0, levV_get _ y2 x1 hy2 hx1]
    unfold upd
    rw [if_neg (by have := HNE.out; omega), HGA.out.2]
  clear c0 hW5
  go_wp2_with fail
  go_region
  have g0 := (g0.setCell (y2 * 10 + x1) (.int .i8 (b + n))).drew
  rw [levV_set _ y2 x1 _ hy2 hx1, HGG.out] at g0
  have g1 := (g1.setCell_other ⟨w.heap.size, y2 * 10 + x1, none⟩ (.int .i8 (b + n)) (by dsimp only; omega)).drew
  have g3 := (g3.setCell_other ⟨w.heap.size, y2 * 10 + x1, none⟩ (.int .i8 (b + n)) (by dsimp only; omega)).drew
  have hb := (hb.setCell (p := ⟨w.heap.size, y2 * 10 + x1, none⟩) (by dsimp only; omega) (.int .i8 (b + n))).drew
  clear c2 l2 f0 l0 k0 g2
  obtain ⟨W6, hW6⟩ : ∃ W6, (W5.setCell ⟨w.heap.size, y2 * 10 + x1, none⟩ (.int .i8 (b + n))).drew = W6 := ⟨_, rfl⟩
  rw [hW6] at g0 g1 g3 hb
  try rw [hW6]
  obtain ⟨r1, -, -, -, l1⟩ := g1.facts
  obtain ⟨r0, -, -, -, l0⟩ := g0.facts
  clear hW6
  go_wp2_with fail
  refine (HV.out _).mono ?_
  rintro e w7 ⟨rfl, hb1⟩
  have hb := below_onto hb hb1
  have g0 := g0.below hb1 g0.lt
  have g3 := g3.below hb1 g3.lt
  clear hb1 r0 r1 l0 l1 g1
  cases d
  case false =>
    have v3 := (hE.below hb).v3
    have hlow := hE.low
    have v3' : (w7.setRow (w.heap.size + 1 + 1 + 1) (levV fun _ _ => 0)).cell? ⟨3, 0, none⟩ = some (.iface 137 (.pointer (some a3))) := by
      rw [World.cell?, setRow_other w7 (w.heap.size + 1 + 1 + 1) 3 _ (by omega)]
      exact v3
    obtain ⟨rr, fr, -, -, lr⟩ := g3.facts
    have HK := Lib.hid (g3.setRow (levV fun _ _ => 0))
    have HB := Lib.hid hb
    clear hE hb g0 g3
    go_wp2_with fail
    go_region
    all_goals go_wp2_with fail
    all_goals exact bodyPost_ret (results_cell_tmp1' rfl wideLv _ rfl HK.out (by simp)) rfl ⟨rfl, (below_setRow' HB.out (by omega) _).drew⟩
  case true =>
    obtain ⟨r0, -, -, -, l0⟩ := g0.facts
    obtain ⟨rr, fr, -, -, lr⟩ := g3.facts
    have HK := Lib.hid (g3.setRow (levV G))
    have HB := Lib.hid hb
    clear hE hb g0 g3
    go_wp2_with fail
    exact bodyPost_ret (results_cell_tmp1' rfl wideLv _ rfl HK.out (by simp)) rfl ⟨rfl, below_setRow' HB.out (by omega) _⟩
end Go.Proofs.YteaajkkhbflmdaaDoor
