/- A haul of the program. -/
import Derived.Test.YteaajkkhbflmdaaDoorMoveP
import Derived.Test.YteaajkkhbflmdaaDoorErrs
import Derived.Test.YteaajkkhbflmdaaDoorVLev
namespace Go.Proofs.YteaajkkhbflmdaaDoor
open Go.RowKit Go.Shelf
set_option linter.unusedVariables false
set_option linter.unusedSimpArgs false
attribute [local go_sem ↓] loadRow loadGrid loadLawn loadMirror storeRow storeGrid storeLawn allocRow allocGrid allocLawn buildZero buildSides loadR8 loadL8 loadLv storeR8 storeLv allocR8 allocLv buildZLv

theorem results_cell_tmp1' {P : Program} {fn : Func} {p u : Tmp} {ty : TypeId} {n : Nat} (h : fn.results = #[.cell p ty, .tmp u]) (hw : wideB P ty n = true) (tmps : Array Value) {w : World} {g : Nat} {cs : Array Value}
    (hp : tmps.getD p undef = .pointer (some ⟨g, 0, none⟩)) (hg : Holds w g cs) (hn : cs.size = n) : (results fn tmps).run P w = .ok (.tuple #[.agg cs, tmps.getD u undef]) w := by
  have hp' : tmps[p]?.getD undef = .pointer (some ⟨g, 0, none⟩) := by simpa using hp
  simp [results, h, hp', asAddr, (wide_of hw).loadVar hg hn]

set_option maxRecDepth 100000 in
set_option maxHeartbeats 2000000 in
theorem moved_out1 (L : Lawn) (hL : L.Fits) (hV : validB L = true) (g : Nat → Nat → Int) (fx fy tx ty n : Int) {a0 a1 a2 a3 a4 : Addr} (w : World) (hE : ErrsIn w a0 a1 a2 a3 a4) (hf : isB L fx fy = false) :
    Calls Tryd.prog 36 #[.agg (levV g), .agg L.cells, .agg #[.int .i8 fx, .int .i8 fy, .int .i8 tx, .int .i8 ty, .int .i8 n]] w fun e w' => e = .returned (.tuple #[.agg (levV fun _ _ => 0), .iface 137 (.pointer (some a0))]) ∧ Below w.heap.size w w' := by
  obtain ⟨W0, hW0⟩ : ∃ W0, (((w.alloc (.cells (levV g) 33)).alloc (.cells L.cells 36)).alloc (.cells #[.int .i8 fx, .int .i8 fy, .int .i8 tx, .int .i8 ty, .int .i8 n] 41)).alloc (.cells (levV fun _ _ => 0) 33) = W0 := ⟨_, rfl⟩
  have g0 : Holds W0 w.heap.size (levV g) := by rw [← hW0]; exact (((Holds.new _ _ _).alloc _).alloc _).alloc _
  have g1 : Holds W0 (w.heap.size + 1) L.cells := by rw [← hW0]; exact ((Holds.new' _ _ _ _ (by simp)).alloc _).alloc _
  have g2 : Holds W0 (w.heap.size + 1 + 1) #[.int .i8 fx, .int .i8 fy, .int .i8 tx, .int .i8 ty, .int .i8 n] := by rw [← hW0]; exact (Holds.new' _ _ _ _ (by simp)).alloc _
  have g3 : Holds W0 (w.heap.size + 1 + 1 + 1) (levV fun _ _ => 0) := by rw [← hW0]; exact Holds.new' _ _ _ _ (by simp)
  have hb : Below w.heap.size w W0 := by rw [← hW0]; exact ((((Below.refl w.heap.size w).alloc (Nat.le_refl _) _).alloc (by simp) _).alloc (by simp; omega) _).alloc (by simp; omega) _
  have hE := hE.below hb
  have HF := Lib.hid (fun w => has_is L fx fy w false hf)
  clear hf hL hV
  obtain ⟨r1, -, -, -, l1⟩ := g1.facts
  obtain ⟨-, -, c2, -, l2⟩ := g2.facts
  go_enter Tryd.func36, Tryd.ntmps36
  go_wp2_with fail
  clear hW0
  refine (HF.out _).mono ?_
  rintro e w1 ⟨rfl, hb1⟩
  have hb := below_onto hb hb1
  have hE := hE.below hb1
  have g0 := g0.below hb1 g0.lt
  have g1 := g1.below hb1 g1.lt
  have g2 := g2.below hb1 g2.lt
  have g3 := g3.below hb1 g3.lt
  clear hb1 r1 l1 c2 l2
  have v0 := hE.v0
  obtain ⟨rr, fr, -, -, lr⟩ := g3.facts
  have HK := Lib.hid (g3.setRow (levV fun _ _ => 0))
  have HB := Lib.hid hb
  obtain ⟨-, -, c2, -, l2⟩ := g2.facts
  clear hE hb g0 g1 g3
  go_wp2_with fail
  go_region
  all_goals go_wp2_with fail
  all_goals exact bodyPost_ret (results_cell_tmp1' rfl wideLv _ rfl HK.out (by simp)) rfl ⟨rfl, (below_setRow' HB.out (by omega) _).drew⟩

set_option maxRecDepth 100000 in
set_option maxHeartbeats 2000000 in
theorem moved_out2 (L : Lawn) (hL : L.Fits) (hV : validB L = true) (g : Nat → Nat → Int) (fx fy tx ty n : Int) {a0 a1 a2 a3 a4 : Addr} (w : World) (hE : ErrsIn w a0 a1 a2 a3 a4) (hf : isB L fx fy = true) (ht : isB L tx ty = false) :
    Calls Tryd.prog 36 #[.agg (levV g), .agg L.cells, .agg #[.int .i8 fx, .int .i8 fy, .int .i8 tx, .int .i8 ty, .int .i8 n]] w fun e w' => e = .returned (.tuple #[.agg (levV fun _ _ => 0), .iface 137 (.pointer (some a0))]) ∧ Below w.heap.size w w' := by
  obtain ⟨W0, hW0⟩ : ∃ W0, (((w.alloc (.cells (levV g) 33)).alloc (.cells L.cells 36)).alloc (.cells #[.int .i8 fx, .int .i8 fy, .int .i8 tx, .int .i8 ty, .int .i8 n] 41)).alloc (.cells (levV fun _ _ => 0) 33) = W0 := ⟨_, rfl⟩
  have g0 : Holds W0 w.heap.size (levV g) := by rw [← hW0]; exact (((Holds.new _ _ _).alloc _).alloc _).alloc _
  have g1 : Holds W0 (w.heap.size + 1) L.cells := by rw [← hW0]; exact ((Holds.new' _ _ _ _ (by simp)).alloc _).alloc _
  have g2 : Holds W0 (w.heap.size + 1 + 1) #[.int .i8 fx, .int .i8 fy, .int .i8 tx, .int .i8 ty, .int .i8 n] := by rw [← hW0]; exact (Holds.new' _ _ _ _ (by simp)).alloc _
  have g3 : Holds W0 (w.heap.size + 1 + 1 + 1) (levV fun _ _ => 0) := by rw [← hW0]; exact Holds.new' _ _ _ _ (by simp)
  have hb : Below w.heap.size w W0 := by rw [← hW0]; exact ((((Below.refl w.heap.size w).alloc (Nat.le_refl _) _).alloc (by simp) _).alloc (by simp; omega) _).alloc (by simp; omega) _
  have hE := hE.below hb
  have HF := Lib.hid (fun w => has_is L fx fy w true hf)
  have HT := Lib.hid (fun w => has_is L tx ty w false ht)
  clear hf ht hL hV
  obtain ⟨r1, -, -, -, l1⟩ := g1.facts
  obtain ⟨-, -, c2, -, l2⟩ := g2.facts
  go_enter Tryd.func36, Tryd.ntmps36
  go_wp2_with fail
  clear hW0
  refine (HF.out _).mono ?_
  rintro e w1 ⟨rfl, hb1⟩
  have hb := below_onto hb hb1
  have hE := hE.below hb1
  have g0 := g0.below hb1 g0.lt
  have g1 := g1.below hb1 g1.lt
  have g2 := g2.below hb1 g2.lt
  have g3 := g3.below hb1 g3.lt
  clear hb1 r1 l1 c2 l2
  obtain ⟨r1, -, -, -, l1⟩ := g1.facts
  obtain ⟨-, -, c2, -, l2⟩ := g2.facts
  go_wp2_with fail
  refine (HT.out _).mono ?_
  rintro e w2 ⟨rfl, hb1⟩
  have hb := below_onto hb hb1
  have hE := hE.below hb1
  have g0 := g0.below hb1 g0.lt
  have g1 := g1.below hb1 g1.lt
  have g2 := g2.below hb1 g2.lt
  have g3 := g3.below hb1 g3.lt
  clear hb1 r1 l1 c2 l2
  have v0 := hE.v0
  obtain ⟨rr, fr, -, -, lr⟩ := g3.facts
  have HK := Lib.hid (g3.setRow (levV fun _ _ => 0))
  have HB := Lib.hid hb
  obtain ⟨-, -, c2, -, l2⟩ := g2.facts
  clear hE hb g0 g1 g3
  go_wp2_with fail
  go_region
  all_goals go_wp2_with fail
  all_goals exact bodyPost_ret (results_cell_tmp1' rfl wideLv _ rfl HK.out (by simp)) rfl ⟨rfl, (below_setRow' HB.out (by omega) _).drew⟩

set_option maxRecDepth 100000 in
set_option maxHeartbeats 2000000 in
theorem moved_out3 (L : Lawn) (hL : L.Fits) (hV : validB L = true) (g : Nat → Nat → Int) (fx fy tx ty n : Int) {a0 a1 a2 a3 a4 : Addr} (w : World) (hE : ErrsIn w a0 a1 a2 a3 a4) (hf : isB L fx fy = true) (ht : isB L tx ty = true) (hn : n < 1) :
    Calls Tryd.prog 36 #[.agg (levV g), .agg L.cells, .agg #[.int .i8 fx, .int .i8 fy, .int .i8 tx, .int .i8 ty, .int .i8 n]] w fun e w' => e = .returned (.tuple #[.agg (levV fun _ _ => 0), .iface 137 (.pointer (some a0))]) ∧ Below w.heap.size w w' := by
  obtain ⟨W0, hW0⟩ : ∃ W0, (((w.alloc (.cells (levV g) 33)).alloc (.cells L.cells 36)).alloc (.cells #[.int .i8 fx, .int .i8 fy, .int .i8 tx, .int .i8 ty, .int .i8 n] 41)).alloc (.cells (levV fun _ _ => 0) 33) = W0 := ⟨_, rfl⟩
  have g0 : Holds W0 w.heap.size (levV g) := by rw [← hW0]; exact (((Holds.new _ _ _).alloc _).alloc _).alloc _
  have g1 : Holds W0 (w.heap.size + 1) L.cells := by rw [← hW0]; exact ((Holds.new' _ _ _ _ (by simp)).alloc _).alloc _
  have g2 : Holds W0 (w.heap.size + 1 + 1) #[.int .i8 fx, .int .i8 fy, .int .i8 tx, .int .i8 ty, .int .i8 n] := by rw [← hW0]; exact (Holds.new' _ _ _ _ (by simp)).alloc _
  have g3 : Holds W0 (w.heap.size + 1 + 1 + 1) (levV fun _ _ => 0) := by rw [← hW0]; exact Holds.new' _ _ _ _ (by simp)
  have hb : Below w.heap.size w W0 := by rw [← hW0]; exact ((((Below.refl w.heap.size w).alloc (Nat.le_refl _) _).alloc (by simp) _).alloc (by simp; omega) _).alloc (by simp; omega) _
  have hE := hE.below hb
  have HF := Lib.hid (fun w => has_is L fx fy w true hf)
  have HT := Lib.hid (fun w => has_is L tx ty w true ht)
  have hd : decide (n < 1) = true := by simpa using hn
  clear hf ht hL hV hn
  obtain ⟨r1, -, -, -, l1⟩ := g1.facts
  obtain ⟨-, -, c2, -, l2⟩ := g2.facts
  go_enter Tryd.func36, Tryd.ntmps36
  go_wp2_with fail
  clear hW0
  refine (HF.out _).mono ?_
  rintro e w1 ⟨rfl, hb1⟩
  have hb := below_onto hb hb1
  have hE := hE.below hb1
  have g0 := g0.below hb1 g0.lt
  have g1 := g1.below hb1 g1.lt
  have g2 := g2.below hb1 g2.lt
  have g3 := g3.below hb1 g3.lt
  clear hb1 r1 l1 c2 l2
  obtain ⟨r1, -, -, -, l1⟩ := g1.facts
  obtain ⟨-, -, c2, -, l2⟩ := g2.facts
  go_wp2_with fail
  refine (HT.out _).mono ?_
  rintro e w2 ⟨rfl, hb1⟩
  have hb := below_onto hb hb1
  have hE := hE.below hb1
  have g0 := g0.below hb1 g0.lt
  have g1 := g1.below hb1 g1.lt
  have g2 := g2.below hb1 g2.lt
  have g3 := g3.below hb1 g3.lt
  clear hb1 r1 l1 c2 l2
  have v0 := hE.v0
  obtain ⟨rr, fr, -, -, lr⟩ := g3.facts
  have HK := Lib.hid (g3.setRow (levV fun _ _ => 0))
  have HB := Lib.hid hb
  obtain ⟨-, -, c2, -, l2⟩ := g2.facts
  clear hE hb g0 g1 g3
  go_wp2_with fail
  go_region
  all_goals go_wp2_with fail
  all_goals exact bodyPost_ret (results_cell_tmp1' rfl wideLv _ rfl HK.out (by simp)) rfl ⟨rfl, (below_setRow' HB.out (by omega) _).drew⟩

set_option maxRecDepth 100000 in
set_option maxHeartbeats 2000000 in
theorem moved_out4 (L : Lawn) (hL : L.Fits) (hV : validB L = true) (g : Nat → Nat → Int) (fx fy tx ty n : Int) {a0 a1 a2 a3 a4 : Addr} (w : World) (hE : ErrsIn w a0 a1 a2 a3 a4) (hf : isB L fx fy = true) (ht : isB L tx ty = true) (hn : ¬n < 1) (hm : 18 < n) :
    Calls Tryd.prog 36 #[.agg (levV g), .agg L.cells, .agg #[.int .i8 fx, .int .i8 fy, .int .i8 tx, .int .i8 ty, .int .i8 n]] w fun e w' => e = .returned (.tuple #[.agg (levV fun _ _ => 0), .iface 137 (.pointer (some a0))]) ∧ Below w.heap.size w w' := by
  obtain ⟨W0, hW0⟩ : ∃ W0, (((w.alloc (.cells (levV g) 33)).alloc (.cells L.cells 36)).alloc (.cells #[.int .i8 fx, .int .i8 fy, .int .i8 tx, .int .i8 ty, .int .i8 n] 41)).alloc (.cells (levV fun _ _ => 0) 33) = W0 := ⟨_, rfl⟩
  have g0 : Holds W0 w.heap.size (levV g) := by rw [← hW0]; exact (((Holds.new _ _ _).alloc _).alloc _).alloc _
  have g1 : Holds W0 (w.heap.size + 1) L.cells := by rw [← hW0]; exact ((Holds.new' _ _ _ _ (by simp)).alloc _).alloc _
  have g2 : Holds W0 (w.heap.size + 1 + 1) #[.int .i8 fx, .int .i8 fy, .int .i8 tx, .int .i8 ty, .int .i8 n] := by rw [← hW0]; exact (Holds.new' _ _ _ _ (by simp)).alloc _
  have g3 : Holds W0 (w.heap.size + 1 + 1 + 1) (levV fun _ _ => 0) := by rw [← hW0]; exact Holds.new' _ _ _ _ (by simp)
  have hb : Below w.heap.size w W0 := by rw [← hW0]; exact ((((Below.refl w.heap.size w).alloc (Nat.le_refl _) _).alloc (by simp) _).alloc (by simp; omega) _).alloc (by simp; omega) _
  have hE := hE.below hb
  have HF := Lib.hid (fun w => has_is L fx fy w true hf)
  have HT := Lib.hid (fun w => has_is L tx ty w true ht)
  have hd : decide (n < 1) = false := by simpa using hn
  have hd2 : decide (18 < n) = true := by simpa using hm
  clear hf ht hL hV hn hm
  obtain ⟨r1, -, -, -, l1⟩ := g1.facts
  obtain ⟨-, -, c2, -, l2⟩ := g2.facts
  go_enter Tryd.func36, Tryd.ntmps36
  go_wp2_with fail
  clear hW0
  refine (HF.out _).mono ?_
  rintro e w1 ⟨rfl, hb1⟩
  have hb := below_onto hb hb1
  have hE := hE.below hb1
  have g0 := g0.below hb1 g0.lt
  have g1 := g1.below hb1 g1.lt
  have g2 := g2.below hb1 g2.lt
  have g3 := g3.below hb1 g3.lt
  clear hb1 r1 l1 c2 l2
  obtain ⟨r1, -, -, -, l1⟩ := g1.facts
  obtain ⟨-, -, c2, -, l2⟩ := g2.facts
  go_wp2_with fail
  refine (HT.out _).mono ?_
  rintro e w2 ⟨rfl, hb1⟩
  have hb := below_onto hb hb1
  have hE := hE.below hb1
  have g0 := g0.below hb1 g0.lt
  have g1 := g1.below hb1 g1.lt
  have g2 := g2.below hb1 g2.lt
  have g3 := g3.below hb1 g3.lt
  clear hb1 r1 l1 c2 l2
  have v0 := hE.v0
  obtain ⟨rr, fr, -, -, lr⟩ := g3.facts
  have HK := Lib.hid (g3.setRow (levV fun _ _ => 0))
  have HB := Lib.hid hb
  obtain ⟨-, -, c2, -, l2⟩ := g2.facts
  clear hE hb g0 g1 g3
  go_wp2_with fail
  go_region
  all_goals go_wp2_with fail
  all_goals exact bodyPost_ret (results_cell_tmp1' rfl wideLv _ rfl HK.out (by simp)) rfl ⟨rfl, (below_setRow' HB.out (by omega) _).drew⟩

set_option maxRecDepth 100000 in
set_option maxHeartbeats 2000000 in
theorem moved_bare1 (L : Lawn) (hL : L.Fits) (hV : validB L = true) (g : Nat → Nat → Int) (fx fy tx ty n : Int) {a0 a1 a2 a3 a4 : Addr} (w : World) (hE : ErrsIn w a0 a1 a2 a3 a4) (hf : isB L fx fy = true) (ht : isB L tx ty = true) (hn : ¬n < 1) (hm : ¬18 < n) (ha : grassB L fx fy = false) :
    Calls Tryd.prog 36 #[.agg (levV g), .agg L.cells, .agg #[.int .i8 fx, .int .i8 fy, .int .i8 tx, .int .i8 ty, .int .i8 n]] w fun e w' => e = .returned (.tuple #[.agg (levV fun _ _ => 0), .iface 137 (.pointer (some a1))]) ∧ Below w.heap.size w w' := by
  obtain ⟨W0, hW0⟩ : ∃ W0, (((w.alloc (.cells (levV g) 33)).alloc (.cells L.cells 36)).alloc (.cells #[.int .i8 fx, .int .i8 fy, .int .i8 tx, .int .i8 ty, .int .i8 n] 41)).alloc (.cells (levV fun _ _ => 0) 33) = W0 := ⟨_, rfl⟩
  have g0 : Holds W0 w.heap.size (levV g) := by rw [← hW0]; exact (((Holds.new _ _ _).alloc _).alloc _).alloc _
  have g1 : Holds W0 (w.heap.size + 1) L.cells := by rw [← hW0]; exact ((Holds.new' _ _ _ _ (by simp)).alloc _).alloc _
  have g2 : Holds W0 (w.heap.size + 1 + 1) #[.int .i8 fx, .int .i8 fy, .int .i8 tx, .int .i8 ty, .int .i8 n] := by rw [← hW0]; exact (Holds.new' _ _ _ _ (by simp)).alloc _
  have g3 : Holds W0 (w.heap.size + 1 + 1 + 1) (levV fun _ _ => 0) := by rw [← hW0]; exact Holds.new' _ _ _ _ (by simp)
  have hb : Below w.heap.size w W0 := by rw [← hW0]; exact ((((Below.refl w.heap.size w).alloc (Nat.le_refl _) _).alloc (by simp) _).alloc (by simp; omega) _).alloc (by simp; omega) _
  have hE := hE.below hb
  have HF := Lib.hid (fun w => has_is L fx fy w true hf)
  have HT := Lib.hid (fun w => has_is L tx ty w true ht)
  have HA := Lib.hid (fun w => isGrass_is L hV hL fx fy false ha w)
  have hd : decide (n < 1) = false := by simpa using hn
  have hd2 : decide (18 < n) = false := by simpa using hm
  clear hf ht hL hV hn hm ha
  obtain ⟨r1, -, -, -, l1⟩ := g1.facts
  obtain ⟨-, -, c2, -, l2⟩ := g2.facts
  go_enter Tryd.func36, Tryd.ntmps36
  go_wp2_with fail
  clear hW0
  refine (HF.out _).mono ?_
  rintro e w1 ⟨rfl, hb1⟩
  have hb := below_onto hb hb1
  have hE := hE.below hb1
  have g0 := g0.below hb1 g0.lt
  have g1 := g1.below hb1 g1.lt
  have g2 := g2.below hb1 g2.lt
  have g3 := g3.below hb1 g3.lt
  clear hb1 r1 l1 c2 l2
  obtain ⟨r1, -, -, -, l1⟩ := g1.facts
  obtain ⟨-, -, c2, -, l2⟩ := g2.facts
  go_wp2_with fail
  refine (HT.out _).mono ?_
  rintro e w2 ⟨rfl, hb1⟩
  have hb := below_onto hb hb1
  have hE := hE.below hb1
  have g0 := g0.below hb1 g0.lt
  have g1 := g1.below hb1 g1.lt
  have g2 := g2.below hb1 g2.lt
  have g3 := g3.below hb1 g3.lt
  clear hb1 r1 l1 c2 l2
  obtain ⟨r1, -, -, -, l1⟩ := g1.facts
  obtain ⟨-, -, c2, -, l2⟩ := g2.facts
  go_wp2_with fail
  refine (HA.out _).mono ?_
  rintro e w3 ⟨rfl, hb1⟩
  have hb := below_onto hb hb1
  have hE := hE.below hb1
  have g0 := g0.below hb1 g0.lt
  have g1 := g1.below hb1 g1.lt
  have g2 := g2.below hb1 g2.lt
  have g3 := g3.below hb1 g3.lt
  clear hb1 r1 l1 c2 l2
  have v1 := hE.v1
  obtain ⟨rr, fr, -, -, lr⟩ := g3.facts
  have HK := Lib.hid (g3.setRow (levV fun _ _ => 0))
  have HB := Lib.hid hb
  obtain ⟨-, -, c2, -, l2⟩ := g2.facts
  clear hE hb g0 g1 g3
  go_wp2_with fail
  go_region
  all_goals go_wp2_with fail
  all_goals exact bodyPost_ret (results_cell_tmp1' rfl wideLv _ rfl HK.out (by simp)) rfl ⟨rfl, (below_setRow' HB.out (by omega) _).drew⟩

set_option maxRecDepth 100000 in
set_option maxHeartbeats 2000000 in
theorem moved_bare2 (L : Lawn) (hL : L.Fits) (hV : validB L = true) (g : Nat → Nat → Int) (fx fy tx ty n : Int) {a0 a1 a2 a3 a4 : Addr} (w : World) (hE : ErrsIn w a0 a1 a2 a3 a4) (hf : isB L fx fy = true) (ht : isB L tx ty = true) (hn : ¬n < 1) (hm : ¬18 < n) (ha : grassB L fx fy = true) (hb' : grassB L tx ty = false) :
    Calls Tryd.prog 36 #[.agg (levV g), .agg L.cells, .agg #[.int .i8 fx, .int .i8 fy, .int .i8 tx, .int .i8 ty, .int .i8 n]] w fun e w' => e = .returned (.tuple #[.agg (levV fun _ _ => 0), .iface 137 (.pointer (some a1))]) ∧ Below w.heap.size w w' := by
  obtain ⟨W0, hW0⟩ : ∃ W0, (((w.alloc (.cells (levV g) 33)).alloc (.cells L.cells 36)).alloc (.cells #[.int .i8 fx, .int .i8 fy, .int .i8 tx, .int .i8 ty, .int .i8 n] 41)).alloc (.cells (levV fun _ _ => 0) 33) = W0 := ⟨_, rfl⟩
  have g0 : Holds W0 w.heap.size (levV g) := by rw [← hW0]; exact (((Holds.new _ _ _).alloc _).alloc _).alloc _
  have g1 : Holds W0 (w.heap.size + 1) L.cells := by rw [← hW0]; exact ((Holds.new' _ _ _ _ (by simp)).alloc _).alloc _
  have g2 : Holds W0 (w.heap.size + 1 + 1) #[.int .i8 fx, .int .i8 fy, .int .i8 tx, .int .i8 ty, .int .i8 n] := by rw [← hW0]; exact (Holds.new' _ _ _ _ (by simp)).alloc _
  have g3 : Holds W0 (w.heap.size + 1 + 1 + 1) (levV fun _ _ => 0) := by rw [← hW0]; exact Holds.new' _ _ _ _ (by simp)
  have hb : Below w.heap.size w W0 := by rw [← hW0]; exact ((((Below.refl w.heap.size w).alloc (Nat.le_refl _) _).alloc (by simp) _).alloc (by simp; omega) _).alloc (by simp; omega) _
  have hE := hE.below hb
  have HF := Lib.hid (fun w => has_is L fx fy w true hf)
  have HT := Lib.hid (fun w => has_is L tx ty w true ht)
  have HA := Lib.hid (fun w => isGrass_is L hV hL fx fy true ha w)
  have HZ := Lib.hid (fun w => isGrass_is L hV hL tx ty false hb' w)
  have hd : decide (n < 1) = false := by simpa using hn
  have hd2 : decide (18 < n) = false := by simpa using hm
  clear hf ht hL hV hn hm ha hb'
  obtain ⟨r1, -, -, -, l1⟩ := g1.facts
  obtain ⟨-, -, c2, -, l2⟩ := g2.facts
  go_enter Tryd.func36, Tryd.ntmps36
  go_wp2_with fail
  clear hW0
  refine (HF.out _).mono ?_
  rintro e w1 ⟨rfl, hb1⟩
  have hb := below_onto hb hb1
  have hE := hE.below hb1
  have g0 := g0.below hb1 g0.lt
  have g1 := g1.below hb1 g1.lt
  have g2 := g2.below hb1 g2.lt
  have g3 := g3.below hb1 g3.lt
  clear hb1 r1 l1 c2 l2
  obtain ⟨r1, -, -, -, l1⟩ := g1.facts
  obtain ⟨-, -, c2, -, l2⟩ := g2.facts
  go_wp2_with fail
  refine (HT.out _).mono ?_
  rintro e w2 ⟨rfl, hb1⟩
  have hb := below_onto hb hb1
  have hE := hE.below hb1
  have g0 := g0.below hb1 g0.lt
  have g1 := g1.below hb1 g1.lt
  have g2 := g2.below hb1 g2.lt
  have g3 := g3.below hb1 g3.lt
  clear hb1 r1 l1 c2 l2
  obtain ⟨r1, -, -, -, l1⟩ := g1.facts
  obtain ⟨-, -, c2, -, l2⟩ := g2.facts
  go_wp2_with fail
  refine (HA.out _).mono ?_
  rintro e w3 ⟨rfl, hb1⟩
  have hb := below_onto hb hb1
  have hE := hE.below hb1
  have g0 := g0.below hb1 g0.lt
  have g1 := g1.below hb1 g1.lt
  have g2 := g2.below hb1 g2.lt
  have g3 := g3.below hb1 g3.lt
  clear hb1 r1 l1 c2 l2
  obtain ⟨r1, -, -, -, l1⟩ := g1.facts
  obtain ⟨-, -, c2, -, l2⟩ := g2.facts
  go_wp2_with fail
  refine (HZ.out _).mono ?_
  rintro e w4 ⟨rfl, hb1⟩
  have hb := below_onto hb hb1
  have hE := hE.below hb1
  have g0 := g0.below hb1 g0.lt
  have g1 := g1.below hb1 g1.lt
  have g2 := g2.below hb1 g2.lt
  have g3 := g3.below hb1 g3.lt
  clear hb1 r1 l1 c2 l2
  have v1 := hE.v1
  obtain ⟨rr, fr, -, -, lr⟩ := g3.facts
  have HK := Lib.hid (g3.setRow (levV fun _ _ => 0))
  have HB := Lib.hid hb
  obtain ⟨-, -, c2, -, l2⟩ := g2.facts
  clear hE hb g0 g1 g3
  go_wp2_with fail
  go_region
  all_goals go_wp2_with fail
  all_goals exact bodyPost_ret (results_cell_tmp1' rfl wideLv _ rfl HK.out (by simp)) rfl ⟨rfl, (below_setRow' HB.out (by omega) _).drew⟩

set_option maxRecDepth 100000 in
set_option maxHeartbeats 2000000 in
theorem moved_same (L : Lawn) (hL : L.Fits) (hV : validB L = true) (g : Nat → Nat → Int) (fx fy n : Int) {a0 a1 a2 a3 a4 : Addr} (w : World) (hE : ErrsIn w a0 a1 a2 a3 a4) (hf : isB L fx fy = true) (hn : ¬n < 1) (hm : ¬18 < n) (ha : grassB L fx fy = true) :
    Calls Tryd.prog 36 #[.agg (levV g), .agg L.cells, .agg #[.int .i8 fx, .int .i8 fy, .int .i8 fx, .int .i8 fy, .int .i8 n]] w fun e w' => e = .returned (.tuple #[.agg (levV fun _ _ => 0), .iface 137 (.pointer (some a2))]) ∧ Below w.heap.size w w' := by
  obtain ⟨W0, hW0⟩ : ∃ W0, (((w.alloc (.cells (levV g) 33)).alloc (.cells L.cells 36)).alloc (.cells #[.int .i8 fx, .int .i8 fy, .int .i8 fx, .int .i8 fy, .int .i8 n] 41)).alloc (.cells (levV fun _ _ => 0) 33) = W0 := ⟨_, rfl⟩
  have g0 : Holds W0 w.heap.size (levV g) := by rw [← hW0]; exact (((Holds.new _ _ _).alloc _).alloc _).alloc _
  have g1 : Holds W0 (w.heap.size + 1) L.cells := by rw [← hW0]; exact ((Holds.new' _ _ _ _ (by simp)).alloc _).alloc _
  have g2 : Holds W0 (w.heap.size + 1 + 1) #[.int .i8 fx, .int .i8 fy, .int .i8 fx, .int .i8 fy, .int .i8 n] := by rw [← hW0]; exact (Holds.new' _ _ _ _ (by simp)).alloc _
  have g3 : Holds W0 (w.heap.size + 1 + 1 + 1) (levV fun _ _ => 0) := by rw [← hW0]; exact Holds.new' _ _ _ _ (by simp)
  have hb : Below w.heap.size w W0 := by rw [← hW0]; exact ((((Below.refl w.heap.size w).alloc (Nat.le_refl _) _).alloc (by simp) _).alloc (by simp; omega) _).alloc (by simp; omega) _
  have hE := hE.below hb
  have HF := Lib.hid (fun w => has_is L fx fy w true hf)
  have HT := Lib.hid (fun w => has_is L fx fy w true hf)
  have HA := Lib.hid (fun w => isGrass_is L hV hL fx fy true ha w)
  have HZ := Lib.hid (fun w => isGrass_is L hV hL fx fy true ha w)
  have hd : decide (n < 1) = false := by simpa using hn
  have hd2 : decide (18 < n) = false := by simpa using hm
  clear hf hL hV hn hm ha
  obtain ⟨r1, -, -, -, l1⟩ := g1.facts
  obtain ⟨-, -, c2, -, l2⟩ := g2.facts
  go_enter Tryd.func36, Tryd.ntmps36
  go_wp2_with fail
  clear hW0
  refine (HF.out _).mono ?_
  rintro e w1 ⟨rfl, hb1⟩
  have hb := below_onto hb hb1
  have hE := hE.below hb1
  have g0 := g0.below hb1 g0.lt
  have g1 := g1.below hb1 g1.lt
  have g2 := g2.below hb1 g2.lt
  have g3 := g3.below hb1 g3.lt
  clear hb1 r1 l1 c2 l2
  obtain ⟨r1, -, -, -, l1⟩ := g1.facts
  obtain ⟨-, -, c2, -, l2⟩ := g2.facts
  go_wp2_with fail
  refine (HT.out _).mono ?_
  rintro e w2 ⟨rfl, hb1⟩
  have hb := below_onto hb hb1
  have hE := hE.below hb1
  have g0 := g0.below hb1 g0.lt
  have g1 := g1.below hb1 g1.lt
  have g2 := g2.below hb1 g2.lt
  have g3 := g3.below hb1 g3.lt
  clear hb1 r1 l1 c2 l2
  obtain ⟨r1, -, -, -, l1⟩ := g1.facts
  obtain ⟨-, -, c2, -, l2⟩ := g2.facts
  go_wp2_with fail
  refine (HA.out _).mono ?_
  rintro e w3 ⟨rfl, hb1⟩
  have hb := below_onto hb hb1
  have hE := hE.below hb1
  have g0 := g0.below hb1 g0.lt
  have g1 := g1.below hb1 g1.lt
  have g2 := g2.below hb1 g2.lt
  have g3 := g3.below hb1 g3.lt
  clear hb1 r1 l1 c2 l2
  obtain ⟨r1, -, -, -, l1⟩ := g1.facts
  obtain ⟨-, -, c2, -, l2⟩ := g2.facts
  go_wp2_with fail
  refine (HZ.out _).mono ?_
  rintro e w4 ⟨rfl, hb1⟩
  have hb := below_onto hb hb1
  have hE := hE.below hb1
  have g0 := g0.below hb1 g0.lt
  have g1 := g1.below hb1 g1.lt
  have g2 := g2.below hb1 g2.lt
  have g3 := g3.below hb1 g3.lt
  clear hb1 r1 l1 c2 l2
  have v2 := hE.v2
  obtain ⟨rr, fr, -, -, lr⟩ := g3.facts
  have HK := Lib.hid (g3.setRow (levV fun _ _ => 0))
  have HB := Lib.hid hb
  obtain ⟨-, -, c2, -, l2⟩ := g2.facts
  clear hE hb g0 g1 g3
  go_wp2_with fail
  go_region
  all_goals go_wp2_with fail
  all_goals exact bodyPost_ret (results_cell_tmp1' rfl wideLv _ rfl HK.out (by simp)) rfl ⟨rfl, (below_setRow' HB.out (by omega) _).drew⟩

end Go.Proofs.YteaajkkhbflmdaaDoor
