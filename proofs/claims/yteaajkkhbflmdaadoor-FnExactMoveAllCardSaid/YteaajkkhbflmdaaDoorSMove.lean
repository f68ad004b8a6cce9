/- A haul of the model, where it is refused. -/
import Derived.Test.YteaajkkhbflmdaaDoorMoveP
import Derived.Test.YteaajkkhbflmdaaDoorVLev
namespace Go.Proofs.YteaajkkhbflmdaaDoor
open Go.RowKit Go.Shelf
set_option linter.unusedVariables false
set_option linter.unusedSimpArgs false
attribute [local go_sem ↓] loadRow loadGrid loadLawn loadMirror storeRow storeGrid storeLawn allocRow allocGrid allocLawn buildZero buildSides loadR8 loadL8 loadLv storeR8 storeLv allocR8 allocLv buildZLv

set_option maxRecDepth 100000 in
set_option maxHeartbeats 2000000 in
theorem smove_out1 (L : Lawn) (hL : L.Fits) (hV : validB L = true) (b c : Nat) (fx fy tx ty n : Int) (F : (-128 ≤ fx ∧ fx ≤ 127) ∧ (-128 ≤ fy ∧ fy ≤ 127) ∧ (-128 ≤ tx ∧ tx ≤ 127) ∧ (-128 ≤ ty ∧ ty ≤ 127) ∧ -128 ≤ n ∧ n ≤ 127) (w : World) (kb : Holds w b L.cells) (hf : isB L fx fy = false) :
    Calls Tryd.prog 34 #[.pointer (some ⟨b, 0, none⟩), .pointer (some ⟨c, 0, none⟩), .agg #[.int .i8 fx, .int .i8 fy, .int .i8 tx, .int .i8 ty, .int .i8 n]] w fun e w' => e = .returned (.int .i64 2) ∧ Below w.heap.size w w' := by
  obtain ⟨⟨q0, q1⟩, ⟨q2, q3⟩, ⟨q4, q5⟩, ⟨q6, q7⟩, q8, q9⟩ := F
  have hwn : IntKind.i64.wrap n = n := IntWalk.i64_in _ (by omega)
  have HF := Lib.hid (fun w h => l01Is_any L hL b fx fy w h q0 q1 q2 q3)
  have HT := Lib.hid (fun w h => l01Is_any L hL b tx ty w h q4 q5 q6 q7)
  have HA := Lib.hid (fun w h => grass_any L hV hL b fx fy q0 q1 q2 q3 w h)
  have HZ := Lib.hid (fun w h => grass_any L hV hL b tx ty q4 q5 q6 q7 w h)
  have HN := Lib.hid (fun w => in_q n 1 18 w)
  rw [hf] at HF
  clear q0 q1 q2 q3 q4 q5 q6 q7 q8 q9 hL hV
  obtain ⟨W0, hW0⟩ : ∃ W0, w.alloc (.cells #[.int .i8 fx, .int .i8 fy, .int .i8 tx, .int .i8 ty, .int .i8 n] 41) = W0 := ⟨_, rfl⟩
  have g2 : Holds W0 w.heap.size #[.int .i8 fx, .int .i8 fy, .int .i8 tx, .int .i8 ty, .int .i8 n] := by rw [← hW0]; exact Holds.new _ _ _
  have kb : Holds W0 b L.cells := by rw [← hW0]; exact kb.alloc _
  have hb : Below w.heap.size w W0 := by rw [← hW0]; exact (Below.refl w.heap.size w).alloc (Nat.le_refl _) _
  obtain ⟨-, -, c2, -, l2⟩ := g2.facts
  go_enter Tryd.func34, Tryd.ntmps34
  go_wp2_with fail
  clear hW0
  refine (HF.out _ kb).mono ?_
  rintro e w1 ⟨rfl, hb1⟩
  have hb := below_onto hb hb1
  have kb := kb.below hb1 kb.lt
  have g2 := g2.below hb1 g2.lt
  clear hb1 c2 l2
  obtain ⟨-, -, c2, -, l2⟩ := g2.facts
  go_wp2_with fail
  go_ret
  exact ⟨rfl, hb⟩
set_option maxRecDepth 100000 in
set_option maxHeartbeats 2000000 in
theorem smove_out2 (L : Lawn) (hL : L.Fits) (hV : validB L = true) (b c : Nat) (fx fy tx ty n : Int) (F : (-128 ≤ fx ∧ fx ≤ 127) ∧ (-128 ≤ fy ∧ fy ≤ 127) ∧ (-128 ≤ tx ∧ tx ≤ 127) ∧ (-128 ≤ ty ∧ ty ≤ 127) ∧ -128 ≤ n ∧ n ≤ 127) (w : World) (kb : Holds w b L.cells) (hf : isB L fx fy = true) (ht : isB L tx ty = false) :
    Calls Tryd.prog 34 #[.pointer (some ⟨b, 0, none⟩), .pointer (some ⟨c, 0, none⟩), .agg #[.int .i8 fx, .int .i8 fy, .int .i8 tx, .int .i8 ty, .int .i8 n]] w fun e w' => e = .returned (.int .i64 2) ∧ Below w.heap.size w w' := by
  obtain ⟨⟨q0, q1⟩, ⟨q2, q3⟩, ⟨q4, q5⟩, ⟨q6, q7⟩, q8, q9⟩ := F
  have hwn : IntKind.i64.wrap n = n := IntWalk.i64_in _ (by omega)
  have HF := Lib.hid (fun w h => l01Is_any L hL b fx fy w h q0 q1 q2 q3)
  have HT := Lib.hid (fun w h => l01Is_any L hL b tx ty w h q4 q5 q6 q7)
  have HA := Lib.hid (fun w h => grass_any L hV hL b fx fy q0 q1 q2 q3 w h)
  have HZ := Lib.hid (fun w h => grass_any L hV hL b tx ty q4 q5 q6 q7 w h)
  have HN := Lib.hid (fun w => in_q n 1 18 w)
  rw [hf] at HF
  rw [ht] at HT
  clear q0 q1 q2 q3 q4 q5 q6 q7 q8 q9 hL hV
  obtain ⟨W0, hW0⟩ : ∃ W0, w.alloc (.cells #[.int .i8 fx, .int .i8 fy, .int .i8 tx, .int .i8 ty, .int .i8 n] 41) = W0 := ⟨_, rfl⟩
  have g2 : Holds W0 w.heap.size #[.int .i8 fx, .int .i8 fy, .int .i8 tx, .int .i8 ty, .int .i8 n] := by rw [← hW0]; exact Holds.new _ _ _
  have kb : Holds W0 b L.cells := by rw [← hW0]; exact kb.alloc _
  have hb : Below w.heap.size w W0 := by rw [← hW0]; exact (Below.refl w.heap.size w).alloc (Nat.le_refl _) _
  obtain ⟨-, -, c2, -, l2⟩ := g2.facts
  go_enter Tryd.func34, Tryd.ntmps34
  go_wp2_with fail
  clear hW0
  refine (HF.out _ kb).mono ?_
  rintro e w1 ⟨rfl, hb1⟩
  have hb := below_onto hb hb1
  have kb := kb.below hb1 kb.lt
  have g2 := g2.below hb1 g2.lt
  clear hb1 c2 l2
  obtain ⟨-, -, c2, -, l2⟩ := g2.facts
  go_wp2_with fail
  refine (HT.out _ kb).mono ?_
  rintro e w2 ⟨rfl, hb1⟩
  have hb := below_onto hb hb1
  have kb := kb.below hb1 kb.lt
  have g2 := g2.below hb1 g2.lt
  clear hb1 c2 l2
  obtain ⟨-, -, c2, -, l2⟩ := g2.facts
  go_wp2_with fail
  go_ret
  exact ⟨rfl, hb⟩
set_option maxRecDepth 100000 in
set_option maxHeartbeats 2000000 in
theorem smove_out3 (L : Lawn) (hL : L.Fits) (hV : validB L = true) (b c : Nat) (fx fy tx ty n : Int) (F : (-128 ≤ fx ∧ fx ≤ 127) ∧ (-128 ≤ fy ∧ fy ≤ 127) ∧ (-128 ≤ tx ∧ tx ≤ 127) ∧ (-128 ≤ ty ∧ ty ≤ 127) ∧ -128 ≤ n ∧ n ≤ 127) (w : World) (kb : Holds w b L.cells) (hf : isB L fx fy = true) (ht : isB L tx ty = true) (hn : inB n 1 18 = false) :
    Calls Tryd.prog 34 #[.pointer (some ⟨b, 0, none⟩), .pointer (some ⟨c, 0, none⟩), .agg #[.int .i8 fx, .int .i8 fy, .int .i8 tx, .int .i8 ty, .int .i8 n]] w fun e w' => e = .returned (.int .i64 2) ∧ Below w.heap.size w w' := by
  obtain ⟨⟨q0, q1⟩, ⟨q2, q3⟩, ⟨q4, q5⟩, ⟨q6, q7⟩, q8, q9⟩ := F
  have hwn : IntKind.i64.wrap n = n := IntWalk.i64_in _ (by omega)
  have HF := Lib.hid (fun w h => l01Is_any L hL b fx fy w h q0 q1 q2 q3)
  have HT := Lib.hid (fun w h => l01Is_any L hL b tx ty w h q4 q5 q6 q7)
  have HA := Lib.hid (fun w h => grass_any L hV hL b fx fy q0 q1 q2 q3 w h)
  have HZ := Lib.hid (fun w h => grass_any L hV hL b tx ty q4 q5 q6 q7 w h)
  have HN := Lib.hid (fun w => in_q n 1 18 w)
  rw [hf] at HF
  rw [ht] at HT
  rw [hn] at HN
  clear q0 q1 q2 q3 q4 q5 q6 q7 q8 q9 hL hV
  obtain ⟨W0, hW0⟩ : ∃ W0, w.alloc (.cells #[.int .i8 fx, .int .i8 fy, .int .i8 tx, .int .i8 ty, .int .i8 n] 41) = W0 := ⟨_, rfl⟩
  have g2 : Holds W0 w.heap.size #[.int .i8 fx, .int .i8 fy, .int .i8 tx, .int .i8 ty, .int .i8 n] := by rw [← hW0]; exact Holds.new _ _ _
  have kb : Holds W0 b L.cells := by rw [← hW0]; exact kb.alloc _
  have hb : Below w.heap.size w W0 := by rw [← hW0]; exact (Below.refl w.heap.size w).alloc (Nat.le_refl _) _
  obtain ⟨-, -, c2, -, l2⟩ := g2.facts
  go_enter Tryd.func34, Tryd.ntmps34
  go_wp2_with fail
  clear hW0
  refine (HF.out _ kb).mono ?_
  rintro e w1 ⟨rfl, hb1⟩
  have hb := below_onto hb hb1
  have kb := kb.below hb1 kb.lt
  have g2 := g2.below hb1 g2.lt
  clear hb1 c2 l2
  obtain ⟨-, -, c2, -, l2⟩ := g2.facts
  go_wp2_with fail
  refine (HT.out _ kb).mono ?_
  rintro e w2 ⟨rfl, hb1⟩
  have hb := below_onto hb hb1
  have kb := kb.below hb1 kb.lt
  have g2 := g2.below hb1 g2.lt
  clear hb1 c2 l2
  obtain ⟨-, -, c2, -, l2⟩ := g2.facts
  go_wp2_with (go_at_call 51; refine (HN.out _).mono ?_; rintro e w9 ⟨rfl, hw9⟩; rw [hw9]; clear hw9)
  go_ret
  exact ⟨rfl, hb⟩
set_option maxRecDepth 100000 in
set_option maxHeartbeats 2000000 in
theorem smove_bare1 (L : Lawn) (hL : L.Fits) (hV : validB L = true) (b c : Nat) (fx fy tx ty n : Int) (F : (-128 ≤ fx ∧ fx ≤ 127) ∧ (-128 ≤ fy ∧ fy ≤ 127) ∧ (-128 ≤ tx ∧ tx ≤ 127) ∧ (-128 ≤ ty ∧ ty ≤ 127) ∧ -128 ≤ n ∧ n ≤ 127) (w : World) (kb : Holds w b L.cells) (hf : isB L fx fy = true) (ht : isB L tx ty = true) (hn : inB n 1 18 = true) (ha : grassB L fx fy = false) :
    Calls Tryd.prog 34 #[.pointer (some ⟨b, 0, none⟩), .pointer (some ⟨c, 0, none⟩), .agg #[.int .i8 fx, .int .i8 fy, .int .i8 tx, .int .i8 ty, .int .i8 n]] w fun e w' => e = .returned (.int .i64 4) ∧ Below w.heap.size w w' := by
  obtain ⟨⟨q0, q1⟩, ⟨q2, q3⟩, ⟨q4, q5⟩, ⟨q6, q7⟩, q8, q9⟩ := F
  have hwn : IntKind.i64.wrap n = n := IntWalk.i64_in _ (by omega)
  have HF := Lib.hid (fun w h => l01Is_any L hL b fx fy w h q0 q1 q2 q3)
  have HT := Lib.hid (fun w h => l01Is_any L hL b tx ty w h q4 q5 q6 q7)
  have HA := Lib.hid (fun w h => grass_any L hV hL b fx fy q0 q1 q2 q3 w h)
  have HZ := Lib.hid (fun w h => grass_any L hV hL b tx ty q4 q5 q6 q7 w h)
  have HN := Lib.hid (fun w => in_q n 1 18 w)
  rw [hf] at HF
  rw [ht] at HT
  rw [hn] at HN
  rw [ha] at HA
  clear q0 q1 q2 q3 q4 q5 q6 q7 q8 q9 hL hV
  obtain ⟨W0, hW0⟩ : ∃ W0, w.alloc (.cells #[.int .i8 fx, .int .i8 fy, .int .i8 tx, .int .i8 ty, .int .i8 n] 41) = W0 := ⟨_, rfl⟩
  have g2 : Holds W0 w.heap.size #[.int .i8 fx, .int .i8 fy, .int .i8 tx, .int .i8 ty, .int .i8 n] := by rw [← hW0]; exact Holds.new _ _ _
  have kb : Holds W0 b L.cells := by rw [← hW0]; exact kb.alloc _
  have hb : Below w.heap.size w W0 := by rw [← hW0]; exact (Below.refl w.heap.size w).alloc (Nat.le_refl _) _
  obtain ⟨-, -, c2, -, l2⟩ := g2.facts
  go_enter Tryd.func34, Tryd.ntmps34
  go_wp2_with fail
  clear hW0
  refine (HF.out _ kb).mono ?_
  rintro e w1 ⟨rfl, hb1⟩
  have hb := below_onto hb hb1
  have kb := kb.below hb1 kb.lt
  have g2 := g2.below hb1 g2.lt
  clear hb1 c2 l2
  obtain ⟨-, -, c2, -, l2⟩ := g2.facts
  go_wp2_with fail
  refine (HT.out _ kb).mono ?_
  rintro e w2 ⟨rfl, hb1⟩
  have hb := below_onto hb hb1
  have kb := kb.below hb1 kb.lt
  have g2 := g2.below hb1 g2.lt
  clear hb1 c2 l2
  obtain ⟨-, -, c2, -, l2⟩ := g2.facts
  go_wp2_with (go_at_call 51; refine (HN.out _).mono ?_; rintro e w9 ⟨rfl, hw9⟩; rw [hw9]; clear hw9)
  refine (HA.out _ kb).mono ?_
  rintro e w3 ⟨rfl, hb1⟩
  have hb := below_onto hb hb1
  have kb := kb.below hb1 kb.lt
  have g2 := g2.below hb1 g2.lt
  clear hb1 c2 l2
  obtain ⟨-, -, c2, -, l2⟩ := g2.facts
  go_wp2_with fail
  go_ret
  exact ⟨rfl, hb⟩
set_option maxRecDepth 100000 in
set_option maxHeartbeats 2000000 in
theorem smove_bare2 (L : Lawn) (hL : L.Fits) (hV : validB L = true) (b c : Nat) (fx fy tx ty n : Int) (F : (-128 ≤ fx ∧ fx ≤ 127) ∧ (-128 ≤ fy ∧ fy ≤ 127) ∧ (-128 ≤ tx ∧ tx ≤ 127) ∧ (-128 ≤ ty ∧ ty ≤ 127) ∧ -128 ≤ n ∧ n ≤ 127) (w : World) (kb : Holds w b L.cells) (hf : isB L fx fy = true) (ht : isB L tx ty = true) (hn : inB n 1 18 = true) (ha : grassB L fx fy = true) (hz : grassB L tx ty = false) :
    Calls Tryd.prog 34 #[.pointer (some ⟨b, 0, none⟩), .pointer (some ⟨c, 0, none⟩), .agg #[.int .i8 fx, .int .i8 fy, .int .i8 tx, .int .i8 ty, .int .i8 n]] w fun e w' => e = .returned (.int .i64 4) ∧ Below w.heap.size w w' := by
  obtain ⟨⟨q0, q1⟩, ⟨q2, q3⟩, ⟨q4, q5⟩, ⟨q6, q7⟩, q8, q9⟩ := F
  have hwn : IntKind.i64.wrap n = n := IntWalk.i64_in _ (by omega)
  have HF := Lib.hid (fun w h => l01Is_any L hL b fx fy w h q0 q1 q2 q3)
  have HT := Lib.hid (fun w h => l01Is_any L hL b tx ty w h q4 q5 q6 q7)
  have HA := Lib.hid (fun w h => grass_any L hV hL b fx fy q0 q1 q2 q3 w h)
  have HZ := Lib.hid (fun w h => grass_any L hV hL b tx ty q4 q5 q6 q7 w h)
  have HN := Lib.hid (fun w => in_q n 1 18 w)
  rw [hf] at HF
  rw [ht] at HT
  rw [hn] at HN
  rw [ha] at HA
  rw [hz] at HZ
  clear q0 q1 q2 q3 q4 q5 q6 q7 q8 q9 hL hV
  obtain ⟨W0, hW0⟩ : ∃ W0, w.alloc (.cells #[.int .i8 fx, .int .i8 fy, .int .i8 tx, .int .i8 ty, .int .i8 n] 41) = W0 := ⟨_, rfl⟩
  have g2 : Holds W0 w.heap.size #[.int .i8 fx, .int .i8 fy, .int .i8 tx, .int .i8 ty, .int .i8 n] := by rw [← hW0]; exact Holds.new _ _ _
  have kb : Holds W0 b L.cells := by rw [← hW0]; exact kb.alloc _
  have hb : Below w.heap.size w W0 := by rw [← hW0]; exact (Below.refl w.heap.size w).alloc (Nat.le_refl _) _
  obtain ⟨-, -, c2, -, l2⟩ := g2.facts
  go_enter Tryd.func34, Tryd.ntmps34
  go_wp2_with fail
  clear hW0
  refine (HF.out _ kb).mono ?_
  rintro e w1 ⟨rfl, hb1⟩
  have hb := below_onto hb hb1
  have kb := kb.below hb1 kb.lt
  have g2 := g2.below hb1 g2.lt
  clear hb1 c2 l2
  obtain ⟨-, -, c2, -, l2⟩ := g2.facts
  go_wp2_with fail
  refine (HT.out _ kb).mono ?_
  rintro e w2 ⟨rfl, hb1⟩
  have hb := below_onto hb hb1
  have kb := kb.below hb1 kb.lt
  have g2 := g2.below hb1 g2.lt
  clear hb1 c2 l2
  obtain ⟨-, -, c2, -, l2⟩ := g2.facts
  go_wp2_with (go_at_call 51; refine (HN.out _).mono ?_; rintro e w9 ⟨rfl, hw9⟩; rw [hw9]; clear hw9)
  refine (HA.out _ kb).mono ?_
  rintro e w3 ⟨rfl, hb1⟩
  have hb := below_onto hb hb1
  have kb := kb.below hb1 kb.lt
  have g2 := g2.below hb1 g2.lt
  clear hb1 c2 l2
  obtain ⟨-, -, c2, -, l2⟩ := g2.facts
  go_wp2_with fail
  refine (HZ.out _ kb).mono ?_
  rintro e w4 ⟨rfl, hb1⟩
  have hb := below_onto hb hb1
  have kb := kb.below hb1 kb.lt
  have g2 := g2.below hb1 g2.lt
  clear hb1 c2 l2
  obtain ⟨-, -, c2, -, l2⟩ := g2.facts
  go_wp2_with fail
  go_ret
  exact ⟨rfl, hb⟩
set_option maxRecDepth 100000 in
set_option maxHeartbeats 2000000 in
theorem smove_same (L : Lawn) (hL : L.Fits) (hV : validB L = true) (b c : Nat) (fx fy n : Int) (F : (-128 ≤ fx ∧ fx ≤ 127) ∧ (-128 ≤ fy ∧ fy ≤ 127) ∧ -128 ≤ n ∧ n ≤ 127) (w : World) (kb : Holds w b L.cells) (hf : isB L fx fy = true) (hn : inB n 1 18 = true) (ha : grassB L fx fy = true) :
    Calls Tryd.prog 34 #[.pointer (some ⟨b, 0, none⟩), .pointer (some ⟨c, 0, none⟩), .agg #[.int .i8 fx, .int .i8 fy, .int .i8 fx, .int .i8 fy, .int .i8 n]] w fun e w' => e = .returned (.int .i64 4) ∧ Below w.heap.size w w' := by
  obtain ⟨⟨q0, q1⟩, ⟨q2, q3⟩, q8, q9⟩ := F
  have hwn : IntKind.i64.wrap n = n := IntWalk.i64_in _ (by omega)
  have HF := Lib.hid (fun w h => l01Is_any L hL b fx fy w h q0 q1 q2 q3)
  have HT := Lib.hid (fun w h => l01Is_any L hL b fx fy w h q0 q1 q2 q3)
  have HA := Lib.hid (fun w h => grass_any L hV hL b fx fy q0 q1 q2 q3 w h)
  have HZ := Lib.hid (fun w h => grass_any L hV hL b fx fy q0 q1 q2 q3 w h)
  have HN := Lib.hid (fun w => in_q n 1 18 w)
  rw [hf] at HF
  rw [hf] at HT
  rw [hn] at HN
  rw [ha] at HA
  rw [ha] at HZ
  clear q0 q1 q2 q3 q8 q9 hL hV
  obtain ⟨W0, hW0⟩ : ∃ W0, w.alloc (.cells #[.int .i8 fx, .int .i8 fy, .int .i8 fx, .int .i8 fy, .int .i8 n] 41) = W0 := ⟨_, rfl⟩
  have g2 : Holds W0 w.heap.size #[.int .i8 fx, .int .i8 fy, .int .i8 fx, .int .i8 fy, .int .i8 n] := by rw [← hW0]; exact Holds.new _ _ _
  have kb : Holds W0 b L.cells := by rw [← hW0]; exact kb.alloc _
  have hb : Below w.heap.size w W0 := by rw [← hW0]; exact (Below.refl w.heap.size w).alloc (Nat.le_refl _) _
  obtain ⟨-, -, c2, -, l2⟩ := g2.facts
  go_enter Tryd.func34, Tryd.ntmps34
  go_wp2_with fail
  clear hW0
  refine (HF.out _ kb).mono ?_
  rintro e w1 ⟨rfl, hb1⟩
  have hb := below_onto hb hb1
  have kb := kb.below hb1 kb.lt
  have g2 := g2.below hb1 g2.lt
  clear hb1 c2 l2
  obtain ⟨-, -, c2, -, l2⟩ := g2.facts
  go_wp2_with fail
  refine (HT.out _ kb).mono ?_
  rintro e w2 ⟨rfl, hb1⟩
  have hb := below_onto hb hb1
  have kb := kb.below hb1 kb.lt
  have g2 := g2.below hb1 g2.lt
  clear hb1 c2 l2
  obtain ⟨-, -, c2, -, l2⟩ := g2.facts
  go_wp2_with (go_at_call 51; refine (HN.out _).mono ?_; rintro e w9 ⟨rfl, hw9⟩; rw [hw9]; clear hw9)
  refine (HA.out _ kb).mono ?_
  rintro e w3 ⟨rfl, hb1⟩
  have hb := below_onto hb hb1
  have kb := kb.below hb1 kb.lt
  have g2 := g2.below hb1 g2.lt
  clear hb1 c2 l2
  obtain ⟨-, -, c2, -, l2⟩ := g2.facts
  go_wp2_with fail
  refine (HZ.out _ kb).mono ?_
  rintro e w4 ⟨rfl, hb1⟩
  have hb := below_onto hb hb1
  have kb := kb.below hb1 kb.lt
  have g2 := g2.below hb1 g2.lt
  clear hb1 c2 l2
  obtain ⟨-, -, c2, -, l2⟩ := g2.facts
  go_wp2_with fail
  go_ret
  exact ⟨rfl, hb⟩
end Go.Proofs.YteaajkkhbflmdaaDoor
