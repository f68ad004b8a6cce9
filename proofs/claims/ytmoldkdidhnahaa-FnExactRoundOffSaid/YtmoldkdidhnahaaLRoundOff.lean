/- The law on RoundOff. -/
import Derived.Test.YtmoldkdidhnahaaIRound2
import Derived.Test.YtmoldkdidhnahaaSRound
import Derived.Test.YtmoldkdidhnahaaZA
namespace Go.Proofs.Ytmoldkdidhnahaa
open Go.RowKit
set_option linter.unusedVariables false
attribute [local go_sem ↓] loadRow loadGrid loadLawn loadMirror storeRow storeGrid storeLawn allocRow allocGrid allocLawn buildZero buildSides

/-- What both answer: the lawn, how many beds have become grass, the code. -/
theorem round_both (L : Lawn) (hL : L.Fits) : ∃ (R : Lawn) (z m : Int), (∀ w : World, Calls Try.prog 14 #[.agg L.cells] w fun e w' => e = .returned (.tuple #[.agg R.cells, .int .i64 z, .int .i64 m]) ∧ Below w.heap.size w w') ∧
    (∀ w : World, Calls Try.prog 12 #[.agg L.cells] w fun e w' => e = .returned (.tuple #[.agg R.cells, .int .i64 z, .int .i64 m]) ∧ Below w.heap.size w w') := by
  cases hv : validB L with
  | false => exact ⟨⟨0, 0, fun _ _ => 0⟩, 0, 1, fun w => implRound_bad L hL hv w, fun w => specRound_bad L hL hv w⟩
  | true =>
    obtain ⟨h2, h3, -⟩ := validB_true hv
    obtain ⟨n, hn, h0, h1⟩ := rn_ends L.wide.toNat L.high.toNat (by omega) (by omega) L
    exact ⟨rn L.wide.toNat L.high.toNat L n, n, 0, fun w => implRound_good L hL hv n hn h0 h1 w, fun w => specRound_good L hL hv n hn h0 h1 w⟩

set_option maxRecDepth 100000 in
set_option maxHeartbeats 1000000 in
theorem exactRoundOff (A : Lawn) (hA : A.Fits) (w : World) :
    Calls Try.prog 3 #[.agg A.cells] w fun e w' => e = .returned (.bool true) ∧ Below w.heap.size w w' := by
  obtain ⟨R, z, m, HI, HS⟩ := round_both A hA
  have HI' := Lib.hid HI
  have HS' := Lib.hid HS
  clear HI HS hA
  go_enter Try.func3, Try.ntmps3
  go_wp2_with fail
  have g0 : Holds (w.alloc (.cells A.cells 26)) w.heap.size A.cells := (Holds.new _ _ _)
  have hb : Below w.heap.size w (w.alloc (.cells A.cells 26)) := (Below.refl _ _).alloc (Nat.le_refl _) _
  obtain ⟨W, hW⟩ : ∃ W, w.alloc (.cells A.cells 26) = W := ⟨_, rfl⟩
  rw [hW] at g0 hb ⊢
  clear hW
  refine (toLawn_any _ _).mono ?_
  rintro e w1 ⟨rfl, hb1⟩
  go_wp2_with fail
  refine (HS'.out _).mono ?_
  rintro e w2 ⟨rfl, hb2⟩
  have hb3 := below_onto hb1 hb2
  have hb4 := below_onto hb hb3
  have g1 := g0.below hb3 g0.lt
  clear hb hb1 hb2 hb3 g0
  have g2 := Holds.new w2 R.cells 27
  have hb5 := hb4.alloc hb4.size (.cells R.cells 27)
  obtain ⟨r1, -, -, -, l1⟩ := g1.facts
  clear hb4 g1
  go_wp2_with fail
  refine (toLawn_any _ _).mono ?_
  rintro e w3 ⟨rfl, hb1⟩
  go_wp2_with fail
  refine (HI'.out _).mono ?_
  rintro e w4 ⟨rfl, hb2⟩
  have hb3 := below_onto hb1 hb2
  have hb6 := below_onto hb5 hb3
  have g4 := g2.below hb3 g2.lt
  have g5 := Holds.new w4 R.cells 27
  have g6 := g4.alloc (.cells R.cells 27)
  have hb7 := hb6.alloc hb6.size (.cells R.cells 27)
  obtain ⟨r5, -⟩ := g5.facts
  obtain ⟨r6, -⟩ := g6.facts
  clear hb1 hb2 hb3 hb5 hb6 g2 g4 r1 l1
  go_wp2_with fail
  refine (eqLawn_same _ _).mono ?_
  rintro e w5 ⟨rfl, hb8⟩
  have hb9 := below_onto hb7 hb8
  clear hb7 hb8 r5 r6 g5 g6
  go_wp2_with fail
  go_ret
  exact ⟨rfl, hb9⟩
end Go.Proofs.Ytmoldkdidhnahaa
