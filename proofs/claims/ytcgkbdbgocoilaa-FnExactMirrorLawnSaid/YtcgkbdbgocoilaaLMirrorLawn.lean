/- The law on MirrorLawn. -/
import Derived.Test.YtcgkbdbgocoilaaMirrorLawn
import Derived.Test.YtcgkbdbgocoilaaEq
namespace Go.Proofs.Ytcgkbdbgocoilaa
open Go.RowKit
set_option linter.unusedVariables false
attribute [local go_sem ↓] loadRow loadGrid loadLawn loadMirror storeRow storeGrid storeLawn allocRow allocGrid allocLawn buildZero buildSides

set_option maxRecDepth 100000 in
set_option maxHeartbeats 1000000 in
theorem exactMirrorLawn (A : Lawn) (hA : A.Fits) (w : World) :
    Calls Try.prog 11 #[.agg A.cells] w fun e w' => e = .returned (.bool true) ∧ Below w.heap.size w w' := by
  obtain ⟨R, hR⟩ : ∃ R, mirrorLawnR A = R := ⟨_, rfl⟩
  obtain ⟨m, hm⟩ : ∃ m, mirrorLawnM A = m := ⟨_, rfl⟩
  have HI := implMirrorLawn_any A hA
  have HS := specMirrorLawn_any A hA
  rw [hR, hm] at HI HS
  have HI' := Lib.hid HI
  have HS' := Lib.hid HS
  clear HI HS hR hm hA
  go_enter Try.func11, Try.ntmps11
  go_wp2_with fail
  have g0 : Holds (w.alloc (.cells A.cells 26)) w.heap.size A.cells := (Holds.new _ _ _)
  have hb : Below w.heap.size w (w.alloc (.cells A.cells 26)) := (Below.refl _ _).alloc (Nat.le_refl _) _
  obtain ⟨W, hW⟩ : ∃ W, w.alloc (.cells A.cells 26) = W := ⟨_, rfl⟩
  rw [hW] at g0 hb ⊢
  clear hW
  refine (toLawn_any _ _).mono ?_
  rintro e w1 ⟨rfl, hb1⟩
  go_wp2_with fail
  refine (HS'.out _).mono ?_
  rintro e w2 ⟨rfl, hb2⟩
  have hb3 := below_onto hb1 hb2
  have hb4 := below_onto hb hb3
  have g1 := g0.below hb3 g0.lt
  clear hb hb1 hb2 hb3 g0
  have g2 := Holds.new w2 R.cells 30
  have hb5 := hb4.alloc hb4.size (.cells R.cells 30)
  obtain ⟨r1, -, -, -, l1⟩ := g1.facts
  clear hb4 g1
  go_wp2_with fail
  refine (toLawn_any _ _).mono ?_
  rintro e w3 ⟨rfl, hb1⟩
  go_wp2_with fail
  refine (HI'.out _).mono ?_
  rintro e w4 ⟨rfl, hb2⟩
  have hb3 := below_onto hb1 hb2
  have hb6 := below_onto hb5 hb3
  have g4 := g2.below hb3 g2.lt
  have g5 := Holds.new w4 R.cells 30
  have g6 := g4.alloc (.cells R.cells 30)
  have hb7 := hb6.alloc hb6.size (.cells R.cells 30)
  obtain ⟨r5, -⟩ := g5.facts
  obtain ⟨r6, -⟩ := g6.facts
  clear hb1 hb2 hb3 hb5 hb6 g2 g4 r1 l1
  go_wp2_with fail
  refine (eqLawn_same _ _).mono ?_
  rintro e w5 ⟨rfl, hb8⟩
  have hb9 := below_onto hb7 hb8
  clear hb7 hb8 r5 r6 g5 g6
  go_wp2_with fail
  go_ret
  exact ⟨rfl, hb9⟩
end Go.Proofs.Ytcgkbdbgocoilaa
