/- The law on LongestRun. -/
import Derived.Test.YtcgkbdbgocoilaaLongest
namespace Go.Proofs.Ytcgkbdbgocoilaa
open Go.RowKit
set_option linter.unusedVariables false
attribute [local go_sem ↓] loadRow loadGrid loadLawn loadMirror storeRow storeGrid storeLawn allocRow allocGrid allocLawn buildZero buildSides

set_option maxRecDepth 100000 in
set_option maxHeartbeats 1000000 in
theorem exactLongest (A : Lawn) (hA : A.Fits) (across : Bool) (w : World) :
    Calls Try.prog 8 #[.agg A.cells, .bool across] w fun e w' => e = .returned (.bool true) ∧ Below w.heap.size w w' := by
  obtain ⟨t, ht⟩ : ∃ t, longR A across = t := ⟨_, rfl⟩
  obtain ⟨m, hm⟩ : ∃ m, longC A across = m := ⟨_, rfl⟩
  have HI := implLongest_any A hA across
  have HS := specLongest_any A hA across
  rw [ht, hm] at HI HS
  have HI' := Lib.hid HI
  have HS' := Lib.hid HS
  have hE : ∃ E, tripC t = E := ⟨_, rfl⟩
  clear HI HS ht hm hA
  go_enter Try.func8, Try.ntmps8
  go_wp2_with fail
  have g0 : Holds (w.alloc (.cells A.cells 26)) w.heap.size A.cells := (Holds.new _ _ _)
  have hb : Below w.heap.size w (w.alloc (.cells A.cells 26)) := (Below.refl _ _).alloc (Nat.le_refl _) _
  obtain ⟨W, hW⟩ : ∃ W, w.alloc (.cells A.cells 26) = W := ⟨_, rfl⟩
  rw [hW] at g0 hb ⊢
  clear hW hE
  refine (toLawn_any _ _).mono ?_
  rintro e w1 ⟨rfl, hb1⟩
  go_wp2_with fail
  refine (HS'.out _).mono ?_
  simp only [tripC]
  rintro e w2 ⟨rfl, hb2⟩
  have hb3 := below_onto hb1 hb2
  have hb4 := below_onto hb hb3
  have g1 := g0.below hb3 g0.lt
  clear hb hb1 hb2 hb3 g0
  have g2 := Holds.new w2 #[.int .i8 t.1, .int .i8 t.2.1, .int .i8 t.2.2] 61
  have hb5 := hb4.alloc hb4.size (.cells #[.int .i8 t.1, .int .i8 t.2.1, .int .i8 t.2.2] 61)
  obtain ⟨r1, -, -, -, l1⟩ := g1.facts
  clear hb4 g1
  go_wp2_with fail
  refine (toLawn_any _ _).mono ?_
  rintro e w3 ⟨rfl, hb1⟩
  go_wp2_with fail
  refine (HI'.out _).mono ?_
  simp only [tripC]
  rintro e w4 ⟨rfl, hb2⟩
  have hb3 := below_onto hb1 hb2
  have hb6 := below_onto hb5 hb3
  have g4 := g2.below hb3 g2.lt
  have hb7 := hb6.alloc hb6.size (.cells #[.int .i8 t.1, .int .i8 t.2.1, .int .i8 t.2.2] 61)
  obtain ⟨-, -, c6, -, l6⟩ := g4.facts
  clear hb1 hb2 hb3 hb5 hb6 g2 g4 r1 l1
  go_wp2_with fail
  refine (eqRun_same _ _ _ _).mono ?_
  rintro e w5 ⟨rfl, hb8⟩
  have hb9 := below_onto hb7 hb8
  clear hb7 hb8 c6
  go_wp2_with fail
  go_ret
  exact ⟨rfl, hb9⟩
end Go.Proofs.Ytcgkbdbgocoilaa
