/- The law on PiecesOf. -/
import Derived.Test.YtglkojpnelaanaaIPieces
import Derived.Test.YtglkojpnelaanaaSPiecesT
import Derived.Test.YtglkojpnelaanaaRowsCE
namespace Go.Proofs.Ytglkojpnelaanaa
open Go.RowKit
set_option linter.unusedVariables false
attribute [local go_sem ↓] loadRow loadGrid loadLawn loadMirror storeRow storeGrid storeLawn allocRow allocGrid allocLawn buildZero buildSides

set_option maxRecDepth 100000 in
set_option maxHeartbeats 1000000 in
theorem exactPiecesOf_walk (A : Lawn) (m : Int) (rows : List (List Value)) (hn1 : rows.length ≤ 1000) (hx : Ints8 rows)
    (HI : ∀ w, Calls Try.prog 13 #[.agg A.cells] w fun e w' => (∃ v, e = .returned (.tuple #[v, .int .i64 m]) ∧ RowsC w' w.heap.size v rows) ∧ Below w.heap.size w w')
    (HS : ∀ w, Calls Try.prog 11 #[.agg A.cells] w fun e w' => (∃ v, e = .returned (.tuple #[v, .int .i64 m]) ∧ RowsC w' w.heap.size v rows) ∧ Below w.heap.size w w') (w : World) :
    Calls Try.prog 3 #[.agg A.cells] w fun e w' => e = .returned (.bool true) ∧ Below w.heap.size w w' := by
  obtain ⟨M, hM⟩ : ∃ M, 1 + sumSS rows = M := ⟨_, rfl⟩
  have HI' := Lib.hid HI
  have HS' := Lib.hid HS
  have HX := Lib.hid hx
  have HM := Lib.hid hM
  clear HI HS hx hM
  go_enter Try.func3, Try.ntmps3
  go_wp2_with fail
  have g0 : Holds (w.alloc (.cells A.cells 26)) w.heap.size A.cells := (Holds.new _ _ _)
  have hb : Below w.heap.size w (w.alloc (.cells A.cells 26)) := (Below.refl _ _).alloc (Nat.le_refl _) _
  obtain ⟨W, hW⟩ : ∃ W, w.alloc (.cells A.cells 26) = W := ⟨_, rfl⟩
  rw [hW] at g0 hb ⊢
  clear hW
  refine (toLawn_any _ _).mono ?_
  rintro e w1 ⟨rfl, hb1⟩
  go_wp2_with fail
  refine (HS'.out _).mono ?_
  rintro e w2 ⟨⟨vs, rfl, os⟩, hb2⟩
  have hb3 := below_onto hb1 hb2
  have hb4 := below_onto hb hb3
  have g1 := g0.below hb3 g0.lt
  obtain ⟨S, hS⟩ : ∃ S, w2.heap.size = S := ⟨_, rfl⟩
  have OS := Lib.hid (show ∀ w', Below S w2 w' → RowsC w' w1.heap.size vs rows from fun w' h => os.below (by rw [hS]; exact h))
  have hB2 : Below S w2 w2 := Below.refl _ _
  have hwS : w.heap.size ≤ S := by have := hb4.size; omega
  clear hb hb1 hb2 hb3 g0 os
  obtain ⟨r1, -⟩ := g1.facts
  go_wp2_with fail
  refine (toLawn_any _ _).mono ?_
  rintro e w3 ⟨rfl, hb1⟩
  go_wp2_with fail
  refine (HI'.out _).mono ?_
  rintro e w4 ⟨⟨vg, rfl, og⟩, hb2⟩
  have hb3 := below_onto hb1 hb2
  have hb5 := below_onto hb4 hb3
  have g2 := g1.below hb3 g1.lt
  have hB4 : Below S w2 w4 := by rw [← hS]; exact hb3
  have OG := Lib.hid og
  have hlow : w.heap.size < w3.heap.size := Nat.lt_of_lt_of_le g1.lt hb1.size
  have hSB : S ≤ w3.heap.size := by rw [← hS]; exact hb1.size
  have hBW : w3.heap.size ≤ w4.heap.size := hb2.size
  clear hb4 hb1 hb2 hb3 g1 r1 og hB2 hS
  obtain ⟨B, hB⟩ : ∃ B, w3.heap.size = B := ⟨_, rfl⟩
  rw [hB] at OG hlow hSB hBW
  clear hB
  go_wp2_with fail
  refine (eqCellSS_same rows hn1 HX.out _ _ _ _ _ OG.out (OS.out _ hB4)).mono ?_
  rintro e w5 ⟨rfl, hb1⟩
  have OG3 := Lib.hid (OG.out.below hb1)
  have hb6 := below_onto hb5 hb1
  have g3 := g2.below hb1 g2.lt
  have hB5 : Below S w2 w5 := hB4.trans (hb1.mono (by omega))
  have hBW5 : B ≤ w5.heap.size := Nat.le_trans hBW hb1.size
  clear hb5 hb1 g2 OG hB4 hBW
  go_wp2_with fail
  refine (markCellSS_any rows hn1 HX.out M HM.out _ B _ hBW5 OG3.out).mono ?_
  rintro e w6 ⟨rfl, om, hgr⟩
  have OM := Lib.hid om
  have g4 := g3.below hgr hlow
  have hb7 : Below w.heap.size w w6 := hb6.trans (hgr.mono (by omega))
  have hB6 : Below S w2 w6 := hB5.trans (hgr.mono hSB)
  have d1 : decide ((M : Int) < 0) = false := by simp
  have hBW6 : B ≤ w6.heap.size := Nat.le_trans hBW5 hgr.size
  clear hb6 om hgr g3 OG3 hB5 hBW5
  go_wp2_with fail
  refine (heldCellSS_any rows hn1 HX.out M HM.out _ B _ OM.out).mono ?_
  rintro e w7 ⟨rfl, hb1⟩
  have OM2 := Lib.hid (OM.out.below hb1)
  have hb8 := below_onto hb7 hb1
  have g5 := g4.below hb1 g4.lt
  have hB7 : Below S w2 w7 := hB6.trans (hb1.mono (by omega))
  have hBW7 : B ≤ w7.heap.size := Nat.le_trans hBW6 hb1.size
  clear hb7 hb1 g4 OM hB6 hBW6
  obtain ⟨r1, -⟩ := g5.facts
  go_wp2_with fail
  refine (toLawn_any _ _).mono ?_
  rintro e w8 ⟨rfl, hb1⟩
  go_wp2_with fail
  refine (HI'.out _).mono ?_
  rintro e w9 ⟨⟨vh, rfl, oh⟩, hb2⟩
  have hb3 := below_onto hb1 hb2
  have hb9 := below_onto hb8 hb3
  have OM3 := Lib.hid (OM2.out.below hb3)
  have OH := Lib.hid oh
  have hB9 : Below S w2 w9 := hB7.trans (hb3.mono (by omega))
  have hBW9 : B ≤ w9.heap.size := Nat.le_trans hBW7 hb3.size
  clear hb8 hb1 hb2 hb3 g5 r1 oh OM2 hB7 hBW7
  go_wp2_with fail
  refine (eqCellSS_same rows hn1 HX.out _ _ _ _ _ OH.out (OS.out _ hB9)).mono ?_
  rintro e w10 ⟨rfl, hb1⟩
  have OM4 := Lib.hid (OM3.out.below hb1)
  have hb10 := below_onto hb9 hb1
  clear hb9 hb1 OM3 OH hB9
  go_wp2_with fail
  refine (heldCellSS_any rows hn1 HX.out M HM.out _ B _ OM4.out).mono ?_
  rintro e w11 ⟨rfl, hb1⟩
  have hb11 := below_onto hb10 hb1
  clear hb10 hb1 OM4
  go_wp2_with fail
  go_ret
  exact ⟨rfl, hb11⟩

theorem exactPiecesOf (A : Lawn) (hA : A.Fits) (w : World) :
    Calls Try.prog 3 #[.agg A.cells] w fun e w' => e = .returned (.bool true) ∧ Below w.heap.size w w' :=
  exactPiecesOf_walk A (pcC A) (pcR A) (pcR_len A) (pcR_ints A) (implPieces_any A hA) (specPieces_any A hA) w
end Go.Proofs.Ytglkojpnelaanaa
