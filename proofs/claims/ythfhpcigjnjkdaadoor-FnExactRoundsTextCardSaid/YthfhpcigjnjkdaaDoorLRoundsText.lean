/- The law on RoundsText. -/
import Derived.Test.YthfhpcigjnjkdaaDoorRnd
import Derived.Test.YthfhpcigjnjkdaaDoorSTextR
namespace Go.Proofs.YthfhpcigjnjkdaaDoor
open Go.RowKit
set_option linter.unusedVariables false

set_option maxRecDepth 100000 in
set_option maxHeartbeats 4000000 in
theorem exactRoundsText_walk (an : Nat) (aa : Value) (az : List (Int × Bool)) (S : ByteArray) (al : az.length = an) (am : an ≤ 9223372036854775807)
    (HI0 : an ≤ 1048576 → ∀ (w : World) (av : Value) (aB : Nat), w.ownsRow aB 143 2 av an (rndV az) → Calls Tryd.prog 51 #[av] w fun e w' => e = .returned (.string S) ∧ Below w.heap.size w w')
    (HS0 : an ≤ 1048576 → ∀ (w : World) (av : Value) (aB : Nat), w.ownsRow aB 143 2 av an (rndV az) → Calls Tryd.prog 49 #[av] w fun e w' => e = .returned (.string S) ∧ Below w.heap.size w w')
    (w : World) (ah : ArgRnd w aa an az) :
    Calls Tryd.prog 12 #[aa] w fun e w' => e = .returned (.bool true) ∧ Below w.heap.size w w' := by
  have HI1 := Lib.hid HI0
  have HS1 := Lib.hid HS0
  clear HI0 HS0
  have aH := Lib.hid ah
  obtain ⟨ap, ac, ae⟩ := ah.slice
  clear ah
  subst ae
  by_cases abig : 1048576 < an
  · go_enter Tryd.func12, Tryd.ntmps12
    go_wp2_with fail
    refine (szRoundS_big an _ _ 1048576 (by omega) (by omega) am _).mono ?_
    rintro e w' ⟨rfl, rfl⟩
    go_wp2_with fail
    go_ret
    exact ⟨rfl, Below.refl _ _⟩
  go_enter Tryd.func12, Tryd.ntmps12
  go_wp2_with fail
  refine (szRoundS_any an _ _ 1048576 (by omega) _).mono ?_
  rintro e w' ⟨rfl, rfl⟩
  have ad : decide (((1048576 - an : Nat) : Int) < 0) = false := by simp
  have HI := Lib.hid (HI1.out (by omega))
  have HS := Lib.hid (HS1.out (by omega))
  clear HI1 HS1
  have hb0 := Below.refl w.heap.size w
  go_wp2_with fail
  refine (toRoundS_any an _ az (by omega) w aH.out).mono ?_
  rintro e w1 ⟨⟨rfl, o⟩, q⟩
  obtain ⟨Ba1, hBa1⟩ : ∃ B, w.heap.size = B := ⟨_, rfl⟩
  rw [hBa1] at o
  try rw [hBa1]
  have Ra1 := Lib.hid o
  clear o
  have hbw1 := below_onto hb0 q
  clear q hb0
  clear hBa1
  go_wp2_with fail
  refine (HS.out w1 _ Ba1 Ra1.out).mono ?_
  rintro e w2 ⟨rfl, q⟩
  have hbw2 := below_onto hbw1 q
  clear q Ra1 hbw1
  go_wp2_with fail
  refine (toRoundS_any an _ az (by omega) w2 (aH.out.below hbw2 (Nat.le_refl _))).mono ?_
  rintro e w3 ⟨⟨rfl, o⟩, q⟩
  obtain ⟨Ba2, hBa2⟩ : ∃ B, w2.heap.size = B := ⟨_, rfl⟩
  rw [hBa2] at o
  try rw [hBa2]
  have Ra2 := Lib.hid o
  clear o
  have hbw3 := below_onto hbw2 q
  clear q hbw2
  clear hBa2
  go_wp2_with fail
  refine (HI.out w3 _ Ba2 Ra2.out).mono ?_
  rintro e w4 ⟨rfl, q⟩
  have hbw4 := below_onto hbw3 q
  have Ra2 := Lib.hid (own_below Ra2.out q)
  clear q hbw3
  go_wp2_with fail
  refine (toRoundS_any an _ az (by omega) w4 (aH.out.below hbw4 (Nat.le_refl _))).mono ?_
  rintro e w5 ⟨⟨rfl, o⟩, q⟩
  obtain ⟨Ba3, hBa3⟩ : ∃ B, w4.heap.size = B := ⟨_, rfl⟩
  rw [hBa3] at o
  try rw [hBa3]
  have Ra3 := Lib.hid o
  clear o
  have hbw5 := below_onto hbw4 q
  have Ra2 := Lib.hid (own_below Ra2.out q)
  clear q hbw4
  clear hBa3
  go_wp2_with fail
  refine (eqRoundS_same an az (by omega) al _ _ _ _ _ Ra2.out Ra3.out).mono ?_
  rintro e w6 ⟨rfl, q⟩
  have hbw6 := below_onto hbw5 q
  clear q Ra2 Ra3 hbw5
  go_wp2_with fail
  go_ret
  exact ⟨rfl, hbw6⟩

theorem exactRoundsText (n : Nat) (v : Value) (z : List (Int × Bool)) (hm0 : n ≤ maxLen) (hr : ∀ x ∈ z, -128 ≤ x.1 ∧ x.1 ≤ 127) (w : World) (h : ArgRnd w v n z) :
    Calls Tryd.prog 12 #[v] w fun e w' => e = .returned (.bool true) ∧ Below w.heap.size w w' :=
  exactRoundsText_walk n v z (roundsS z) h.1 hm0 (fun hb w av aB ho => itextR_any aB z n h.1 (by omega) av w ho) (fun hb w av aB ho => specRText_any aB z n h.1 (by omega) hr av w ho) w h
end Go.Proofs.YthfhpcigjnjkdaaDoor
