/- The law on WeatherText. -/
import Derived.Test.YthfhpcigjnjkdaaDoorEqWeatherS
import Derived.Test.YthfhpcigjnjkdaaDoorMarkWeatherS
import Derived.Test.YthfhpcigjnjkdaaDoorSizeL
import Derived.Test.YthfhpcigjnjkdaaDoorWeatherT
namespace Go.Proofs.YthfhpcigjnjkdaaDoor
open Go.RowKit
set_option linter.unusedVariables false

set_option maxRecDepth 100000 in
set_option maxHeartbeats 4000000 in
theorem exactWeatherText_walk (an : Nat) (aa : Value) (az : List Int) (S : ByteArray) (al : az.length = an * 2) (am : an ≤ 9223372036854775807)
    (HI0 : an ≤ 1048576 → ∀ (w : World) (av : Value) (aB : Nat), w.ownsRow aB 93 2 av an (intsV .i8 az) → Calls Tryd.prog 20 #[av] w fun e w' => e = .returned (.string S) ∧ Below w.heap.size w w')
    (HS0 : an ≤ 1048576 → ∀ (w : World) (av : Value) (aB : Nat), w.ownsRow aB 93 2 av an (intsV .i8 az) → Calls Tryd.prog 18 #[av] w fun e w' => e = .returned (.string S) ∧ Below w.heap.size w w')
    (w : World) (ah : ArgRow .i8 2 w aa an az) :
    Calls Tryd.prog 4 #[aa] w fun e w' => e = .returned (.bool true) ∧ Below w.heap.size w w' := by
  have HI1 := Lib.hid HI0
  have HS1 := Lib.hid HS0
  clear HI0 HS0
  have aH := Lib.hid ah
  obtain ⟨ap, ac, ae⟩ := ah.slice
  clear ah
  subst ae
  by_cases abig : 1048576 < an
  · go_enter Tryd.func4, Tryd.ntmps4
    go_wp2_with fail
    refine (szWeatherS_big an _ _ 1048576 (by omega) (by omega) am _).mono ?_
    rintro e w' ⟨rfl, rfl⟩
    go_wp2_with fail
    go_ret
    exact ⟨rfl, Below.refl _ _⟩
  go_enter Tryd.func4, Tryd.ntmps4
  go_wp2_with fail
  refine (szWeatherS_any an _ _ 1048576 (by omega) _).mono ?_
  rintro e w' ⟨rfl, rfl⟩
  have ad : decide (((1048576 - an : Nat) : Int) < 0) = false := by simp
  have HI := Lib.hid (HI1.out (by omega))
  have HS := Lib.hid (HS1.out (by omega))
  clear HI1 HS1
  have hb0 := Below.refl w.heap.size w
  go_wp2_with fail
  refine (toWeatherS_any an _ az (by omega) w aH.out).mono ?_
  rintro e w1 ⟨⟨a1, rfl, o⟩, q⟩
  obtain ⟨Ba1, hBa1⟩ : ∃ B, w.heap.size = B := ⟨_, rfl⟩
  rw [hBa1] at o
  have Ra1 := Lib.hid o
  clear o
  have hbw1 := below_onto hb0 q
  clear q hb0
  clear hBa1
  go_wp2_with fail
  refine (HS.out w1 _ Ba1 Ra1.out).mono ?_
  rintro e w2 ⟨rfl, q⟩
  have hbw2 := below_onto hbw1 q
  clear q Ra1 hbw1
  go_wp2_with fail
  refine (toWeatherS_any an _ az (by omega) w2 (aH.out.below hbw2 (Nat.le_refl _))).mono ?_
  rintro e w3 ⟨⟨a2, rfl, o⟩, q⟩
  obtain ⟨Ba2, hBa2⟩ : ∃ B, w2.heap.size = B := ⟨_, rfl⟩
  rw [hBa2] at o
  have Ra2 := Lib.hid o
  clear o
  have hbw3 := below_onto hbw2 q
  clear q hbw2
  clear hBa2
  go_wp2_with fail
  refine (HI.out w3 _ Ba2 Ra2.out).mono ?_
  rintro e w4 ⟨rfl, q⟩
  have hbw4 := below_onto hbw3 q
  have Ra2 := Lib.hid (own_below Ra2.out q)
  clear q hbw3
  go_wp2_with fail
  refine (toWeatherS_any an _ az (by omega) w4 (aH.out.below hbw4 (Nat.le_refl _))).mono ?_
  rintro e w5 ⟨⟨a3, rfl, o⟩, q⟩
  obtain ⟨Ba3, hBa3⟩ : ∃ B, w4.heap.size = B := ⟨_, rfl⟩
  rw [hBa3] at o
  have Ra3 := Lib.hid o
  clear o
  have hbw5 := below_onto hbw4 q
  have Ra2 := Lib.hid (own_below Ra2.out q)
  clear q hbw4
  clear hBa3
  go_wp2_with fail
  refine (eqWeatherS_same an (intsV .i8 az) (by omega) (intsV_ints al) _ _ _ _ _ Ra2.out Ra3.out).mono ?_
  rintro e w6 ⟨rfl, q⟩
  have hbw6 := below_onto hbw5 q
  clear q Ra2 Ra3 hbw5
  go_wp2_with fail
  go_ret
  exact ⟨rfl, hbw6⟩

theorem exactWeatherText (n : Nat) (v : Value) (z : List Int) (hm0 : n ≤ maxLen) (hr : ∀ x ∈ z, -128 ≤ x ∧ x ≤ 127) (w : World) (h : ArgRow .i8 2 w v n z) :
    Calls Tryd.prog 4 #[v] w fun e w' => e = .returned (.bool true) ∧ Below w.heap.size w w' :=
  exactWeatherText_walk n v z (weatherS (pairsZ z n)) h.1 hm0 (fun hb w av aB ho => implWText_any aB n av (by omega) z h.1 hr w ho) (fun hb w av aB ho => specWText_any aB n av (by omega) z h.1 hr w ho) w h
end Go.Proofs.YthfhpcigjnjkdaaDoor
