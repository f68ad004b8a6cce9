/- The law on BestCut. -/
import Derived.Test.YtpjninnammddlaaBestCutS
import Derived.Test.YtpjninnammddlaaEqWeatherS
import Derived.Test.YtpjninnammddlaaMarkWeatherS
import Derived.Test.YtpjninnammddlaaSizeL
namespace Go.Proofs.Ytpjninnammddlaa
open Go.RowKit
set_option linter.unusedVariables false

set_option maxRecDepth 100000 in
set_option maxHeartbeats 4000000 in
theorem exactBestCut_walk (n0 : Int) (n1 : Int) (an : Nat) (aa : Value) (az : List Int) (n2 : Int) (r0 : Int) (r1 : Int) (al : az.length = an * 2) (am : an ≤ 9223372036854775807)
    (HI0 : an ≤ 1048576 → ∀ (w : World) (av : Value) (aB : Nat), w.ownsRow aB 46 2 av an (intsV .i8 az) → Calls Try.prog 16 #[.int .i64 n0, .int .i64 n1, av, .int .i64 n2] w fun e w' => e = .returned (.tuple #[.int .i64 r0, .int .i64 r1]) ∧ Below w.heap.size w w')
    (HS0 : an ≤ 1048576 → ∀ (w : World) (av : Value) (aB : Nat), w.ownsRow aB 46 2 av an (intsV .i8 az) → Calls Try.prog 15 #[.int .i64 n0, .int .i64 n1, av, .int .i64 n2] w fun e w' => e = .returned (.tuple #[.int .i64 r0, .int .i64 r1]) ∧ Below w.heap.size w w')
    (w : World) (ah : ArgRow .i8 2 w aa an az) :
    Calls Try.prog 4 #[.int .i64 n0, .int .i64 n1, aa, .int .i64 n2] w fun e w' => e = .returned (.bool true) ∧ Below w.heap.size w w' := by
  have HI1 := Lib.hid HI0
  have HS1 := Lib.hid HS0
  clear HI0 HS0
  have aH := Lib.hid ah
  obtain ⟨ap, ac, ae⟩ := ah.slice
  clear ah
  subst ae
  by_cases abig : 1048576 < an
  · go_enter Try.func4, Try.ntmps4
    go_wp2_with fail
    refine (szWeatherS_big an _ _ 1048576 (by omega) (by omega) am _).mono ?_
    rintro e w' ⟨rfl, rfl⟩
    go_wp2_with fail
    go_ret
    exact ⟨rfl, Below.refl _ _⟩
  go_enter Try.func4, Try.ntmps4
  go_wp2_with fail
  refine (szWeatherS_any an _ _ 1048576 (by omega) _).mono ?_
  rintro e w' ⟨rfl, rfl⟩
  have ad : decide (((1048576 - an : Nat) : Int) < 0) = false := by simp
  have HI := Lib.hid (HI1.out (by omega))
  have HS := Lib.hid (HS1.out (by omega))
  clear HI1 HS1
  have hb0 := Below.refl w.heap.size w
  go_wp2_with fail
  refine (toWeatherS_any an _ az (by omega) w aH.out).mono ?_
  rintro e w1 ⟨⟨a1, rfl, o2⟩, q3⟩
  obtain ⟨Ba1, hBa1⟩ : ∃ B, w.heap.size = B := ⟨_, rfl⟩
  have lBa1 : w.heap.size ≤ Ba1 := by rw [← hBa1]; exact hb0.size
  rw [hBa1] at o2
  have R4 := Lib.hid o2
  clear o2
  have hb5 := below_onto hb0 q3
  clear hb0 q3
  clear hBa1
  go_wp2_with fail
  refine (HS.out w1 a1 Ba1 R4.out).mono ?_
  rintro e w6 ⟨rfl, q8⟩
  have hb9 := below_onto hb5 q8
  have R10 := Lib.hid (own_below R4.out q8)
  clear hb5 q8 R4
  clear R10
  go_wp2_with fail
  refine (toWeatherS_any an _ az (by omega) w6 (aH.out.below hb9 (Nat.le_refl _))).mono ?_
  rintro e w11 ⟨⟨a2, rfl, o12⟩, q13⟩
  obtain ⟨Ba2, hBa2⟩ : ∃ B, w6.heap.size = B := ⟨_, rfl⟩
  have lBa2 : w.heap.size ≤ Ba2 := by rw [← hBa2]; exact hb9.size
  rw [hBa2] at o12
  have R14 := Lib.hid o12
  clear o12
  have hb15 := below_onto hb9 q13
  clear hb9 q13
  clear hBa2
  go_wp2_with fail
  refine (HI.out w11 a2 Ba2 R14.out).mono ?_
  rintro e w16 ⟨rfl, q18⟩
  have hb19 := below_onto hb15 q18
  have R20 := Lib.hid (own_below R14.out q18)
  clear hb15 q18 R14
  go_wp2_with fail
  refine (toWeatherS_any an _ az (by omega) w16 (aH.out.below hb19 (Nat.le_refl _))).mono ?_
  rintro e w21 ⟨⟨a3, rfl, o22⟩, q23⟩
  obtain ⟨Ba3, hBa3⟩ : ∃ B, w16.heap.size = B := ⟨_, rfl⟩
  have lBa3 : w.heap.size ≤ Ba3 := by rw [← hBa3]; exact hb19.size
  have ap24 := own_apart R20.out (Nat.le_of_eq hBa3) (by rw [← hBa3]; exact o22)
  rw [hBa3] at o22
  have R25 := Lib.hid o22
  clear o22
  have hb26 := below_onto hb19 q23
  have R27 := Lib.hid (own_below R20.out q23)
  clear hb19 q23 R20
  clear hBa3
  go_wp2_with fail
  refine (eqWeatherS_same an (intsV .i8 az) (by omega) (intsV_ints al) _ _ _ _ _ R27.out R25.out).mono ?_
  rintro e w28 ⟨rfl, q29⟩
  have hb30 := below_onto hb26 q29
  have R31 := Lib.hid (own_below R27.out q29)
  have R32 := Lib.hid (own_below R25.out q29)
  clear hb26 q29 R27 R25
  clear R32
  go_wp2_with fail
  go_ret
  exact ⟨rfl, hb30⟩

theorem exactBestCut (start most : Int) (n : Nat) (v : Value) (z : List Int) (mows : Int) (hm0 : n ≤ maxLen) (hr : ∀ x ∈ z, -128 ≤ x ∧ x ≤ 127) (w : World) (h : ArgRow .i8 2 w v n z) :
    Calls Try.prog 4 #[.int .i64 start, .int .i64 most, v, .int .i64 mows] w fun e w' => e = .returned (.bool true) ∧ Below w.heap.size w w' := by
  obtain ⟨m, hm⟩ := firstNo_ex (dayP z) n
  cases e : askB n m (cutQ start most mows)
  · exact exactBestCut_walk start most n v z mows 0 (askC n m (cutQ start most mows)) h.1 hm0
      (fun hb w av aB ho => implBestCut_bad aB n av (by omega) z h.1 hr m hm start most mows e w ho) (fun hb w av aB ho => specBestCut_bad aB n av (by omega) z h.1 hr m hm start most mows e w ho) w h
  · obtain ⟨rfl, hq, -⟩ := ask_good e
    simp only [cutQ, Bool.and_eq_true] at hq
    exact exactBestCut_walk start most m v z mows _ _ h.1 hm0
      (fun hb w av aB ho => implBestCut_any aB m av (by omega) z h.1 hr hm start most mows hq.1 hq.2 w ho) (fun hb w av aB ho => specBestCut_any aB m av (by omega) z h.1 hr hm start most mows hq.1 hq.2 w ho) w h

end Go.Proofs.Ytpjninnammddlaa
