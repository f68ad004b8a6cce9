/- The law on SameWeather. -/
import Derived.Test.YtlfmadnhjleofaaSameW
import Derived.Test.YtlfmadnhjleofaaEqWeatherS
import Derived.Test.YtlfmadnhjleofaaMarkWeatherS
import Derived.Test.YtlfmadnhjleofaaSizeL
namespace Go.Proofs.Ytlfmadnhjleofaa
open Go.RowKit
set_option linter.unusedVariables false

set_option maxRecDepth 100000 in
set_option maxHeartbeats 4000000 in
theorem exactSameWeather_walk (an : Nat) (aa : Value) (az : List Int) (bn : Nat) (ba : Value) (bz : List Int) (r0 : Bool) (al : az.length = an * 2) (am : an ≤ 9223372036854775807) (bl : bz.length = bn * 2) (bm : bn ≤ 9223372036854775807)
    (HI0 : an ≤ 1048576 → bn ≤ 1048576 → ∀ (w : World) (av : Value) (aB : Nat) (bv : Value) (bB : Nat), w.ownsRow aB 192 2 av an (intsV .i8 az) → w.ownsRow bB 192 2 bv bn (intsV .i8 bz) → Calls Try.prog 74 #[av, bv] w fun e w' => e = .returned (.bool r0) ∧ Below w.heap.size w w')
    (HS0 : an ≤ 1048576 → bn ≤ 1048576 → ∀ (w : World) (av : Value) (aB : Nat) (bv : Value) (bB : Nat), w.ownsRow aB 192 2 av an (intsV .i8 az) → w.ownsRow bB 192 2 bv bn (intsV .i8 bz) → Calls Try.prog 72 #[av, bv] w fun e w' => e = .returned (.bool r0) ∧ Below w.heap.size w w')
    (w : World) (ah : ArgRow .i8 2 w aa an az) (bh : ArgRow .i8 2 w ba bn bz) :
    Calls Try.prog 12 #[aa, ba] w fun e w' => e = .returned (.bool true) ∧ Below w.heap.size w w' := by
  have HI1 := Lib.hid HI0
  have HS1 := Lib.hid HS0
  clear HI0 HS0
  have aH := Lib.hid ah
  obtain ⟨ap, ac, ae⟩ := ah.slice
  clear ah
  subst ae
  have bH := Lib.hid bh
  obtain ⟨bp, bc, be⟩ := bh.slice
  clear bh
  subst be
  by_cases abig : 1048576 < an
  · go_enter Try.func12, Try.ntmps12
    go_wp2_with fail
    refine (szWeatherS_big an _ _ 1048576 (by omega) (by omega) am _).mono ?_
    rintro e w' ⟨rfl, rfl⟩
    go_wp2_with fail
    go_ret
    exact ⟨rfl, Below.refl _ _⟩
  by_cases bbig : (1048576 - an) < bn
  · go_enter Try.func12, Try.ntmps12
    go_wp2_with fail
    refine (szWeatherS_any an _ _ 1048576 (by omega) _).mono ?_
    rintro e w' ⟨rfl, rfl⟩
    have ad : decide (((1048576 - an : Nat) : Int) < 0) = false := by simp
    go_wp2_with fail
    refine (szWeatherS_big bn _ _ (1048576 - an) (by omega) (by omega) bm _).mono ?_
    rintro e w' ⟨rfl, rfl⟩
    go_wp2_with fail
    go_ret
    exact ⟨rfl, Below.refl _ _⟩
  go_enter Try.func12, Try.ntmps12
  go_wp2_with fail
  refine (szWeatherS_any an _ _ 1048576 (by omega) _).mono ?_
  rintro e w' ⟨rfl, rfl⟩
  have ad : decide (((1048576 - an : Nat) : Int) < 0) = false := by simp
  go_wp2_with fail
  refine (szWeatherS_any bn _ _ (1048576 - an) (by omega) _).mono ?_
  rintro e w' ⟨rfl, rfl⟩
  have bd : decide ((((1048576 - an) - bn : Nat) : Int) < 0) = false := by simp
  have HI := Lib.hid (HI1.out (by omega) (by omega))
  have HS := Lib.hid (HS1.out (by omega) (by omega))
  clear HI1 HS1
  have hb0 := Below.refl w.heap.size w
  go_wp2_with fail
  refine (toWeatherS_any an _ az (by omega) w aH.out).mono ?_
  rintro e w1 ⟨⟨a1, rfl, o2⟩, q3⟩
  obtain ⟨Ba1, hBa1⟩ : ∃ B, w.heap.size = B := ⟨_, rfl⟩
  have lBa1 : w.heap.size ≤ Ba1 := by rw [← hBa1]; exact hb0.size
  rw [hBa1] at o2
  have R4 := Lib.hid o2
  clear o2
  have hb5 := below_onto hb0 q3
  clear hb0 q3
  clear hBa1
  go_wp2_with fail
  refine (toWeatherS_any bn _ bz (by omega) w1 (bH.out.below hb5 (Nat.le_refl _))).mono ?_
  rintro e w6 ⟨⟨b1, rfl, o7⟩, q8⟩
  obtain ⟨Bb1, hBb1⟩ : ∃ B, w1.heap.size = B := ⟨_, rfl⟩
  have lBb1 : w.heap.size ≤ Bb1 := by rw [← hBb1]; exact hb5.size
  have ap9 := own_apart R4.out (Nat.le_of_eq hBb1) (by rw [← hBb1]; exact o7)
  rw [hBb1] at o7
  have R10 := Lib.hid o7
  clear o7
  have hb11 := below_onto hb5 q8
  have R12 := Lib.hid (own_below R4.out q8)
  clear hb5 q8 R4
  clear hBb1
  go_wp2_with fail
  refine (HS.out w6 a1 Ba1 b1 Bb1 R12.out R10.out).mono ?_
  rintro e w13 ⟨rfl, q15⟩
  have hb16 := below_onto hb11 q15
  have R17 := Lib.hid (own_below R12.out q15)
  have R18 := Lib.hid (own_below R10.out q15)
  clear hb11 q15 R12 R10
  clear R17 R18
  go_wp2_with fail
  refine (toWeatherS_any an _ az (by omega) w13 (aH.out.below hb16 (Nat.le_refl _))).mono ?_
  rintro e w19 ⟨⟨a2, rfl, o20⟩, q21⟩
  obtain ⟨Ba2, hBa2⟩ : ∃ B, w13.heap.size = B := ⟨_, rfl⟩
  have lBa2 : w.heap.size ≤ Ba2 := by rw [← hBa2]; exact hb16.size
  rw [hBa2] at o20
  have R22 := Lib.hid o20
  clear o20
  have hb23 := below_onto hb16 q21
  clear hb16 q21
  clear hBa2
  go_wp2_with fail
  refine (toWeatherS_any bn _ bz (by omega) w19 (bH.out.below hb23 (Nat.le_refl _))).mono ?_
  rintro e w24 ⟨⟨b2, rfl, o25⟩, q26⟩
  obtain ⟨Bb2, hBb2⟩ : ∃ B, w19.heap.size = B := ⟨_, rfl⟩
  have lBb2 : w.heap.size ≤ Bb2 := by rw [← hBb2]; exact hb23.size
  have ap27 := own_apart R22.out (Nat.le_of_eq hBb2) (by rw [← hBb2]; exact o25)
  rw [hBb2] at o25
  have R28 := Lib.hid o25
  clear o25
  have hb29 := below_onto hb23 q26
  have R30 := Lib.hid (own_below R22.out q26)
  clear hb23 q26 R22
  clear hBb2
  go_wp2_with fail
  refine (HI.out w24 a2 Ba2 b2 Bb2 R30.out R28.out).mono ?_
  rintro e w31 ⟨rfl, q33⟩
  have hb34 := below_onto hb29 q33
  have R35 := Lib.hid (own_below R30.out q33)
  have R36 := Lib.hid (own_below R28.out q33)
  clear hb29 q33 R30 R28
  go_wp2_with fail
  refine (toWeatherS_any an _ az (by omega) w31 (aH.out.below hb34 (Nat.le_refl _))).mono ?_
  rintro e w37 ⟨⟨a3, rfl, o38⟩, q39⟩
  obtain ⟨Ba3, hBa3⟩ : ∃ B, w31.heap.size = B := ⟨_, rfl⟩
  have lBa3 : w.heap.size ≤ Ba3 := by rw [← hBa3]; exact hb34.size
  have ap40 := own_apart R35.out (Nat.le_of_eq hBa3) (by rw [← hBa3]; exact o38)
  have ap41 := own_apart R36.out (Nat.le_of_eq hBa3) (by rw [← hBa3]; exact o38)
  rw [hBa3] at o38
  have R42 := Lib.hid o38
  clear o38
  have hb43 := below_onto hb34 q39
  have R44 := Lib.hid (own_below R35.out q39)
  have R45 := Lib.hid (own_below R36.out q39)
  clear hb34 q39 R35 R36
  clear hBa3
  go_wp2_with fail
  refine (eqWeatherS_same an (intsV .i8 az) (by omega) (intsV_ints al) _ _ _ _ _ R44.out R42.out).mono ?_
  rintro e w46 ⟨rfl, q47⟩
  have hb48 := below_onto hb43 q47
  have R49 := Lib.hid (own_below R44.out q47)
  have R50 := Lib.hid (own_below R45.out q47)
  have R51 := Lib.hid (own_below R42.out q47)
  clear hb43 q47 R44 R45 R42
  clear R51
  go_wp2_with fail
  refine (toWeatherS_any bn _ bz (by omega) w46 (bH.out.below hb48 (Nat.le_refl _))).mono ?_
  rintro e w52 ⟨⟨b3, rfl, o53⟩, q54⟩
  obtain ⟨Bb3, hBb3⟩ : ∃ B, w46.heap.size = B := ⟨_, rfl⟩
  have lBb3 : w.heap.size ≤ Bb3 := by rw [← hBb3]; exact hb48.size
  have ap55 := own_apart R49.out (Nat.le_of_eq hBb3) (by rw [← hBb3]; exact o53)
  have ap56 := own_apart R50.out (Nat.le_of_eq hBb3) (by rw [← hBb3]; exact o53)
  rw [hBb3] at o53
  have R57 := Lib.hid o53
  clear o53
  have hb58 := below_onto hb48 q54
  have R59 := Lib.hid (own_below R49.out q54)
  have R60 := Lib.hid (own_below R50.out q54)
  clear hb48 q54 R49 R50
  clear hBb3
  go_wp2_with fail
  refine (eqWeatherS_same bn (intsV .i8 bz) (by omega) (intsV_ints bl) _ _ _ _ _ R60.out R57.out).mono ?_
  rintro e w61 ⟨rfl, q62⟩
  have hb63 := below_onto hb58 q62
  have R64 := Lib.hid (own_below R59.out q62)
  have R65 := Lib.hid (own_below R60.out q62)
  have R66 := Lib.hid (own_below R57.out q62)
  clear hb58 q62 R59 R60 R57
  clear R66
  cases r0
  all_goals
    go_wp2_with fail
    go_ret
    exact ⟨rfl, hb63⟩

theorem exactSameWeather (n : Nat) (v : Value) (z : List Int) (n2 : Nat) (v2 : Value) (z2 : List Int) (hm0 : n ≤ maxLen) (hm1 : n2 ≤ maxLen) (w : World) (h : ArgRow .i8 2 w v n z) (h2 : ArgRow .i8 2 w v2 n2 z2) :
    Calls Try.prog 12 #[v, v2] w fun e w' => e = .returned (.bool true) ∧ Below w.heap.size w w' :=
  exactSameWeather_walk n v z n2 v2 z2 (sameB n n2 z z2) h.1 hm0 h2.1 hm1
    (fun hb hb2 w av aB bv bB ho hx => implSameW_any aB n av z h.1 bB n2 bv z2 h2.1 (by omega) (by omega) _ rfl w ho hx) (fun hb hb2 w av aB bv bB ho hx => specSameW_any aB n av z h.1 bB n2 bv z2 h2.1 (by omega) (by omega) _ rfl w ho hx) w h h2

end Go.Proofs.Ytlfmadnhjleofaa
