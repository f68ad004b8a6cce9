/- The law on FewestMows. -/
import Derived.Test.YtpjninnammddlaaFewMT
import Derived.Test.YtpjninnammddlaaEqInt64S
import Derived.Test.YtpjninnammddlaaMarkInt64S
import Derived.Test.YtpjninnammddlaaEqWeatherS
import Derived.Test.YtpjninnammddlaaMarkWeatherS
import Derived.Test.YtpjninnammddlaaSizeL
namespace Go.Proofs.Ytpjninnammddlaa
open Go.RowKit
set_option linter.unusedVariables false

set_option maxRecDepth 100000 in
set_option maxHeartbeats 4000000 in
theorem exactFewestMows_walk (n0 : Int) (n1 : Int) (n2 : Int) (an : Nat) (aa : Value) (az : List Int) (n : Nat) (xs : List Value) (hn1 : n ≤ 100000) (hx : ∀ j, j < n * 1 → ∃ z, xs[j]? = some (.int .i64 z)) (r0 : Int) (al : az.length = an * 2) (am : an ≤ 9223372036854775807)
    (HI0 : an ≤ 1048576 → ∀ (w : World) (av : Value) (aB : Nat), w.ownsRow aB 46 2 av an (intsV .i8 az) → Calls Try.prog 9 #[.int .i64 n0, .int .i64 n1, .int .i64 n2, av] w fun e w' => (∃ v, e = .returned (.tuple #[v, .int .i64 r0]) ∧ w'.ownsRow w.heap.size 2 1 v n xs) ∧ Below w.heap.size w w')
    (HS0 : an ≤ 1048576 → ∀ (w : World) (av : Value) (aB : Nat), w.ownsRow aB 46 2 av an (intsV .i8 az) → Calls Try.prog 7 #[.int .i64 n0, .int .i64 n1, .int .i64 n2, av] w fun e w' => (∃ v, e = .returned (.tuple #[v, .int .i64 r0]) ∧ w'.ownsRow w.heap.size 2 1 v n xs) ∧ Below w.heap.size w w')
    (w : World) (ah : ArgRow .i8 2 w aa an az) :
    Calls Try.prog 3 #[.int .i64 n0, .int .i64 n1, .int .i64 n2, aa] w fun e w' => e = .returned (.bool true) ∧ Below w.heap.size w w' := by
  have HI1 := Lib.hid HI0
  have HS1 := Lib.hid HS0
  have HX := Lib.hid hx
  clear HI0 HS0 hx
  have aH := Lib.hid ah
  obtain ⟨ap, ac, ae⟩ := ah.slice
  clear ah
  subst ae
  by_cases abig : 1048576 < an
  · go_enter Try.func3, Try.ntmps3
    go_wp2_with fail
    refine (szWeatherS_big an _ _ 1048576 (by omega) (by omega) am _).mono ?_
    rintro e w' ⟨rfl, rfl⟩
    go_wp2_with fail
    go_ret
    exact ⟨rfl, Below.refl _ _⟩
  go_enter Try.func3, Try.ntmps3
  go_wp2_with fail
  refine (szWeatherS_any an _ _ 1048576 (by omega) _).mono ?_
  rintro e w' ⟨rfl, rfl⟩
  have ad : decide (((1048576 - an : Nat) : Int) < 0) = false := by simp
  have HI := Lib.hid (HI1.out (by omega))
  have HS := Lib.hid (HS1.out (by omega))
  clear HI1 HS1
  have hb0 := Below.refl w.heap.size w
  go_wp2_with fail
  refine (toWeatherS_any an _ az (by omega) w aH.out).mono ?_
  rintro e w1 ⟨⟨a1, rfl, o2⟩, q3⟩
  obtain ⟨Ba1, hBa1⟩ : ∃ B, w.heap.size = B := ⟨_, rfl⟩
  have lBa1 : w.heap.size ≤ Ba1 := by rw [← hBa1]; exact hb0.size
  rw [hBa1] at o2
  have R4 := Lib.hid o2
  clear o2
  have hb5 := below_onto hb0 q3
  clear hb0 q3
  clear hBa1
  go_wp2_with fail
  refine (HS.out w1 a1 Ba1 R4.out).mono ?_
  rintro e w6 ⟨⟨vs, rfl, o7⟩, q8⟩
  obtain ⟨Bvs, hBvs⟩ : ∃ B, w1.heap.size = B := ⟨_, rfl⟩
  have lBvs : w.heap.size ≤ Bvs := by rw [← hBvs]; exact hb5.size
  have ap9 := own_apart R4.out (Nat.le_of_eq hBvs) (by rw [← hBvs]; exact o7)
  rw [hBvs] at o7
  have R10 := Lib.hid o7
  clear o7
  have hb11 := below_onto hb5 q8
  have R12 := Lib.hid (own_below R4.out q8)
  clear hb5 q8 R4
  clear hBvs
  clear R12
  go_wp2_with fail
  refine (toWeatherS_any an _ az (by omega) w6 (aH.out.below hb11 (Nat.le_refl _))).mono ?_
  rintro e w13 ⟨⟨a2, rfl, o14⟩, q15⟩
  obtain ⟨Ba2, hBa2⟩ : ∃ B, w6.heap.size = B := ⟨_, rfl⟩
  have lBa2 : w.heap.size ≤ Ba2 := by rw [← hBa2]; exact hb11.size
  have ap16 := own_apart R10.out (Nat.le_of_eq hBa2) (by rw [← hBa2]; exact o14)
  rw [hBa2] at o14
  have R17 := Lib.hid o14
  clear o14
  have hb18 := below_onto hb11 q15
  have R19 := Lib.hid (own_below R10.out q15)
  clear hb11 q15 R10
  clear hBa2
  go_wp2_with fail
  refine (HI.out w13 a2 Ba2 R17.out).mono ?_
  rintro e w20 ⟨⟨vg, rfl, o21⟩, q22⟩
  obtain ⟨Bvg, hBvg⟩ : ∃ B, w13.heap.size = B := ⟨_, rfl⟩
  have lBvg : w.heap.size ≤ Bvg := by rw [← hBvg]; exact hb18.size
  have ap23 := own_apart R19.out (Nat.le_of_eq hBvg) (by rw [← hBvg]; exact o21)
  have ap24 := own_apart R17.out (Nat.le_of_eq hBvg) (by rw [← hBvg]; exact o21)
  rw [hBvg] at o21
  have R25 := Lib.hid o21
  clear o21
  have hb26 := below_onto hb18 q22
  have R27 := Lib.hid (own_below R19.out q22)
  have R28 := Lib.hid (own_below R17.out q22)
  clear hb18 q22 R19 R17
  clear hBvg
  go_wp2_with fail
  refine (eqInt64S_same n xs (by omega) HX.out _ _ _ _ _ R25.out R27.out).mono ?_
  rintro e w29 ⟨rfl, q30⟩
  have hb31 := below_onto hb26 q30
  have R32 := Lib.hid (own_below R27.out q30)
  have R33 := Lib.hid (own_below R28.out q30)
  have R34 := Lib.hid (own_below R25.out q30)
  clear hb26 q30 R27 R28 R25
  go_wp2_with fail
  refine (toWeatherS_any an _ az (by omega) w29 (aH.out.below hb31 (Nat.le_refl _))).mono ?_
  rintro e w35 ⟨⟨a3, rfl, o36⟩, q37⟩
  obtain ⟨Ba3, hBa3⟩ : ∃ B, w29.heap.size = B := ⟨_, rfl⟩
  have lBa3 : w.heap.size ≤ Ba3 := by rw [← hBa3]; exact hb31.size
  have ap38 := own_apart R32.out (Nat.le_of_eq hBa3) (by rw [← hBa3]; exact o36)
  have ap39 := own_apart R33.out (Nat.le_of_eq hBa3) (by rw [← hBa3]; exact o36)
  have ap40 := own_apart R34.out (Nat.le_of_eq hBa3) (by rw [← hBa3]; exact o36)
  rw [hBa3] at o36
  have R41 := Lib.hid o36
  clear o36
  have hb42 := below_onto hb31 q37
  have R43 := Lib.hid (own_below R32.out q37)
  have R44 := Lib.hid (own_below R33.out q37)
  have R45 := Lib.hid (own_below R34.out q37)
  clear hb31 q37 R32 R33 R34
  clear hBa3
  go_wp2_with fail
  refine (eqWeatherS_same an (intsV .i8 az) (by omega) (intsV_ints al) _ _ _ _ _ R44.out R41.out).mono ?_
  rintro e w46 ⟨rfl, q47⟩
  have hb48 := below_onto hb42 q47
  have R49 := Lib.hid (own_below R43.out q47)
  have R50 := Lib.hid (own_below R44.out q47)
  have R51 := Lib.hid (own_below R45.out q47)
  have R52 := Lib.hid (own_below R41.out q47)
  clear hb42 q47 R43 R44 R45 R41
  clear R52
  go_wp2_with fail
  obtain ⟨N0, hN0⟩ : ∃ M, 1 + 2 * an = M := ⟨_, rfl⟩
  refine (markWeatherS_one Ba2 an N0 _ _ _ (by omega) hN0 R50.out).mono ?_
  rintro e w53 ⟨rfl, o54, g55⟩
  have R56 := Lib.hid (R49.out.kept g55 ap16)
  have R57 := Lib.hid (R51.out.kept g55 (apart_symm ap24))
  have hb58 := below_marked hb48 R50.out g55 lBa2 hb48.size
  have R59 := Lib.hid o54
  have dN0 : decide ((N0 : Int) < 0) = false := by simp
  clear o54 g55 R49 R51 hb48 R50
  go_wp2_with fail
  refine (eqInt64S_same n xs (by omega) HX.out _ _ _ _ _ R57.out R56.out).mono ?_
  rintro e w60 ⟨rfl, q61⟩
  have hb62 := below_onto hb58 q61
  have R63 := Lib.hid (own_below R56.out q61)
  have R64 := Lib.hid (own_below R59.out q61)
  have R65 := Lib.hid (own_below R57.out q61)
  clear hb58 q61 R56 R59 R57
  clear R64
  go_wp2_with fail
  obtain ⟨M, hM⟩ : ∃ M, 1 + n = M := ⟨_, rfl⟩
  refine (markInt64S_one Bvg n M _ _ _ (by omega) hM R65.out).mono ?_
  rintro e w66 ⟨rfl, o67, g68⟩
  have R69 := Lib.hid (R63.out.kept g68 ap23)
  have hb70 := below_marked hb62 R65.out g68 lBvg hb62.size
  have R71 := Lib.hid o67
  have dM : decide ((M : Int) < 0) = false := by simp
  clear o67 g68 R63 hb62 R65
  go_wp2_with fail
  refine (heldInt64S_one Bvg n M _ _ (by omega) hM R71.out).mono ?_
  rintro e w72 ⟨rfl, q73⟩
  have hb74 := below_onto hb70 q73
  have R75 := Lib.hid (own_below R69.out q73)
  have R76 := Lib.hid (own_below R71.out q73)
  clear hb70 q73 R69 R71
  go_wp2_with fail
  refine (toWeatherS_any an _ az (by omega) w72 (aH.out.below hb74 (Nat.le_refl _))).mono ?_
  rintro e w77 ⟨⟨a4, rfl, o78⟩, q79⟩
  obtain ⟨Ba4, hBa4⟩ : ∃ B, w72.heap.size = B := ⟨_, rfl⟩
  have lBa4 : w.heap.size ≤ Ba4 := by rw [← hBa4]; exact hb74.size
  have ap80 := own_apart R75.out (Nat.le_of_eq hBa4) (by rw [← hBa4]; exact o78)
  have ap81 := own_apart R76.out (Nat.le_of_eq hBa4) (by rw [← hBa4]; exact o78)
  rw [hBa4] at o78
  have R82 := Lib.hid o78
  clear o78
  have hb83 := below_onto hb74 q79
  have R84 := Lib.hid (own_below R75.out q79)
  have R85 := Lib.hid (own_below R76.out q79)
  clear hb74 q79 R75 R76
  clear hBa4
  go_wp2_with fail
  refine (HI.out w77 a4 Ba4 R82.out).mono ?_
  rintro e w86 ⟨⟨vh, rfl, o87⟩, q88⟩
  obtain ⟨Bvh, hBvh⟩ : ∃ B, w77.heap.size = B := ⟨_, rfl⟩
  have lBvh : w.heap.size ≤ Bvh := by rw [← hBvh]; exact hb83.size
  have ap89 := own_apart R84.out (Nat.le_of_eq hBvh) (by rw [← hBvh]; exact o87)
  have ap90 := own_apart R85.out (Nat.le_of_eq hBvh) (by rw [← hBvh]; exact o87)
  have ap91 := own_apart R82.out (Nat.le_of_eq hBvh) (by rw [← hBvh]; exact o87)
  rw [hBvh] at o87
  have R92 := Lib.hid o87
  clear o87
  have hb93 := below_onto hb83 q88
  have R94 := Lib.hid (own_below R84.out q88)
  have R95 := Lib.hid (own_below R85.out q88)
  have R96 := Lib.hid (own_below R82.out q88)
  clear hb83 q88 R84 R85 R82
  clear hBvh
  clear R96
  go_wp2_with fail
  refine (eqInt64S_same n xs (by omega) HX.out _ _ _ _ _ R92.out R94.out).mono ?_
  rintro e w97 ⟨rfl, q98⟩
  have hb99 := below_onto hb93 q98
  have R100 := Lib.hid (own_below R94.out q98)
  have R101 := Lib.hid (own_below R95.out q98)
  have R102 := Lib.hid (own_below R92.out q98)
  clear hb93 q98 R94 R95 R92
  go_wp2_with fail
  refine (heldInt64S_one Bvg n M _ _ (by omega) hM R101.out).mono ?_
  rintro e w103 ⟨rfl, q104⟩
  have hb105 := below_onto hb99 q104
  have R106 := Lib.hid (own_below R100.out q104)
  have R107 := Lib.hid (own_below R101.out q104)
  have R108 := Lib.hid (own_below R102.out q104)
  clear hb99 q104 R100 R101 R102
  go_wp2_with fail
  go_ret
  exact ⟨rfl, hb105⟩

theorem fmP_small {G : List Int} {cut most start : Int} {N : Nat} (h : N ≤ 30) : (fmP cut most G start N).length ≤ 100000 := by
  have := fmP_le (cut := cut) (most := most) (start := start) (G := G) N
  omega
theorem exactFewestMows (start cut most : Int) (n : Nat) (v : Value) (z : List Int) (hm0 : n ≤ maxLen) (hr : ∀ x ∈ z, -128 ≤ x ∧ x ≤ 127) (w : World) (h : ArgRow .i8 2 w v n z) :
    Calls Try.prog 3 #[.int .i64 start, .int .i64 cut, .int .i64 most, v] w fun e w' => e = .returned (.bool true) ∧ Below w.heap.size w w' := by
  obtain ⟨m, hm⟩ := firstNo_ex (dayP z) n
  cases e : askB n m (high3 start cut most)
  · exact exactFewestMows_walk start cut most n v z 0 [] (by omega) (fun j hj => by omega) (askC n m (high3 start cut most)) h.1 hm0
      (fun hb w av aB ho => implFewest_bad aB n av (by omega) z h.1 hr m hm start cut most e w ho) (fun hb w av aB ho => specFewest_bad aB n av (by omega) z h.1 hr m hm start cut most e w ho) w h
  · obtain ⟨rfl, hh, -⟩ := ask_good e
    by_cases hF : fewW cut most (growL z m) start ≤ 30
    · exact exactFewestMows_walk start cut most m v z (fmP cut most (growL z m) start m).length (intsV .i64 (fmP cut most (growL z m) start m)) (fmP_small ((first_all hm).1 rfl).1) (fun j hj => intsV_ints (n := (fmP cut most (growL z m) start m).length) rfl j (by simpa using hj)) 0 h.1 hm0
        (fun hb w av aB ho => by
          have := implFewest_any aB m av (by omega) z h.1 hr hm start cut most hh w ho
          rwa [if_pos hF, if_pos hF, if_pos hF] at this)
        (fun hb w av aB ho => by
          have := specFewest_any aB m av (by omega) z h.1 hr hm start cut most hh w ho
          rwa [if_pos hF, if_pos hF, if_pos hF] at this) w h
    · exact exactFewestMows_walk start cut most m v z 0 [] (by omega) (fun j hj => by omega) 6 h.1 hm0
        (fun hb w av aB ho => by
          have := implFewest_any aB m av (by omega) z h.1 hr hm start cut most hh w ho
          rwa [if_neg hF, if_neg hF, if_neg hF] at this)
        (fun hb w av aB ho => by
          have := specFewest_any aB m av (by omega) z h.1 hr hm start cut most hh w ho
          rwa [if_neg hF, if_neg hF, if_neg hF] at this) w h

end Go.Proofs.Ytpjninnammddlaa
