/- The law on CutStrips. -/
import Derived.Test.YthpfejbigdjhlaaCut
import Derived.Test.YthpfejbigdjhlaaEqInt64S
import Derived.Test.YthpfejbigdjhlaaMarkInt64S
import Derived.Test.YthpfejbigdjhlaaSizeL
namespace Go.Proofs.Ythpfejbigdjhlaa
open Go.RowKit
set_option linter.unusedVariables false

set_option maxRecDepth 100000 in
set_option maxHeartbeats 4000000 in
theorem exactCutStrips_walk (bn : Nat) (ba : Value) (bz : List Int) (n1 : Int) (n : Nat) (xs : List Value) (hn1 : n ≤ 100000) (hx : ∀ j, j < n * 1 → ∃ z, xs[j]? = some (.int .i64 z)) (r0 : Int) (r1 : Int) (bl : bz.length = bn * 1) (bm : bn ≤ 9223372036854775807)
    (HI0 : bn ≤ 1048576 → ∀ (w : World) (bv : Value) (bB : Nat), w.ownsRow bB 2 1 bv bn (intsV .i64 bz) → Calls Try.prog 42 #[bv, .int .i64 n1] w fun e w' => (∃ v, e = .returned (.tuple #[v, .int .i64 r0, .int .i64 r1]) ∧ w'.ownsRow w.heap.size 2 1 v n xs) ∧ Below w.heap.size w w')
    (HS0 : bn ≤ 1048576 → ∀ (w : World) (bv : Value) (bB : Nat), w.ownsRow bB 2 1 bv bn (intsV .i64 bz) → Calls Try.prog 40 #[bv, .int .i64 n1] w fun e w' => (∃ v, e = .returned (.tuple #[v, .int .i64 r0, .int .i64 r1]) ∧ w'.ownsRow w.heap.size 2 1 v n xs) ∧ Below w.heap.size w w')
    (w : World) (bh : ArgRow .i64 1 w ba bn bz) :
    Calls Try.prog 12 #[ba, .int .i64 n1] w fun e w' => e = .returned (.bool true) ∧ Below w.heap.size w w' := by
  have HI1 := Lib.hid HI0
  have HS1 := Lib.hid HS0
  have HX := Lib.hid hx
  clear HI0 HS0 hx
  have bH := Lib.hid bh
  obtain ⟨bp, bc, be⟩ := bh.slice
  clear bh
  subst be
  by_cases bbig : 1048576 < bn
  · have bd : decide ((1048576 : Int) < (bn : Int)) = true := by simp; omega
    go_enter Try.func12, Try.ntmps12
    go_wp2_with fail
    go_ret
    exact ⟨rfl, Below.refl _ _⟩
  have bd : decide ((1048576 : Int) < (bn : Int)) = false := by simp; omega
  go_enter Try.func12, Try.ntmps12
  have HI := Lib.hid (HI1.out (by omega))
  have HS := Lib.hid (HS1.out (by omega))
  clear HI1 HS1
  have hb0 := Below.refl w.heap.size w
  go_wp2_with fail
  refine (toInt64S_any bn _ bz (by omega) w bH.out).mono ?_
  rintro e w1 ⟨⟨b1, rfl, o2⟩, q3⟩
  obtain ⟨Bb1, hBb1⟩ : ∃ B, w.heap.size = B := ⟨_, rfl⟩
  have lBb1 : w.heap.size ≤ Bb1 := by rw [← hBb1]; exact hb0.size
  rw [hBb1] at o2
  have R4 := Lib.hid o2
  clear o2
  have hb5 := below_onto hb0 q3
  clear hb0 q3
  clear hBb1
  go_wp2_with fail
  refine (HS.out w1 b1 Bb1 R4.out).mono ?_
  rintro e w6 ⟨⟨vs, rfl, o7⟩, q8⟩
  obtain ⟨Bvs, hBvs⟩ : ∃ B, w1.heap.size = B := ⟨_, rfl⟩
  have lBvs : w.heap.size ≤ Bvs := by rw [← hBvs]; exact hb5.size
  have ap9 := own_apart R4.out (Nat.le_of_eq hBvs) (by rw [← hBvs]; exact o7)
  rw [hBvs] at o7
  have R10 := Lib.hid o7
  clear o7
  have hb11 := below_onto hb5 q8
  have R12 := Lib.hid (own_below R4.out q8)
  clear hb5 q8 R4
  clear hBvs
  clear R12
  go_wp2_with fail
  refine (toInt64S_any bn _ bz (by omega) w6 (bH.out.below hb11 (Nat.le_refl _))).mono ?_
  rintro e w13 ⟨⟨b2, rfl, o14⟩, q15⟩
  obtain ⟨Bb2, hBb2⟩ : ∃ B, w6.heap.size = B := ⟨_, rfl⟩
  have lBb2 : w.heap.size ≤ Bb2 := by rw [← hBb2]; exact hb11.size
  have ap16 := own_apart R10.out (Nat.le_of_eq hBb2) (by rw [← hBb2]; exact o14)
  rw [hBb2] at o14
  have R17 := Lib.hid o14
  clear o14
  have hb18 := below_onto hb11 q15
  have R19 := Lib.hid (own_below R10.out q15)
  clear hb11 q15 R10
  clear hBb2
  go_wp2_with fail
  refine (HI.out w13 b2 Bb2 R17.out).mono ?_
  rintro e w20 ⟨⟨vg, rfl, o21⟩, q22⟩
  obtain ⟨Bvg, hBvg⟩ : ∃ B, w13.heap.size = B := ⟨_, rfl⟩
  have lBvg : w.heap.size ≤ Bvg := by rw [← hBvg]; exact hb18.size
  have ap23 := own_apart R19.out (Nat.le_of_eq hBvg) (by rw [← hBvg]; exact o21)
  have ap24 := own_apart R17.out (Nat.le_of_eq hBvg) (by rw [← hBvg]; exact o21)
  rw [hBvg] at o21
  have R25 := Lib.hid o21
  clear o21
  have hb26 := below_onto hb18 q22
  have R27 := Lib.hid (own_below R19.out q22)
  have R28 := Lib.hid (own_below R17.out q22)
  clear hb18 q22 R19 R17
  clear hBvg
  go_wp2_with fail
  refine (eqInt64S_same n xs (by omega) HX.out _ _ _ _ _ R25.out R27.out).mono ?_
  rintro e w29 ⟨rfl, q30⟩
  have hb31 := below_onto hb26 q30
  have R32 := Lib.hid (own_below R27.out q30)
  have R33 := Lib.hid (own_below R28.out q30)
  have R34 := Lib.hid (own_below R25.out q30)
  clear hb26 q30 R27 R28 R25
  go_wp2_with fail
  refine (toInt64S_any bn _ bz (by omega) w29 (bH.out.below hb31 (Nat.le_refl _))).mono ?_
  rintro e w35 ⟨⟨b3, rfl, o36⟩, q37⟩
  obtain ⟨Bb3, hBb3⟩ : ∃ B, w29.heap.size = B := ⟨_, rfl⟩
  have lBb3 : w.heap.size ≤ Bb3 := by rw [← hBb3]; exact hb31.size
  have ap38 := own_apart R32.out (Nat.le_of_eq hBb3) (by rw [← hBb3]; exact o36)
  have ap39 := own_apart R33.out (Nat.le_of_eq hBb3) (by rw [← hBb3]; exact o36)
  have ap40 := own_apart R34.out (Nat.le_of_eq hBb3) (by rw [← hBb3]; exact o36)
  rw [hBb3] at o36
  have R41 := Lib.hid o36
  clear o36
  have hb42 := below_onto hb31 q37
  have R43 := Lib.hid (own_below R32.out q37)
  have R44 := Lib.hid (own_below R33.out q37)
  have R45 := Lib.hid (own_below R34.out q37)
  clear hb31 q37 R32 R33 R34
  clear hBb3
  go_wp2_with fail
  refine (eqInt64S_same bn (intsV .i64 bz) (by omega) (intsV_ints bl) _ _ _ _ _ R44.out R41.out).mono ?_
  rintro e w46 ⟨rfl, q47⟩
  have hb48 := below_onto hb42 q47
  have R49 := Lib.hid (own_below R43.out q47)
  have R50 := Lib.hid (own_below R44.out q47)
  have R51 := Lib.hid (own_below R45.out q47)
  have R52 := Lib.hid (own_below R41.out q47)
  clear hb42 q47 R43 R44 R45 R41
  clear R52
  go_wp2_with fail
  obtain ⟨N0, hN0⟩ : ∃ M, 1 + bn = M := ⟨_, rfl⟩
  refine (markInt64S_one Bb2 bn N0 _ _ _ (by omega) hN0 R50.out).mono ?_
  rintro e w53 ⟨rfl, o54, g55⟩
  have R56 := Lib.hid (R49.out.kept g55 ap16)
  have R57 := Lib.hid (R51.out.kept g55 (apart_symm ap24))
  have hb58 := below_marked hb48 R50.out g55 lBb2 hb48.size
  have R59 := Lib.hid o54
  have dN0 : decide ((N0 : Int) < 0) = false := by simp
  clear o54 g55 R49 R51 hb48 R50
  go_wp2_with fail
  refine (eqInt64S_same n xs (by omega) HX.out _ _ _ _ _ R57.out R56.out).mono ?_
  rintro e w60 ⟨rfl, q61⟩
  have hb62 := below_onto hb58 q61
  have R63 := Lib.hid (own_below R56.out q61)
  have R64 := Lib.hid (own_below R59.out q61)
  have R65 := Lib.hid (own_below R57.out q61)
  clear hb58 q61 R56 R59 R57
  clear R64
  go_wp2_with fail
  obtain ⟨M, hM⟩ : ∃ M, 1 + n = M := ⟨_, rfl⟩
  refine (markInt64S_one Bvg n M _ _ _ (by omega) hM R65.out).mono ?_
  rintro e w66 ⟨rfl, o67, g68⟩
  have R69 := Lib.hid (R63.out.kept g68 ap23)
  have hb70 := below_marked hb62 R65.out g68 lBvg hb62.size
  have R71 := Lib.hid o67
  have dM : decide ((M : Int) < 0) = false := by simp
  clear o67 g68 R63 hb62 R65
  go_wp2_with fail
  refine (heldInt64S_one Bvg n M _ _ (by omega) hM R71.out).mono ?_
  rintro e w72 ⟨rfl, q73⟩
  have hb74 := below_onto hb70 q73
  have R75 := Lib.hid (own_below R69.out q73)
  have R76 := Lib.hid (own_below R71.out q73)
  clear hb70 q73 R69 R71
  go_wp2_with fail
  refine (toInt64S_any bn _ bz (by omega) w72 (bH.out.below hb74 (Nat.le_refl _))).mono ?_
  rintro e w77 ⟨⟨b4, rfl, o78⟩, q79⟩
  obtain ⟨Bb4, hBb4⟩ : ∃ B, w72.heap.size = B := ⟨_, rfl⟩
  have lBb4 : w.heap.size ≤ Bb4 := by rw [← hBb4]; exact hb74.size
  have ap80 := own_apart R75.out (Nat.le_of_eq hBb4) (by rw [← hBb4]; exact o78)
  have ap81 := own_apart R76.out (Nat.le_of_eq hBb4) (by rw [← hBb4]; exact o78)
  rw [hBb4] at o78
  have R82 := Lib.hid o78
  clear o78
  have hb83 := below_onto hb74 q79
  have R84 := Lib.hid (own_below R75.out q79)
  have R85 := Lib.hid (own_below R76.out q79)
  clear hb74 q79 R75 R76
  clear hBb4
  go_wp2_with fail
  refine (HI.out w77 b4 Bb4 R82.out).mono ?_
  rintro e w86 ⟨⟨vh, rfl, o87⟩, q88⟩
  obtain ⟨Bvh, hBvh⟩ : ∃ B, w77.heap.size = B := ⟨_, rfl⟩
  have lBvh : w.heap.size ≤ Bvh := by rw [← hBvh]; exact hb83.size
  have ap89 := own_apart R84.out (Nat.le_of_eq hBvh) (by rw [← hBvh]; exact o87)
  have ap90 := own_apart R85.out (Nat.le_of_eq hBvh) (by rw [← hBvh]; exact o87)
  have ap91 := own_apart R82.out (Nat.le_of_eq hBvh) (by rw [← hBvh]; exact o87)
  rw [hBvh] at o87
  have R92 := Lib.hid o87
  clear o87
  have hb93 := below_onto hb83 q88
  have R94 := Lib.hid (own_below R84.out q88)
  have R95 := Lib.hid (own_below R85.out q88)
  have R96 := Lib.hid (own_below R82.out q88)
  clear hb83 q88 R84 R85 R82
  clear hBvh
  clear R96
  go_wp2_with fail
  refine (eqInt64S_same n xs (by omega) HX.out _ _ _ _ _ R92.out R94.out).mono ?_
  rintro e w97 ⟨rfl, q98⟩
  have hb99 := below_onto hb93 q98
  have R100 := Lib.hid (own_below R94.out q98)
  have R101 := Lib.hid (own_below R95.out q98)
  have R102 := Lib.hid (own_below R92.out q98)
  clear hb93 q98 R94 R95 R92
  go_wp2_with fail
  refine (heldInt64S_one Bvg n M _ _ (by omega) hM R101.out).mono ?_
  rintro e w103 ⟨rfl, q104⟩
  have hb105 := below_onto hb99 q104
  have R106 := Lib.hid (own_below R100.out q104)
  have R107 := Lib.hid (own_below R101.out q104)
  have R108 := Lib.hid (own_below R102.out q104)
  clear hb99 q104 R100 R101 R102
  go_wp2_with fail
  go_ret
  exact ⟨rfl, hb105⟩

theorem exactCutStrips (H : Nat) (x : Value) (p : List Int) (s : Int) (hm1 : H ≤ maxLen) (w : World) (hx : ArgRow .i64 1 w x H p) :
    Calls Try.prog 12 #[x, .int .i64 s] w fun e w' => e = .returned (.bool true) ∧ Below w.heap.size w w' := by
  have hp : p.length = H := by simpa using hx.1
  by_cases hc : piecesC p s = 0
  · obtain ⟨-, h8, -⟩ := piecesC_zero hc
    exact exactCutStrips_walk H x p s H (intsV .i64 (cutL p s H)) (by omega) (fun j hj => intsV_ints (n := H) (cutL_length _ _ _) j (by simpa using hj)) (cutK p s H).1 0 hx.1 hm1
      (fun hb w bv bB ho => implCut_good bB H bv p hp s hc w ho) (fun hb w bv bB ho => specCut_good bB H bv p hp s hc w ho) w hx
  · exact exactCutStrips_walk H x p s 0 [] (by omega) (fun j hj => by omega) 0 (piecesC p s) hx.1 hm1
      (fun hb w bv bB ho => implCut_bad bB H bv (by omega) p hp s _ rfl hc w ho) (fun hb w bv bB ho => specCut_bad bB H bv (by omega) p hp s _ rfl hc w ho) w hx

end Go.Proofs.Ythpfejbigdjhlaa
