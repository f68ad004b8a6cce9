/- The law on ClippingsOf. -/
import Derived.Test.YtbcbokpdcliimaaHeights
import Derived.Test.YtbcbokpdcliimaaEqInt64S
import Derived.Test.YtbcbokpdcliimaaMarkInt64S
import Derived.Test.YtbcbokpdcliimaaEqWeatherS
import Derived.Test.YtbcbokpdcliimaaMarkWeatherS
import Derived.Test.YtbcbokpdcliimaaSizeL
namespace Go.Proofs.Ytbcbokpdcliimaa
open Go.RowKit
set_option linter.unusedVariables false

set_option maxRecDepth 100000 in
set_option maxHeartbeats 4000000 in
theorem exactClippingsOf_walk (n0 : Int) (n1 : Int) (an : Nat) (aa : Value) (az : List Int) (bn : Nat) (ba : Value) (bz : List Int) (n : Nat) (xs : List Value) (hn1 : n ≤ 100000) (hx : ∀ j, j < n * 1 → ∃ z, xs[j]? = some (.int .i64 z)) (r0 : Int) (al : az.length = an * 2) (am : an ≤ 9223372036854775807) (bl : bz.length = bn * 1) (bm : bn ≤ 9223372036854775807)
    (HI0 : an ≤ 1048576 → bn ≤ 1048576 → ∀ (w : World) (av : Value) (aB : Nat) (bv : Value) (bB : Nat), w.ownsRow aB 40 2 av an (intsV .i8 az) → w.ownsRow bB 2 1 bv bn (intsV .i64 bz) → Calls Try.prog 32 #[.int .i64 n0, .int .i64 n1, av, bv] w fun e w' => (∃ v, e = .returned (.tuple #[v, .int .i64 r0]) ∧ w'.ownsRow w.heap.size 2 1 v n xs) ∧ Below w.heap.size w w')
    (HS0 : an ≤ 1048576 → bn ≤ 1048576 → ∀ (w : World) (av : Value) (aB : Nat) (bv : Value) (bB : Nat), w.ownsRow aB 40 2 av an (intsV .i8 az) → w.ownsRow bB 2 1 bv bn (intsV .i64 bz) → Calls Try.prog 31 #[.int .i64 n0, .int .i64 n1, av, bv] w fun e w' => (∃ v, e = .returned (.tuple #[v, .int .i64 r0]) ∧ w'.ownsRow w.heap.size 2 1 v n xs) ∧ Below w.heap.size w w')
    (w : World) (ah : ArgRow .i8 2 w aa an az) (bh : ArgRow .i64 1 w ba bn bz) :
    Calls Try.prog 7 #[.int .i64 n0, .int .i64 n1, aa, ba] w fun e w' => e = .returned (.bool true) ∧ Below w.heap.size w w' := by
  have HI1 := Lib.hid HI0
  have HS1 := Lib.hid HS0
  have HX := Lib.hid hx
  clear HI0 HS0 hx
  have aH := Lib.hid ah
  obtain ⟨ap, ac, ae⟩ := ah.slice
  clear ah
  subst ae
  have bH := Lib.hid bh
  obtain ⟨bp, bc, be⟩ := bh.slice
  clear bh
  subst be
  by_cases bbig : 1048576 < bn
  · have bd : decide ((1048576 : Int) < (bn : Int)) = true := by simp; omega
    go_enter Try.func7, Try.ntmps7
    go_wp2_with fail
    go_ret
    exact ⟨rfl, Below.refl _ _⟩
  have bd : decide ((1048576 : Int) < (bn : Int)) = false := by simp; omega
  by_cases abig : 1048576 < an
  · go_enter Try.func7, Try.ntmps7
    go_wp2_with fail
    refine (szWeatherS_big an _ _ 1048576 (by omega) (by omega) am _).mono ?_
    rintro e w' ⟨rfl, rfl⟩
    go_wp2_with fail
    go_ret
    exact ⟨rfl, Below.refl _ _⟩
  go_enter Try.func7, Try.ntmps7
  go_wp2_with fail
  refine (szWeatherS_any an _ _ 1048576 (by omega) _).mono ?_
  rintro e w' ⟨rfl, rfl⟩
  have ad : decide (((1048576 - an : Nat) : Int) < 0) = false := by simp
  have HI := Lib.hid (HI1.out (by omega) (by omega))
  have HS := Lib.hid (HS1.out (by omega) (by omega))
  clear HI1 HS1
  have hb0 := Below.refl w.heap.size w
  go_wp2_with fail
  refine (toWeatherS_any an _ az (by omega) w aH.out).mono ?_
  rintro e w1 ⟨⟨a1, rfl, o2⟩, q3⟩
  obtain ⟨Ba1, hBa1⟩ : ∃ B, w.heap.size = B := ⟨_, rfl⟩
  have lBa1 : w.heap.size ≤ Ba1 := by rw [← hBa1]; exact hb0.size
  rw [hBa1] at o2
  have R4 := Lib.hid o2
  clear o2
  have hb5 := below_onto hb0 q3
  clear hb0 q3
  clear hBa1
  go_wp2_with fail
  refine (toInt64S_any bn _ bz (by omega) w1 (bH.out.below hb5 (Nat.le_refl _))).mono ?_
  rintro e w6 ⟨⟨b1, rfl, o7⟩, q8⟩
  obtain ⟨Bb1, hBb1⟩ : ∃ B, w1.heap.size = B := ⟨_, rfl⟩
  have lBb1 : w.heap.size ≤ Bb1 := by rw [← hBb1]; exact hb5.size
  have ap9 := own_apart R4.out (Nat.le_of_eq hBb1) (by rw [← hBb1]; exact o7)
  rw [hBb1] at o7
  have R10 := Lib.hid o7
  clear o7
  have hb11 := below_onto hb5 q8
  have R12 := Lib.hid (own_below R4.out q8)
  clear hb5 q8 R4
  clear hBb1
  go_wp2_with fail
  refine (HS.out w6 a1 Ba1 b1 Bb1 R12.out R10.out).mono ?_
  rintro e w13 ⟨⟨vs, rfl, o14⟩, q15⟩
  obtain ⟨Bvs, hBvs⟩ : ∃ B, w6.heap.size = B := ⟨_, rfl⟩
  have lBvs : w.heap.size ≤ Bvs := by rw [← hBvs]; exact hb11.size
  have ap16 := own_apart R12.out (Nat.le_of_eq hBvs) (by rw [← hBvs]; exact o14)
  have ap17 := own_apart R10.out (Nat.le_of_eq hBvs) (by rw [← hBvs]; exact o14)
  rw [hBvs] at o14
  have R18 := Lib.hid o14
  clear o14
  have hb19 := below_onto hb11 q15
  have R20 := Lib.hid (own_below R12.out q15)
  have R21 := Lib.hid (own_below R10.out q15)
  clear hb11 q15 R12 R10
  clear hBvs
  clear R20 R21
  go_wp2_with fail
  refine (toWeatherS_any an _ az (by omega) w13 (aH.out.below hb19 (Nat.le_refl _))).mono ?_
  rintro e w22 ⟨⟨a2, rfl, o23⟩, q24⟩
  obtain ⟨Ba2, hBa2⟩ : ∃ B, w13.heap.size = B := ⟨_, rfl⟩
  have lBa2 : w.heap.size ≤ Ba2 := by rw [← hBa2]; exact hb19.size
  have ap25 := own_apart R18.out (Nat.le_of_eq hBa2) (by rw [← hBa2]; exact o23)
  rw [hBa2] at o23
  have R26 := Lib.hid o23
  clear o23
  have hb27 := below_onto hb19 q24
  have R28 := Lib.hid (own_below R18.out q24)
  clear hb19 q24 R18
  clear hBa2
  go_wp2_with fail
  refine (toInt64S_any bn _ bz (by omega) w22 (bH.out.below hb27 (Nat.le_refl _))).mono ?_
  rintro e w29 ⟨⟨b2, rfl, o30⟩, q31⟩
  obtain ⟨Bb2, hBb2⟩ : ∃ B, w22.heap.size = B := ⟨_, rfl⟩
  have lBb2 : w.heap.size ≤ Bb2 := by rw [← hBb2]; exact hb27.size
  have ap32 := own_apart R28.out (Nat.le_of_eq hBb2) (by rw [← hBb2]; exact o30)
  have ap33 := own_apart R26.out (Nat.le_of_eq hBb2) (by rw [← hBb2]; exact o30)
  rw [hBb2] at o30
  have R34 := Lib.hid o30
  clear o30
  have hb35 := below_onto hb27 q31
  have R36 := Lib.hid (own_below R28.out q31)
  have R37 := Lib.hid (own_below R26.out q31)
  clear hb27 q31 R28 R26
  clear hBb2
  go_wp2_with fail
  refine (HI.out w29 a2 Ba2 b2 Bb2 R37.out R34.out).mono ?_
  rintro e w38 ⟨⟨vg, rfl, o39⟩, q40⟩
  obtain ⟨Bvg, hBvg⟩ : ∃ B, w29.heap.size = B := ⟨_, rfl⟩
  have lBvg : w.heap.size ≤ Bvg := by rw [← hBvg]; exact hb35.size
  have ap41 := own_apart R36.out (Nat.le_of_eq hBvg) (by rw [← hBvg]; exact o39)
  have ap42 := own_apart R37.out (Nat.le_of_eq hBvg) (by rw [← hBvg]; exact o39)
  have ap43 := own_apart R34.out (Nat.le_of_eq hBvg) (by rw [← hBvg]; exact o39)
  rw [hBvg] at o39
  have R44 := Lib.hid o39
  clear o39
  have hb45 := below_onto hb35 q40
  have R46 := Lib.hid (own_below R36.out q40)
  have R47 := Lib.hid (own_below R37.out q40)
  have R48 := Lib.hid (own_below R34.out q40)
  clear hb35 q40 R36 R37 R34
  clear hBvg
  go_wp2_with fail
  refine (eqInt64S_same n xs (by omega) HX.out _ _ _ _ _ R44.out R46.out).mono ?_
  rintro e w49 ⟨rfl, q50⟩
  have hb51 := below_onto hb45 q50
  have R52 := Lib.hid (own_below R46.out q50)
  have R53 := Lib.hid (own_below R47.out q50)
  have R54 := Lib.hid (own_below R48.out q50)
  have R55 := Lib.hid (own_below R44.out q50)
  clear hb45 q50 R46 R47 R48 R44
  go_wp2_with fail
  refine (toWeatherS_any an _ az (by omega) w49 (aH.out.below hb51 (Nat.le_refl _))).mono ?_
  rintro e w56 ⟨⟨a3, rfl, o57⟩, q58⟩
  obtain ⟨Ba3, hBa3⟩ : ∃ B, w49.heap.size = B := ⟨_, rfl⟩
  have lBa3 : w.heap.size ≤ Ba3 := by rw [← hBa3]; exact hb51.size
  have ap59 := own_apart R52.out (Nat.le_of_eq hBa3) (by rw [← hBa3]; exact o57)
  have ap60 := own_apart R53.out (Nat.le_of_eq hBa3) (by rw [← hBa3]; exact o57)
  have ap61 := own_apart R54.out (Nat.le_of_eq hBa3) (by rw [← hBa3]; exact o57)
  have ap62 := own_apart R55.out (Nat.le_of_eq hBa3) (by rw [← hBa3]; exact o57)
  rw [hBa3] at o57
  have R63 := Lib.hid o57
  clear o57
  have hb64 := below_onto hb51 q58
  have R65 := Lib.hid (own_below R52.out q58)
  have R66 := Lib.hid (own_below R53.out q58)
  have R67 := Lib.hid (own_below R54.out q58)
  have R68 := Lib.hid (own_below R55.out q58)
  clear hb51 q58 R52 R53 R54 R55
  clear hBa3
  go_wp2_with fail
  refine (eqWeatherS_same an (intsV .i8 az) (by omega) (intsV_ints al) _ _ _ _ _ R66.out R63.out).mono ?_
  rintro e w69 ⟨rfl, q70⟩
  have hb71 := below_onto hb64 q70
  have R72 := Lib.hid (own_below R65.out q70)
  have R73 := Lib.hid (own_below R66.out q70)
  have R74 := Lib.hid (own_below R67.out q70)
  have R75 := Lib.hid (own_below R68.out q70)
  have R76 := Lib.hid (own_below R63.out q70)
  clear hb64 q70 R65 R66 R67 R68 R63
  clear R76
  go_wp2_with fail
  refine (toInt64S_any bn _ bz (by omega) w69 (bH.out.below hb71 (Nat.le_refl _))).mono ?_
  rintro e w77 ⟨⟨b3, rfl, o78⟩, q79⟩
  obtain ⟨Bb3, hBb3⟩ : ∃ B, w69.heap.size = B := ⟨_, rfl⟩
  have lBb3 : w.heap.size ≤ Bb3 := by rw [← hBb3]; exact hb71.size
  have ap80 := own_apart R72.out (Nat.le_of_eq hBb3) (by rw [← hBb3]; exact o78)
  have ap81 := own_apart R73.out (Nat.le_of_eq hBb3) (by rw [← hBb3]; exact o78)
  have ap82 := own_apart R74.out (Nat.le_of_eq hBb3) (by rw [← hBb3]; exact o78)
  have ap83 := own_apart R75.out (Nat.le_of_eq hBb3) (by rw [← hBb3]; exact o78)
  rw [hBb3] at o78
  have R84 := Lib.hid o78
  clear o78
  have hb85 := below_onto hb71 q79
  have R86 := Lib.hid (own_below R72.out q79)
  have R87 := Lib.hid (own_below R73.out q79)
  have R88 := Lib.hid (own_below R74.out q79)
  have R89 := Lib.hid (own_below R75.out q79)
  clear hb71 q79 R72 R73 R74 R75
  clear hBb3
  go_wp2_with fail
  refine (eqInt64S_same bn (intsV .i64 bz) (by omega) (intsV_ints bl) _ _ _ _ _ R88.out R84.out).mono ?_
  rintro e w90 ⟨rfl, q91⟩
  have hb92 := below_onto hb85 q91
  have R93 := Lib.hid (own_below R86.out q91)
  have R94 := Lib.hid (own_below R87.out q91)
  have R95 := Lib.hid (own_below R88.out q91)
  have R96 := Lib.hid (own_below R89.out q91)
  have R97 := Lib.hid (own_below R84.out q91)
  clear hb85 q91 R86 R87 R88 R89 R84
  clear R97
  go_wp2_with fail
  obtain ⟨N0, hN0⟩ : ∃ M, 1 + 2 * an = M := ⟨_, rfl⟩
  refine (markWeatherS_one Ba2 an N0 _ _ _ (by omega) hN0 R94.out).mono ?_
  rintro e w98 ⟨rfl, o99, g100⟩
  have R101 := Lib.hid (R93.out.kept g100 ap25)
  have R102 := Lib.hid (R95.out.kept g100 (apart_symm ap33))
  have R103 := Lib.hid (R96.out.kept g100 (apart_symm ap42))
  have hb104 := below_marked hb92 R94.out g100 lBa2 hb92.size
  have R105 := Lib.hid o99
  have dN0 : decide ((N0 : Int) < 0) = false := by simp
  clear o99 g100 R93 R95 R96 hb92 R94
  go_wp2_with fail
  obtain ⟨N1, hN1⟩ : ∃ M, N0 + bn = M := ⟨_, rfl⟩
  refine ((hN1 ▸ markInt64S_any Bb2 bn N0 _ _ _ (by omega) (by omega) R102.out : Calls _ _ _ _ fun e w' => e = .returned (.int .i64 (N1 : Int)) ∧ _)).mono ?_
  rintro e w106 ⟨rfl, o107, g108⟩
  have R109 := Lib.hid (R101.out.kept g108 ap32)
  have R110 := Lib.hid (R105.out.kept g108 ap33)
  have R111 := Lib.hid (R103.out.kept g108 (apart_symm ap43))
  have hb112 := below_marked hb104 R102.out g108 lBb2 hb104.size
  have R113 := Lib.hid o107
  have dN1 : decide ((N1 : Int) < 0) = false := by simp
  clear o107 g108 R101 R105 R103 hb104 R102
  go_wp2_with fail
  refine (eqInt64S_same n xs (by omega) HX.out _ _ _ _ _ R111.out R109.out).mono ?_
  rintro e w114 ⟨rfl, q115⟩
  have hb116 := below_onto hb112 q115
  have R117 := Lib.hid (own_below R109.out q115)
  have R118 := Lib.hid (own_below R110.out q115)
  have R119 := Lib.hid (own_below R113.out q115)
  have R120 := Lib.hid (own_below R111.out q115)
  clear hb112 q115 R109 R110 R113 R111
  clear R118 R119
  go_wp2_with fail
  obtain ⟨M, hM⟩ : ∃ M, 1 + n = M := ⟨_, rfl⟩
  refine (markInt64S_one Bvg n M _ _ _ (by omega) hM R120.out).mono ?_
  rintro e w121 ⟨rfl, o122, g123⟩
  have R124 := Lib.hid (R117.out.kept g123 ap41)
  have hb125 := below_marked hb116 R120.out g123 lBvg hb116.size
  have R126 := Lib.hid o122
  have dM : decide ((M : Int) < 0) = false := by simp
  clear o122 g123 R117 hb116 R120
  go_wp2_with fail
  refine (heldInt64S_one Bvg n M _ _ (by omega) hM R126.out).mono ?_
  rintro e w127 ⟨rfl, q128⟩
  have hb129 := below_onto hb125 q128
  have R130 := Lib.hid (own_below R124.out q128)
  have R131 := Lib.hid (own_below R126.out q128)
  clear hb125 q128 R124 R126
  go_wp2_with fail
  refine (toWeatherS_any an _ az (by omega) w127 (aH.out.below hb129 (Nat.le_refl _))).mono ?_
  rintro e w132 ⟨⟨a4, rfl, o133⟩, q134⟩
  obtain ⟨Ba4, hBa4⟩ : ∃ B, w127.heap.size = B := ⟨_, rfl⟩
  have lBa4 : w.heap.size ≤ Ba4 := by rw [← hBa4]; exact hb129.size
  have ap135 := own_apart R130.out (Nat.le_of_eq hBa4) (by rw [← hBa4]; exact o133)
  have ap136 := own_apart R131.out (Nat.le_of_eq hBa4) (by rw [← hBa4]; exact o133)
  rw [hBa4] at o133
  have R137 := Lib.hid o133
  clear o133
  have hb138 := below_onto hb129 q134
  have R139 := Lib.hid (own_below R130.out q134)
  have R140 := Lib.hid (own_below R131.out q134)
  clear hb129 q134 R130 R131
  clear hBa4
  go_wp2_with fail
  refine (toInt64S_any bn _ bz (by omega) w132 (bH.out.below hb138 (Nat.le_refl _))).mono ?_
  rintro e w141 ⟨⟨b4, rfl, o142⟩, q143⟩
  obtain ⟨Bb4, hBb4⟩ : ∃ B, w132.heap.size = B := ⟨_, rfl⟩
  have lBb4 : w.heap.size ≤ Bb4 := by rw [← hBb4]; exact hb138.size
  have ap144 := own_apart R139.out (Nat.le_of_eq hBb4) (by rw [← hBb4]; exact o142)
  have ap145 := own_apart R140.out (Nat.le_of_eq hBb4) (by rw [← hBb4]; exact o142)
  have ap146 := own_apart R137.out (Nat.le_of_eq hBb4) (by rw [← hBb4]; exact o142)
  rw [hBb4] at o142
  have R147 := Lib.hid o142
  clear o142
  have hb148 := below_onto hb138 q143
  have R149 := Lib.hid (own_below R139.out q143)
  have R150 := Lib.hid (own_below R140.out q143)
  have R151 := Lib.hid (own_below R137.out q143)
  clear hb138 q143 R139 R140 R137
  clear hBb4
  go_wp2_with fail
  refine (HI.out w141 a4 Ba4 b4 Bb4 R151.out R147.out).mono ?_
  rintro e w152 ⟨⟨vh, rfl, o153⟩, q154⟩
  obtain ⟨Bvh, hBvh⟩ : ∃ B, w141.heap.size = B := ⟨_, rfl⟩
  have lBvh : w.heap.size ≤ Bvh := by rw [← hBvh]; exact hb148.size
  have ap155 := own_apart R149.out (Nat.le_of_eq hBvh) (by rw [← hBvh]; exact o153)
  have ap156 := own_apart R150.out (Nat.le_of_eq hBvh) (by rw [← hBvh]; exact o153)
  have ap157 := own_apart R151.out (Nat.le_of_eq hBvh) (by rw [← hBvh]; exact o153)
  have ap158 := own_apart R147.out (Nat.le_of_eq hBvh) (by rw [← hBvh]; exact o153)
  rw [hBvh] at o153
  have R159 := Lib.hid o153
  clear o153
  have hb160 := below_onto hb148 q154
  have R161 := Lib.hid (own_below R149.out q154)
  have R162 := Lib.hid (own_below R150.out q154)
  have R163 := Lib.hid (own_below R151.out q154)
  have R164 := Lib.hid (own_below R147.out q154)
  clear hb148 q154 R149 R150 R151 R147
  clear hBvh
  clear R163 R164
  go_wp2_with fail
  refine (eqInt64S_same n xs (by omega) HX.out _ _ _ _ _ R159.out R161.out).mono ?_
  rintro e w165 ⟨rfl, q166⟩
  have hb167 := below_onto hb160 q166
  have R168 := Lib.hid (own_below R161.out q166)
  have R169 := Lib.hid (own_below R162.out q166)
  have R170 := Lib.hid (own_below R159.out q166)
  clear hb160 q166 R161 R162 R159
  go_wp2_with fail
  refine (heldInt64S_one Bvg n M _ _ (by omega) hM R169.out).mono ?_
  rintro e w171 ⟨rfl, q172⟩
  have hb173 := below_onto hb167 q172
  have R174 := Lib.hid (own_below R168.out q172)
  have R175 := Lib.hid (own_below R169.out q172)
  have R176 := Lib.hid (own_below R170.out q172)
  clear hb167 q172 R168 R169 R170
  go_wp2_with fail
  go_ret
  exact ⟨rfl, hb173⟩

theorem ClipsN_le {N m H q : Nat} {b : Bool} {zs : List Int} (hm : FirstNo (dayP zs) N m) (k : Nat) (hk : k ≤ N) : folN N m b H q k ≤ 100000 := by
  unfold folN
  split
  · rename_i e
    obtain ⟨rfl, -, -, -⟩ := plan_good e
    have := ((first_all hm).1 rfl).1
    omega
  · omega
theorem ClipsV_ints (N m : Nat) (b : Bool) (H q : Nat) (l : List Int) (k : Nat) (hl : l.length = k) : ∀ j, j < folN N m b H q k * 1 → ∃ y, (folV N m b H q l)[j]? = some (.int .i64 y) := by
  intro j hj
  unfold folN at hj
  unfold folV
  split at hj
  · rename_i e
    rw [if_pos e]
    exact intsV_ints (n := k) (by omega) j (by simpa using hj)
  · omega
theorem exactClippingsOf (start cut : Int) (n : Nat) (v : Value) (z : List Int) (H : Nat) (x : Value) (p : List Int) (hm0 : n ≤ maxLen) (hr : ∀ y ∈ z, -128 ≤ y ∧ y ≤ 127) (hm1 : H ≤ maxLen) (w : World) (h : ArgRow .i8 2 w v n z) (hx : ArgRow .i64 1 w x H p) :
    Calls Try.prog 7 #[.int .i64 start, .int .i64 cut, v, x] w fun e w' => e = .returned (.bool true) ∧ Below w.heap.size w w' := by
  obtain ⟨m, hm⟩ := firstNo_ex (dayP z) n
  obtain ⟨q, hq⟩ := firstNo_ex (goodB n p) H
  exact exactClippingsOf_walk start cut n v z H x p (folN n m (high2 start cut) H q (runC z p cut start n).length) (folV n m (high2 start cut) H q (runC z p cut start n)) (ClipsN_le hm _ (runC_le _ _ _ _ _)) (ClipsV_ints _ _ _ _ _ _ _ rfl) (planC n m (high2 start cut) H q) h.1 hm0 hx.1 hm1
    (fun hb hb2 w av aB bv bB ho hp => implClips_any aB n av (by omega) z h.1 hr m hm bB H bv (by omega) p (by simpa using hx.1) start cut q hq w ho hp) (fun hb hb2 w av aB bv bB ho hp => specClips_any aB n av (by omega) z h.1 hr m hm bB H bv (by omega) p (by simpa using hx.1) start cut q hq w ho hp) w h hx

end Go.Proofs.Ytbcbokpdcliimaa
