/- The law on ReadWeather. -/
import Derived.Test.YthfhpcigjnjkdaaDoorEqWeatherS
import Derived.Test.YthfhpcigjnjkdaaDoorMarkWeatherS
import Derived.Test.YthfhpcigjnjkdaaDoorSizeL
import Derived.Test.YthfhpcigjnjkdaaDoorIReadWeather
namespace Go.Proofs.YthfhpcigjnjkdaaDoor
open Go.RowKit
set_option linter.unusedVariables false

set_option maxRecDepth 100000 in
set_option maxHeartbeats 4000000 in
theorem exactReadWeather_walk (s : ByteArray) (m : Int) (n : Nat) (xs : List Value) (hn1 : n ≤ 1000000) (hx : ∀ j, j < n * 2 → ∃ z, xs[j]? = some (.int .i8 z))
    (HI0 : s.size ≤ 1048576 → ∀ w : World, ErrsUp w → Calls Tryd.prog 23 #[.string s] w fun e w' => (∃ v, e = .returned (.tuple #[v, .int .i64 m]) ∧ w'.ownsRow w.heap.size 93 2 v n (xs)) ∧ Below w.heap.size w w')
    (HS0 : s.size ≤ 1048576 → ∀ w : World, Calls Tryd.prog 22 #[.string s] w fun e w' => (∃ v, e = .returned (.tuple #[v, .int .i64 m]) ∧ w'.ownsRow w.heap.size 93 2 v n (xs)) ∧ Below w.heap.size w w') (w : World) (hE : ErrsUp w) :
    Calls Tryd.prog 5 #[.string s] w fun e w' => e = .returned (.bool true) ∧ Below w.heap.size w w' := by
  have HX := Lib.hid hx
  clear hx
  have HE := Lib.hid hE
  clear hE
  by_cases hl : 1048576 < s.size
  · have hd : decide ((1048576 : Int) < (s.size : Int)) = true := by simp; omega
    clear HI0 HS0
    go_enter Tryd.func5, Tryd.ntmps5
    go_wp2_with fail
    go_ret
    exact ⟨rfl, Below.refl _ _⟩
  have hd : decide ((1048576 : Int) < (s.size : Int)) = false := by simp; omega
  have HI := Lib.hid (HI0 (by omega))
  have HS := Lib.hid (HS0 (by omega))
  clear HI0 HS0 hl
  go_enter Tryd.func5, Tryd.ntmps5
  go_wp2_with fail
  refine (HS.out w).mono ?_
  rintro e w1 ⟨⟨vs, rfl, os⟩, hb1⟩
  obtain ⟨Bvs, hBvs⟩ : ∃ B, w.heap.size = B := ⟨_, rfl⟩
  have lBvs := hb1.size
  rw [hBvs] at os
  have OS := Lib.hid os
  clear os
  go_wp2_with fail
  refine (HI.out w1 (HE.out.below hb1 (Nat.le_refl _))).mono ?_
  rintro e w2 ⟨⟨vg, rfl, og⟩, hb2⟩
  have hb3 := below_onto hb1 hb2
  have OS2 := Lib.hid (own_below OS.out hb2)
  obtain ⟨Bvg, hBvg⟩ : ∃ B, w1.heap.size = B := ⟨_, rfl⟩
  rw [hBvg] at og
  have hap := own_apart OS.out (Nat.le_of_eq hBvg) og
  have lBvg : w.heap.size ≤ Bvg := by omega
  have OG := Lib.hid og
  clear hb1 hb2 og OS hBvg hBvs lBvs
  go_wp2_with fail
  refine (eqWeatherS_same n xs (by omega) HX.out _ _ _ _ _ OG.out OS2.out).mono ?_
  rintro e w5 ⟨rfl, q⟩
  have OS3 := Lib.hid (own_below OS2.out q)
  have OG3 := Lib.hid (own_below OG.out q)
  have hb6 := below_onto hb3 q
  clear hb3 q OS2 OG
  go_wp2_with fail
  obtain ⟨M, hM⟩ : ∃ M, 1 + 2 * n = M := ⟨_, rfl⟩
  refine (markWeatherS_one Bvg n M _ _ _ (by omega) hM OG3.out).mono ?_
  rintro e w6 ⟨rfl, om, hgr⟩
  have OS4 := Lib.hid (OS3.out.kept hgr hap)
  have OM := Lib.hid om
  have hb7 := below_marked hb6 OG3.out hgr lBvg hb6.size
  have d1 : decide ((M : Int) < 0) = false := by simp
  clear hb6 om hgr hap OS3 OG3
  go_wp2_with fail
  refine (heldWeatherS_one Bvg n M _ _ (by omega) hM OM.out).mono ?_
  rintro e w7 ⟨rfl, q⟩
  have OS5 := Lib.hid (own_below OS4.out q)
  have OM2 := Lib.hid (own_below OM.out q)
  have hb8 := below_onto hb7 q
  clear hb7 q OS4 OM
  go_wp2_with fail
  refine (HI.out w7 (HE.out.below hb8 (Nat.le_refl _))).mono ?_
  rintro e w8 ⟨⟨vh, rfl, oh⟩, q⟩
  obtain ⟨Bvh, hBvh⟩ : ∃ B, w7.heap.size = B := ⟨_, rfl⟩
  rw [hBvh] at oh
  have hb9 := below_onto hb8 q
  have OS6 := Lib.hid (own_below OS5.out q)
  have OM3 := Lib.hid (own_below OM2.out q)
  have OH := Lib.hid oh
  clear hb8 q oh OS5 OM2 hBvh
  go_wp2_with fail
  refine (eqWeatherS_same n xs (by omega) HX.out _ _ _ _ _ OH.out OS6.out).mono ?_
  rintro e w9 ⟨rfl, q⟩
  have OM4 := Lib.hid (own_below OM3.out q)
  have hb10 := below_onto hb9 q
  clear hb9 q OM3 OH OS6
  go_wp2_with fail
  refine (heldWeatherS_one Bvg n M _ _ (by omega) hM OM4.out).mono ?_
  rintro e w10 ⟨rfl, q⟩
  have hb11 := below_onto hb10 q
  clear hb10 q OM4
  go_wp2_with fail
  go_ret
  exact ⟨rfl, hb11⟩

theorem exactReadWeather (s : ByteArray) (w : World) (hE : ErrsUp w) :
    Calls Tryd.prog 5 #[.string s] w fun e w' => e = .returned (.bool true) ∧ Below w.heap.size w w' := by
  have hn : (rdQ readWeather s.data.toList).length ≤ 30 := by
    unfold rdQ
    split
    · simp
    · cases h : readWeather s.data.toList with
      | none => simp
      | some qs =>
        unfold readWeather readL at h
        obtain ⟨bs, hb, h⟩ := Option.bind_eq_some_iff.1 h
        split at h
        · cases h; assumption
        · cases h
  exact exactReadWeather_walk s (rdC readWeather s.data.toList) _ (prV (rdQ readWeather s.data.toList)) (by omega) (prV_ints rfl) (fun h w hE => ireadWeather_any s h w hE) (fun h w => sreadWeather_any s h w) w hE
end Go.Proofs.YthfhpcigjnjkdaaDoor
