/- WeatherText, of both sides. -/
import Derived.Test.YthfhpcigjnjkdaaDoorSTextWeather
import Derived.Test.YthfhpcigjnjkdaaDoorITextWeather
import Derived.Test.YthfhpcigjnjkdaaDoorSGrowth
namespace Go.Proofs.YthfhpcigjnjkdaaDoor
open Go.RowKit
set_option linter.unusedVariables false

/-- The text of weather. -/
def weatherS (qs : List (Int × Int)) : ByteArray := ⟨(lineL (pairT 47) (pairOk 50 40) 30 qs).toArray⟩
theorem weather_ok {zs : List Int} {n m : Nat} (hm : FirstNo (dayP zs) n m) : m = n ↔ n ≤ 30 ∧ ∀ a ∈ pairsZ zs n, pairOk 50 40 a = true := by
  rw [first_all hm]
  refine ⟨fun ⟨h1, h2⟩ => ⟨h1, fun a ha => ?_⟩, fun ⟨h1, h2⟩ => ⟨h1, fun j hj => ?_⟩⟩
  · simp only [pairsZ, List.mem_map, List.mem_range] at ha
    obtain ⟨j, hj, rfl⟩ := ha
    exact h2 j hj
  · exact h2 _ (List.mem_map.2 ⟨j, List.mem_range.2 hj, rfl⟩)
theorem weatherS_good {zs : List Int} {n m : Nat} (hm : FirstNo (dayP zs) n m) (h : m = n) : weatherS (pairsZ zs n) = ⟨(joinS 32 ((pairsZ zs n).map (pairT 47))).toArray⟩ := by
  obtain ⟨h1, h2⟩ := (weather_ok hm).1 h
  unfold weatherS
  rw [lineL_good h2 (by rw [pairsZ_length]; exact h1)]
theorem weatherS_bad {zs : List Int} {n m : Nat} (hm : FirstNo (dayP zs) n m) (h : m ≠ n) : weatherS (pairsZ zs n) = ⟨#[]⟩ := by
  unfold weatherS lineL
  rw [if_neg]
  simp only [Bool.and_eq_true, List.all_eq_true, decide_eq_true_eq, pairsZ_length]
  exact fun ⟨h1, h2⟩ => h ((weather_ok hm).2 ⟨h2, h1⟩)

set_option maxRecDepth 100000 in
set_option maxHeartbeats 1000000 in
theorem specWText_any (B N : Nat) (v : Value) (hN : N ≤ 2000000) (zs : List Int) (hz : zs.length = N * 2) (hzr : ∀ z ∈ zs, -128 ≤ z ∧ z ≤ 127) (w : World) (ho : w.ownsRow B 93 2 v N (intsV .i8 zs)) :
    Calls Tryd.prog 18 #[v] w fun e w' => e = .returned (.string (weatherS (pairsZ zs N))) ∧ Below w.heap.size w w' := by
  obtain ⟨m, hm⟩ := firstNo_ex (dayP zs) N
  have HK := Lib.hid (l03Ok_any B N v hN zs hz hzr m hm w ho)
  have HR := Lib.hid (pairsZ_row hz)
  obtain ⟨av, cv, rfl⟩ := own_slice ho
  by_cases e : m = N
  · have HS := Lib.hid (weatherS_good hm e)
    obtain ⟨h1, h2⟩ := (weather_ok hm).1 e
    have HT := Lib.hid (fun w' (ho' : w'.ownsRow B 93 2 (.slice av N cv) N (prV (pairsZ zs N))) => stextWeather_any B (pairsZ zs N) N (pairsZ_length _ _) h1 h2 _ w' ho')
    rw [decide_eq_true e] at HK
    have HO := Lib.hid ho
    obtain ⟨q, hq⟩ : ∃ q, pairsZ zs N = q := ⟨_, rfl⟩
    rw [hq] at HT HS HR ⊢
    clear ho hm hz hzr e hq h1 h2
    go_enter Tryd.func18, Tryd.ntmps18
    go_wp2_with fail
    refine HK.out.mono ?_
    rintro e w2 ⟨rfl, hb⟩
    have ho := own_below HO.out hb
    rw [HR.out] at ho
    go_wp2_with fail
    refine (HT.out _ ho).mono ?_
    rintro e w3 ⟨rfl, hb3⟩
    have hb4 := below_onto hb hb3
    go_wp2_with fail
    go_ret
    exact ⟨by rw [HS.out]; rfl, hb4⟩
  · have HS := Lib.hid (weatherS_bad hm e)
    rw [decide_eq_false e] at HK
    clear ho hm hz hzr e
    go_enter Tryd.func18, Tryd.ntmps18
    go_wp2_with fail
    refine HK.out.mono ?_
    rintro e w2 ⟨rfl, hb⟩
    go_wp2_with fail
    go_ret
    exact ⟨by rw [HS.out]; rfl, hb⟩

set_option maxRecDepth 100000 in
set_option maxHeartbeats 1000000 in
theorem implWText_any (B N : Nat) (v : Value) (hN : N ≤ 2000000) (zs : List Int) (hz : zs.length = N * 2) (hzr : ∀ z ∈ zs, -128 ≤ z ∧ z ≤ 127) (w : World) (ho : w.ownsRow B 93 2 v N (intsV .i8 zs)) :
    Calls Tryd.prog 20 #[v] w fun e w' => e = .returned (.string (weatherS (pairsZ zs N))) ∧ Below w.heap.size w w' := by
  obtain ⟨m, hm⟩ := firstNo_ex (dayP zs) N
  have hK := implValidW_any B N v hN zs hz hzr m hm w ho
  by_cases e : m = N
  · rw [decide_eq_true e] at hK
    obtain ⟨h1, h2⟩ := (weather_ok hm).1 e
    rw [weatherS_good hm e]
    rw [pairsZ_row hz] at ho
    exact itextWeather_good B (pairsZ zs N) N (pairsZ_length _ _) h1 h2 v w ho hK
  · rw [decide_eq_false e] at hK
    have HK := Lib.hid hK
    have HS := Lib.hid (weatherS_bad hm e)
    obtain ⟨av, cv, rfl⟩ := own_slice ho
    clear ho hm hz hzr e hK
    go_enter Tryd.func20, Tryd.ntmps20
    go_wp2_with fail
    refine HK.out.mono ?_
    rintro e w2 ⟨rfl, hb⟩
    go_wp2_with fail
    go_ret
    exact ⟨by rw [HS.out]; rfl, hb⟩
end Go.Proofs.YthfhpcigjnjkdaaDoor
