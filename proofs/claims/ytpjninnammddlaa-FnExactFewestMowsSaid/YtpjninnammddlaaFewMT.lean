/- FewestMows, of the model: the whole. -/
import Derived.Test.YtpjninnammddlaaFewMS
namespace Go.Proofs.Ytpjninnammddlaa
open Go.RowKit
set_option linter.unusedVariables false
set_option linter.unusedSimpArgs false

set_option maxRecDepth 100000 in
set_option maxHeartbeats 4000000 in
theorem specFewest_bad (B N : Nat) (v : Value) (hN : N ≤ 2000000) (zs : List Int) (hz : zs.length = N * 2) (hzr : ∀ z ∈ zs, -128 ≤ z ∧ z ≤ 127) (m : Nat) (hm : FirstNo (dayP zs) N m) (start cut most : Int) (hne : askB N m (high3 start cut most) = false) (w : World) (ho : w.ownsRow B 46 2 v N (intsV .i8 zs)) :
    Calls Try.prog 7 #[.int .i64 start, .int .i64 cut, .int .i64 most, v] w fun e w' => (∃ u, e = .returned (.tuple #[u, .int .i64 (askC N m (high3 start cut most))]) ∧ w'.ownsRow w.heap.size 2 1 u 0 []) ∧ Below w.heap.size w w' := by
  have HK := Lib.hid (fun fine => l03Asked_any B N v hN zs hz hzr m hm fine w ho)
  obtain ⟨av, cv, rfl⟩ := own_slice ho
  have hc := ask_bad hne
  clear ho hm hz hzr hne
  unfold high3 at hc ⊢
  cases h1 : upB start 200 <;> cases h2 : upB cut 200 <;> cases h3 : upB most 200 <;> simp only [h1, h2, h3, Bool.and_true, Bool.and_false, Bool.true_and, Bool.false_and] at hc ⊢ <;> rcases hc with hc | hc <;> rw [hc]
  all_goals
    have HC := Lib.hid hc
    clear hc
    go_enter Try.func7, Try.ntmps7
    go_wp2_with (first | (go_at_call 20; ((with_reducible refine (l03High_is start _ h1 _).mono ?_); rintro e w2 ⟨rfl, rfl⟩)) | (go_at_call 20; ((with_reducible refine (l03High_is cut _ h2 _).mono ?_); rintro e w2 ⟨rfl, rfl⟩)) | (go_at_call 20; ((with_reducible refine (l03High_is most _ h3 _).mono ?_); rintro e w2 ⟨rfl, rfl⟩)))
    refine (HK.out _).mono ?_
    rintro e w1 ⟨rfl, hb1⟩
    rw [HC.out]
    have hb2 := hb1.alloc hb1.size (.cells #[] 2)
    have HR0 := Lib.hid (ownsRow_low (World.ownsRow_made (e := 2) (size := 1) w1 #[] 0 (Nat.le_refl _) (by simp [maxLen]) rfl) hb1.size)
    go_wp2_with fail
    go_ret2
    exact ⟨⟨_, rfl, HR0.out⟩, hb2⟩

set_option maxRecDepth 100000 in
set_option maxHeartbeats 4000000 in
theorem specFewest_any (B N : Nat) (v : Value) (hN : N ≤ 2000000) (zs : List Int) (hz : zs.length = N * 2) (hzr : ∀ z ∈ zs, -128 ≤ z ∧ z ≤ 127) (hm : FirstNo (dayP zs) N N) (start cut most : Int) (hh : high3 start cut most = true) (w : World) (ho : w.ownsRow B 46 2 v N (intsV .i8 zs)) :
    Calls Try.prog 7 #[.int .i64 start, .int .i64 cut, .int .i64 most, v] w fun e w' => (∃ u, e = .returned (.tuple #[u, .int .i64 (if fewW cut most (growL zs N) start ≤ 30 then 0 else 6)]) ∧ w'.ownsRow w.heap.size 2 1 u (if fewW cut most (growL zs N) start ≤ 30 then (fmP cut most (growL zs N) start N).length else 0) (if fewW cut most (growL zs N) start ≤ 30 then intsV .i64 (fmP cut most (growL zs N) start N) else [])) ∧ Below w.heap.size w w' := by
  have HK := Lib.hid (show Calls _ _ _ _ _ from by have h := l03Asked_any B N v hN zs hz hzr N hm true w ho; rw [show askC N N true = 0 by simp [askC]] at h; exact h)
  obtain ⟨r1, r2, r3⟩ := high3_range hh
  have hall := (first_all hm).1 rfl
  obtain ⟨q, hq⟩ := firstNo_ex (lateB zs cut most start) N
  have hfl := few_late (cut := cut) (most := most) (growL zs N) start (by rw [growL_length]; exact hall.1) (fun g hg => by
    obtain ⟨j, hj, e⟩ := List.getElem_of_mem hg
    exact (growL_range hall.2 j g (by rw [List.getElem?_eq_getElem hj, e])).1)
  rw [lateO_is hq] at hfl
  have hd : decide (q = N) = true ↔ fewW cut most (growL zs N) start ≤ 30 := by
    rw [hfl, decide_eq_true_iff]
    constructor
    · intro e
      rw [if_pos e]
      have := lateP_le zs cut most start N
      simp only [fewO]
      omega
    · intro h
      rcases Nat.decEq q N with e | e
      · rw [if_neg e] at h
        simp only [fewO] at h
        omega
      · exact e
  have HL := Lib.hid (fun w ho => l03Late_any B N v hN zs hz hm start cut most r1 r2 r3 q hq w ho)
  have HFW := Lib.hid (fun hF w ho => l03Few_any B N v hN zs hz hm start cut most r1 r2 r3 hF w ho)
  have HO := Lib.hid ho
  obtain ⟨av, cv, rfl⟩ := own_slice ho
  simp only [high3, Bool.and_eq_true] at hh
  obtain ⟨⟨h1, h2⟩, h3⟩ := hh
  obtain ⟨FP, hFP⟩ : ∃ l, fmP cut most (growL zs N) start N = l := ⟨_, rfl⟩
  obtain ⟨F, hF⟩ : ∃ x, fewW cut most (growL zs N) start = x := ⟨_, rfl⟩
  rw [hFP] at HFW
  simp only [hF] at HFW hd
  rw [hF, hFP]
  obtain ⟨d, hdd⟩ : ∃ d, decide (q = N) = d := ⟨_, rfl⟩
  rw [hdd] at HL hd
  have HD := Lib.hid hd
  obtain ⟨cZ, hcZ⟩ : ∃ c : Int, (if F ≤ 30 then (0 : Int) else 6) = c := ⟨_, rfl⟩
  obtain ⟨nZ, hnZ⟩ : ∃ n : Nat, (if F ≤ 30 then FP.length else 0) = n := ⟨_, rfl⟩
  obtain ⟨xZ, hxZ⟩ : ∃ l : List Value, (if F ≤ 30 then intsV .i64 FP else []) = l := ⟨_, rfl⟩
  rw [hcZ, hnZ, hxZ]
  have HC1 := Lib.hid hcZ
  have HC2 := Lib.hid hnZ
  have HC3 := Lib.hid hxZ
  clear hcZ hnZ hxZ
  clear ho hm hz hzr r1 r2 r3 hq hall hfl hFP hF hdd hd
  go_enter Try.func7, Try.ntmps7
  go_wp2_with (first | (go_at_call 20; ((with_reducible refine (l03High_is start _ h1 _).mono ?_); rintro e w2 ⟨rfl, rfl⟩)) | (go_at_call 20; ((with_reducible refine (l03High_is cut _ h2 _).mono ?_); rintro e w2 ⟨rfl, rfl⟩)) | (go_at_call 20; ((with_reducible refine (l03High_is most _ h3 _).mono ?_); rintro e w2 ⟨rfl, rfl⟩)))
  refine HK.out.mono ?_
  rintro e w1 ⟨rfl, hb1⟩
  have HO1 := Lib.hid (own_below HO.out hb1)
  clear HO
  go_wp2_with fail
  refine (HL.out w1 HO1.out).mono ?_
  rintro e w2 ⟨⟨u, rfl, hu⟩, hb2⟩
  have hb3 := below_onto hb1 hb2
  have HO2 := Lib.hid (own_below HO1.out hb2)
  obtain ⟨au, cu, rfl⟩ := own_slice hu
  clear hu hb2 HL hb1 HO1
  cases d
  · have hne : ¬ F ≤ 30 := fun h => by have := HD.out.2 h; cases this
    have hb4 := hb3.alloc hb3.size (.cells #[] 2)
    have HR0 := Lib.hid (ownsRow_low (World.ownsRow_made (e := 2) (size := 1) w2 #[] 0 (Nat.le_refl _) (by simp [maxLen]) rfl) hb3.size)
    have HNE := Lib.hid hne
    clear hne
    go_wp2_with fail
    go_ret2
    have hnf : ¬ F ≤ 30 := by have := HNE.out; omega
    have e1 : cZ = 6 := by rw [← HC1.out, if_neg hnf]
    have e2 : nZ = 0 := by rw [← HC2.out, if_neg hnf]
    have e3 : xZ = [] := by rw [← HC3.out, if_neg hnf]
    rw [e1, e2, e3]
    exact ⟨⟨_, rfl, HR0.out⟩, hb4⟩
  · have HNE := Lib.hid (HD.out.1 rfl)
    have HFC := Lib.hid (HFW.out HNE.out w2 HO2.out)
    clear HFW HO2
    go_wp2_with fail
    refine HFC.out.mono ?_
    rintro e w3 ⟨⟨v3, rfl, hv3⟩, hb4⟩
    have hb5 := below_onto hb3 hb4
    have HV3 := Lib.hid (ownsRow_low hv3 hb3.size)
    clear hv3 hb4 hb3 HFC
    go_wp2_with fail
    go_ret2
    have hnf : F ≤ 30 := by have := HNE.out; omega
    have e1 : cZ = 0 := by rw [← HC1.out, if_pos hnf]
    have e2 : nZ = FP.length := by rw [← HC2.out, if_pos hnf]
    have e3 : xZ = intsV .i64 FP := by rw [← HC3.out, if_pos hnf]
    rw [e1, e2, e3]
    exact ⟨⟨_, rfl, HV3.out⟩, hb5⟩
end Go.Proofs.Ytpjninnammddlaa
