/- BestCut, of the model. -/
import Derived.Test.YtpjninnammddlaaBestCutI
namespace Go.Proofs.Ytpjninnammddlaa
open Go.RowKit
set_option linter.unusedVariables false
set_option linter.unusedSimpArgs false

theorem l03Mows_is (n : Int) (v : Bool) (h : upB n 30 = v) (w : World) :
    Calls Try.prog 27 #[.int .i64 n] w fun e w' => e = .returned (.bool v) ∧ w' = w := by
  have HV := Lib.hid h
  have HI := Lib.hid (fun w => l00In_is n 0 30 v (by rw [← h]; rfl) w)
  clear h
  go_enter Try.func27, Try.ntmps27
  go_wp2_with fail
  refine (HI.out _).mono ?_
  rintro e w1 ⟨rfl, rfl⟩
  go_wp2_with fail
  go_ret
  exact ⟨rfl, rfl⟩
/-- The model's test of a cut. -/
theorem cut_late {zs : List Int} {N q : Nat} {start most mows : Int} {c : Nat} (h30 : N ≤ 30) (hall : ∀ j, j < N → dayB zs j = true) (hmw : mows ≤ 30) (hq : FirstNo (lateB zs (c : Int) most start) N q) :
    cutB (growL zs N) start most mows c = (decide (q = N) && decide (((lateN zs (c : Int) most start N q : Nat) : Int) ≤ mows)) := by
  unfold cutB
  rw [few_late (growL zs N) start (by rw [growL_length]; exact h30) (fun g hg => by
    obtain ⟨j, hj, e⟩ := List.getElem_of_mem hg
    exact (growL_range hall j g (by rw [List.getElem?_eq_getElem hj, e])).1), lateO_is hq]
  unfold lateN
  by_cases e : q = N
  · simp only [if_pos e, fewO, decide_true, Bool.true_and]
    rw [show decide (q = N) = true from decide_eq_true e, Bool.true_and]
  · simp only [if_neg e, fewO]
    rw [show decide (q = N) = false from decide_eq_false e, Bool.false_and]
    exact decide_eq_false (by omega)

set_option maxRecDepth 100000 in
set_option maxHeartbeats 4000000 in
theorem specBestCut_bad (B N : Nat) (v : Value) (hN : N ≤ 2000000) (zs : List Int) (hz : zs.length = N * 2) (hzr : ∀ z ∈ zs, -128 ≤ z ∧ z ≤ 127) (m : Nat) (hm : FirstNo (dayP zs) N m) (start most mows : Int) (hne : askB N m (cutQ start most mows) = false) (w : World) (ho : w.ownsRow B 46 2 v N (intsV .i8 zs)) :
    Calls Try.prog 15 #[.int .i64 start, .int .i64 most, v, .int .i64 mows] w fun e w' => e = .returned (.tuple #[.int .i64 0, .int .i64 (askC N m (cutQ start most mows))]) ∧ Below w.heap.size w w' := by
  have HK := Lib.hid (fun fine => l03Asked_any B N v hN zs hz hzr m hm fine w ho)
  obtain ⟨av, cv, rfl⟩ := own_slice ho
  have hc := ask_bad hne
  clear ho hm hz hzr hne
  unfold cutQ high2 at hc ⊢
  cases h1 : upB start 200 <;> cases h2 : upB most 200 <;> cases h3 : upB mows 30 <;> simp only [h1, h2, h3, Bool.and_true, Bool.and_false, Bool.true_and, Bool.false_and] at hc ⊢ <;> rcases hc with hc | hc <;> rw [hc]
  all_goals
    have HC := Lib.hid hc
    clear hc
    go_enter Try.func15, Try.ntmps15
    go_wp2_with (first | (go_at_call 20; ((with_reducible refine (l03High_is start _ h1 _).mono ?_); rintro e w2 ⟨rfl, rfl⟩)) | (go_at_call 20; ((with_reducible refine (l03High_is most _ h2 _).mono ?_); rintro e w2 ⟨rfl, rfl⟩)) | (go_at_call 27; ((with_reducible refine (l03Mows_is mows _ h3 _).mono ?_); rintro e w2 ⟨rfl, rfl⟩)))
    refine (HK.out _).mono ?_
    rintro e w1 ⟨rfl, hb1⟩
    rw [HC.out]
    go_wp2_with fail
    go_ret2
    exact ⟨rfl, hb1⟩

set_option maxRecDepth 100000 in
set_option maxHeartbeats 4000000 in
theorem specBestCut_any (B N : Nat) (v : Value) (hN : N ≤ 2000000) (zs : List Int) (hz : zs.length = N * 2) (hzr : ∀ z ∈ zs, -128 ≤ z ∧ z ≤ 127) (hm : FirstNo (dayP zs) N N) (start most mows : Int) (hh : high2 start most = true) (hmw : upB mows 30 = true) (w : World) (ho : w.ownsRow B 46 2 v N (intsV .i8 zs)) :
    Calls Try.prog 15 #[.int .i64 start, .int .i64 most, v, .int .i64 mows] w fun e w' => e = .returned (.tuple #[.int .i64 (cutF (cutB (growL zs N) start most mows) 201).1, .int .i64 (cutF (cutB (growL zs N) start most mows) 201).2]) ∧ Below w.heap.size w w' := by
  have HK := Lib.hid (show Calls _ _ _ _ _ from by have h := l03Asked_any B N v hN zs hz hzr N hm true w ho; rw [show askC N N true = 0 by simp [askC]] at h; exact h)
  obtain ⟨r1, r2⟩ := high2_range hh
  have hall := (first_all hm).1 rfl
  have h30 := hall.1
  have hmw2 : mows ≤ 30 := by simp only [upB, Bool.and_eq_true, decide_eq_true_eq] at hmw; omega
  have HL := Lib.hid (show ∀ c : Nat, c ≤ 200 → ∃ d k, cutB (growL zs N) start most mows c = (d && decide (((k : Nat) : Int) ≤ mows)) ∧ ∀ w, w.ownsRow B 46 2 v N (intsV .i8 zs) → Calls Try.prog 21 #[.int .i64 start, .int .i64 (c : Int), .int .i64 most, v] w fun e w' => (∃ u xs, e = .returned (.tuple #[u, .bool d]) ∧ w'.ownsRow w.heap.size 2 1 u k xs) ∧ Below w.heap.size w w' from fun c hc => by
    obtain ⟨q, hq⟩ := firstNo_ex (lateB zs (c : Int) most start) N
    refine ⟨decide (q = N), lateN zs (c : Int) most start N q, cut_late h30 hall.2 hmw2 hq, fun w ho => ?_⟩
    refine (l03Late_any B N v hN zs hz hm start (c : Int) most r1 (by omega) r2 q hq w ho).mono ?_
    rintro e w' ⟨⟨u, rfl, hu⟩, hb⟩
    exact ⟨⟨u, _, rfl, hu⟩, hb⟩)
  have HO := Lib.hid ho
  obtain ⟨av, cv, rfl⟩ := own_slice ho
  simp only [high2, Bool.and_eq_true] at hh
  obtain ⟨h1, h2⟩ := hh
  have h3 := hmw
  obtain ⟨P, hP⟩ : ∃ P, cutB (growL zs N) start most mows = P := ⟨_, rfl⟩
  simp only [hP] at HL
  rw [hP]
  have HF : Hid (∀ c, cutF P (c + 1) = if P c = true then ((c : Int), 0) else cutF P c) := Lib.hid (fun c => rfl)
  have HF0 : Hid (cutF P 0 = (0, 6)) := Lib.hid rfl
  obtain ⟨F, hF⟩ : ∃ F, cutF P = F := ⟨_, rfl⟩
  rw [hF] at HF HF0 ⊢
  obtain ⟨a, ha⟩ : ∃ a, F 201 = a := ⟨_, rfl⟩
  have HA := Lib.hid ha
  rw [ha]
  obtain ⟨a1, a2⟩ := a
  dsimp only
  clear ho hm hz hzr r1 r2 hmw hall hP hF ha
  go_enter Try.func15, Try.ntmps15
  go_wp2_with (first | (go_at_call 20; ((with_reducible refine (l03High_is start _ h1 _).mono ?_); rintro e w2 ⟨rfl, rfl⟩)) | (go_at_call 20; ((with_reducible refine (l03High_is most _ h2 _).mono ?_); rintro e w2 ⟨rfl, rfl⟩)) | (go_at_call 27; ((with_reducible refine (l03Mows_is mows _ h3 _).mono ?_); rintro e w2 ⟨rfl, rfl⟩)))
  refine HK.out.mono ?_
  rintro e w1 ⟨rfl, hb1⟩
  have HO1 := Lib.hid (own_below HO.out hb1)
  clear HO
  go_wp2_with fail
  go_loopw [11] (fun x wr => ∃ (n : Nat) (z : Int), x = .int .i64 z ∧ z = (n : Int) - 1 ∧ n ≤ 201 ∧ F n = (a1, a2) ∧ Below w1.heap.size w1 wr) (fun x _ => (intOf x + 1).toNat)
  case atStart => exact ⟨201, 200, rfl, by omega, by omega, HA.out, Below.refl _ _⟩
  case round =>
    obtain ⟨n, z, rfl, hz, hn, hFn, hb⟩ := hrel
    have HFn := Lib.hid hFn
    clear hFn
    cases n with
    | zero =>
      have hd : decide (0 ≤ z) = false := by simp; omega
      have HV := Lib.hid (show a1 = 0 ∧ a2 = 6 by have := HFn.out; rw [HF0.out] at this; simp only [Prod.mk.injEq] at this; omega)
      have hbf := below_onto hb1 hb
      go_wp2_with fail
      go_ret2
      exact ⟨by rw [HV.out.1, HV.out.2]; rfl, hbf⟩
    | succ c =>
      have hzc : z = (c : Int) := by omega
      have hd : decide (0 ≤ z) = true := by simp; omega
      obtain ⟨d, k, hPc, hLc⟩ := HL.out c (by omega)
      rw [← hzc] at hLc
      have HLC := Lib.hid (hLc wr (own_below HO1.out hb))
      have HFn2 := Lib.hid (show (if P c = true then ((c : Int), 0) else F c) = (a1, a2) by rw [← HF.out c]; exact HFn.out)
      have hw1 : wrap64 (z - 1) = z - 1 := by unfold wrap64; omega
      have HZC := Lib.hid hzc
      have hsz := hb.size
      obtain ⟨pk, hpk⟩ : ∃ pk, decide ((k : Int) ≤ mows) = pk := ⟨_, rfl⟩
      rw [hpk] at hPc
      rw [hPc] at HFn2
      clear hPc hzc hz HL HF HA HFn hLc
      go_wp2_with fail
      refine HLC.out.mono ?_
      rintro e w3 ⟨⟨u, xs, rfl, hu⟩, hb3⟩
      have hb4 := hb.trans (hb3.mono hsz)
      obtain ⟨au, cu, rfl⟩ := own_slice hu
      clear hu hb hb3 HLC
      cases d with
      | false =>
        have HV := Lib.hid (show F c = (a1, a2) from HFn2.out)
        go_wp2_with fail
        go_roundw
        case rel => exact ⟨c, z - 1, by rw [hw1], by have := HZC.out; omega, by omega, HV.out, hb4⟩
        case measure =>
          have := HZC.out
          simp only [intOf, hw1]
          omega
      | true =>
        cases pk with
        | false =>
          have HV := Lib.hid (show F c = (a1, a2) from HFn2.out)
          go_wp2_with fail
          go_roundw
          case rel => exact ⟨c, z - 1, by rw [hw1], by have := HZC.out; omega, by omega, HV.out, hb4⟩
          case measure =>
            have := HZC.out
            simp only [intOf, hw1]
            omega
        | true =>
          have HV := Lib.hid (show a1 = z ∧ a2 = 0 by
            have h9 : ((c : Int), (0 : Int)) = (a1, a2) := HFn2.out
            simp only [Prod.mk.injEq] at h9
            have := HZC.out
            omega)
          have hbf := below_onto hb1 hb4
          go_wp2_with fail
          go_ret2
          exact ⟨by rw [HV.out.1, HV.out.2]; rfl, hbf⟩
end Go.Proofs.Ytpjninnammddlaa
