/- HeightsOf and ClippingsOf, of the program and of the model. -/
import Derived.Test.YtbcbokpdcliimaaFollow
namespace Go.Proofs.Ytbcbokpdcliimaa
open Go.RowKit
set_option linter.unusedVariables false
set_option linter.unusedSimpArgs false

theorem plan_bad {N m H q : Nat} {b : Bool} (h : planB N m b H q = false) : planC N m b H q = 1 ∨ planC N m b H q = 2 ∨ planC N m b H q = 4 := by
  unfold planC
  unfold planB at h
  cases e : askB N m b
  · rcases ask_bad e with h' | h' <;> simp [h']
  · rw [e, Bool.true_and, decide_eq_false_iff_not] at h
    simp [h]
def folN (N m : Nat) (b : Bool) (H q n : Nat) : Nat := if planB N m b H q then n else 0
def folV (N m : Nat) (b : Bool) (H q : Nat) (l : List Int) : List Value := if planB N m b H q then intsV .i64 l else []

theorem follow_all (B N : Nat) (v : Value) (hN : N ≤ 2000000) (zs : List Int) (hz : zs.length = N * 2) (hzr : ∀ z ∈ zs, -128 ≤ z ∧ z ≤ 127) (m : Nat) (hm : FirstNo (dayP zs) N m) (B2 H : Nat) (x : Value) (hH : H ≤ 2000000) (ps : List Int) (hl : ps.length = H) (start cut : Int) (q : Nat) (hq : FirstNo (goodB N ps) H q) (w : World) (ho : w.ownsRow B 40 2 v N (intsV .i8 zs)) (hx : w.ownsRow B2 2 1 x H (intsV .i64 ps)) :
    Calls Try.prog 55 #[.int .i64 start, .int .i64 cut, v, x] w fun e w' => (∃ u y, e = .returned (.tuple #[u, y, .int .i64 (planC N m (high2 start cut) H q)]) ∧ w'.ownsRow w.heap.size 2 1 u (folN N m (high2 start cut) H q N) (folV N m (high2 start cut) H q (runL zs ps cut start N)) ∧ w'.ownsRow w.heap.size 2 1 y (folN N m (high2 start cut) H q (runC zs ps cut start N).length) (folV N m (high2 start cut) H q (runC zs ps cut start N))) ∧ Below w.heap.size w w' := by
  cases ha : askB N m (high2 start cut)
  · have e : planB N m (high2 start cut) H q = false := by simp [planB, ha]
    have e2 : planC N m (high2 start cut) H q = askC N m (high2 start cut) := by simp [planC, ha]
    simp only [folN, folV, e, e2, Bool.false_eq_true, if_false]
    refine (follow_bad B N v hN zs hz hzr m hm B2 H x hH ps hl start cut ha w ho hx).mono ?_
    rintro e w' ⟨rfl, hb⟩
    exact ⟨⟨_, _, rfl, World.ownsRow_nil _ _ _ _, World.ownsRow_nil _ _ _ _⟩, hb⟩
  · by_cases hqH : q = H
    · subst hqH
      have e : planB N m (high2 start cut) q q = true := by simp [planB, ha]
      have e2 : planC N m (high2 start cut) q q = 0 := by simp [planC, ha]
      simp only [folN, folV, e, e2, if_true]
      exact follow_any B N v hN zs hz hzr m hm B2 q x hH ps hl start cut ha hq w ho hx
    · have e : planB N m (high2 start cut) H q = false := by simp [planB, ha, hqH]
      have e2 : planC N m (high2 start cut) H q = 4 := by simp [planC, ha, hqH]
      simp only [folN, folV, e, e2, Bool.false_eq_true, if_false]
      refine (follow_plan B N v hN zs hz hzr m hm B2 H x hH ps hl start cut ha q hq hqH w ho hx).mono ?_
      rintro e w' ⟨rfl, hb⟩
      exact ⟨⟨_, _, rfl, World.ownsRow_nil _ _ _ _, World.ownsRow_nil _ _ _ _⟩, hb⟩

set_option maxRecDepth 100000 in
set_option maxHeartbeats 4000000 in
theorem implHeights_any (B N : Nat) (v : Value) (hN : N ≤ 2000000) (zs : List Int) (hz : zs.length = N * 2) (hzr : ∀ z ∈ zs, -128 ≤ z ∧ z ≤ 127) (m : Nat) (hm : FirstNo (dayP zs) N m) (B2 H : Nat) (x : Value) (hH : H ≤ 2000000) (ps : List Int) (hl : ps.length = H) (start cut : Int) (q : Nat) (hq : FirstNo (goodB N ps) H q) (w : World) (ho : w.ownsRow B 40 2 v N (intsV .i8 zs)) (hx : w.ownsRow B2 2 1 x H (intsV .i64 ps)) :
    Calls Try.prog 30 #[.int .i64 start, .int .i64 cut, v, x] w fun e w' => (∃ u, e = .returned (.tuple #[u, .int .i64 (planC N m (high2 start cut) H q)]) ∧ w'.ownsRow w.heap.size 2 1 u (folN N m (high2 start cut) H q N) (folV N m (high2 start cut) H q (runL zs ps cut start N))) ∧ Below w.heap.size w w' := by
  have HK := Lib.hid (follow_all B N v hN zs hz hzr m hm B2 H x hH ps hl start cut q hq w ho hx)
  obtain ⟨av, cv, rfl⟩ := own_slice ho
  obtain ⟨ax, cx, rfl⟩ := own_slice hx
  clear ho hx hm hz hzr hl hq
  obtain ⟨c, hc⟩ : ∃ c, planC N m (high2 start cut) H q = c := ⟨_, rfl⟩
  rw [hc] at HK ⊢
  clear hc
  go_enter Try.func30, Try.ntmps30
  go_wp2_with fail
  refine HK.out.mono ?_
  rintro e w1 ⟨⟨u, y, rfl, hu, -⟩, hb1⟩
  have HU := Lib.hid hu
  obtain ⟨au, cu, rfl⟩ := own_slice hu
  clear hu HK
  go_wp2_with fail
  go_ret2
  exact ⟨⟨_, rfl, HU.out⟩, hb1⟩

set_option maxRecDepth 100000 in
set_option maxHeartbeats 4000000 in
theorem specHeights_bad (B N : Nat) (v : Value) (hN : N ≤ 2000000) (zs : List Int) (hz : zs.length = N * 2) (hzr : ∀ z ∈ zs, -128 ≤ z ∧ z ≤ 127) (m : Nat) (hm : FirstNo (dayP zs) N m) (B2 H : Nat) (x : Value) (hH : H ≤ 2000000) (ps : List Int) (hl : ps.length = H) (start cut : Int) (q : Nat) (hq : FirstNo (goodB N ps) H q) (hne : planB N m (high2 start cut) H q = false) (w : World) (ho : w.ownsRow B 40 2 v N (intsV .i8 zs)) (hx : w.ownsRow B2 2 1 x H (intsV .i64 ps)) :
    Calls Try.prog 28 #[.int .i64 start, .int .i64 cut, v, x] w fun e w' => (∃ u, e = .returned (.tuple #[u, .int .i64 (planC N m (high2 start cut) H q)]) ∧ w'.ownsRow w.heap.size 2 1 u 0 []) ∧ Below w.heap.size w w' := by
  have HK := Lib.hid (fun fine => l03Planned_any B N v hN zs hz hzr m hm B2 H x hH ps hl q hq fine w ho hx)
  obtain ⟨av, cv, rfl⟩ := own_slice ho
  obtain ⟨ax, cx, rfl⟩ := own_slice hx
  have hc := plan_bad hne
  clear ho hx hm hz hzr hl hq hne
  unfold high2 at hc ⊢
  cases h1 : upB start 200 <;> cases h2 : upB cut 200 <;> simp only [h1, h2, Bool.and_true, Bool.and_false, Bool.true_and, Bool.false_and] at hc ⊢ <;> rcases hc with hc | hc | hc <;> rw [hc]
  all_goals
    have HC := Lib.hid hc
    clear hc
    go_enter Try.func28, Try.ntmps28
    go_wp2_with (first | (go_at_call 53; ((with_reducible refine (l03High_is start _ h1 _).mono ?_); rintro e w2 ⟨rfl, rfl⟩)) | (go_at_call 53; ((with_reducible refine (l03High_is cut _ h2 _).mono ?_); rintro e w2 ⟨rfl, rfl⟩)))
    refine (HK.out _).mono ?_
    rintro e w1 ⟨rfl, hb1⟩
    rw [HC.out]
    have hb2 := hb1.alloc hb1.size (.cells #[] 2)
    have HR0 := Lib.hid (ownsRow_low (World.ownsRow_made (e := 2) (size := 1) w1 #[] 0 (Nat.le_refl _) (by simp [maxLen]) rfl) hb1.size)
    go_wp2_with fail
    go_ret2
    exact ⟨⟨_, rfl, HR0.out⟩, hb2⟩

set_option maxRecDepth 100000 in
set_option maxHeartbeats 4000000 in
theorem specHeights_any (B N : Nat) (v : Value) (hN : N ≤ 2000000) (zs : List Int) (hz : zs.length = N * 2) (hzr : ∀ z ∈ zs, -128 ≤ z ∧ z ≤ 127) (m : Nat) (hm : FirstNo (dayP zs) N m) (B2 H : Nat) (x : Value) (hH : H ≤ 2000000) (ps : List Int) (hl : ps.length = H) (start cut : Int) (q : Nat) (hq : FirstNo (goodB N ps) H q) (w : World) (ho : w.ownsRow B 40 2 v N (intsV .i8 zs)) (hx : w.ownsRow B2 2 1 x H (intsV .i64 ps)) :
    Calls Try.prog 28 #[.int .i64 start, .int .i64 cut, v, x] w fun e w' => (∃ u, e = .returned (.tuple #[u, .int .i64 (planC N m (high2 start cut) H q)]) ∧ w'.ownsRow w.heap.size 2 1 u (folN N m (high2 start cut) H q N) (folV N m (high2 start cut) H q (runL zs ps cut start N))) ∧ Below w.heap.size w w' := by
  cases hp : planB N m (high2 start cut) H q
  · simp only [folN, folV, hp, Bool.false_eq_true, if_false]
    exact specHeights_bad B N v hN zs hz hzr m hm B2 H x hH ps hl start cut q hq hp w ho hx
  · simp only [folN, folV, hp, if_true]
    obtain ⟨rfl, hfine, rfl, hc⟩ := plan_good hp
    rw [hc]
    have hr := high2_range hfine
    have hk := l03Planned_any B m v hN zs hz hzr m hm B2 q x hH ps hl q hq (high2 start cut) w ho hx
    rw [hc] at hk
    simp only [high2, Bool.and_eq_true] at hfine
    obtain ⟨h1, h2⟩ := hfine
    simp only [high2, h1, h2, Bool.and_true] at hk
    have HK := Lib.hid hk
    have HR := Lib.hid (fun W hW hX => l03Run_any B m v hN zs hz hm B2 q x hH ps hl start cut hr.1 hr.2 W hW hX)
    have HO := Lib.hid (And.intro ho hx)
    obtain ⟨av, cv, rfl⟩ := own_slice ho
    obtain ⟨ax, cx, rfl⟩ := own_slice hx
    clear ho hx hm hz hzr hl hq hp hr hk hc
    go_enter Try.func28, Try.ntmps28
    go_wp2_with (first | (go_at_call 53; ((with_reducible refine (l03High_is start _ h1 _).mono ?_); rintro e w2 ⟨rfl, rfl⟩)) | (go_at_call 53; ((with_reducible refine (l03High_is cut _ h2 _).mono ?_); rintro e w2 ⟨rfl, rfl⟩)))
    refine HK.out.mono ?_
    rintro e w3 ⟨rfl, hb1⟩
    have HO1 := Lib.hid (own_below HO.out.1 hb1)
    have HX1 := Lib.hid (own_below HO.out.2 hb1)
    clear HO HK
    go_wp2_with fail
    refine (HR.out _ HO1.out HX1.out).mono ?_
    rintro e w4 ⟨⟨u, y, rfl, hu, -⟩, hb2⟩
    have hb3 := below_onto hb1 hb2
    have HU := Lib.hid (ownsRow_low hu hb1.size)
    obtain ⟨au, cu, rfl⟩ := own_slice hu
    clear hu hb1 hb2 HO1 HX1 HR
    go_wp2_with fail
    go_ret2
    exact ⟨⟨_, rfl, HU.out⟩, hb3⟩

set_option maxRecDepth 100000 in
set_option maxHeartbeats 4000000 in
theorem implClips_any (B N : Nat) (v : Value) (hN : N ≤ 2000000) (zs : List Int) (hz : zs.length = N * 2) (hzr : ∀ z ∈ zs, -128 ≤ z ∧ z ≤ 127) (m : Nat) (hm : FirstNo (dayP zs) N m) (B2 H : Nat) (x : Value) (hH : H ≤ 2000000) (ps : List Int) (hl : ps.length = H) (start cut : Int) (q : Nat) (hq : FirstNo (goodB N ps) H q) (w : World) (ho : w.ownsRow B 40 2 v N (intsV .i8 zs)) (hx : w.ownsRow B2 2 1 x H (intsV .i64 ps)) :
    Calls Try.prog 32 #[.int .i64 start, .int .i64 cut, v, x] w fun e w' => (∃ u, e = .returned (.tuple #[u, .int .i64 (planC N m (high2 start cut) H q)]) ∧ w'.ownsRow w.heap.size 2 1 u (folN N m (high2 start cut) H q (runC zs ps cut start N).length) (folV N m (high2 start cut) H q (runC zs ps cut start N))) ∧ Below w.heap.size w w' := by
  have HK := Lib.hid (follow_all B N v hN zs hz hzr m hm B2 H x hH ps hl start cut q hq w ho hx)
  obtain ⟨av, cv, rfl⟩ := own_slice ho
  obtain ⟨ax, cx, rfl⟩ := own_slice hx
  clear ho hx hm hz hzr hl hq
  obtain ⟨c, hc⟩ : ∃ c, planC N m (high2 start cut) H q = c := ⟨_, rfl⟩
  rw [hc] at HK ⊢
  clear hc
  go_enter Try.func32, Try.ntmps32
  go_wp2_with fail
  refine HK.out.mono ?_
  rintro e w1 ⟨⟨y, u, rfl, -, hu⟩, hb1⟩
  have HU := Lib.hid hu
  obtain ⟨au, cu, rfl⟩ := own_slice hu
  clear hu HK
  go_wp2_with fail
  go_ret2
  exact ⟨⟨_, rfl, HU.out⟩, hb1⟩

set_option maxRecDepth 100000 in
set_option maxHeartbeats 4000000 in
theorem specClips_bad (B N : Nat) (v : Value) (hN : N ≤ 2000000) (zs : List Int) (hz : zs.length = N * 2) (hzr : ∀ z ∈ zs, -128 ≤ z ∧ z ≤ 127) (m : Nat) (hm : FirstNo (dayP zs) N m) (B2 H : Nat) (x : Value) (hH : H ≤ 2000000) (ps : List Int) (hl : ps.length = H) (start cut : Int) (q : Nat) (hq : FirstNo (goodB N ps) H q) (hne : planB N m (high2 start cut) H q = false) (w : World) (ho : w.ownsRow B 40 2 v N (intsV .i8 zs)) (hx : w.ownsRow B2 2 1 x H (intsV .i64 ps)) :
    Calls Try.prog 31 #[.int .i64 start, .int .i64 cut, v, x] w fun e w' => (∃ u, e = .returned (.tuple #[u, .int .i64 (planC N m (high2 start cut) H q)]) ∧ w'.ownsRow w.heap.size 2 1 u 0 []) ∧ Below w.heap.size w w' := by
  have HK := Lib.hid (fun fine => l03Planned_any B N v hN zs hz hzr m hm B2 H x hH ps hl q hq fine w ho hx)
  obtain ⟨av, cv, rfl⟩ := own_slice ho
  obtain ⟨ax, cx, rfl⟩ := own_slice hx
  have hc := plan_bad hne
  clear ho hx hm hz hzr hl hq hne
  unfold high2 at hc ⊢
  cases h1 : upB start 200 <;> cases h2 : upB cut 200 <;> simp only [h1, h2, Bool.and_true, Bool.and_false, Bool.true_and, Bool.false_and] at hc ⊢ <;> rcases hc with hc | hc | hc <;> rw [hc]
  all_goals
    have HC := Lib.hid hc
    clear hc
    go_enter Try.func31, Try.ntmps31
    go_wp2_with (first | (go_at_call 53; ((with_reducible refine (l03High_is start _ h1 _).mono ?_); rintro e w2 ⟨rfl, rfl⟩)) | (go_at_call 53; ((with_reducible refine (l03High_is cut _ h2 _).mono ?_); rintro e w2 ⟨rfl, rfl⟩)))
    refine (HK.out _).mono ?_
    rintro e w1 ⟨rfl, hb1⟩
    rw [HC.out]
    have hb2 := hb1.alloc hb1.size (.cells #[] 2)
    have HR0 := Lib.hid (ownsRow_low (World.ownsRow_made (e := 2) (size := 1) w1 #[] 0 (Nat.le_refl _) (by simp [maxLen]) rfl) hb1.size)
    go_wp2_with fail
    go_ret2
    exact ⟨⟨_, rfl, HR0.out⟩, hb2⟩

set_option maxRecDepth 100000 in
set_option maxHeartbeats 4000000 in
theorem specClips_any (B N : Nat) (v : Value) (hN : N ≤ 2000000) (zs : List Int) (hz : zs.length = N * 2) (hzr : ∀ z ∈ zs, -128 ≤ z ∧ z ≤ 127) (m : Nat) (hm : FirstNo (dayP zs) N m) (B2 H : Nat) (x : Value) (hH : H ≤ 2000000) (ps : List Int) (hl : ps.length = H) (start cut : Int) (q : Nat) (hq : FirstNo (goodB N ps) H q) (w : World) (ho : w.ownsRow B 40 2 v N (intsV .i8 zs)) (hx : w.ownsRow B2 2 1 x H (intsV .i64 ps)) :
    Calls Try.prog 31 #[.int .i64 start, .int .i64 cut, v, x] w fun e w' => (∃ u, e = .returned (.tuple #[u, .int .i64 (planC N m (high2 start cut) H q)]) ∧ w'.ownsRow w.heap.size 2 1 u (folN N m (high2 start cut) H q (runC zs ps cut start N).length) (folV N m (high2 start cut) H q (runC zs ps cut start N))) ∧ Below w.heap.size w w' := by
  cases hp : planB N m (high2 start cut) H q
  · simp only [folN, folV, hp, Bool.false_eq_true, if_false]
    exact specClips_bad B N v hN zs hz hzr m hm B2 H x hH ps hl start cut q hq hp w ho hx
  · simp only [folN, folV, hp, if_true]
    obtain ⟨rfl, hfine, rfl, hc⟩ := plan_good hp
    rw [hc]
    have hr := high2_range hfine
    have hk := l03Planned_any B m v hN zs hz hzr m hm B2 q x hH ps hl q hq (high2 start cut) w ho hx
    rw [hc] at hk
    simp only [high2, Bool.and_eq_true] at hfine
    obtain ⟨h1, h2⟩ := hfine
    simp only [high2, h1, h2, Bool.and_true] at hk
    have HK := Lib.hid hk
    have HR := Lib.hid (fun W hW hX => l03Run_any B m v hN zs hz hm B2 q x hH ps hl start cut hr.1 hr.2 W hW hX)
    have HO := Lib.hid (And.intro ho hx)
    obtain ⟨av, cv, rfl⟩ := own_slice ho
    obtain ⟨ax, cx, rfl⟩ := own_slice hx
    clear ho hx hm hz hzr hl hq hp hr hk hc
    go_enter Try.func31, Try.ntmps31
    go_wp2_with (first | (go_at_call 53; ((with_reducible refine (l03High_is start _ h1 _).mono ?_); rintro e w2 ⟨rfl, rfl⟩)) | (go_at_call 53; ((with_reducible refine (l03High_is cut _ h2 _).mono ?_); rintro e w2 ⟨rfl, rfl⟩)))
    refine HK.out.mono ?_
    rintro e w3 ⟨rfl, hb1⟩
    have HO1 := Lib.hid (own_below HO.out.1 hb1)
    have HX1 := Lib.hid (own_below HO.out.2 hb1)
    clear HO HK
    go_wp2_with fail
    refine (HR.out _ HO1.out HX1.out).mono ?_
    rintro e w4 ⟨⟨y, u, rfl, -, hu⟩, hb2⟩
    have hb3 := below_onto hb1 hb2
    have HU := Lib.hid (ownsRow_low hu hb1.size)
    obtain ⟨au, cu, rfl⟩ := own_slice hu
    clear hu hb1 hb2 HO1 HX1 HR
    go_wp2_with fail
    go_ret2
    exact ⟨⟨_, rfl, HU.out⟩, hb3⟩
end Go.Proofs.Ytbcbokpdcliimaa
