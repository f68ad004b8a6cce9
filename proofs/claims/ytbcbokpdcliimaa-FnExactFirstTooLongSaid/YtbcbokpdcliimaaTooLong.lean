/- FirstTooLong, of the program and of the model. -/
import Derived.Test.YtbcbokpdcliimaaHeights
namespace Go.Proofs.Ytbcbokpdcliimaa
open Go.RowKit
set_option linter.unusedVariables false
set_option linter.unusedSimpArgs false

def overI (H q : Nat) : Int := if q < H then (q : Int) else -1
theorem tooLong_is (x most : Int) (b : Nat) (d : Bool) (hd : decide (most < x) = d) (w : World) (h : Holds w b #[.int .i64 most]) :
    Calls Try.prog 58 #[.int .i64 x, .pointer (some ⟨b, 0, none⟩)] w fun e w' => e = .returned (.bool d) ∧ w' = w := by
  have c0 := h.cell 0
  have HD := Lib.hid hd
  clear hd
  go_enter Try.func58, Try.ntmps58
  go_wp2_with fail
  go_ret
  exact ⟨by rw [← HD.out]; rfl, rfl⟩

set_option maxRecDepth 100000 in
theorem indexOver_any (B H : Nat) (v : Value) (hH : H ≤ 2000000) (ps : List Int) (hl : ps.length = H) (most : Int) (b : Nat) (q : Nat) (hq : FirstNo (fun i => decide (ps.getD i 0 ≤ most)) H q) (w : World) (ho : w.ownsRow B 2 1 v H (intsV .i64 ps)) (hb : Holds w b #[.int .i64 most]) :
    Calls Try.prog 57 #[v, .func (.func 58) #[] #[.pointer (some ⟨b, 0, none⟩)]] w fun e w' => e = .returned (.int .i64 (overI H q)) ∧ w' = w := by
  obtain ⟨av, cv, rfl⟩ := own_slice ho
  have HO := Lib.hid ho
  have HB := Lib.hid hb
  have HQ := Lib.hid hq
  clear ho hb hq
  go_enter Try.func57, Try.ntmps57
  go_wp2_with fail
  go_loopw [8] (fun i wr => ∃ k : Nat, k ≤ H ∧ i = .int .i64 k ∧ (∀ j, j < k → decide (ps.getD j 0 ≤ most) = true) ∧ wr = w) (fun i _ => H - (intOf i).toNat)
  case atStart => exact ⟨0, by omega, rfl, fun j h => by omega, rfl⟩
  case round =>
    obtain ⟨k, hk, rfl, hall, rfl⟩ := hrel
    have HA := Lib.hid hall
    clear hall
    by_cases hlt : k < H
    · have hd : decide ((k : Int) < (H : Int)) = true := by simp; omega
      have hzk : ps[k]? = some (ps.getD k 0) := by simp [List.getElem?_eq_getElem (show k < ps.length by omega)]
      obtain ⟨z, hz⟩ : ∃ z, ps.getD k 0 = z := ⟨_, rfl⟩
      rw [hz] at hzk
      have HZ := Lib.hid hz
      have ho := HO.out
      obtain ⟨ga, cap, he, hBg, hg⟩ := own_form ho (by omega)
      simp only [Value.slice.injEq, true_and] at he
      obtain ⟨rfl, rfl⟩ := he
      have c0 := own_cell ho _ _ (intsV_get (k := .i64) hzk)
      clear ho hzk hz
      obtain ⟨d, hdz⟩ : ∃ d, decide (most < z) = d := ⟨_, rfl⟩
      have HD := Lib.hid hdz
      go_wp2_with fail
      refine (tooLong_is z most b d hdz _ HB.out).mono ?_
      rintro e w2 ⟨rfl, rfl⟩
      clear hdz
      cases d
      · have HT := Lib.hid (show decide (ps.getD k 0 ≤ most) = true by
          have := of_decide_eq_false HD.out
          rw [HZ.out]; simp; omega)
        go_wp2_with fail
        go_roundw
        case rel => exact ⟨k + 1, by omega, by go_num, fun j hj => by
          by_cases e : j = k
          · subst e; exact HT.out
          · exact HA.out j (by omega), trivial⟩
        case measure => simp [intOf]; omega
      · have HT := Lib.hid (show q = k from firstNo_at HQ.out HA.out hlt (by
          have := of_decide_eq_true HD.out
          simp only [HZ.out]
          simp; omega))
        go_wp2_with fail
        go_ret
        exact ⟨by rw [HT.out, overI, if_pos hlt]; rfl, rfl⟩
    · have hd : decide ((k : Int) < (H : Int)) = false := by simp; omega
      obtain rfl : k = H := by omega
      have HF := Lib.hid (show ¬ q < k by
        intro h'
        have h2 := HQ.out.stop h'
        have h3 := HA.out q h'
        simp only [h3] at h2
        cases h2)
      go_wp2_with fail
      go_ret
      exact ⟨by rw [overI, if_neg HF.out]; rfl, rfl⟩

def high3' (a b c : Int) : Bool := upB a 200 && upB b 200 && upB c 200
def overB (zs ps : List Int) (cut start most : Int) (N : Nat) (i : Nat) : Bool := decide ((runL zs ps cut start N).getD i 0 ≤ most)
def overA (N d : Nat) : Int := if d < N then (d : Int) else 0
def overC (N d : Nat) : Int := if d < N then 0 else 6

set_option maxRecDepth 100000 in
set_option maxHeartbeats 4000000 in
theorem specTooLong_bad (B N : Nat) (v : Value) (hN : N ≤ 2000000) (zs : List Int) (hz : zs.length = N * 2) (hzr : ∀ z ∈ zs, -128 ≤ z ∧ z ≤ 127) (m : Nat) (hm : FirstNo (dayP zs) N m) (B2 H : Nat) (x : Value) (hH : H ≤ 2000000) (ps : List Int) (hl : ps.length = H) (start cut most : Int) (q : Nat) (hq : FirstNo (goodB N ps) H q) (hne : planB N m (high3' start cut most) H q = false) (w : World) (ho : w.ownsRow B 40 2 v N (intsV .i8 zs)) (hx : w.ownsRow B2 2 1 x H (intsV .i64 ps)) :
    Calls Try.prog 33 #[.int .i64 start, .int .i64 cut, .int .i64 most, v, x] w fun e w' => e = .returned (.tuple #[.int .i64 0, .int .i64 (planC N m (high3' start cut most) H q)]) ∧ Below w.heap.size w w' := by
  have HK := Lib.hid (fun fine => l03Planned_any B N v hN zs hz hzr m hm B2 H x hH ps hl q hq fine w ho hx)
  obtain ⟨av, cv, rfl⟩ := own_slice ho
  obtain ⟨ax, cx, rfl⟩ := own_slice hx
  have hc := plan_bad hne
  clear ho hx hm hz hzr hl hq hne
  unfold high3' at hc ⊢
  cases h1 : upB start 200 <;> cases h2 : upB cut 200 <;> cases h3 : upB most 200 <;> simp only [h1, h2, h3, Bool.and_true, Bool.and_false, Bool.true_and, Bool.false_and] at hc ⊢ <;> rcases hc with hc | hc | hc <;> rw [hc]
  all_goals
    have HC := Lib.hid hc
    clear hc
    go_enter Try.func33, Try.ntmps33
    go_wp2_with (first | (go_at_call 53; ((with_reducible refine (l03High_is start _ h1 _).mono ?_); rintro e w2 ⟨rfl, rfl⟩)) | (go_at_call 53; ((with_reducible refine (l03High_is cut _ h2 _).mono ?_); rintro e w2 ⟨rfl, rfl⟩)) | (go_at_call 53; ((with_reducible refine (l03High_is most _ h3 _).mono ?_); rintro e w2 ⟨rfl, rfl⟩)))
    refine (HK.out _).mono ?_
    rintro e w1 ⟨rfl, hb1⟩
    rw [HC.out]
    go_wp2_with fail
    go_ret2
    exact ⟨rfl, hb1⟩

set_option maxRecDepth 100000 in
set_option maxHeartbeats 4000000 in
theorem specTooLong_any (B N : Nat) (v : Value) (hN : N ≤ 2000000) (zs : List Int) (hz : zs.length = N * 2) (hzr : ∀ z ∈ zs, -128 ≤ z ∧ z ≤ 127) (m : Nat) (hm : FirstNo (dayP zs) N m) (B2 H : Nat) (x : Value) (hH : H ≤ 2000000) (ps : List Int) (hl : ps.length = H) (start cut most : Int) (q : Nat) (hq : FirstNo (goodB N ps) H q) (hp : planB N m (high3' start cut most) H q = true) (d : Nat) (hd : FirstNo (overB zs ps cut start most N) N d) (w : World) (ho : w.ownsRow B 40 2 v N (intsV .i8 zs)) (hx : w.ownsRow B2 2 1 x H (intsV .i64 ps)) :
    Calls Try.prog 33 #[.int .i64 start, .int .i64 cut, .int .i64 most, v, x] w fun e w' => e = .returned (.tuple #[.int .i64 (overA N d), .int .i64 (overC N d)]) ∧ Below w.heap.size w w' := by
  obtain ⟨rfl, hfine, rfl, hc⟩ := plan_good hp
  have hk := l03Planned_any B m v hN zs hz hzr m hm B2 q x hH ps hl q hq (high3' start cut most) w ho hx
  rw [hc] at hk
  have hr : (0 ≤ start ∧ start ≤ 200) ∧ 0 ≤ cut ∧ cut ≤ 200 := by
    simp only [high3', upB, Bool.and_eq_true, decide_eq_true_eq] at hfine
    exact ⟨hfine.1.1, hfine.1.2⟩
  simp only [high3', Bool.and_eq_true] at hfine
  obtain ⟨⟨h1, h2⟩, h3⟩ := hfine
  simp only [high3', h1, h2, h3, Bool.and_true] at hk
  have HK := Lib.hid hk
  have HR := Lib.hid (fun W hW hX => l03Run_any B m v hN zs hz hm B2 q x hH ps hl start cut hr.1 hr.2 W hW hX)
  have HO := Lib.hid (And.intro ho hx)
  have HQ := Lib.hid hd
  have h30 := ((first_all hm).1 rfl).1
  have HLN := Lib.hid (runL_length zs ps cut start m)
  obtain ⟨av, cv, rfl⟩ := own_slice ho
  obtain ⟨ax, cx, rfl⟩ := own_slice hx
  clear ho hx hm hz hzr hl hq hp hr hk hc hd
  go_enter Try.func33, Try.ntmps33
  go_wp2_with (first | (go_at_call 53; ((with_reducible refine (l03High_is start _ h1 _).mono ?_); rintro e w2 ⟨rfl, rfl⟩)) | (go_at_call 53; ((with_reducible refine (l03High_is cut _ h2 _).mono ?_); rintro e w2 ⟨rfl, rfl⟩)) | (go_at_call 53; ((with_reducible refine (l03High_is most _ h3 _).mono ?_); rintro e w2 ⟨rfl, rfl⟩)))
  refine HK.out.mono ?_
  rintro e w3 ⟨rfl, hb1⟩
  have HO1 := Lib.hid (own_below HO.out.1 hb1)
  have HX1 := Lib.hid (own_below HO.out.2 hb1)
  clear HO HK
  go_wp2_with fail
  refine (HR.out _ HO1.out HX1.out).mono ?_
  rintro e w4 ⟨⟨u, y, rfl, hu, hy⟩, hb2⟩
  have hb3 := below_onto hb1 hb2
  have HU := Lib.hid hu
  obtain ⟨au, cu, rfl⟩ := own_slice hu
  obtain ⟨ay, cy, rfl⟩ := own_slice hy
  clear hu hy hb1 hb2 HO1 HX1 HR
  go_wp2_with fail
  go_loopw [15] (fun i wr => ∃ k : Nat, k ≤ m ∧ i = .int .i64 k ∧ (∀ j, j < k → overB zs ps cut start most m j = true) ∧ wr = w4) (fun i _ => m - (intOf i).toNat)
  case atStart => exact ⟨0, by omega, rfl, fun j h => by omega, rfl⟩
  case round =>
    obtain ⟨k, hk, rfl, hall, rfl⟩ := hrel
    have HA := Lib.hid hall
    clear hall
    by_cases hlt : k < m
    · have hd : decide ((k : Int) < (m : Int)) = true := by simp; omega
      have hzk : (runL zs ps cut start m)[k]? = some ((runL zs ps cut start m).getD k 0) := by simp [List.getElem?_eq_getElem (show k < (runL zs ps cut start m).length by rw [HLN.out]; exact hlt)]
      have hov : overB zs ps cut start most m k = decide ((runL zs ps cut start m).getD k 0 ≤ most) := rfl
      obtain ⟨z, hz⟩ : ∃ z, (runL zs ps cut start m).getD k 0 = z := ⟨_, rfl⟩
      rw [hz] at hzk hov
      have HOV := Lib.hid hov
      have ho := HU.out
      obtain ⟨ga, cap, he, hBg, hg⟩ := own_form ho (by omega)
      simp only [Value.slice.injEq, true_and] at he
      obtain ⟨rfl, rfl⟩ := he
      have c0 := own_cell ho _ _ (intsV_get (k := .i64) hzk)
      clear ho hzk hz hov
      by_cases hm1 : most < z
      · have d1 : decide (most < z) = true := by simpa using hm1
        have HT := Lib.hid (show d = k from firstNo_at HQ.out HA.out hlt (by rw [HOV.out]; simp; omega))
        go_wp2_with fail
        go_ret2
        exact ⟨by rw [HT.out, overA, overC, if_pos hlt, if_pos hlt]; rfl, hb3⟩
      · have d1 : decide (most < z) = false := by simpa using hm1
        have HT := Lib.hid (show overB zs ps cut start most m k = true by rw [HOV.out]; simp; omega)
        clear hm1
        go_wp2_with fail
        go_roundw
        case rel => exact ⟨k + 1, by omega, by go_num, fun j hj => by
          by_cases e : j = k
          · subst e; exact HT.out
          · exact HA.out j (by omega), trivial⟩
        case measure => simp [intOf]; omega
    · have hd : decide ((k : Int) < (m : Int)) = false := by simp; omega
      obtain rfl : k = m := by omega
      have HF := Lib.hid (show ¬ d < k by
        intro h'
        have h2 := HQ.out.stop h'
        rw [HA.out d h'] at h2
        cases h2)
      go_wp2_with fail
      go_ret2
      exact ⟨by rw [overA, overC, if_neg HF.out, if_neg HF.out]; rfl, hb3⟩

set_option maxRecDepth 100000 in
set_option maxHeartbeats 4000000 in
theorem implTooLong_ask (B N : Nat) (v : Value) (hN : N ≤ 2000000) (zs : List Int) (hz : zs.length = N * 2) (hzr : ∀ z ∈ zs, -128 ≤ z ∧ z ≤ 127) (m : Nat) (hm : FirstNo (dayP zs) N m) (B2 H : Nat) (x : Value) (hH : H ≤ 2000000) (ps : List Int) (hl : ps.length = H) (start cut most : Int) (q : Nat) (hq : FirstNo (goodB N ps) H q) (hne : askB N m (upB most 200) = false) (w : World) (ho : w.ownsRow B 40 2 v N (intsV .i8 zs)) (hx : w.ownsRow B2 2 1 x H (intsV .i64 ps)) :
    Calls Try.prog 34 #[.int .i64 start, .int .i64 cut, .int .i64 most, v, x] w fun e w' => e = .returned (.tuple #[.int .i64 0, .int .i64 (askC N m (upB most 200))]) ∧ Below w.heap.size w w' := by
  obtain ⟨W, hW⟩ : ∃ W, (w.alloc (.cells #[.int .i64 most] 2)).alloc (.cells #[.int .i64 most] 2) = W := ⟨_, rfl⟩
  have hbw : Below w.heap.size w W := by rw [← hW]; exact ((Below.refl w.heap.size w).alloc (Nat.le_refl _) _).alloc (by simp) _
  have hhb : Holds W w.heap.size #[.int .i64 most] ∧ w.heap.size < W.heap.size := by rw [← hW]; exact ⟨(Holds.new w #[.int .i64 most] 2).alloc _, by simp; omega⟩
  have hoh : W.ownsRow (w.heap.size + 1) 2 1 (.slice (some ⟨w.heap.size + 1, 0, none⟩) 1 1) 1 (intsV .i64 [most]) := by
    rw [← hW]
    exact ⟨rfl, .inr ⟨w.heap.size + 1, 1, #[.int .i64 most], rfl, Nat.le_refl _, by have := heap_alloc_new (w.alloc (.cells #[.int .i64 most] 2)) (.cells #[.int .i64 most] 2); simpa using this, Nat.le_refl _, by simp [maxLen], rfl, rfl⟩⟩
  have hG := growthsFrom_any B N v hN zs hz hzr m hm (w.heap.size + 1) 1 (by omega) _ [most] rfl W (own_below ho hbw) hoh
  rw [show [most].all (upB · 200) = upB most 200 by simp] at hG
  have HK := Lib.hid hG
  have hc := ask_bad hne
  obtain ⟨av, cv, rfl⟩ := own_slice ho
  obtain ⟨ax, cx, rfl⟩ := own_slice hx
  clear ho hx hm hz hzr hl hq hne hG hoh hhb
  rcases hc with hc | hc <;> rw [hc] at HK ⊢
  all_goals
    clear hc
    go_enter Try.func34, Try.ntmps34
    go_wp2_with fail
    refine HK.out.mono ?_
    rintro e w1 ⟨⟨u, rfl, hu⟩, hb1⟩
    have hb2 := below_onto hbw hb1
    clear hb1 hu HK hW hbw
    go_wp2_with fail
    go_ret2
    exact ⟨rfl, hb2⟩

set_option maxRecDepth 100000 in
set_option maxHeartbeats 4000000 in
theorem implTooLong_plan (B N : Nat) (v : Value) (hN : N ≤ 2000000) (zs : List Int) (hz : zs.length = N * 2) (hzr : ∀ z ∈ zs, -128 ≤ z ∧ z ≤ 127) (m : Nat) (hm : FirstNo (dayP zs) N m) (B2 H : Nat) (x : Value) (hH : H ≤ 2000000) (ps : List Int) (hl : ps.length = H) (start cut most : Int) (q : Nat) (hq : FirstNo (goodB N ps) H q) (hf : askB N m (upB most 200) = true) (hne : planB N m (high2 start cut) H q = false) (w : World) (ho : w.ownsRow B 40 2 v N (intsV .i8 zs)) (hx : w.ownsRow B2 2 1 x H (intsV .i64 ps)) :
    Calls Try.prog 34 #[.int .i64 start, .int .i64 cut, .int .i64 most, v, x] w fun e w' => e = .returned (.tuple #[.int .i64 0, .int .i64 (planC N m (high2 start cut) H q)]) ∧ Below w.heap.size w w' := by
  obtain ⟨W, hW⟩ : ∃ W, (w.alloc (.cells #[.int .i64 most] 2)).alloc (.cells #[.int .i64 most] 2) = W := ⟨_, rfl⟩
  have hbw : Below w.heap.size w W := by rw [← hW]; exact ((Below.refl w.heap.size w).alloc (Nat.le_refl _) _).alloc (by simp) _
  have hhb : Holds W w.heap.size #[.int .i64 most] ∧ w.heap.size < W.heap.size := by rw [← hW]; exact ⟨(Holds.new w #[.int .i64 most] 2).alloc _, by simp; omega⟩
  have hoh : W.ownsRow (w.heap.size + 1) 2 1 (.slice (some ⟨w.heap.size + 1, 0, none⟩) 1 1) 1 (intsV .i64 [most]) := by
    rw [← hW]
    exact ⟨rfl, .inr ⟨w.heap.size + 1, 1, #[.int .i64 most], rfl, Nat.le_refl _, by have := heap_alloc_new (w.alloc (.cells #[.int .i64 most] 2)) (.cells #[.int .i64 most] 2); simpa using this, Nat.le_refl _, by simp [maxLen], rfl, rfl⟩⟩
  have hG := growthsFrom_any B N v hN zs hz hzr m hm (w.heap.size + 1) 1 (by omega) _ [most] rfl W (own_below ho hbw) hoh
  rw [show [most].all (upB · 200) = upB most 200 by simp] at hG
  rw [(ask_good hf).2.2] at hG
  have HK := Lib.hid hG
  have HH := Lib.hid (fun W hW hX => implHeights_any B N v hN zs hz hzr m hm B2 H x hH ps hl start cut q hq W hW hX)
  have HO := Lib.hid (And.intro (own_below ho hbw) (own_below hx hbw))
  have hc := plan_bad hne
  obtain ⟨av, cv, rfl⟩ := own_slice ho
  obtain ⟨ax, cx, rfl⟩ := own_slice hx
  clear ho hx hm hz hzr hl hq hne hG hoh hhb hf
  rcases hc with hc | hc | hc <;> rw [hc] at HH ⊢
  all_goals
    clear hc
    go_enter Try.func34, Try.ntmps34
    go_wp2_with fail
    refine HK.out.mono ?_
    rintro e w1 ⟨⟨u, rfl, hu⟩, hb1⟩
    have hb2 := below_onto hbw hb1
    have HO1 := Lib.hid (own_below HO.out.1 hb1)
    have HX1 := Lib.hid (own_below HO.out.2 hb1)
    clear hb1 hu HK hW hbw HO
    go_wp2_with fail
    refine (HH.out _ HO1.out HX1.out).mono ?_
    rintro e w2 ⟨⟨u, rfl, hu⟩, hb1⟩
    have hb3 := below_onto hb2 hb1
    clear hb1 hu HH hb2 HO1 HX1
    go_wp2_with fail
    go_ret2
    exact ⟨rfl, hb3⟩

set_option maxRecDepth 100000 in
set_option maxHeartbeats 4000000 in
theorem implTooLong_any (B N : Nat) (v : Value) (hN : N ≤ 2000000) (zs : List Int) (hz : zs.length = N * 2) (hzr : ∀ z ∈ zs, -128 ≤ z ∧ z ≤ 127) (m : Nat) (hm : FirstNo (dayP zs) N m) (B2 H : Nat) (x : Value) (hH : H ≤ 2000000) (ps : List Int) (hl : ps.length = H) (start cut most : Int) (q : Nat) (hq : FirstNo (goodB N ps) H q) (hf : askB N m (upB most 200) = true) (hp : planB N m (high2 start cut) H q = true) (d : Nat) (hd : FirstNo (overB zs ps cut start most N) N d) (w : World) (ho : w.ownsRow B 40 2 v N (intsV .i8 zs)) (hx : w.ownsRow B2 2 1 x H (intsV .i64 ps)) :
    Calls Try.prog 34 #[.int .i64 start, .int .i64 cut, .int .i64 most, v, x] w fun e w' => e = .returned (.tuple #[.int .i64 (overA N d), .int .i64 (overC N d)]) ∧ Below w.heap.size w w' := by
  obtain ⟨W, hW⟩ : ∃ W, (w.alloc (.cells #[.int .i64 most] 2)).alloc (.cells #[.int .i64 most] 2) = W := ⟨_, rfl⟩
  have hbw : Below w.heap.size w W := by rw [← hW]; exact ((Below.refl w.heap.size w).alloc (Nat.le_refl _) _).alloc (by simp) _
  have hhb : Holds W w.heap.size #[.int .i64 most] ∧ w.heap.size < W.heap.size := by rw [← hW]; exact ⟨(Holds.new w #[.int .i64 most] 2).alloc _, by simp; omega⟩
  have hoh : W.ownsRow (w.heap.size + 1) 2 1 (.slice (some ⟨w.heap.size + 1, 0, none⟩) 1 1) 1 (intsV .i64 [most]) := by
    rw [← hW]
    exact ⟨rfl, .inr ⟨w.heap.size + 1, 1, #[.int .i64 most], rfl, Nat.le_refl _, by have := heap_alloc_new (w.alloc (.cells #[.int .i64 most] 2)) (.cells #[.int .i64 most] 2); simpa using this, Nat.le_refl _, by simp [maxLen], rfl, rfl⟩⟩
  have hG := growthsFrom_any B N v hN zs hz hzr m hm (w.heap.size + 1) 1 (by omega) _ [most] rfl W (own_below ho hbw) hoh
  rw [show [most].all (upB · 200) = upB most 200 by simp] at hG
  rw [(ask_good hf).2.2] at hG
  have HK := Lib.hid hG
  have hh := fun W hW hX => implHeights_any B N v hN zs hz hzr m hm B2 H x hH ps hl start cut q hq W hW hX
  have e1 : folN N m (high2 start cut) H q N = N := by rw [folN, if_pos hp]
  have e2 : folV N m (high2 start cut) H q (runL zs ps cut start N) = intsV .i64 (runL zs ps cut start N) := by rw [folV, if_pos hp]
  rw [e1, e2, (plan_good hp).2.2.2] at hh
  have HH := Lib.hid hh
  have HI := Lib.hid (fun Bu u W hW b hb => indexOver_any Bu N u hN (runL zs ps cut start N) (runL_length _ _ _ _ _) most b d hd W hW hb)
  have HO := Lib.hid (And.intro (own_below ho hbw) (own_below hx hbw))
  have HB := Lib.hid hhb
  obtain ⟨av, cv, rfl⟩ := own_slice ho
  obtain ⟨ax, cx, rfl⟩ := own_slice hx
  clear ho hx hm hz hzr hl hq hp hG hoh hhb hf hh e1 e2 hd
  go_enter Try.func34, Try.ntmps34
  go_wp2_with fail
  refine HK.out.mono ?_
  rintro e w1 ⟨⟨u, rfl, hu⟩, hb1⟩
  have hb2 := below_onto hbw hb1
  have HO1 := Lib.hid (own_below HO.out.1 hb1)
  have HX1 := Lib.hid (own_below HO.out.2 hb1)
  have HB1 := Lib.hid (And.intro (HB.out.1.below hb1 HB.out.2) (Nat.lt_of_lt_of_le HB.out.2 hb1.size))
  clear hb1 hu HK hW hbw HO HB
  go_wp2_with fail
  refine (HH.out _ HO1.out HX1.out).mono ?_
  rintro e w2 ⟨⟨u, rfl, hu⟩, hb1⟩
  have hb3 := below_onto hb2 hb1
  have HB2 := Lib.hid (HB1.out.1.below hb1 HB1.out.2)
  have HU := Lib.hid hu
  obtain ⟨au, cu, rfl⟩ := own_slice hu
  clear hb1 hu HH hb2 HO1 HX1 HB1
  go_wp2_with fail
  refine (HI.out _ _ _ HU.out _ HB2.out).mono ?_
  rintro e w3 ⟨rfl, rfl⟩
  clear HI
  by_cases hdN : d < N
  · have HV := Lib.hid (show overA N d = d ∧ overC N d = 0 from ⟨by rw [overA, if_pos hdN], by rw [overC, if_pos hdN]⟩)
    rw [overI, if_pos hdN]
    have hlz : decide ((d : Int) < 0) = false := by simp
    clear hdN
    go_wp2_with fail
    go_ret2
    exact ⟨by rw [HV.out.1, HV.out.2]; rfl, hb3⟩
  · have HV := Lib.hid (show overA N d = 0 ∧ overC N d = 6 from ⟨by rw [overA, if_neg hdN], by rw [overC, if_neg hdN]⟩)
    rw [overI, if_neg hdN]
    clear hdN
    go_wp2_with fail
    go_ret2
    exact ⟨by rw [HV.out.1, HV.out.2]; rfl, hb3⟩
end Go.Proofs.Ytbcbokpdcliimaa
