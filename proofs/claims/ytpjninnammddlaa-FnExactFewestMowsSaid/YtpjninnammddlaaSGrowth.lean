/- Weather of the model: when it is valid, and by how much grass grows. -/
import Derived.Test.YtpjninnammddlaaGrowth
import Derived.Test.YtpjninnammddlaaZC
namespace Go.Proofs.Ytpjninnammddlaa
open Go.RowKit
set_option linter.unusedVariables false

theorem l00In_is (n a b : Int) (v : Bool) (h : (decide (a ≤ n) && decide (n ≤ b)) = v) (w : World) :
    Calls Try.prog 32 #[.int .i64 n, .int .i64 a, .int .i64 b] w fun e w' => e = .returned (.bool v) ∧ w' = w := by
  by_cases h1 : a ≤ n
  · have d1 : decide (a ≤ n) = true := by simpa using h1
    obtain ⟨d, hd⟩ : ∃ d, decide (n ≤ b) = d := ⟨_, rfl⟩
    have HV := Lib.hid (show v = d by rw [← h, d1, hd, Bool.true_and])
    clear h
    go_enter Try.func32, Try.ntmps32
    go_wp2
    go_ret
    exact ⟨by rw [HV.out, ← hd]; rfl, rfl⟩
  · have d1 : decide (a ≤ n) = false := by simpa using h1
    have HV := Lib.hid (show v = false by rw [← h, d1, Bool.false_and])
    clear h
    go_enter Try.func32, Try.ntmps32
    go_wp2
    go_ret
    exact ⟨by rw [HV.out]; rfl, rfl⟩

set_option maxRecDepth 100000 in
theorem l03Day_is (r t : Int) (hr : -128 ≤ r ∧ r ≤ 127) (ht : -128 ≤ t ∧ t ≤ 127) (v : Bool) (h : (upB r 50 && upB t 40) = v) (w : World) :
    Calls Try.prog 35 #[.agg #[.int .i8 r, .int .i8 t]] w fun e w' => e = .returned (.bool v) ∧ Below w.heap.size w w' := by
  have w1 : wrap64 r = r := by unfold wrap64; omega
  have w2 : wrap64 t = t := by unfold wrap64; omega
  have hb := (Below.refl w.heap.size w).alloc (Nat.le_refl _) (.cells #[.int .i8 r, .int .i8 t] 46)
  have k1 : ∀ v, upB r 50 = v → (decide (0 ≤ r) && decide (r ≤ 50)) = v := fun v h => h
  have k2 : ∀ v, upB t 40 = v → (decide (0 ≤ t) && decide (t ≤ 40)) = v := fun v h => h
  clear w1 w2
  cases h1 : upB r 50
  · have HV := Lib.hid (show v = false by rw [← h, h1, Bool.false_and])
    clear h
    go_enter Try.func35, Try.ntmps35
    go_wp2_with (go_at_call 32; ((with_reducible refine (l00In_is _ _ _ _ (k1 _ h1) _).mono ?_); rintro e w2 ⟨rfl, rfl⟩))
    go_ret
    exact ⟨by rw [HV.out]; rfl, hb⟩
  · obtain ⟨d, h2⟩ : ∃ d, upB t 40 = d := ⟨_, rfl⟩
    have HV := Lib.hid (show v = d by rw [← h, h1, h2, Bool.true_and])
    clear h
    go_enter Try.func35, Try.ntmps35
    go_wp2_with (first | (go_at_call 32; ((with_reducible refine (l00In_is _ _ _ _ (k1 _ h1) _).mono ?_); rintro e w2 ⟨rfl, rfl⟩)) | (go_at_call 32; ((with_reducible refine (l00In_is _ _ _ _ (k2 _ h2) _).mono ?_); rintro e w2 ⟨rfl, rfl⟩)))
    go_ret
    exact ⟨by rw [HV.out]; rfl, hb⟩

set_option maxRecDepth 100000 in
theorem l03Growth_is (r t : Int) (hr : 0 ≤ r ∧ r ≤ 50) (ht : 0 ≤ t ∧ t ≤ 40) (w : World) :
    Calls Try.prog 29 #[.agg #[.int .i8 r, .int .i8 t]] w fun e w' => e = .returned (.int .i64 ((r / 10 + 1) * (t / 10))) ∧ Below w.heap.size w w' := by
  have w1 : wrap64 r = r := by unfold wrap64; omega
  have w2 : wrap64 t = t := by unfold wrap64; omega
  have hb := (Below.refl w.heap.size w).alloc (Nat.le_refl _) (.cells #[.int .i8 r, .int .i8 t] 46)
  have hr1 := hr.1
  have ht1 := ht.1
  have e1 : wrap64 (r.tdiv 10) = r / 10 := by rw [Int.tdiv_eq_ediv_of_nonneg hr1]; unfold wrap64; omega
  have e2 : wrap64 (r / 10 + 1) = r / 10 + 1 := by unfold wrap64; omega
  have e3 : wrap64 (t.tdiv 10) = t / 10 := by rw [Int.tdiv_eq_ediv_of_nonneg ht1]; unfold wrap64; omega
  have a1 : 0 ≤ r / 10 + 1 ∧ r / 10 + 1 ≤ 6 := by omega
  have a2 : 0 ≤ t / 10 ∧ t / 10 ≤ 4 := by omega
  have e4 : wrap64 ((r / 10 + 1) * (t / 10)) = (r / 10 + 1) * (t / 10) := by
    have h1 := Int.mul_nonneg a1.1 a2.1
    have h2 := Int.mul_le_mul a1.2 a2.2 a2.1 (by omega)
    obtain ⟨p, hp⟩ : ∃ p, (r / 10 + 1) * (t / 10) = p := ⟨_, rfl⟩
    rw [hp] at h1 h2 ⊢
    unfold wrap64; omega
  clear hr ht a1 a2
  go_enter Try.func29, Try.ntmps29
  go_wp2
  go_ret
  exact ⟨congrArg (fun x => Ending.returned (.int .i64 x)) e4, hb⟩

theorem first_all {zs : List Int} {N m : Nat} (h : FirstNo (dayP zs) N m) : (m = N) ↔ N ≤ 30 ∧ ∀ i, i < N → dayB zs i = true := by
  constructor
  · rintro rfl
    refine ⟨?_, fun i hi => ?_⟩
    · rcases Nat.lt_or_ge 30 m with h' | h'
      · have := h.all 30 h'
        simp [dayP] at this
      · exact h'
    · have := h.all i hi
      simp only [dayP, Bool.and_eq_true] at this
      exact this.2
  · rintro ⟨h1, h2⟩
    have := h.le
    rcases Nat.lt_or_ge m N with h' | h'
    · have h3 := h.stop h'
      have h4 : dayP zs m = true := by simp [dayP, h2 m h']; omega
      rw [h3] at h4; cases h4
    · omega

set_option maxRecDepth 100000 in
set_option maxHeartbeats 1000000 in
theorem l03Ok_any (B N : Nat) (v : Value) (hN : N ≤ 2000000) (zs : List Int) (hz : zs.length = N * 2) (hzr : ∀ z ∈ zs, -128 ≤ z ∧ z ≤ 127) (m : Nat) (hm : FirstNo (dayP zs) N m) (w : World) (ho : w.ownsRow B 46 2 v N (intsV .i8 zs)) :
    Calls Try.prog 31 #[v] w fun e w' => e = .returned (.bool (decide (m = N))) ∧ Below w.heap.size w w' := by
  obtain ⟨av, cv, rfl⟩ := own_slice ho
  have HM := Lib.hid (first_all hm)
  have HZ := Lib.hid (show ∀ i, i < N → (zs[i * 2]? = some (rainZ zs i) ∧ zs[i * 2 + 1]? = some (warmZ zs i)) ∧ (-128 ≤ rainZ zs i ∧ rainZ zs i ≤ 127) ∧ -128 ≤ warmZ zs i ∧ warmZ zs i ≤ 127 from fun i hi => by
    have e0 : zs[i * 2]? = some (rainZ zs i) := by simp [rainZ, List.getElem?_eq_getElem (show i * 2 < zs.length by omega)]
    have e1 : zs[i * 2 + 1]? = some (warmZ zs i) := by simp [warmZ, List.getElem?_eq_getElem (show i * 2 + 1 < zs.length by omega)]
    exact ⟨⟨e0, e1⟩, hzr _ (List.mem_of_getElem? e0), hzr _ (List.mem_of_getElem? e1)⟩)
  have HO := Lib.hid ho
  clear ho hm hz hzr
  go_enter Try.func31, Try.ntmps31
  go_wp2_with fail
  go_loopw [3] (fun i wr => ∃ k : Nat, k ≤ N ∧ i = .int .i64 k ∧ (∀ j, j < k → dayB zs j = true) ∧ Below w.heap.size w wr) (fun i _ => N - (intOf i).toNat)
  case atStart => exact ⟨0, by omega, rfl, fun j hj => by omega, Below.refl _ _⟩
  case round =>
    obtain ⟨k, hk, rfl, hall, hb⟩ := hrel
    have HA := Lib.hid hall
    clear hall
    by_cases hlt : k < N
    · have hd : decide ((k : Int) < (N : Int)) = true := by simp; omega
      have ho := own_below HO.out hb
      obtain ⟨g, cap, he, hBg, hg⟩ := own_form ho (by omega)
      simp only [Value.slice.injEq, true_and] at he
      obtain ⟨rfl, rfl⟩ := he
      obtain ⟨⟨z0, z1⟩, r1, r2⟩ := HZ.out k hlt
      have c0 := own_cell ho _ _ (intsV_get (k := .i8) z0)
      have c1 := own_cell ho _ _ (intsV_get (k := .i8) z1)
      clear ho z0 z1
      obtain ⟨d, hdy⟩ : ∃ d, dayB zs k = d := ⟨_, rfl⟩
      have HD := Lib.hid hdy
      go_wp2_with fail
      refine (l03Day_is _ _ r1 r2 d hdy _).mono ?_
      rintro e w2 ⟨rfl, hb2⟩
      have hb3 := hb.trans (hb2.mono hb.size)
      clear c0 c1 hb2 hb r1 r2 hdy
      cases d
      case false =>
        have HV := Lib.hid (show decide (m = N) = false by
          rw [decide_eq_false_iff_not, HM.out]
          exact fun h => by have := h.2 k hlt; rw [HD.out] at this; cases this)
        go_wp2_with fail
        go_ret
        exact ⟨by rw [HV.out]; rfl, hb3⟩
      case true =>
        go_wp2_with fail
        go_roundw
        case rel => exact ⟨k + 1, by omega, by go_num, fun j hj => by
          by_cases e : j = k
          · subst e; exact HD.out
          · exact HA.out j (by omega), hb3⟩
        case measure => simp [intOf]; omega
    · have hd : decide ((k : Int) < (N : Int)) = false := by simp; omega
      obtain rfl : k = N := by omega
      have HV := Lib.hid (show decide (m = k) = decide ((k : Int) ≤ 30) by
        apply decide_eq_decide.2
        rw [HM.out]
        exact ⟨fun h => by omega, fun h => ⟨by omega, HA.out⟩⟩)
      go_wp2_with fail
      go_ret
      exact ⟨by rw [HV.out]; rfl, hb⟩

end Go.Proofs.Ytpjninnammddlaa
