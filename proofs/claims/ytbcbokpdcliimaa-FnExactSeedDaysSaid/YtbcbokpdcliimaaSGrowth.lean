/- Weather of the model: when it is valid, and by how much grass grows. -/
import Derived.Test.YtbcbokpdcliimaaGrowth
import Derived.Test.YtbcbokpdcliimaaZC
namespace Go.Proofs.Ytbcbokpdcliimaa
open Go.RowKit
set_option linter.unusedVariables false

theorem l00In_is (n a b : Int) (v : Bool) (h : (decide (a ≤ n) && decide (n ≤ b)) = v) (w : World) :
    Calls Try.prog 64 #[.int .i64 n, .int .i64 a, .int .i64 b] w fun e w' => e = .returned (.bool v) ∧ w' = w := by
  by_cases h1 : a ≤ n
  · have d1 : decide (a ≤ n) = true := by simpa using h1
    obtain ⟨d, hd⟩ : ∃ d, decide (n ≤ b) = d := ⟨_, rfl⟩
    have HV := Lib.hid (show v = d by rw [← h, d1, hd, Bool.true_and])
    clear h
    go_enter Try.func64, Try.ntmps64
    go_wp2
    go_ret
    exact ⟨by rw [HV.out, ← hd]; rfl, rfl⟩
  · have d1 : decide (a ≤ n) = false := by simpa using h1
    have HV := Lib.hid (show v = false by rw [← h, d1, Bool.false_and])
    clear h
    go_enter Try.func64, Try.ntmps64
    go_wp2
    go_ret
    exact ⟨by rw [HV.out]; rfl, rfl⟩

set_option maxRecDepth 100000 in
theorem l03Day_is (r t : Int) (hr : -128 ≤ r ∧ r ≤ 127) (ht : -128 ≤ t ∧ t ≤ 127) (v : Bool) (h : (upB r 50 && upB t 40) = v) (w : World) :
    Calls Try.prog 51 #[.agg #[.int .i8 r, .int .i8 t]] w fun e w' => e = .returned (.bool v) ∧ Below w.heap.size w w' := by
  have w1 : wrap64 r = r := by unfold wrap64; omega
  have w2 : wrap64 t = t := by unfold wrap64; omega
  have hb := (Below.refl w.heap.size w).alloc (Nat.le_refl _) (.cells #[.int .i8 r, .int .i8 t] 40)
  have k1 : ∀ v, upB r 50 = v → (decide (0 ≤ r) && decide (r ≤ 50)) = v := fun v h => h
  have k2 : ∀ v, upB t 40 = v → (decide (0 ≤ t) && decide (t ≤ 40)) = v := fun v h => h
  clear w1 w2
  cases h1 : upB r 50
  · have HV := Lib.hid (show v = false by rw [← h, h1, Bool.false_and])
    clear h
    go_enter Try.func51, Try.ntmps51
    go_wp2_with (go_at_call 64; ((with_reducible refine (l00In_is _ _ _ _ (k1 _ h1) _).mono ?_); rintro e w2 ⟨rfl, rfl⟩))
    go_ret
    exact ⟨by rw [HV.out]; rfl, hb⟩
  · obtain ⟨d, h2⟩ : ∃ d, upB t 40 = d := ⟨_, rfl⟩
    have HV := Lib.hid (show v = d by rw [← h, h1, h2, Bool.true_and])
    clear h
    go_enter Try.func51, Try.ntmps51
    go_wp2_with (first | (go_at_call 64; ((with_reducible refine (l00In_is _ _ _ _ (k1 _ h1) _).mono ?_); rintro e w2 ⟨rfl, rfl⟩)) | (go_at_call 64; ((with_reducible refine (l00In_is _ _ _ _ (k2 _ h2) _).mono ?_); rintro e w2 ⟨rfl, rfl⟩)))
    go_ret
    exact ⟨by rw [HV.out]; rfl, hb⟩

set_option maxRecDepth 100000 in
theorem l03Growth_is (r t : Int) (hr : 0 ≤ r ∧ r ≤ 50) (ht : 0 ≤ t ∧ t ≤ 40) (w : World) :
    Calls Try.prog 47 #[.agg #[.int .i8 r, .int .i8 t]] w fun e w' => e = .returned (.int .i64 ((r / 10 + 1) * (t / 10))) ∧ Below w.heap.size w w' := by
  have w1 : wrap64 r = r := by unfold wrap64; omega
  have w2 : wrap64 t = t := by unfold wrap64; omega
  have hb := (Below.refl w.heap.size w).alloc (Nat.le_refl _) (.cells #[.int .i8 r, .int .i8 t] 40)
  have hr1 := hr.1
  have ht1 := ht.1
  have e1 : wrap64 (r.tdiv 10) = r / 10 := by rw [Int.tdiv_eq_ediv_of_nonneg hr1]; unfold wrap64; omega
  have e2 : wrap64 (r / 10 + 1) = r / 10 + 1 := by unfold wrap64; omega
  have e3 : wrap64 (t.tdiv 10) = t / 10 := by rw [Int.tdiv_eq_ediv_of_nonneg ht1]; unfold wrap64; omega
  have a1 : 0 ≤ r / 10 + 1 ∧ r / 10 + 1 ≤ 6 := by omega
  have a2 : 0 ≤ t / 10 ∧ t / 10 ≤ 4 := by omega
  have e4 : wrap64 ((r / 10 + 1) * (t / 10)) = (r / 10 + 1) * (t / 10) := by
    have h1 := Int.mul_nonneg a1.1 a2.1
    have h2 := Int.mul_le_mul a1.2 a2.2 a2.1 (by omega)
    obtain ⟨p, hp⟩ : ∃ p, (r / 10 + 1) * (t / 10) = p := ⟨_, rfl⟩
    rw [hp] at h1 h2 ⊢
    unfold wrap64; omega
  clear hr ht a1 a2
  go_enter Try.func47, Try.ntmps47
  go_wp2
  go_ret
  exact ⟨congrArg (fun x => Ending.returned (.int .i64 x)) e4, hb⟩

theorem first_all {zs : List Int} {N m : Nat} (h : FirstNo (dayP zs) N m) : (m = N) ↔ N ≤ 30 ∧ ∀ i, i < N → dayB zs i = true := by
  constructor
  · rintro rfl
    refine ⟨?_, fun i hi => ?_⟩
    · rcases Nat.lt_or_ge 30 m with h' | h'
      · have := h.all 30 h'
        simp [dayP] at this
      · exact h'
    · have := h.all i hi
      simp only [dayP, Bool.and_eq_true] at this
      exact this.2
  · rintro ⟨h1, h2⟩
    have := h.le
    rcases Nat.lt_or_ge m N with h' | h'
    · have h3 := h.stop h'
      have h4 : dayP zs m = true := by simp [dayP, h2 m h']; omega
      rw [h3] at h4; cases h4
    · omega

set_option maxRecDepth 100000 in
set_option maxHeartbeats 1000000 in
theorem l03Ok_any (B N : Nat) (v : Value) (hN : N ≤ 2000000) (zs : List Int) (hz : zs.length = N * 2) (hzr : ∀ z ∈ zs, -128 ≤ z ∧ z ≤ 127) (m : Nat) (hm : FirstNo (dayP zs) N m) (w : World) (ho : w.ownsRow B 40 2 v N (intsV .i8 zs)) :
    Calls Try.prog 46 #[v] w fun e w' => e = .returned (.bool (decide (m = N))) ∧ Below w.heap.size w w' := by
  obtain ⟨av, cv, rfl⟩ := own_slice ho
  have HM := Lib.hid (first_all hm)
  have HZ := Lib.hid (show ∀ i, i < N → (zs[i * 2]? = some (rainZ zs i) ∧ zs[i * 2 + 1]? = some (warmZ zs i)) ∧ (-128 ≤ rainZ zs i ∧ rainZ zs i ≤ 127) ∧ -128 ≤ warmZ zs i ∧ warmZ zs i ≤ 127 from fun i hi => by
    have e0 : zs[i * 2]? = some (rainZ zs i) := by simp [rainZ, List.getElem?_eq_getElem (show i * 2 < zs.length by omega)]
    have e1 : zs[i * 2 + 1]? = some (warmZ zs i) := by simp [warmZ, List.getElem?_eq_getElem (show i * 2 + 1 < zs.length by omega)]
    exact ⟨⟨e0, e1⟩, hzr _ (List.mem_of_getElem? e0), hzr _ (List.mem_of_getElem? e1)⟩)
  have HO := Lib.hid ho
  clear ho hm hz hzr
  go_enter Try.func46, Try.ntmps46
  go_wp2_with fail
  go_loopw [3] (fun i wr => ∃ k : Nat, k ≤ N ∧ i = .int .i64 k ∧ (∀ j, j < k → dayB zs j = true) ∧ Below w.heap.size w wr) (fun i _ => N - (intOf i).toNat)
  case atStart => exact ⟨0, by omega, rfl, fun j hj => by omega, Below.refl _ _⟩
  case round =>
    obtain ⟨k, hk, rfl, hall, hb⟩ := hrel
    have HA := Lib.hid hall
    clear hall
    by_cases hlt : k < N
    · have hd : decide ((k : Int) < (N : Int)) = true := by simp; omega
      have ho := own_below HO.out hb
      obtain ⟨g, cap, he, hBg, hg⟩ := own_form ho (by omega)
      simp only [Value.slice.injEq, true_and] at he
      obtain ⟨rfl, rfl⟩ := he
      obtain ⟨⟨z0, z1⟩, r1, r2⟩ := HZ.out k hlt
      have c0 := own_cell ho _ _ (intsV_get (k := .i8) z0)
      have c1 := own_cell ho _ _ (intsV_get (k := .i8) z1)
      clear ho z0 z1
      obtain ⟨d, hdy⟩ : ∃ d, dayB zs k = d := ⟨_, rfl⟩
      have HD := Lib.hid hdy
      go_wp2_with fail
      refine (l03Day_is _ _ r1 r2 d hdy _).mono ?_
      rintro e w2 ⟨rfl, hb2⟩
      have hb3 := hb.trans (hb2.mono hb.size)
      clear c0 c1 hb2 hb r1 r2 hdy
      cases d
      case false =>
        have HV := Lib.hid (show decide (m = N) = false by
          rw [decide_eq_false_iff_not, HM.out]
          exact fun h => by have := h.2 k hlt; rw [HD.out] at this; cases this)
        go_wp2_with fail
        go_ret
        exact ⟨by rw [HV.out]; rfl, hb3⟩
      case true =>
        go_wp2_with fail
        go_roundw
        case rel => exact ⟨k + 1, by omega, by go_num, fun j hj => by
          by_cases e : j = k
          · subst e; exact HD.out
          · exact HA.out j (by omega), hb3⟩
        case measure => simp [intOf]; omega
    · have hd : decide ((k : Int) < (N : Int)) = false := by simp; omega
      obtain rfl : k = N := by omega
      have HV := Lib.hid (show decide (m = k) = decide ((k : Int) ≤ 30) by
        apply decide_eq_decide.2
        rw [HM.out]
        exact ⟨fun h => by omega, fun h => ⟨by omega, HA.out⟩⟩)
      go_wp2_with fail
      go_ret
      exact ⟨by rw [HV.out]; rfl, hb⟩

set_option maxRecDepth 100000 in
set_option maxHeartbeats 1000000 in
theorem specGrowth_any (B N : Nat) (v : Value) (hN : N ≤ 2000000) (zs : List Int) (hz : zs.length = N * 2) (hzr : ∀ z ∈ zs, -128 ≤ z ∧ z ≤ 127) (m : Nat) (hm : FirstNo (dayP zs) N m) (w : World) (ho : w.ownsRow B 40 2 v N (intsV .i8 zs)) :
    Calls Try.prog 15 #[v] w fun e w' => (∃ u, e = .returned (.tuple #[u, .int .i64 (growthC N m)]) ∧ w'.ownsRow w.heap.size 2 1 u (growthN N m) (growthV zs N m)) ∧ Below w.heap.size w w' := by
  have HK := Lib.hid (fun w ho => l03Ok_any B N v hN zs hz hzr m hm w ho)
  have hfa := first_all hm
  obtain ⟨av, cv, hve⟩ := own_slice ho
  have HZ := Lib.hid (show ∀ i, i < N → zs[i * 2]? = some (rainZ zs i) ∧ zs[i * 2 + 1]? = some (warmZ zs i) from fun i hi => ⟨by simp [rainZ, List.getElem?_eq_getElem (show i * 2 < zs.length by omega)], by simp [warmZ, List.getElem?_eq_getElem (show i * 2 + 1 < zs.length by omega)]⟩)
  have hb0 := (Below.refl w.heap.size w).alloc (Nat.le_refl _) (.cells #[] 2)
  have HO := Lib.hid (ho.alloc (.cells #[] 2))
  have hm0 : (w.alloc (.cells #[] 2)).ownsRow w.heap.size 2 1 (.slice (some ⟨w.heap.size, 0, none⟩) 0 0) 0 [] := World.ownsRow_made w #[] 0 (Nat.le_refl _) (by simp [maxLen]) rfl
  have HM0 := Lib.hid hm0
  have hlow := fun k (hk : v.ownBlock = some k) => (ho.lt k hk).2
  have HLW := Lib.hid hlow
  clear hm0 ho hz hzr hm hlow
  obtain ⟨i0, hi, hq0, hq1, hq2⟩ := info_parts i64Info
  by_cases hmN : m = N
  · have hall := hfa.1 hmN
    have hd : decide (m = N) = true := by simpa using hmN
    rw [growthC, growthN, growthV, if_pos hmN, if_pos hmN, if_pos hmN]
    rw [hd] at HK
    have HALL := Lib.hid hall.2
    have h30 := hall.1
    clear hfa hall hd hmN
    subst hve
    go_enter Try.func15, Try.ntmps15
    go_wp2_with fail
    refine (HK.out _ HO.out).mono ?_
    rintro e w1 ⟨rfl, hb1⟩
    have hb2 := below_onto hb0 hb1
    have HO1 := Lib.hid (own_below HO.out hb1)
    have HM1 := Lib.hid (own_below HM0.out hb1)
    clear hb0 hb1 HO HM0 HK
    go_wp2_with fail
    go_loopw [4, 5] (fun u i wr => ∃ k : Nat, k ≤ N ∧ i = .int .i64 k ∧ wr.ownsRow w.heap.size 2 1 u k (intsV .i64 (growL zs k)) ∧ wr.ownsRow B 40 2 (.slice av N cv) N (intsV .i8 zs) ∧ Below w.heap.size w wr) (fun _ i _ => N - (intOf i).toNat)
    case atStart => exact ⟨0, by omega, rfl, by simpa [growL, intsV] using HM1.out, HO1.out, hb2⟩
    case round =>
      obtain ⟨k, hk, rfl, hu, ho, hb⟩ := hrel
      have HU := Lib.hid hu
      have HOk := Lib.hid ho
      clear hu HM1 HO1
      by_cases hlt : k < N
      · have hd : decide ((k : Int) < (N : Int)) = true := by simp; omega
        obtain ⟨g, cap, he, hBg, hg⟩ := own_form ho (by omega)
        simp only [Value.slice.injEq, true_and] at he
        obtain ⟨rfl, rfl⟩ := he
        obtain ⟨z0, z1⟩ := HZ.out k hlt
        have c0 := own_cell ho _ _ (intsV_get (k := .i8) z0)
        have c1 := own_cell ho _ _ (intsV_get (k := .i8) z1)
        obtain ⟨r1, r2⟩ := dayB_range (HALL.out k hlt)
        clear ho z0 z1
        go_wp2_with fail
        refine (l03Growth_is _ _ r1 r2 _).mono ?_
        rintro e w2 ⟨rfl, hb3⟩
        have hb4 := hb.trans (hb3.mono hb.size)
        have HU2 := Lib.hid (own_below HU.out hb3)
        have HO2 := Lib.hid (own_below HOk.out hb3)
        clear c0 c1 hb3 hb r1 r2 HU HOk
        obtain ⟨gz, hgz⟩ : ∃ gz, (rainZ zs k / 10 + 1) * (warmZ zs k / 10) = gz := ⟨_, rfl⟩
        have HGZ := Lib.hid (show growL zs (k + 1) = growL zs k ++ [gz] by simp [growL, List.range_succ, growZ, hgz])
        rw [hgz]
        clear hgz
        go_wp2_with (at_builtin; refine wpList_append_own_at _ rfl _ _ 24 rfl w.heap.size 2 i0 (.int .i64 0) 1 8 Try.underlying24 hi hq0 hq1 hq2 rfl (by decide) _ _ _ rfl (HU2.out.alloc _) ⟨w2.heap.size, 0, none⟩ 1 1 [.int .i64 gz] rfl rfl ?c1 ?c2 ?c3 ?c4 ?c5 ?_)
        case c1 =>
          intro j z hj
          match j, hj with
          | 0, hj => simp at hj; subst hj; exact (Holds.new w2 #[.int .i64 gz] 2).cell 0
        case c2 => intro z hz; simp at hz; subst hz; rfl
        case c3 => unfold maxLen; omega
        case c4 => omega
        case c5 => have := hb4.size; simp; omega
        intro v' w9 hown' hgrow _ hat
        have hb9 : Below w.heap.size w w9 := (hb4.alloc hb4.size _).grown hgrow (by have := hb4.size; simp; omega) (fun k hk => by have := own_far HU2.out k hk; omega)
        have HO9 := Lib.hid ((HO2.out.alloc (.cells #[.int .i64 gz] 2)).kept hgrow (.inr (by
          intro e
          have h1 := HLW.out g (by simp [Value.ownBlock])
          have h2 := own_far HU2.out g e.symm
          omega)))
        have HU9 := Lib.hid (show w9.ownsRow w.heap.size 2 1 v' (k + 1) (intsV .i64 (growL zs (k + 1))) by
          rw [HGZ.out]
          simpa [intsV] using hown')
        clear hown' hgrow hat hb4 HU2 HO2
        go_wp2_with fail
        go_roundw
        case rel => exact ⟨k + 1, by omega, by go_num, HU9.out, HO9.out, hb9⟩
        case measure => simp [intOf]; omega
      · have hd : decide ((k : Int) < (N : Int)) = false := by simp; omega
        obtain rfl : k = N := by omega
        obtain ⟨au, cu, hue⟩ := own_slice HU.out
        clear HOk ho
        go_wp2_with fail
        go_ret2
        exact ⟨⟨_, rfl, HU.out⟩, hb⟩
  · have hd : decide (m = N) = false := by simpa using hmN
    rw [growthC, growthN, growthV, if_neg hmN, if_neg hmN, if_neg hmN]
    rw [hd] at HK
    clear hfa hd hmN
    subst hve
    go_enter Try.func15, Try.ntmps15
    go_wp2_with fail
    refine (HK.out _ HO.out).mono ?_
    rintro e w1 ⟨rfl, hb1⟩
    have hb2 := below_onto hb0 hb1
    have HM1 := Lib.hid (own_below HM0.out hb1)
    clear hb0 hb1 HO HM0 HK
    go_wp2_with fail
    go_ret2
    exact ⟨⟨_, rfl, HM1.out⟩, hb2⟩
end Go.Proofs.Ytbcbokpdcliimaa
