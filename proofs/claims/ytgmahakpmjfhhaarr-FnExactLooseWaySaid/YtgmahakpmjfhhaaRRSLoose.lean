/- LooseWay, of the model. -/
import Derived.Test.YtgmahakpmjfhhaaRRLooseP
import Derived.Test.YtgmahakpmjfhhaaRRGrow
namespace Go.Proofs.YtgmahakpmjfhhaaRR
open Go.RowKit
set_option linter.unusedVariables false

theorem cut_list (t : ByteArray) (k : Nat) (h : k + 1 < t.size) : (t.extract 0 k ++ t.extract (k + 2) t.size).data.toList = t.data.toList.take k ++ t.data.toList.drop (k + 2) := by
  have hs : t.size = t.data.toList.length := by rw [Array.length_toList]; rfl
  rw [ByteArray.data_append, ByteArray.data_extract, ByteArray.data_extract, Array.toList_append, Array.toList_extract, Array.toList_extract]
  simp only [List.extract, Nat.sub_zero, List.drop_zero]
  rw [hs, List.take_of_length_le (l := t.data.toList.drop (k + 2)) (by simp)]
theorem cut_size (t : ByteArray) (k : Nat) (h : k + 1 < t.size) : (t.extract 0 k ++ t.extract (k + 2) t.size).size = t.size - 2 := by
  have := congrArg List.length (cut_list t k h)
  have hs : t.size = t.data.toList.length := by rw [Array.length_toList]; rfl
  rw [Array.length_toList, List.length_append, List.length_take, List.length_drop, ← hs] at this
  have hd : (t.extract 0 k ++ t.extract (k + 2) t.size).size = (t.extract 0 k ++ t.extract (k + 2) t.size).data.size := rfl
  omega
def strLen : Value → Nat
  | .string t => t.size
  | _ => 0

set_option maxHeartbeats 1000000 in
theorem specLoose_any (s : ByteArray) (hs : s.size ≤ maxLen) (w : World) :
    Calls Try.prog 57 #[.string s] w fun e w' => e = .returned (.tuple #[.string (looseS s), .int .i64 (wayC s)]) ∧ Below w.heap.size w w' := by
  have HWY := Lib.hid (fun w => l02Way_any s hs w)
  obtain ⟨c, hc⟩ : ∃ c, wayC s = c := ⟨_, rfl⟩
  have hr := wayC_range s
  have HN := Lib.hid (show looseS s = if c = 0 then ⟨(looseL s.data.toList).reverse.toArray⟩ else ⟨#[]⟩ by unfold looseS; rw [hc])
  have hle : c = 0 → s.size ≤ 200 := fun h => wayC_le (hc.trans h)
  have HZ := Lib.hid (show c = 0 → ∀ x ∈ s.data.toList, OkL x from fun h => way_ok (hc.trans h))
  rw [hc] at HWY hr ⊢
  obtain ⟨hr0, hr1⟩ := hr
  clear hc
  by_cases h0 : c = 0
  · have hsz := hle h0
    have HN2 := Lib.hid (show looseS s = ⟨(looseL s.data.toList).reverse.toArray⟩ by rw [HN.out, if_pos h0])
    have HZ2 := Lib.hid (HZ.out h0)
    subst h0
    clear hle HN hs HZ
    go_enter Try.func57, Try.ntmps57
    go_wp2_with fail
    refine (HWY.out _).mono ?_
    rintro e w1 ⟨rfl, rfl⟩
    go_wp2_with fail
    go_loopw [0, 5] (fun v i wr => ∃ (k : Nat) (t : ByteArray), v = .string t ∧ i = .int .i64 k ∧ k ≤ t.size ∧ t.size ≤ s.size ∧ (∀ x ∈ t.data.toList, OkL x) ∧ looseL t.data.toList = looseL s.data.toList ∧ (∀ q, q + 1 < t.size → q < k → t.data.toList.getD (q + 1) 0 ≠ oppU (t.data.toList.getD q 0)) ∧ Below w.heap.size w wr) (fun v i _ => strLen v * 300 + 300 - (intOf i).toNat)
    case atStart => exact ⟨0, s, rfl, rfl, Nat.zero_le _, Nat.le_refl _, HZ2.out, rfl, fun q _ h => by omega, Below.refl _ _⟩
    case round =>
      obtain ⟨k, t, rfl, rfl, hk, ht, hok, hlo, hq, hb⟩ := hrel
      have HOK := Lib.hid hok
      have HLO := Lib.hid hlo
      have HQ := Lib.hid hq
      clear hok hlo hq
      have hts : t.size = t.data.toList.length := by rw [Array.length_toList]; rfl
      have HTS := Lib.hid hts
      clear hts
      by_cases hlt : k + 1 < t.size
      · have hd : decide ((k : Int) + 1 < (t.size : Int)) = true := by simp; omega
        have hk0 : k < t.size := by omega
        have g0 : t.data.toList[k]? = some (t[k]'hk0) := byte_get t k hk0
        have g1 : t.data.toList[k + 1]? = some (t[k + 1]'hlt) := byte_get t (k + 1) hlt
        have o0 : OkL (t[k]'hk0) := HOK.out _ (List.mem_of_getElem? g0)
        have o1 : OkL (t[k + 1]'hlt) := HOK.out _ (List.mem_of_getElem? g1)
        have hsum := opp_sum o0 o1
        obtain ⟨a, ha, hL0⟩ := okL_let o0
        obtain ⟨b, hb1, hL1⟩ := okL_let o1
        rw [hL0, hL1] at hsum
        have HL0 := Lib.hid (fun w => hL0 ▸ l02Letter_any (t[k]'hk0) w)
        have HL1 := Lib.hid (fun w => hL1 ▸ l02Letter_any (t[k + 1]'hlt) w)
        have HSUM := Lib.hid hsum
        have HO0 := Lib.hid o0
        have HG := Lib.hid (show t.data.toList.getD k 0 = t[k]'hk0 ∧ t.data.toList.getD (k + 1) 0 = t[k + 1]'hlt by
          rw [List.getD_eq_getElem?_getD, List.getD_eq_getElem?_getD, g0, g1]; exact ⟨rfl, rfl⟩)
        clear hL0 hL1 hsum o0 o1 g0 g1
        go_wp2_with fail
        refine wp_region_grow 10 (by kernel_rfl) (by kernel_rfl) ?_
        simp only [List.take_succ_cons, List.take_zero, List.drop_succ_cons, List.drop_zero]
        iterate 2
          apply wpGrow_plain rfl
          · intro w' hw' K hK
            go_wp2_with fail
            exact hK _ _ rfl hw'
          simp only [Act.put, List.setIfInBounds_toArray, List.set_cons_succ, List.set_cons_zero]
        refine wpGrow_plain (v := .int .u8 ((t[k]'hk0).toNat : Int)) rfl ?_ ?_
        · intro w' hw' K hK
          go_wp2_with fail
          exact hK _ _ rfl hw'
        simp only [Act.put, List.setIfInBounds_toArray, List.set_cons_succ, List.set_cons_zero]
        refine wpGrow_plain (v := .int .i64 (a : Int)) rfl ?_ ?_
        · intro w' hw' K hK
          go_wp2_with fail
          refine (HL0.out _).mono ?_
          rintro e w1 ⟨rfl, rfl⟩
          go_wp2_with fail
          exact hK _ _ rfl hw'
        simp only [Act.put, List.setIfInBounds_toArray, List.set_cons_succ, List.set_cons_zero]
        iterate 3
          apply wpGrow_plain rfl
          · intro w' hw' K hK
            go_wp2_with fail
            exact hK _ _ rfl hw'
          simp only [Act.put, List.setIfInBounds_toArray, List.set_cons_succ, List.set_cons_zero]
        refine wpGrow_plain (v := .int .u8 ((t[k + 1]'hlt).toNat : Int)) rfl ?_ ?_
        · intro w' hw' K hK
          go_wp2_with fail
          exact hK _ _ rfl hw'
        simp only [Act.put, List.setIfInBounds_toArray, List.set_cons_succ, List.set_cons_zero]
        refine wpGrow_plain (v := .int .i64 (b : Int)) rfl ?_ ?_
        · intro w' hw' K hK
          go_wp2_with fail
          refine (HL1.out _).mono ?_
          rintro e w1 ⟨rfl, rfl⟩
          go_wp2_with fail
          exact hK _ _ rfl hw'
        simp only [Act.put, List.setIfInBounds_toArray, List.set_cons_succ, List.set_cons_zero]
        refine wpGrow_plain (v := .int .i64 ((a : Int) + b)) rfl ?_ ?_
        · intro w' hw' K hK
          go_wp2_with fail
          exact hK _ _ rfl hw'
        simp only [Act.put, List.setIfInBounds_toArray, List.set_cons_succ, List.set_cons_zero]
        refine wpGrow_nil ?_
        intro W2 hW2
        have hb2 := below_onto hb hW2
        clear hb hW2
        by_cases he : (a : Int) + b = 3
        · have heq : ((a : Int) + b == 3) = true := by simpa using he
          have HC := Lib.hid (show looseL (t.extract 0 k ++ t.extract (k + 2) t.size).data.toList = looseL s.data.toList by
            have h2 := two_at t.data.toList k (by rw [← HTS.out]; exact hlt)
            have e1 := HSUM.out.1 he
            have e2 : t.data.toList[k + 1]'(by rw [← HTS.out]; exact hlt) = oppU (t.data.toList[k]'(by rw [← HTS.out]; exact hk0)) := e1
            rw [e2] at h2
            rw [cut_list t k hlt, ← HLO.out]
            conv => rhs; rw [h2]
            exact (loose_pair _ _ _ (fun c hc => HOK.out c (List.mem_of_mem_take hc)) HO0.out).symm)
          have HOK2 := Lib.hid (show ∀ x ∈ (t.extract 0 k ++ t.extract (k + 2) t.size).data.toList, OkL x by
            intro x hx
            rw [cut_list t k hlt] at hx
            rcases List.mem_append.1 hx with h | h
            · exact HOK.out x (List.mem_of_mem_take h)
            · exact HOK.out x (List.mem_of_mem_drop h))
          have hcs := cut_size t k hlt
          clear he
          go_wp2_with fail
          refine wp_region_grow 8 (by kernel_rfl) (by kernel_rfl) ?_
          simp only [List.take_succ_cons, List.take_zero, List.drop_succ_cons, List.drop_zero]
          iterate 2
            apply wpGrow_plain rfl
            · intro w' hw' K hK
              go_wp2_with fail
              exact hK _ _ rfl hw'
            simp only [Act.put, List.setIfInBounds_toArray, List.set_cons_succ, List.set_cons_zero]
          refine wpGrow_plain (v := .string (t.extract 0 k)) rfl ?_ ?_
          · intro w' hw' K hK
            go_wp2_with fail
            exact hK _ _ rfl hw'
          simp only [Act.put, List.setIfInBounds_toArray, List.set_cons_succ, List.set_cons_zero]
          iterate 3
            apply wpGrow_plain rfl
            · intro w' hw' K hK
              go_wp2_with fail
              exact hK _ _ rfl hw'
            simp only [Act.put, List.setIfInBounds_toArray, List.set_cons_succ, List.set_cons_zero]
          refine wpGrow_plain (v := .string (t.extract (k + 2) t.size)) rfl ?_ ?_
          · intro w' hw' K hK
            go_wp2_with fail
            exact hK _ _ rfl hw'
          simp only [Act.put, List.setIfInBounds_toArray, List.set_cons_succ, List.set_cons_zero]
          refine wpGrow_plain (v := .string (t.extract 0 k ++ t.extract (k + 2) t.size)) rfl ?_ ?_
          · intro w' hw' K hK
            have hadd : ¬ (9223372036854775807 < (t.extract 0 k).size + (t.extract (k + 2) t.size).size) := by
              rw [ByteArray.size_append'] at hcs
              omega
            go_wp2_with fail
            exact hK _ _ rfl hw'
          simp only [Act.put, List.setIfInBounds_toArray, List.set_cons_succ, List.set_cons_zero]
          refine wpGrow_nil ?_
          intro W3 hW3
          have hb3 := below_onto hb2 hW3
          clear hb2 hW3
          obtain ⟨t', ht'⟩ : ∃ t', t.extract 0 k ++ t.extract (k + 2) t.size = t' := ⟨_, rfl⟩
          rw [ht'] at HC HOK2 hcs ⊢
          clear ht'
          go_wp2_with fail
          go_roundw
          case rel => exact ⟨0, t', rfl, rfl, Nat.zero_le _, by omega, HOK2.out, HC.out, fun q _ h => by omega, hb3⟩
          case measure => simp [intOf, strLen]; omega
        · have hne : ((a : Int) + b == 3) = false := by simpa using he
          have HQ2 := Lib.hid (show ∀ q, q + 1 < t.size → q < k + 1 → t.data.toList.getD (q + 1) 0 ≠ oppU (t.data.toList.getD q 0) from fun q h1 h2 => by
            by_cases e : q = k
            · subst e
              rw [HG.out.1, HG.out.2]
              exact fun h => he (HSUM.out.2 h)
            · exact HQ.out q h1 (by omega))
          clear he
          go_wp2_with fail
          go_roundw
          case rel => exact ⟨k + 1, t, rfl, by go_num, by omega, ht, HOK.out, HLO.out, HQ2.out, hb2⟩
          case measure => simp [intOf, strLen]; omega
      · have hd : decide ((k : Int) + 1 < (t.size : Int)) = false := by simp; omega
        have hwhole := loose_whole t.data.toList HOK.out (fun q h => HQ.out q (by rw [HTS.out]; exact h) (by rw [← HTS.out] at h; omega))
        rw [HLO.out] at hwhole
        have HW := Lib.hid (show looseS s = t by
          rw [HN2.out, hwhole, List.reverse_reverse])
        clear hwhole
        go_wp2_with fail
        go_ret2
        exact ⟨by rw [HW.out]; rfl, hb⟩
  · have HN2 := Lib.hid (show looseS s = ⟨#[]⟩ by rw [HN.out, if_neg h0])
    have hb0 : (c == 0) = false := by simpa using h0
    clear hle HN hs HZ
    go_enter Try.func57, Try.ntmps57
    go_wp2_with fail
    refine (HWY.out _).mono ?_
    rintro e w1 ⟨rfl, rfl⟩
    have hb1 : (c != 0) = true := by simpa [bne] using hb0
    go_wp2_with fail
    go_ret2
    exact ⟨by rw [HN2.out]; rfl, Below.refl _ _⟩
end Go.Proofs.YtgmahakpmjfhhaaRR
