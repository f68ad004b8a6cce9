/- LooseWay, of the program; the law. -/
import Derived.Test.YtgmahakpmjfhhaaRRSLoose
import Derived.Test.YtgmahakpmjfhhaaRRGrowM
namespace Go.Proofs.YtgmahakpmjfhhaaRR
open Go.RowKit
set_option linter.unusedVariables false

/-- An own row cut at its end. -/
theorem own_cut {w : World} {B : Nat} {e : TypeId} {size n m g cap : Nat} {xs : List Value} (h : w.ownsRow B e size (.slice (some ⟨g, 0, none⟩) n cap) n xs) (hm : m ≤ n) :
    w.ownsRow B e size (.slice (some ⟨g, 0, none⟩) m cap) m (xs.take (m * size)) := by
  obtain ⟨hl, h | ⟨g', cap', cur, he, hb, hg, hn, hc, hs, hx⟩⟩ := h
  · simp at h
  · simp only [Value.slice.injEq, Option.some.injEq, Addr.mk.injEq, and_true, true_and] at he
    obtain ⟨rfl, rfl⟩ := he
    have hms : m * size ≤ n * size := Nat.mul_le_mul_right _ hm
    refine ⟨by rw [List.length_take]; omega, .inr ⟨g, cap, cur, rfl, hb, hg, by omega, hc, hs, ?_⟩⟩
    rw [← hx, List.take_take, Nat.min_eq_left hms]

theorem own_room {w : World} {B : Nat} {e : TypeId} {size n g cap : Nat} {xs : List Value} (h : w.ownsRow B e size (.slice (some ⟨g, 0, none⟩) n cap) n xs) : n ≤ cap := by
  obtain ⟨hl, h | ⟨g', cap', cur, he, hb, hg, hn, hc, hs, hx⟩⟩ := h
  · simp at h
  · simp only [Value.slice.injEq, Option.some.injEq, Addr.mk.injEq, and_true, true_and] at he
    obtain ⟨rfl, rfl⟩ := he
    exact hn

set_option maxHeartbeats 2000000 in
theorem loosened_any (s : ByteArray) (hsz : s.size ≤ 200) (hz : ∀ x ∈ s.data.toList, OkL x) (w : World) :
    Calls Try.prog 131 #[.string s] w fun e w' => e = .returned (.string ⟨(looseL s.data.toList).reverse.toArray⟩) ∧ Below w.heap.size w w' := by
  have HZ := Lib.hid hz
  obtain ⟨i0, hi, hz0, hz1, hz2⟩ := info_parts u8Info
  have HI := Lib.hid (show Try.prog.info? 5 = some i0 ∧ i0.zero = some (.int .u8 0) ∧ i0.size = 1 ∧ i0.bytes = 1 from ⟨hi, hz0, hz1, hz2⟩)
  clear hz hi hz0 hz1 hz2
  go_enter Try.func131, Try.ntmps131
  go_wp2_with fail
  go_loopw [3, 8] (fun v i wr => ∃ k : Nat, k ≤ s.size ∧ i = .int .i64 k ∧ wr.ownsRow w.heap.size 5 1 v (looseL (s.data.toList.take k)).length (u8s (looseL (s.data.toList.take k)).reverse) ∧ Below w.heap.size w wr) (fun _ i _ => 300 - (intOf i).toNat)
  case atStart => exact ⟨0, Nat.zero_le _, rfl, World.ownsRow_nil _ _ _ _, Below.refl _ _⟩
  case round =>
    obtain ⟨k, hk, rfl, ho, hb⟩ := hrel
    by_cases hlt : k < s.size
    · have hd : decide ((k : Int) < (s.size : Int)) = true := by simp; omega
      have g0 : s.data.toList[k]? = some (s[k]'hlt) := byte_get s k hlt
      have o0 : OkL (s[k]'hlt) := HZ.out _ (List.mem_of_getElem? g0)
      obtain ⟨j, hj, hL⟩ := okL_let o0
      have HLE := Lib.hid hL
      have hp : looseL (s.data.toList.take (k + 1)) = pushL (looseL (s.data.toList.take k)) (s[k]'hlt) := by
        rw [List.take_add_one, g0, Option.toList_some, loose_append]
      have hln : (looseL (s.data.toList.take k)).length ≤ k := Nat.le_trans (loose_length _ _) (by simp; omega)
      obtain ⟨st, hst⟩ : ∃ st, looseL (s.data.toList.take k) = st := ⟨_, rfl⟩
      rw [hst] at ho hp hln
      clear hst hL g0 o0
      cases st with
      | nil =>
        have ho : wr.ownsRow w.heap.size 5 1 _ 0 (u8s []) := ho
        obtain ⟨a, c, rfl⟩ := own_slice ho
        have HO := Lib.hid ho
        have HP := Lib.hid (show looseL (s.data.toList.take (k + 1)) = [s[k]'hlt] from hp)
        clear ho hp hln
        go_wp2_with fail
        refine wp_region_grow 12 (by kernel_rfl) (by kernel_rfl) ?_
        simp only [List.take_succ_cons, List.take_zero, List.drop_succ_cons, List.drop_zero]
        iterate 3
          apply wpGrow_plain rfl
          · intro w' hw' K hK
            go_wp2_with fail
            exact hK _ _ rfl hw'
          simp only [Act.put, List.setIfInBounds_toArray, List.set_cons_succ, List.set_cons_zero]
        iterate 9
          apply wpGrow_off rfl
          simp only [Act.put, List.setIfInBounds_toArray, List.set_cons_succ, List.set_cons_zero]
        refine wpGrow_nil ?_
        intro W2 hW2
        have hb2 := below_onto hb hW2
        have HO2 := Lib.hid (own_below HO.out hW2)
        clear hb hW2 HO
        go_wp2_with (at_builtin; refine wpList_append_own_at _ rfl _ _ 22 rfl w.heap.size 5 i0 (.int .u8 0) 1 1 Try.underlying22 HI.out.1 HI.out.2.1 HI.out.2.2.1 HI.out.2.2.2 rfl (by decide) _ _ _ rfl (HO2.out.alloc _) ⟨_, 0, none⟩ 1 1 [.int .u8 ((s[k]'hlt).toNat : Int)] rfl rfl ?c1 ?c2 ?c3 ?c4 ?c5 ?_)
        case c1 =>
          intro q u hu
          match q, hu with
          | 0, hu => simp at hu; subst hu; exact (Holds.new W2 #[_] 5).cell 0
        case c2 => intro u hu; simp at hu; subst hu; rfl
        case c3 => unfold maxLen; omega
        case c4 => omega
        case c5 => have := hb2.size; simp; omega
        intro v' w5 hown' hgrow _ hat
        have hb7 : Below w.heap.size w w5 := (hb2.alloc hb2.size _).grown hgrow (by have := hb2.size; simp; omega) (fun k hk => own_far HO2.out k hk)
        have HO5 := Lib.hid (show w5.ownsRow w.heap.size 5 1 v' (looseL (s.data.toList.take (k + 1))).length (u8s (looseL (s.data.toList.take (k + 1))).reverse) by
          rw [HP.out]
          simpa [u8s] using hown')
        clear hown' hgrow hat hb2 HO2
        go_wp2_with fail
        go_roundw
        case rel => exact ⟨k + 1, by omega, by go_num, HO5.out, hb7⟩
        case measure => simp [intOf]; omega
      | cons t r =>
        obtain ⟨g, cap, rfl, hg0, hg1⟩ := own_form ho (by simp)
        have hrl : r.length + 1 ≤ 200 := by simp at hln; omega
        have HO := Lib.hid (show wr.ownsRow w.heap.size 5 1 (.slice (some ⟨g, 0, none⟩) (r.length + 1) cap) (r.length + 1) (u8s (r.reverse ++ [t])) by simpa using ho)
        have HCA := Lib.hid (show ∀ w' : World, Below wr.heap.size wr w' → w'.cell? ⟨g, r.length, none⟩ = some (.int .u8 (t.toNat : Int)) from fun w' hw => own_cell (own_below HO.out hw) _ _ (by simp [u8s]))
        have hwr : wrap64 (r.length : Int) = r.length := by unfold wrap64; omega
        have hge : decide ((0 : Int) ≤ (r.length : Int)) = true := by simp
        have HDE := Lib.hid (show ((t.toNat : Int) == ((oppU (s[k]'hlt)).toNat : Int)) = decide (t = oppU (s[k]'hlt)) by
          rw [Bool.eq_iff_iff]
          simp only [beq_iff_eq, decide_eq_true_eq]
          constructor
          · intro h; exact UInt8.toNat_inj.1 (by omega)
          · intro h; rw [h])
        have HPP := Lib.hid (show looseL (s.data.toList.take (k + 1)) = if t = oppU (s[k]'hlt) then r else (s[k]'hlt) :: t :: r from hp)
        have hcap : r.length ≤ cap := Nat.le_trans (Nat.le_succ _) (own_room ho)
        clear ho hp hln
        simp only [List.length_cons]
        go_wp2_with fail
        refine wp_region_grow 12 (by kernel_rfl) (by kernel_rfl) ?_
        simp only [List.take_succ_cons, List.take_zero, List.drop_succ_cons, List.drop_zero]
        iterate 3
          apply wpGrow_plain rfl
          · intro w' hw' K hK
            go_wp2_with fail
            exact hK _ _ rfl hw'
          simp only [Act.put, List.setIfInBounds_toArray, List.set_cons_succ, List.set_cons_zero]
        refine wpGrow_on (v := .slice (some ⟨g, 0, none⟩) (r.length + 1) cap) rfl ?_ ?_
        · intro w' hw' K hK
          go_wp2_with fail
          exact hK _ _ rfl hw'
        simp only [Act.put, List.setIfInBounds_toArray, List.set_cons_succ, List.set_cons_zero]
        refine wpGrow_on (v := .int .i64 (r.length : Int)) rfl ?_ ?_
        · intro w' hw' K hK
          go_wp2_with fail
          exact hK _ _ rfl hw'
        simp only [Act.put, List.setIfInBounds_toArray, List.set_cons_succ, List.set_cons_zero]
        refine wpGrow_on (v := .pointer (some ⟨g, r.length, none⟩)) rfl ?_ ?_
        · intro w' hw' K hK
          go_wp2_with fail
          exact hK _ _ rfl hw'
        simp only [Act.put, List.setIfInBounds_toArray, List.set_cons_succ, List.set_cons_zero]
        refine wpGrow_on (v := .int .u8 (t.toNat : Int)) rfl ?_ ?_
        · intro w' hw' K hK
          have ca := (HCA.out _ hw')
          go_wp2_with fail
          exact hK _ _ rfl hw'
        simp only [Act.put, List.setIfInBounds_toArray, List.set_cons_succ, List.set_cons_zero]
        refine wpGrow_on (v := .string s) rfl ?_ ?_
        · intro w' hw' K hK
          go_wp2_with fail
          exact hK _ _ rfl hw'
        simp only [Act.put, List.setIfInBounds_toArray, List.set_cons_succ, List.set_cons_zero]
        refine wpGrow_on (v := .int .i64 (k : Int)) rfl ?_ ?_
        · intro w' hw' K hK
          go_wp2_with fail
          exact hK _ _ rfl hw'
        simp only [Act.put, List.setIfInBounds_toArray, List.set_cons_succ, List.set_cons_zero]
        refine wpGrow_on (v := .int .u8 ((s[k]'hlt).toNat : Int)) rfl ?_ ?_
        · intro w' hw' K hK
          go_wp2_with fail
          exact hK _ _ rfl hw'
        simp only [Act.put, List.setIfInBounds_toArray, List.set_cons_succ, List.set_cons_zero]
        refine wpGrow_on (v := .int .u8 ((oppU (s[k]'hlt)).toNat : Int)) rfl ?_ ?_
        · intro w' hw' K hK
          go_wp2_with (refine (opposite_any (s[k]'hlt) j hj HLE.out _).mono ?_; rintro e w1 ⟨rfl, rfl⟩)
          exact hK _ _ rfl hw'
        simp only [Act.put, List.setIfInBounds_toArray, List.set_cons_succ, List.set_cons_zero]
        refine wpGrow_on (v := .bool (decide (t = oppU (s[k]'hlt)))) rfl ?_ ?_
        · intro w' hw' K hK
          have hde := HDE.out
          go_wp2_with fail
          exact hK _ _ rfl hw'
        simp only [Act.put, List.setIfInBounds_toArray, List.set_cons_succ, List.set_cons_zero]
        refine wpGrow_nil ?_
        intro W2 hW2
        have hb2 := below_onto hb hW2
        have HO2 := Lib.hid (own_below HO.out hW2)
        clear hb hW2 HO
        by_cases ht : t = oppU (s[k]'hlt)
        · have HP := Lib.hid (show looseL (s.data.toList.take (k + 1)) = r by rw [HPP.out, if_pos ht])
          have hdt : decide (t = oppU (s[k]'hlt)) = true := by simpa using ht
          clear HPP HDE HCA
          simp only [hdt]
          clear ht hdt
          go_wp2_with fail
          go_roundw
          case rel => exact ⟨k + 1, by omega, by go_num, by rw [HP.out]; simpa [u8s] using own_cut HO2.out (show r.length ≤ r.length + 1 by omega), hb2⟩
          case measure => simp [intOf]; omega
        · have HP := Lib.hid (show looseL (s.data.toList.take (k + 1)) = (s[k]'hlt) :: t :: r by rw [HPP.out, if_neg ht])
          have hdt : decide (t = oppU (s[k]'hlt)) = false := by simpa using ht
          clear HPP HDE HCA
          simp only [hdt]
          clear ht hdt
          go_wp2_with (at_builtin; refine wpList_append_own_at _ rfl _ _ 22 rfl w.heap.size 5 i0 (.int .u8 0) 1 1 Try.underlying22 HI.out.1 HI.out.2.1 HI.out.2.2.1 HI.out.2.2.2 rfl (by decide) _ _ _ rfl (HO2.out.alloc _) ⟨_, 0, none⟩ 1 1 [.int .u8 ((s[k]'hlt).toNat : Int)] rfl rfl ?c1 ?c2 ?c3 ?c4 ?c5 ?_)
          case c1 =>
            intro q u hu
            match q, hu with
            | 0, hu => simp at hu; subst hu; exact (Holds.new W2 #[_] 5).cell 0
          case c2 => intro u hu; simp at hu; subst hu; rfl
          case c3 => unfold maxLen; omega
          case c4 => omega
          case c5 => have := hb2.size; simp; omega
          intro v' w5 hown' hgrow _ hat
          have hb7 : Below w.heap.size w w5 := (hb2.alloc hb2.size _).grown hgrow (by have := hb2.size; simp; omega) (fun k hk => own_far HO2.out k hk)
          have HO5 := Lib.hid (show w5.ownsRow w.heap.size 5 1 v' (looseL (s.data.toList.take (k + 1))).length (u8s (looseL (s.data.toList.take (k + 1))).reverse) by
            rw [HP.out]
            simpa [u8s] using hown')
          clear hown' hgrow hat hb2 HO2
          go_wp2_with fail
          go_roundw
          case rel => exact ⟨k + 1, by omega, by go_num, HO5.out, hb7⟩
          case measure => simp [intOf]; omega
    · have hd : decide ((k : Int) < (s.size : Int)) = false := by simp; omega
      have HE := Lib.hid (show s.data.toList.take k = s.data.toList by
        have hl : s.size = s.data.toList.length := by rw [Array.length_toList]; rfl
        rw [List.take_of_length_le (by omega)])
      rw [HE.out] at ho
      have hcv := conv_own ho (by simp)
      clear ho
      go_wp2_with fail
      go_ret
      exact ⟨rfl, hb⟩

set_option maxHeartbeats 1000000 in
theorem implLoose_any (s : ByteArray) (hs : s.size ≤ maxLen) (w : World) :
    Calls Try.prog 56 #[.string s] w fun e w' => e = .returned (.tuple #[.string (looseS s), .int .i64 (wayC s)]) ∧ Below w.heap.size w w' := by
  have HC := Lib.hid (fun w => checkedS_any s hs 131 (looseS s) (enters_of Try.func131 (by kernel_rfl) rfl)
    (fun h w => by
      have := loosened_any s (wayC_le h) (way_ok h) w
      unfold looseS
      rw [if_pos h]
      exact this) (fun h => by unfold looseS; rw [if_neg h]) w)
  go_enter Try.func56, Try.ntmps56
  go_wp2_with fail
  refine (HC.out _).mono ?_
  rintro e w1 ⟨rfl, hb⟩
  go_wp2_with fail
  go_ret2
  exact ⟨rfl, hb⟩

set_option maxHeartbeats 1000000 in
theorem exactLoose (s : ByteArray) (hs : s.size ≤ maxLen) (w : World) :
    Calls Try.prog 21 #[.string s] w fun e w' => e = .returned (.bool true) ∧ Below w.heap.size w w' := by
  have HI := Lib.hid (fun w => implLoose_any s hs w)
  have HS := Lib.hid (fun w => specLoose_any s hs w)
  unfold maxLen at hs
  by_cases hl : 1048576 < s.size
  · have hd : decide ((1048576 : Int) < (s.size : Int)) = true := by simp; omega
    go_enter Try.func21, Try.ntmps21
    go_wp2_with fail
    go_ret
    exact ⟨rfl, Below.refl _ _⟩
  · have hd : decide ((1048576 : Int) < (s.size : Int)) = false := by simp; omega
    go_enter Try.func21, Try.ntmps21
    go_wp2_with fail
    refine (HS.out _).mono ?_
    rintro e w1 ⟨rfl, hb1⟩
    go_wp2_with fail
    refine (HI.out _).mono ?_
    rintro e w2 ⟨rfl, hb2⟩
    have hb3 := below_onto hb1 hb2
    go_wp2_with fail
    go_ret
    exact ⟨rfl, hb3⟩
end Go.Proofs.YtgmahakpmjfhhaaRR
