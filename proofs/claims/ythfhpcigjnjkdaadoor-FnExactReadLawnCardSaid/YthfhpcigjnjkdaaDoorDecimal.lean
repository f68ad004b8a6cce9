/- Decimal and l01Number: the model's texts of numbers, and its reading of them. -/
import Derived.Test.YthfhpcigjnjkdaaDoorTextP
import Derived.Test.YthfhpcigjnjkdaaDoorGrowMP
import Derived.Test.YthfhpcigjnjkdaaDoorZB
namespace Go.Proofs.YthfhpcigjnjkdaaDoor
open Go.RowKit Go.Shelf
set_option linter.unusedVariables false
set_option linter.unusedSimpArgs false

theorem conv_u8 (w : World) (c : UInt8) : (convert 128 9 (.slice (some ⟨w.heap.size, 0, none⟩) 1 1)).run Tryd.prog (w.alloc (.cells #[.int .u8 c.toNat] 5)) = .ok (.string ⟨#[c]⟩) (w.alloc (.cells #[.int .u8 c.toNat] 5)) := by
  refine run_convert_bytes_back _ 128 9 5 ⟨w.heap.size, 0, none⟩ 1 [c] Tryd.underlying128 Tryd.underlying5 Tryd.underlying9 (fun j hj => ?_)
  have : j = 0 := by simp at hj; omega
  subst this
  simp [Addr.add]
theorem conv_held (w : World) (c : UInt8) (p : Nat) (h : Holds w p #[.int .u8 c.toNat]) : (convert 128 9 (.slice (some ⟨p, 0, none⟩) 1 1)).run Tryd.prog w = .ok (.string ⟨#[c]⟩) w := by
  refine run_convert_bytes_back _ 128 9 5 ⟨p, 0, none⟩ 1 [c] Tryd.underlying128 Tryd.underlying5 Tryd.underlying9 (fun j hj => ?_)
  have : j = 0 := by simp at hj; omega
  subst this
  have := h.cell 0
  simpa [Addr.add] using this
theorem digit_nat (d : Nat) (h : d < 10) : (UInt8.ofNat (48 + d)).toNat = 48 + d := by
  rw [UInt8.toNat_ofNat']
  exact Nat.mod_eq_of_lt (by omega)

theorem conv_dig (w : World) (n : Nat) : (convert 128 9 (.slice (some ⟨w.heap.size, 0, none⟩) 1 1)).run Tryd.prog (w.alloc (.cells #[.int .u8 (48 + (n : Int) % 10)] 5)) = .ok (.string ⟨#[UInt8.ofNat (48 + n % 10)]⟩) (w.alloc (.cells #[.int .u8 (48 + (n : Int) % 10)] 5)) := by
  have := conv_u8 w (UInt8.ofNat (48 + n % 10))
  rw [digit_nat (n % 10) (Nat.mod_lt _ (by decide))] at this
  exact this
theorem conv_digH (w : World) (n p : Nat) (h : Holds w p #[.int .u8 (48 + (n : Int) % 10)]) : (convert 128 9 (.slice (some ⟨p, 0, none⟩) 1 1)).run Tryd.prog w = .ok (.string ⟨#[UInt8.ofNat (48 + n % 10)]⟩) w := by
  refine conv_held w (UInt8.ofNat (48 + n % 10)) p ?_
  rw [digit_nat (n % 10) (Nat.mod_lt _ (by decide))]
  exact h

set_option maxRecDepth 100000 in
set_option maxHeartbeats 1000000 in
theorem decimal_one (n : Nat) (hn : n < 10) (w : World) :
    Calls Tryd.prog 113 #[.int .i64 (n : Int)] w fun e w' => e = .returned (.string ⟨(Lib.decDigits n).toArray⟩) ∧ Below w.heap.size w w' := by
  have hd : decide ((n : Int) < 10) = true := by simp; omega
  have HD := Lib.hid (show Lib.decDigits n = [UInt8.ofNat (48 + n % 10)] by rw [dec_small hn, Nat.mod_eq_of_lt hn])
  have hcv := conv_dig w n
  obtain ⟨c, hc⟩ : ∃ c : UInt8, UInt8.ofNat (48 + n % 10) = c := ⟨_, rfl⟩
  rw [hc] at HD hcv
  clear hc
  go_enter Tryd.func113, Tryd.ntmps113
  go_wp2_with fail
  go_ret
  exact ⟨by rw [HD.out]; rfl, (Below.refl _ _).alloc (Nat.le_refl _) _⟩

set_option maxRecDepth 100000 in
set_option maxHeartbeats 1000000 in
theorem decimal_more (n : Nat) (hn : 10 ≤ n) (hn2 : n < 1000) (h : ∀ w, Calls Tryd.prog 113 #[.int .i64 ((n / 10 : Nat) : Int)] w fun e w' => e = .returned (.string ⟨(Lib.decDigits (n / 10)).toArray⟩) ∧ Below w.heap.size w w') (w : World) :
    Calls Tryd.prog 113 #[.int .i64 (n : Int)] w fun e w' => e = .returned (.string ⟨(Lib.decDigits n).toArray⟩) ∧ Below w.heap.size w w' := by
  have hd : decide ((n : Int) < 10) = false := by simp; omega
  have HD := Lib.hid (show Lib.decDigits n = Lib.decDigits (n / 10) ++ [UInt8.ofNat (48 + n % 10)] from dec_step (by omega))
  obtain ⟨A, hA⟩ : ∃ A, Lib.decDigits (n / 10) = A := ⟨_, rfl⟩
  have hlen : A.length ≤ 10 := by
    rw [← hA, dec_dd (by omega)]
    have := (dd_len (n / 10) (by omega)).2
    omega
  rw [hA] at h HD
  have HV := Lib.hid (fun w p h => conv_digH w n p h)
  obtain ⟨c, hc⟩ : ∃ c : UInt8, UInt8.ofNat (48 + n % 10) = c := ⟨_, rfl⟩
  rw [hc] at HD HV
  rw [show ((n / 10 : Nat) : Int) = (n : Int) / 10 by omega] at h
  have H := Lib.hid h
  clear hA h hc
  go_enter Tryd.func113, Tryd.ntmps113
  go_wp2_with fail
  refine wp_region_growP 10 7 [8] (fun p w' => Holds w' p #[.int .u8 (48 + (n : Int) % 10)]) (fun p a b h hb => h.below hb h.lt)
    (fun p => [.int .i64 (n : Int), .int .i64 ((n : Int) / 10), .string ⟨A.toArray⟩, .int .i64 (n : Int), .int .i64 ((n : Int) % 10), .int .i64 (48 + (n : Int) % 10), .int .u8 (48 + (n : Int) % 10), .slice (some ⟨p, 0, none⟩) 1 1, .string ⟨#[c]⟩, .string (⟨A.toArray⟩ ++ ⟨#[c]⟩)]) ?hv (by kernel_rfl) (by kernel_rfl) (by kernel_rfl) ?_
  case hv =>
    intro p p' j h1 h2
    match j with
    | 0 => rfl
    | 1 => rfl
    | 2 => rfl
    | 3 => rfl
    | 4 => rfl
    | 5 => rfl
    | 6 => rfl
    | 7 => exact absurd rfl h1
    | 8 => exact absurd h2 (by decide)
    | 9 => rfl
    | j + 10 => rfl
  intro p
  simp only [List.take_succ_cons, List.take_zero, List.drop_succ_cons, List.drop_zero]
  refine seqP_free rfl rfl rfl (v := .int .i64 (n : Int)) rfl ?_ ?_
  · intro w' hw' K hK
    go_wp2_with fail
    exact hK _ _ rfl (Below.refl _ _)
  simp only [Act.put, List.setIfInBounds_toArray, List.set_cons_succ, List.set_cons_zero]
  refine seqP_free rfl rfl rfl (v := .int .i64 ((n : Int) / 10)) rfl ?_ ?_
  · intro w' hw' K hK
    go_wp2_with fail
    exact hK _ _ rfl (Below.refl _ _)
  simp only [Act.put, List.setIfInBounds_toArray, List.set_cons_succ, List.set_cons_zero]
  refine seqP_free rfl rfl rfl (v := .string ⟨A.toArray⟩) rfl ?_ ?_
  · intro w' hw' K hK
    go_wp2_with fail
    refine (H.out _).mono ?_
    rintro e w5 ⟨rfl, hb5⟩
    go_wp2_with fail
    exact hK _ _ rfl hb5
  simp only [Act.put, List.setIfInBounds_toArray, List.set_cons_succ, List.set_cons_zero]
  refine seqP_free rfl rfl rfl (v := .int .i64 (n : Int)) rfl ?_ ?_
  · intro w' hw' K hK
    go_wp2_with fail
    exact hK _ _ rfl (Below.refl _ _)
  simp only [Act.put, List.setIfInBounds_toArray, List.set_cons_succ, List.set_cons_zero]
  refine seqP_free rfl rfl rfl (v := .int .i64 ((n : Int) % 10)) rfl ?_ ?_
  · intro w' hw' K hK
    go_wp2_with fail
    exact hK _ _ rfl (Below.refl _ _)
  simp only [Act.put, List.setIfInBounds_toArray, List.set_cons_succ, List.set_cons_zero]
  refine seqP_free rfl rfl rfl (v := .int .i64 (48 + (n : Int) % 10)) rfl ?_ ?_
  · intro w' hw' K hK
    go_wp2_with fail
    exact hK _ _ rfl (Below.refl _ _)
  simp only [Act.put, List.setIfInBounds_toArray, List.set_cons_succ, List.set_cons_zero]
  refine seqP_free rfl rfl rfl (v := .int .u8 (48 + (n : Int) % 10)) rfl ?_ ?_
  · intro w' hw' K hK
    go_wp2_with fail
    exact hK _ _ rfl (Below.refl _ _)
  simp only [Act.put, List.setIfInBounds_toArray, List.set_cons_succ, List.set_cons_zero]
  refine seqP_call rfl rfl (v := .slice (some ⟨p, 0, none⟩) 1 1) rfl ?_ ?_
  · rintro w' hw' rfl K hK
    go_wp2_with fail
    exact hK _ _ rfl ((Below.refl _ _).alloc (Nat.le_refl _) _) (Holds.new _ _ _)
  simp only [Act.put, List.setIfInBounds_toArray, List.set_cons_succ, List.set_cons_zero]
  refine seqP_dep rfl rfl rfl (v := .string ⟨#[c]⟩) rfl ?_ ?_
  · intro w' hw' hi K hK
    have hcv := HV.out _ p hi
    go_wp2_with fail
    exact hK _ _ rfl (Below.refl _ _)
  simp only [Act.put, List.setIfInBounds_toArray, List.set_cons_succ, List.set_cons_zero]
  refine seqP_free rfl rfl rfl (v := .string (⟨A.toArray⟩ ++ ⟨#[c]⟩)) rfl ?_ ?_
  · intro w' hw' K hK
    go_wp2_with fail
    exact hK _ _ rfl (Below.refl _ _)
  simp only [Act.put, List.setIfInBounds_toArray, List.set_cons_succ, List.set_cons_zero]
  intro W2 _ hW2 hp
  go_wp2_with fail
  go_ret
  exact ⟨by rw [HD.out]; exact congrArg (fun x => Ending.returned (Value.string x)) (str_app A _), hW2⟩

theorem decimal_any (n : Nat) (hn : n < 1000) (w : World) :
    Calls Tryd.prog 113 #[.int .i64 (n : Int)] w fun e w' => e = .returned (.string ⟨(dd n).toArray⟩) ∧ Below w.heap.size w w' := by
  rw [← dec_dd hn]
  by_cases h1 : n < 10
  · exact decimal_one n h1 w
  refine decimal_more n (by omega) hn (fun w => ?_) w
  by_cases h2 : n / 10 < 10
  · exact decimal_one _ h2 w
  exact decimal_more _ (by omega) (by omega) (fun w => decimal_one _ (by omega) w) w

set_option maxRecDepth 100000 in
set_option maxHeartbeats 2000000 in
theorem number_any (s : ByteArray) (hs : s.size ≤ 1048576) (w : World) :
    Calls Tryd.prog 72 #[.string s] w fun e w' => e = .returned (.tuple #[.int .i64 (((numO s.data.toList).getD 0 : Nat) : Int), .bool (numO s.data.toList).isSome]) ∧ Below w.heap.size w w' := by
  have hlen : s.data.toList.length = s.size := by rw [Array.length_toList]; rfl
  have HG := Lib.hid (show ∀ i (h : i < s.size), s.data.toList[i]? = some (s[i]'h) from fun i h => by
    rw [Array.getElem?_toList]
    exact Array.getElem?_eq_getElem h)
  obtain ⟨t, ht⟩ : ∃ t, s.data.toList = t := ⟨_, rfl⟩
  rw [ht] at HG hlen ⊢
  by_cases h0 : s.size = 0
  · have e0 : s = ⟨#[]⟩ := by
      apply ByteArray.ext
      exact Array.eq_empty_of_size_eq_zero h0
    have hn : numO t = none := by unfold numO; rw [if_pos (.inl (List.length_eq_zero_iff.1 (by omega)))]
    rw [hn]
    subst e0
    clear HG hlen ht h0 hn hs
    go_enter Tryd.func72, Tryd.ntmps72
    go_wp2_with fail
    go_ret2
    exact ⟨rfl, Below.refl _ _⟩
  have htn : t ≠ [] := fun e => h0 (by rw [← hlen, e]; rfl)
  have hne : s.toList.isEmpty = false := by
    rw [Lib.toList_data, ht]
    cases t with
    | nil => exact absurd rfl htn
    | cons => rfl
  by_cases h10 : 10 < s.size
  · have hd : decide ((10 : Int) < (s.size : Int)) = true := by simp; omega
    have hn : numO t = none := by unfold numO; rw [if_pos (.inr (.inl (by omega)))]
    rw [hn]
    clear HG hlen ht hn hs htn
    go_enter Tryd.func72, Tryd.ntmps72
    go_wp2_with fail
    go_ret2
    exact ⟨rfl, Below.refl _ _⟩
  have hd : decide ((10 : Int) < (s.size : Int)) = false := by simp; omega
  have h1 : 0 < s.size := by omega
  have hg0 := HG.out 0 h1
  obtain ⟨b0, hb0⟩ : ∃ b, s[0]'h1 = b := ⟨_, rfl⟩
  rw [hb0] at hg0
  have hhead : t.head? = some b0 := by rw [List.head?_eq_getElem?]; exact hg0
  by_cases h48 : b0 = 48 ∧ 1 < s.size
  · have hn : numO t = none := by unfold numO; rw [if_pos (.inr (.inr ⟨by rw [hhead, h48.1], by omega⟩))]
    have hq : (((s[0]'h1).toNat : Int) == 48) = true := by rw [hb0, h48.1]; rfl
    have hd1 : decide ((1 : Int) < (s.size : Int)) = true := by simp; omega
    rw [hn]
    clear HG hlen ht hn hs htn hhead hg0 h48 hb0
    go_enter Tryd.func72, Tryd.ntmps72
    go_wp2_with fail
    go_ret2
    exact ⟨rfl, Below.refl _ _⟩
  have hN : numO t = Lib.decFrom 0 t := by
    unfold numO
    rw [if_neg]
    rw [hhead]
    simp only [Option.some.injEq]
    rintro (h | h | ⟨h, h'⟩)
    · exact htn h
    · omega
    · exact h48 ⟨h, by omega⟩
  have HN := Lib.hid hN
  have HND := Lib.hid (show ∀ k (h : k < s.size), Lib.digitVal (s[k]'h) = none → numO t = none from fun k h hn => by
    rw [HN.out]
    cases e : Lib.decFrom 0 t with
    | none => rfl
    | some n =>
      obtain ⟨d, hd⟩ := Lib.digit_of_decFrom t 0 n e k _ (HG.out k h)
      rw [hn] at hd
      cases hd)
  have HST := Lib.hid (show ∀ k (h : k < s.size) n d, Lib.decFrom 0 (t.take k) = some n → Lib.digitVal (s[k]'h) = some d → Lib.decFrom 0 (t.take (k + 1)) = some (n * 10 + d) from fun k h n d h1 h2 => Lib.decFrom_take t k 0 n _ d h1 (HG.out k h) h2)
  have HLT := Lib.hid (show ∀ k n, k ≤ s.size → Lib.decFrom 0 (t.take k) = some n → n < 10000000000 from fun k n h e => by
    have := Lib.decFrom_lt _ _ _ e
    have h2 : 10 ^ (t.take k).length ≤ 10 ^ 10 := Nat.pow_le_pow_right (by decide) (by rw [List.length_take]; omega)
    omega)
  have HEND := Lib.hid (show ∀ n, Lib.decFrom 0 (t.take s.size) = some n → numO t = some n from fun n h => by rw [HN.out, ← h, List.take_of_length_le (by omega)])
  have hN1 : ((s[0]'h1).toNat == 48 && decide (1 < s.size)) = false := by
    rw [hb0]
    simp only [Bool.and_eq_false_imp, beq_iff_eq, decide_eq_false_iff_not]
    intro h h'
    exact h48 ⟨UInt8.toNat_inj.1 h, h'⟩
  have HH := Lib.hid (show ((((s[0]'h1).toNat : Int) == 48) = true ∧ decide ((1 : Int) < (s.size : Int)) = false) ∨ (((s[0]'h1).toNat : Int) == 48) = false from by
    rw [hb0]
    by_cases e : b0 = 48
    · exact .inl ⟨by rw [e]; rfl, by simp; have : ¬ 1 < s.size := fun h => h48 ⟨e, h⟩; omega⟩
    · refine .inr ?_
      rw [beq_eq_false_iff_ne]
      intro h
      exact e (UInt8.toNat_inj.1 (by simpa using Int.ofNat_inj.1 h)))
  clear HG HN hhead hg0 hb0 h48 hN hN1 htn hlen ht
  rcases HH.out with ⟨q1, q2⟩ | q1
  all_goals
    clear HH
    go_enter Tryd.func72, Tryd.ntmps72
    go_wp2_with fail
    go_loopw [4, 5] (fun n i wr => ∃ k acc : Nat, k ≤ s.size ∧ i = .int .i64 (k : Int) ∧ n = .int .i64 (acc : Int) ∧ Lib.decFrom 0 (t.take k) = some acc ∧ wr = w) (fun _ i _ => s.size - (intOf i).toNat)
    case atStart => exact ⟨0, 0, by omega, rfl, rfl, rfl, rfl⟩
    case round =>
      obtain ⟨k, acc, hk, rfl, rfl, hdec, rfl⟩ := hrel
      by_cases hlt : k < s.size
      · have hdk : decide ((k : Int) < (s.size : Int)) = true := by simp; omega
        have hacc := HLT.out k acc hk hdec
        have HDEC := Lib.hid hdec
        clear hdec
        obtain ⟨bb, hbb⟩ : ∃ b, s[k]'hlt = b := ⟨_, rfl⟩
        cases hv : Lib.digitVal bb with
        | none =>
          have HNN := Lib.hid (HND.out k hlt (by rw [hbb]; exact hv))
          have hor : (bb.toNat : Int) < 48 ∨ 57 < (bb.toNat : Int) := by
            unfold Lib.digitVal at hv
            split at hv
            · cases hv
            · omega
          clear hv
          rcases hor with ho | ho
          · have ho1 : decide (((s[k]'hlt).toNat : Int) < 48) = true := by rw [hbb]; simpa using ho
            go_wp2_with fail
            go_ret2
            exact ⟨by rw [HNN.out]; rfl, Below.refl _ _⟩
          · have ho1 : decide (((s[k]'hlt).toNat : Int) < 48) = false := by rw [hbb]; simp; omega
            have ho2 : decide ((57 : Int) < ((s[k]'hlt).toNat : Int)) = true := by rw [hbb]; simpa using ho
            go_wp2_with fail
            go_ret2
            exact ⟨by rw [HNN.out]; rfl, Below.refl _ _⟩
        | some d =>
          obtain ⟨hd1, hd2⟩ := digit_some hv
          have HNX := Lib.hid (HST.out k hlt acc d HDEC.out (by rw [hbb]; exact hv))
          have ho1 : decide (((s[k]'hlt).toNat : Int) < 48) = false := by rw [hbb]; simp; omega
          have ho2 : decide ((57 : Int) < ((s[k]'hlt).toNat : Int)) = false := by rw [hbb]; simp; omega
          have ho3 : ((s[k]'hlt).toNat : Int) = 48 + d := by rw [hbb]; omega
          clear hv hbb hd1
          go_wp2_with fail
          go_roundw
          case rel => exact ⟨k + 1, acc * 10 + d, by omega, by go_num, by go_num, HNX.out, trivial⟩
          case measure => simp [intOf]; omega
      · have hdk : decide ((k : Int) < (s.size : Int)) = false := by simp; omega
        obtain rfl : k = s.size := by omega
        have HE := Lib.hid (HEND.out acc hdec)
        clear hdec
        go_wp2_with fail
        go_ret2
        exact ⟨by rw [HE.out]; rfl, Below.refl _ _⟩
end Go.Proofs.YthfhpcigjnjkdaaDoor
