/- TurnsOf, of the program and of the model. -/
import Derived.Test.YtgmahakpmjfhhaaRRLetters
import Derived.Test.YtgmahakpmjfhhaaRRValid
namespace Go.Proofs.YtgmahakpmjfhhaaRR
open Go.RowKit
set_option linter.unusedVariables false

/-- The text of all letters. -/
def nwes : ByteArray := ⟨#[78, 87, 69, 83]⟩
theorem nwes_index0 (w : World) : (Instr.index 9 (.string ⟨#[78, 87, 69, 83]⟩) (.int .i64 0)).run Try.prog w = .ok (.int .u8 78) w := by kernel_rfl
theorem nwes_index1 (w : World) : (Instr.index 9 (.string ⟨#[78, 87, 69, 83]⟩) (.int .i64 1)).run Try.prog w = .ok (.int .u8 87) w := by kernel_rfl
theorem nwes_index2 (w : World) : (Instr.index 9 (.string ⟨#[78, 87, 69, 83]⟩) (.int .i64 2)).run Try.prog w = .ok (.int .u8 69) w := by kernel_rfl
theorem nwes_index3 (w : World) : (Instr.index 9 (.string ⟨#[78, 87, 69, 83]⟩) (.int .i64 3)).run Try.prog w = .ok (.int .u8 83) w := by kernel_rfl

set_option maxHeartbeats 1000000 in
theorem l02Letter_any (c : UInt8) (w : World) :
    Calls Try.prog 130 #[.int .u8 (c.toNat : Int)] w fun e w' => e = .returned (.int .i64 (letN c)) ∧ w = w' := by
  have key : ∀ d : UInt8, (((d.toNat : Int)) == (c.toNat : Int)) = decide (c = d) := fun d => by
    rw [Bool.eq_iff_iff]
    simp only [beq_iff_eq, decide_eq_true_eq]
    constructor
    · intro h; exact (UInt8.toNat_inj.1 (by omega)).symm
    · intro h; rw [h]
  obtain ⟨b0, k0⟩ : ∃ b, ((78 : Int) == (c.toNat : Int)) = b := ⟨_, rfl⟩
  obtain ⟨b1, k1⟩ : ∃ b, ((87 : Int) == (c.toNat : Int)) = b := ⟨_, rfl⟩
  obtain ⟨b2, k2⟩ : ∃ b, ((69 : Int) == (c.toNat : Int)) = b := ⟨_, rfl⟩
  obtain ⟨b3, k3⟩ : ∃ b, ((83 : Int) == (c.toNat : Int)) = b := ⟨_, rfl⟩
  have HE := Lib.hid (show letN c = if b0 then 0 else if b1 then 1 else if b2 then 2 else if b3 then 3 else -1 by
    have a0 : decide (c = 78) = b0 := (key 78).symm.trans k0
    have a1 : decide (c = 87) = b1 := (key 87).symm.trans k1
    have a2 : decide (c = 69) = b2 := (key 69).symm.trans k2
    have a3 : decide (c = 83) = b3 := (key 83).symm.trans k3
    unfold letN
    rw [← a0, ← a1, ← a2, ← a3]
    simp only [decide_eq_true_eq])
  clear key
  have i0 := nwes_index0
  have i1 := nwes_index1
  have i2 := nwes_index2
  have i3 := nwes_index3
  go_enter Try.func130, Try.ntmps130
  go_wp2_with fail
  go_loop [3] (fun i => i = .int .i64 0 ∨ i = .int .i64 1 ∧ b0 = false ∨ i = .int .i64 2 ∧ b0 = false ∧ b1 = false ∨ i = .int .i64 3 ∧ b0 = false ∧ b1 = false ∧ b2 = false ∨ i = .int .i64 4 ∧ b0 = false ∧ b1 = false ∧ b2 = false ∧ b3 = false) (fun i => 4 - (intOf i).toNat)
  case atStart => exact .inl rfl
  case round =>
    rcases hrel with rfl | ⟨rfl, rfl⟩ | ⟨rfl, rfl, rfl⟩ | ⟨rfl, rfl, rfl, rfl⟩ | ⟨rfl, rfl, rfl, rfl, rfl⟩
    · cases b0
      · go_wp2_with fail
        go_round
        case rel => exact .inr (.inl ⟨by go_num, trivial⟩)
        case measure => simp [intOf]
      · go_wp2_with fail
        go_ret
        exact ⟨by rw [HE.out]; rfl, rfl⟩
    · cases b1
      · go_wp2_with fail
        go_round
        case rel => exact .inr (.inr (.inl ⟨by go_num, trivial, trivial⟩))
        case measure => simp [intOf]
      · go_wp2_with fail
        go_ret
        exact ⟨by rw [HE.out]; rfl, rfl⟩
    · cases b2
      · go_wp2_with fail
        go_round
        case rel => exact .inr (.inr (.inr (.inl ⟨by go_num, trivial, trivial, trivial⟩)))
        case measure => simp [intOf]
      · go_wp2_with fail
        go_ret
        exact ⟨by rw [HE.out]; rfl, rfl⟩
    · cases b3
      · go_wp2_with fail
        go_round
        case rel => exact .inr (.inr (.inr (.inr ⟨by go_num, trivial, trivial, trivial, trivial⟩)))
        case measure => simp [intOf]
      · go_wp2_with fail
        go_ret
        exact ⟨by rw [HE.out]; rfl, rfl⟩
    · go_wp2_with fail
      go_ret
      exact ⟨by rw [HE.out]; rfl, rfl⟩

set_option maxHeartbeats 1000000 in
theorem l02Way_any (s : ByteArray) (hs : s.size ≤ maxLen) (w : World) :
    Calls Try.prog 129 #[.string s] w fun e w' => e = .returned (.int .i64 (wayC s)) ∧ w = w' := by
  unfold maxLen at hs
  have HW := Lib.hid (show wayC s = if 200 < s.size then 3 else if s.data.toList.all okB then 0 else 5 from rfl)
  by_cases h2 : 200 < s.size
  · have HE := Lib.hid (show wayC s = 3 by rw [HW.out, if_pos h2])
    have hd : decide ((200 : Int) < (s.size : Int)) = true := by simp; omega
    go_enter Try.func129, Try.ntmps129
    go_wp2_with fail
    go_ret
    exact ⟨by rw [HE.out]; rfl, rfl⟩
  · have HE := Lib.hid (show wayC s = if s.data.toList.all okB then 0 else 5 by rw [HW.out, if_neg h2])
    have hle : s.size ≤ 200 := by omega
    have hd : decide ((200 : Int) < (s.size : Int)) = false := by simp; omega
    clear h2
    go_enter Try.func129, Try.ntmps129
    go_wp2_with fail
    go_loop [3] (fun i => ∃ k : Nat, k ≤ s.size ∧ i = .int .i64 k ∧ ∀ j (hj : j < s.size), j < k → okB s[j] = true) (fun i => s.size - (intOf i).toNat)
    case atStart => exact ⟨0, Nat.zero_le _, rfl, fun j _ h => by omega⟩
    case round =>
      obtain ⟨k, hk, rfl, hok⟩ := hrel
      have HOK := Lib.hid hok
      clear hok
      by_cases hlt : k < s.size
      · have hr := letN_range s[k]
        obtain ⟨hr0, hr1⟩ := hr
        by_cases hb : 0 ≤ letN s[k]
        · have HB := Lib.hid ((okB_let s[k]).2 hb)
          go_wp2_with (refine (l02Letter_any s[k] _).mono ?_; rintro e w' ⟨rfl, rfl⟩)
          go_round
          case rel => exact ⟨k + 1, by omega, by go_num, fun j hj h => by
            by_cases e : j = k
            · subst e; exact HB.out
            · exact HOK.out j hj (by omega)⟩
          case measure => simp [intOf]; omega
        · have HB := Lib.hid (show okB s[k] = false by
            cases h : okB s[k] with
            | false => rfl
            | true => exact absurd ((okB_let s[k]).1 h) hb)
          go_wp2_with (refine (l02Letter_any s[k] _).mono ?_; rintro e w' ⟨rfl, rfl⟩)
          go_ret
          exact ⟨by rw [HE.out, all_not hlt HB.out]; rfl, rfl⟩
      · go_wp2_with fail
        go_ret
        exact ⟨by rw [HE.out, all_of (fun j hj => HOK.out j hj (by omega))]; rfl, rfl⟩

/-- How many letters of the first k differ from the one before. -/
def turnsK (l : List UInt8) : Nat → Int
  | 0 => 0
  | 1 => 0
  | k + 2 => turnsK l (k + 1) + if l.getD (k + 1) 0 = l.getD k 0 then 0 else 1
theorem turnsK_range (l : List UInt8) : ∀ k, 0 ≤ turnsK l k ∧ turnsK l k ≤ k
  | 0 => by simp [turnsK]
  | 1 => by simp [turnsK]
  | k + 2 => by
    have := turnsK_range l (k + 1)
    unfold turnsK
    split <;> omega
def turnsB (s : ByteArray) (k : Nat) : Bool := s.data.toList.getD (k + 1) 0 == s.data.toList.getD k 0
theorem turnsB_at {s : ByteArray} {k : Nat} (h : k + 1 < s.size) : (((s[k + 1].toNat : Int)) != (s[k].toNat : Int)) = !turnsB s k := by
  have e1 : s.data.toList.getD (k + 1) 0 = s[k + 1] := by rw [List.getD_eq_getElem?_getD, byte_get s _ h]; rfl
  have e2 : s.data.toList.getD k 0 = s[k] := by rw [List.getD_eq_getElem?_getD, byte_get s k (by omega)]; rfl
  unfold turnsB
  rw [e1, e2, Bool.eq_iff_iff]
  simp only [bne_iff_ne, ne_eq, Bool.not_eq_true', beq_eq_false_iff_ne]
  constructor
  · intro h e; exact h (by rw [e])
  · intro h e; exact h (UInt8.toNat_inj.1 (by omega))

set_option maxHeartbeats 1000000 in
theorem turns_any (s : ByteArray) (hs : s.size ≤ 200) (w : World) :
    Calls Try.prog 152 #[.string s] w fun e w' => e = .returned (.int .i64 (turnsK s.data.toList s.size)) ∧ Below w.heap.size w w' := by
  go_enter Try.func152, Try.ntmps152
  go_wp2_with fail
  go_loopw [3, 4] (fun n i wr => ∃ m : Nat, (m + 1 ≤ s.size ∨ m = 0) ∧ i = .int .i64 ((m : Int) + 1) ∧ n = .int .i64 (turnsK s.data.toList (m + 1)) ∧ Below w.heap.size w wr) (fun _ i _ => 201 - (intOf i).toNat)
  case atStart => exact ⟨0, .inr rfl, rfl, rfl, Below.refl _ _⟩
  case round =>
    obtain ⟨m, hm, rfl, rfl, hb⟩ := hrel
    obtain ⟨t0, t1⟩ := turnsK_range s.data.toList (m + 1)
    by_cases hlt : m + 1 < s.size
    · have hd : decide (((m : Int) + 1) < (s.size : Int)) = true := by simp; omega
      have ht := turnsB_at hlt
      have HS := Lib.hid (show turnsK s.data.toList (m + 1 + 1) = turnsK s.data.toList (m + 1) + if turnsB s m then 0 else 1 by
        rw [turnsK]
        unfold turnsB
        simp only [beq_iff_eq])
      cases hB : turnsB s m
      all_goals
        rw [hB] at ht HS
        clear hB
        go_wp2_with fail
        refine wp_region_grow 7 (by kernel_rfl) (by kernel_rfl) ?_
        simp only [List.take_succ_cons, List.take_zero, List.drop_succ_cons, List.drop_zero]
        iterate 2
          apply wpGrow_plain rfl
          · intro w' hw' K hK
            go_wp2_with fail
            exact hK _ _ rfl hw'
          simp only [Act.put, List.setIfInBounds_toArray, List.set_cons_succ, List.set_cons_zero]
        refine wpGrow_plain (v := .int .u8 ((s[m + 1]'hlt).toNat : Int)) rfl ?_ ?_
        · intro w' hw' K hK
          go_wp2_with fail
          exact hK _ _ rfl hw'
        simp only [Act.put, List.setIfInBounds_toArray, List.set_cons_succ, List.set_cons_zero]
        iterate 3
          apply wpGrow_plain rfl
          · intro w' hw' K hK
            go_wp2_with fail
            exact hK _ _ rfl hw'
          simp only [Act.put, List.setIfInBounds_toArray, List.set_cons_succ, List.set_cons_zero]
        refine wpGrow_plain (v := .int .u8 ((s[m]'(by omega)).toNat : Int)) rfl ?_ ?_
        · intro w' hw' K hK
          go_wp2_with fail
          exact hK _ _ rfl hw'
        simp only [Act.put, List.setIfInBounds_toArray, List.set_cons_succ, List.set_cons_zero]
        refine wpGrow_nil ?_
        intro W2 hW2
        have hb2 := below_onto hb hW2
        clear hb hW2
        go_wp2_with fail
        go_roundw
        case rel => exact ⟨m + 1, .inl (by omega), by go_num, by rw [HS.out]; simp, hb2⟩
        case measure => simp [intOf]; omega
    · have hd : decide (((m : Int) + 1) < (s.size : Int)) = false := by simp; omega
      have HS := Lib.hid (show turnsK s.data.toList (m + 1) = turnsK s.data.toList s.size by
        rcases hm with h | rfl
        · rw [show m + 1 = s.size by omega]
        · rcases (by omega : s.size = 0 ∨ s.size = 1) with e | e <;> rw [e] <;> rfl)
      go_wp2_with fail
      go_ret
      exact ⟨by rw [← HS.out]; rfl, hb⟩

/-- What TurnsOf answers. -/
def turnsN (s : ByteArray) : Int := if wayC s = 0 then turnsK s.data.toList s.size else 0
theorem wayC_le {s : ByteArray} (h : wayC s = 0) : s.size ≤ 200 := by
  unfold wayC at h
  split at h
  · cases h
  · omega
theorem wayC_range (s : ByteArray) : 0 ≤ wayC s ∧ wayC s ≤ 5 := by
  unfold wayC
  split
  · omega
  · split <;> omega

set_option maxHeartbeats 1000000 in
theorem specTurns_any (s : ByteArray) (hs : s.size ≤ maxLen) (w : World) :
    Calls Try.prog 85 #[.string s] w fun e w' => e = .returned (.tuple #[.int .i64 (turnsN s), .int .i64 (wayC s)]) ∧ Below w.heap.size w w' := by
  have HWY := Lib.hid (fun w => l02Way_any s hs w)
  obtain ⟨c, hc⟩ : ∃ c, wayC s = c := ⟨_, rfl⟩
  have hr := wayC_range s
  have HN := Lib.hid (show turnsN s = if c = 0 then turnsK s.data.toList s.size else 0 by unfold turnsN; rw [hc])
  have hle : c = 0 → s.size ≤ 200 := fun h => wayC_le (hc.trans h)
  rw [hc] at HWY hr ⊢
  obtain ⟨hr0, hr1⟩ := hr
  clear hc
  by_cases h0 : c = 0
  · have hsz := hle h0
    have HN2 := Lib.hid (show turnsN s = turnsK s.data.toList s.size by rw [HN.out, if_pos h0])
    subst h0
    clear hle HN hs
    go_enter Try.func85, Try.ntmps85
    go_wp2_with fail
    refine (HWY.out _).mono ?_
    rintro e w1 ⟨rfl, rfl⟩
    go_wp2_with fail
    go_loopw [5, 6] (fun n i wr => ∃ m : Nat, (m + 1 ≤ s.size ∨ m = 0) ∧ i = .int .i64 ((m : Int) + 1) ∧ n = .int .i64 (turnsK s.data.toList (m + 1)) ∧ Below w.heap.size w wr) (fun _ i _ => 201 - (intOf i).toNat)
    case atStart => exact ⟨0, .inr rfl, rfl, rfl, Below.refl _ _⟩
    case round =>
      obtain ⟨m, hm, rfl, rfl, hb⟩ := hrel
      obtain ⟨t0, t1⟩ := turnsK_range s.data.toList (m + 1)
      by_cases hlt : m + 1 < s.size
      · have hd : decide (((m : Int) + 1) < (s.size : Int)) = true := by simp; omega
        have ht := turnsB_at hlt
        have HS := Lib.hid (show turnsK s.data.toList (m + 1 + 1) = turnsK s.data.toList (m + 1) + if turnsB s m then 0 else 1 by
          rw [turnsK]
          unfold turnsB
          simp only [beq_iff_eq])
        cases hB : turnsB s m
        all_goals
          rw [hB] at ht HS
          clear hB
          go_wp2_with fail
          refine wp_region_grow 7 (by kernel_rfl) (by kernel_rfl) ?_
          simp only [List.take_succ_cons, List.take_zero, List.drop_succ_cons, List.drop_zero]
          iterate 2
            apply wpGrow_plain rfl
            · intro w' hw' K hK
              go_wp2_with fail
              exact hK _ _ rfl hw'
            simp only [Act.put, List.setIfInBounds_toArray, List.set_cons_succ, List.set_cons_zero]
          refine wpGrow_plain (v := .int .u8 ((s[m + 1]'hlt).toNat : Int)) rfl ?_ ?_
          · intro w' hw' K hK
            go_wp2_with fail
            exact hK _ _ rfl hw'
          simp only [Act.put, List.setIfInBounds_toArray, List.set_cons_succ, List.set_cons_zero]
          iterate 3
            apply wpGrow_plain rfl
            · intro w' hw' K hK
              go_wp2_with fail
              exact hK _ _ rfl hw'
            simp only [Act.put, List.setIfInBounds_toArray, List.set_cons_succ, List.set_cons_zero]
          refine wpGrow_plain (v := .int .u8 ((s[m]'(by omega)).toNat : Int)) rfl ?_ ?_
          · intro w' hw' K hK
            go_wp2_with fail
            exact hK _ _ rfl hw'
          simp only [Act.put, List.setIfInBounds_toArray, List.set_cons_succ, List.set_cons_zero]
          refine wpGrow_nil ?_
          intro W2 hW2
          have hb2 := below_onto hb hW2
          clear hb hW2
          go_wp2_with fail
          go_roundw
          case rel => exact ⟨m + 1, .inl (by omega), by go_num, by rw [HS.out]; simp, hb2⟩
          case measure => simp [intOf]; omega
      · have hd : decide (((m : Int) + 1) < (s.size : Int)) = false := by simp; omega
        have HS := Lib.hid (show turnsK s.data.toList (m + 1) = turnsK s.data.toList s.size by
          rcases hm with h | rfl
          · rw [show m + 1 = s.size by omega]
          · rcases (by omega : s.size = 0 ∨ s.size = 1) with e | e <;> rw [e] <;> rfl)
        go_wp2_with fail
        go_ret2
        exact ⟨by rw [HN2.out, ← HS.out]; rfl, hb⟩
  · have HN2 := Lib.hid (show turnsN s = 0 by rw [HN.out, if_neg h0])
    have hb0 : (c == 0) = false := by simpa using h0
    clear hle HN hs
    go_enter Try.func85, Try.ntmps85
    go_wp2_with fail
    refine (HWY.out _).mono ?_
    rintro e w1 ⟨rfl, rfl⟩
    have hb1 : (c != 0) = true := by simpa [bne] using hb0
    go_wp2_with fail
    go_ret2
    exact ⟨by rw [HN2.out]; rfl, Below.refl _ _⟩

set_option maxHeartbeats 1000000 in
/-- A method of a way that tells a number, if the way has no error. -/
theorem checked64_any (s : ByteArray) (hs : s.size ≤ maxLen) (F : Nat) (n : Int) (hE : ∀ (args : Array Value) (w : World), (callFunc F args).run Try.prog w = .ok (.enter F args) w)
    (HF : wayC s = 0 → ∀ w : World, Calls Try.prog F #[.string s] w fun e w' => e = .returned (.int .i64 n) ∧ Below w.heap.size w w') (hn : wayC s ≠ 0 → n = 0) (w : World) :
    Calls Try.prog 151 #[.string s, .func (.func F) #[.string s] #[]] w fun e w' => e = .returned (.tuple #[.int .i64 n, .int .i64 (wayC s)]) ∧ Below w.heap.size w w' := by
  have HWY := Lib.hid (fun w => check_way s hs w)
  obtain ⟨c, hc⟩ : ∃ c, wayC s = c := ⟨_, rfl⟩
  rw [hc] at HWY HF hn ⊢
  have HF' := Lib.hid HF
  have HN := Lib.hid hn
  clear hc HF hn
  by_cases h0 : c = 0
  · subst h0
    go_enter Try.func151, Try.ntmps151
    go_wp2_with fail
    refine (HWY.out _).mono ?_
    rintro e w1 ⟨rfl, rfl⟩
    go_wp2_with fail
    refine (HF'.out trivial _).mono ?_
    rintro e w1 ⟨rfl, hb⟩
    go_wp2_with fail
    go_ret2
    exact ⟨rfl, hb⟩
  · have HN2 := Lib.hid (HN.out h0)
    have hb1 : (c != 0) = true := by simpa [bne] using h0
    go_enter Try.func151, Try.ntmps151
    go_wp2_with fail
    refine (HWY.out _).mono ?_
    rintro e w1 ⟨rfl, rfl⟩
    go_wp2_with fail
    go_ret2
    exact ⟨by rw [HN2.out]; rfl, Below.refl _ _⟩

set_option maxHeartbeats 1000000 in
theorem implTurns_any (s : ByteArray) (hs : s.size ≤ maxLen) (w : World) :
    Calls Try.prog 86 #[.string s] w fun e w' => e = .returned (.tuple #[.int .i64 (turnsN s), .int .i64 (wayC s)]) ∧ Below w.heap.size w w' := by
  have HC := Lib.hid (fun w => checked64_any s hs 152 (turnsN s) (enters_of Try.func152 (by kernel_rfl) rfl)
    (fun h w => by
      have := turns_any s (wayC_le h) w
      unfold turnsN
      rw [if_pos h]
      exact this) (fun h => by unfold turnsN; rw [if_neg h]) w)
  go_enter Try.func86, Try.ntmps86
  go_wp2_with fail
  refine (HC.out _).mono ?_
  rintro e w1 ⟨rfl, hb⟩
  go_wp2_with fail
  go_ret2
  exact ⟨rfl, hb⟩

set_option maxHeartbeats 1000000 in
theorem exactTurns (s : ByteArray) (hs : s.size ≤ maxLen) (w : World) :
    Calls Try.prog 15 #[.string s] w fun e w' => e = .returned (.bool true) ∧ Below w.heap.size w w' := by
  have HI := Lib.hid (fun w => implTurns_any s hs w)
  have HS := Lib.hid (fun w => specTurns_any s hs w)
  unfold maxLen at hs
  by_cases hl : 1048576 < s.size
  · have hd : decide ((1048576 : Int) < (s.size : Int)) = true := by simp; omega
    go_enter Try.func15, Try.ntmps15
    go_wp2_with fail
    go_ret
    exact ⟨rfl, Below.refl _ _⟩
  · have hd : decide ((1048576 : Int) < (s.size : Int)) = false := by simp; omega
    go_enter Try.func15, Try.ntmps15
    go_wp2_with fail
    refine (HS.out _).mono ?_
    rintro e w1 ⟨rfl, hb1⟩
    go_wp2_with fail
    refine (HI.out _).mono ?_
    rintro e w2 ⟨rfl, hb2⟩
    have hb3 := below_onto hb1 hb2
    go_wp2_with fail
    go_ret
    exact ⟨rfl, hb3⟩
end Go.Proofs.YtgmahakpmjfhhaaRR
