/- Ways as strings of letters: the code of a way, of the program and of the model. TurnsOf, of the program and of the model. -/
import Derived.Test.YtaeenkjbmlgcmaaZA
import Derived.Test.YtaeenkjbmlgcmaaZB
import Derived.Lib.Bytealg
import Derived.Lib.Strings
namespace Go.Proofs.Ytaeenkjbmlgcmaa
open Go.RowKit
set_option linter.unusedVariables false

/-- The place of a letter, or -1. -/
def letN (c : UInt8) : Int := if c = 78 then 0 else if c = 87 then 1 else if c = 69 then 2 else if c = 83 then 3 else -1
def okB (c : UInt8) : Bool := c == 78 || c == 87 || c == 69 || c == 83
theorem okB_let (c : UInt8) : okB c = true ↔ 0 ≤ letN c := by
  unfold okB letN
  by_cases h1 : c = 78 <;> by_cases h2 : c = 87 <;> by_cases h3 : c = 69 <;> by_cases h4 : c = 83 <;> simp [h1, h2, h3, h4]
theorem letN_range (c : UInt8) : -1 ≤ letN c ∧ letN c ≤ 3 := by
  unfold letN
  split
  · omega
  · split
    · omega
    · split
      · omega
      · split <;> omega
theorem letN_index (c : UInt8) : Lib.indexByte [78, 87, 69, 83] c = letN c := by
  unfold letN
  simp only [Lib.indexByte, beq_iff_eq, eq_comm (b := c)]
  by_cases h1 : c = 78
  · simp [h1]
  · by_cases h2 : c = 87
    · simp [h2]
    · by_cases h3 : c = 69
      · simp [h3]
      · by_cases h4 : c = 83 <;> simp [h1, h2, h3, h4]
/-- The code of a way alone. -/
def wayC (s : ByteArray) : Int := if 200 < s.size then 3 else if s.data.toList.all okB then 0 else 5
theorem byte_get (s : ByteArray) (k : Nat) (h : k < s.size) : s.data.toList[k]? = some s[k] := by
  rw [List.getElem?_eq_getElem (by simpa using h)]
  rfl
theorem all_of {s : ByteArray} (h : ∀ k (hk : k < s.size), okB s[k] = true) : s.data.toList.all okB = true := by
  rw [List.all_eq_true]
  intro c hc
  obtain ⟨i, hi, he⟩ := List.getElem_of_mem hc
  have hi' : i < s.size := by simpa using hi
  have := h i hi'
  rw [← he]
  exact this
theorem all_not {s : ByteArray} {k : Nat} (hk : k < s.size) (h : okB s[k] = false) : s.data.toList.all okB = false := by
  rw [List.all_eq_false]
  refine ⟨s[k], ?_, by simp [h]⟩
  exact List.mem_of_getElem? (byte_get s k hk)

set_option maxHeartbeats 1000000 in
set_option maxRecDepth 100000 in
theorem strlite_any (s : ByteArray) (c : Int) (w : World) :
    Calls Try.prog 152 #[.string s, .int .u8 c] w fun e w' => e = .returned (.int .i64 (Lib.indexByte s.data.toList c.toNat.toUInt8)) ∧ w = w' := by
  go_enter Try.func152, Try.ntmps152
  go_wp2
  rw [run_callFunc_extern Try.func157 (by kernel_rfl) (by kernel_rfl) (by kernel_rfl) (e := Extern.BytealgIndexByte.indexByte) (by kernel_rfl), Lib.run_indexByteString]
  simp only [Result.andThen]
  rw [Oper.upon_value]
  go_wp2
  go_ret
  exact ⟨rfl, rfl⟩
set_option maxHeartbeats 1000000 in
theorem strIndexByte_any (s : ByteArray) (c : Int) (w : World) :
    Calls Try.prog 128 #[.string s, .int .u8 c] w fun e w' => e = .returned (.int .i64 (Lib.indexByte s.data.toList c.toNat.toUInt8)) ∧ w = w' := by
  go_enter Try.func128, Try.ntmps128
  go_wp2_with (go_at_call 152; refine (strlite_any _ _ _).mono ?_; rintro e w' ⟨rfl, rfl⟩)
  go_ret
  exact ⟨rfl, rfl⟩
/-- The place of a byte among the letters. -/
theorem letter_any (c : UInt8) (w : World) :
    Calls Try.prog 128 #[.string ⟨#[78, 87, 69, 83]⟩, .int .u8 (c.toNat : Int)] w fun e w' => e = .returned (.int .i64 (letN c)) ∧ w = w' := by
  refine (strIndexByte_any _ _ w).mono ?_
  rintro e w' ⟨rfl, rfl⟩
  refine ⟨?_, rfl⟩
  rw [← letN_index c]
  simp

set_option maxHeartbeats 1000000 in
theorem check_way (s : ByteArray) (hs : s.size ≤ maxLen) (w : World) :
    Calls Try.prog 107 #[.string s] w fun e w' => e = .returned (.int .i64 (wayC s)) ∧ w = w' := by
  unfold maxLen at hs
  have HW := Lib.hid (show wayC s = if 200 < s.size then 3 else if s.data.toList.all okB then 0 else 5 from rfl)
  by_cases h2 : 200 < s.size
  · have HE := Lib.hid (show wayC s = 3 by rw [HW.out, if_pos h2])
    have hd : decide ((200 : Int) < (s.size : Int)) = true := by simp; omega
    go_enter Try.func107, Try.ntmps107
    go_wp2_with fail
    go_ret
    exact ⟨by rw [HE.out]; rfl, rfl⟩
  · have HE := Lib.hid (show wayC s = if s.data.toList.all okB then 0 else 5 by rw [HW.out, if_neg h2])
    have hle : s.size ≤ 200 := by omega
    have hd : decide ((200 : Int) < (s.size : Int)) = false := by simp; omega
    clear h2
    go_enter Try.func107, Try.ntmps107
    go_wp2_with fail
    go_loop [9] (fun i => ∃ k : Nat, k ≤ s.size ∧ i = .int .i64 k ∧ ∀ j (hj : j < s.size), j < k → okB s[j] = true) (fun i => s.size - (intOf i).toNat)
    case atStart => exact ⟨0, Nat.zero_le _, rfl, fun j _ h => by omega⟩
    case round =>
      obtain ⟨k, hk, rfl, hok⟩ := hrel
      have HOK := Lib.hid hok
      clear hok
      by_cases hlt : k < s.size
      · have hr := letN_range s[k]
        obtain ⟨hr0, hr1⟩ := hr
        by_cases hb : 0 ≤ letN s[k]
        · have HB := Lib.hid ((okB_let s[k]).2 hb)
          go_wp2_with (refine (letter_any s[k] _).mono ?_; rintro e w' ⟨rfl, rfl⟩)
          go_round
          case rel => exact ⟨k + 1, by omega, by go_num, fun j hj h => by
            by_cases e : j = k
            · subst e; exact HB.out
            · exact HOK.out j hj (by omega)⟩
          case measure => simp [intOf]; omega
        · have HB := Lib.hid (show okB s[k] = false by
            cases h : okB s[k] with
            | false => rfl
            | true => exact absurd ((okB_let s[k]).1 h) hb)
          go_wp2_with (refine (letter_any s[k] _).mono ?_; rintro e w' ⟨rfl, rfl⟩)
          go_ret
          exact ⟨by rw [HE.out, all_not hlt HB.out]; rfl, rfl⟩
      · go_wp2_with fail
        go_ret
        exact ⟨by rw [HE.out, all_of (fun j hj => HOK.out j hj (by omega))]; rfl, rfl⟩
end Go.Proofs.Ytaeenkjbmlgcmaa

namespace Go.Proofs.Ytaeenkjbmlgcmaa
open Go.RowKit
set_option linter.unusedVariables false

/-- The text of all letters. -/
def nwes : ByteArray := ⟨#[78, 87, 69, 83]⟩
theorem nwes_index0 (w : World) : (Instr.index 9 (.string ⟨#[78, 87, 69, 83]⟩) (.int .i64 0)).run Try.prog w = .ok (.int .u8 78) w := by kernel_rfl
theorem nwes_index1 (w : World) : (Instr.index 9 (.string ⟨#[78, 87, 69, 83]⟩) (.int .i64 1)).run Try.prog w = .ok (.int .u8 87) w := by kernel_rfl
theorem nwes_index2 (w : World) : (Instr.index 9 (.string ⟨#[78, 87, 69, 83]⟩) (.int .i64 2)).run Try.prog w = .ok (.int .u8 69) w := by kernel_rfl
theorem nwes_index3 (w : World) : (Instr.index 9 (.string ⟨#[78, 87, 69, 83]⟩) (.int .i64 3)).run Try.prog w = .ok (.int .u8 83) w := by kernel_rfl

set_option maxHeartbeats 1000000 in
theorem l02Letter_any (c : UInt8) (w : World) :
    Calls Try.prog 140 #[.int .u8 (c.toNat : Int)] w fun e w' => e = .returned (.int .i64 (letN c)) ∧ w = w' := by
  have key : ∀ d : UInt8, (((d.toNat : Int)) == (c.toNat : Int)) = decide (c = d) := fun d => by
    rw [Bool.eq_iff_iff]
    simp only [beq_iff_eq, decide_eq_true_eq]
    constructor
    · intro h; exact (UInt8.toNat_inj.1 (by omega)).symm
    · intro h; rw [h]
  obtain ⟨b0, k0⟩ : ∃ b, ((78 : Int) == (c.toNat : Int)) = b := ⟨_, rfl⟩
  obtain ⟨b1, k1⟩ : ∃ b, ((87 : Int) == (c.toNat : Int)) = b := ⟨_, rfl⟩
  obtain ⟨b2, k2⟩ : ∃ b, ((69 : Int) == (c.toNat : Int)) = b := ⟨_, rfl⟩
  obtain ⟨b3, k3⟩ : ∃ b, ((83 : Int) == (c.toNat : Int)) = b := ⟨_, rfl⟩
  have HE := Lib.hid (show letN c = if b0 then 0 else if b1 then 1 else if b2 then 2 else if b3 then 3 else -1 by
    have a0 : decide (c = 78) = b0 := (key 78).symm.trans k0
    have a1 : decide (c = 87) = b1 := (key 87).symm.trans k1
    have a2 : decide (c = 69) = b2 := (key 69).symm.trans k2
    have a3 : decide (c = 83) = b3 := (key 83).symm.trans k3
    unfold letN
    rw [← a0, ← a1, ← a2, ← a3]
    simp only [decide_eq_true_eq])
  clear key
  have i0 := nwes_index0
  have i1 := nwes_index1
  have i2 := nwes_index2
  have i3 := nwes_index3
  go_enter Try.func140, Try.ntmps140
  go_wp2_with fail
  go_loop [3] (fun i => i = .int .i64 0 ∨ i = .int .i64 1 ∧ b0 = false ∨ i = .int .i64 2 ∧ b0 = false ∧ b1 = false ∨ i = .int .i64 3 ∧ b0 = false ∧ b1 = false ∧ b2 = false ∨ i = .int .i64 4 ∧ b0 = false ∧ b1 = false ∧ b2 = false ∧ b3 = false) (fun i => 4 - (intOf i).toNat)
  case atStart => exact .inl rfl
  case round =>
    rcases hrel with rfl | ⟨rfl, rfl⟩ | ⟨rfl, rfl, rfl⟩ | ⟨rfl, rfl, rfl, rfl⟩ | ⟨rfl, rfl, rfl, rfl, rfl⟩
    · cases b0
      · go_wp2_with fail
        go_round
        case rel => exact .inr (.inl ⟨by go_num, trivial⟩)
        case measure => simp [intOf]
      · go_wp2_with fail
        go_ret
        exact ⟨by rw [HE.out]; rfl, rfl⟩
    · cases b1
      · go_wp2_with fail
        go_round
        case rel => exact .inr (.inr (.inl ⟨by go_num, trivial, trivial⟩))
        case measure => simp [intOf]
      · go_wp2_with fail
        go_ret
        exact ⟨by rw [HE.out]; rfl, rfl⟩
    · cases b2
      · go_wp2_with fail
        go_round
        case rel => exact .inr (.inr (.inr (.inl ⟨by go_num, trivial, trivial, trivial⟩)))
        case measure => simp [intOf]
      · go_wp2_with fail
        go_ret
        exact ⟨by rw [HE.out]; rfl, rfl⟩
    · cases b3
      · go_wp2_with fail
        go_round
        case rel => exact .inr (.inr (.inr (.inr ⟨by go_num, trivial, trivial, trivial, trivial⟩)))
        case measure => simp [intOf]
      · go_wp2_with fail
        go_ret
        exact ⟨by rw [HE.out]; rfl, rfl⟩
    · go_wp2_with fail
      go_ret
      exact ⟨by rw [HE.out]; rfl, rfl⟩

set_option maxHeartbeats 1000000 in
theorem l02Way_any (s : ByteArray) (hs : s.size ≤ maxLen) (w : World) :
    Calls Try.prog 139 #[.string s] w fun e w' => e = .returned (.int .i64 (wayC s)) ∧ w = w' := by
  unfold maxLen at hs
  have HW := Lib.hid (show wayC s = if 200 < s.size then 3 else if s.data.toList.all okB then 0 else 5 from rfl)
  by_cases h2 : 200 < s.size
  · have HE := Lib.hid (show wayC s = 3 by rw [HW.out, if_pos h2])
    have hd : decide ((200 : Int) < (s.size : Int)) = true := by simp; omega
    go_enter Try.func139, Try.ntmps139
    go_wp2_with fail
    go_ret
    exact ⟨by rw [HE.out]; rfl, rfl⟩
  · have HE := Lib.hid (show wayC s = if s.data.toList.all okB then 0 else 5 by rw [HW.out, if_neg h2])
    have hle : s.size ≤ 200 := by omega
    have hd : decide ((200 : Int) < (s.size : Int)) = false := by simp; omega
    clear h2
    go_enter Try.func139, Try.ntmps139
    go_wp2_with fail
    go_loop [3] (fun i => ∃ k : Nat, k ≤ s.size ∧ i = .int .i64 k ∧ ∀ j (hj : j < s.size), j < k → okB s[j] = true) (fun i => s.size - (intOf i).toNat)
    case atStart => exact ⟨0, Nat.zero_le _, rfl, fun j _ h => by omega⟩
    case round =>
      obtain ⟨k, hk, rfl, hok⟩ := hrel
      have HOK := Lib.hid hok
      clear hok
      by_cases hlt : k < s.size
      · have hr := letN_range s[k]
        obtain ⟨hr0, hr1⟩ := hr
        by_cases hb : 0 ≤ letN s[k]
        · have HB := Lib.hid ((okB_let s[k]).2 hb)
          go_wp2_with (refine (l02Letter_any s[k] _).mono ?_; rintro e w' ⟨rfl, rfl⟩)
          go_round
          case rel => exact ⟨k + 1, by omega, by go_num, fun j hj h => by
            by_cases e : j = k
            · subst e; exact HB.out
            · exact HOK.out j hj (by omega)⟩
          case measure => simp [intOf]; omega
        · have HB := Lib.hid (show okB s[k] = false by
            cases h : okB s[k] with
            | false => rfl
            | true => exact absurd ((okB_let s[k]).1 h) hb)
          go_wp2_with (refine (l02Letter_any s[k] _).mono ?_; rintro e w' ⟨rfl, rfl⟩)
          go_ret
          exact ⟨by rw [HE.out, all_not hlt HB.out]; rfl, rfl⟩
      · go_wp2_with fail
        go_ret
        exact ⟨by rw [HE.out, all_of (fun j hj => HOK.out j hj (by omega))]; rfl, rfl⟩

/-- How many letters of the first k differ from the one before. -/
def turnsK (l : List UInt8) : Nat → Int
  | 0 => 0
  | 1 => 0
  | k + 2 => turnsK l (k + 1) + if l.getD (k + 1) 0 = l.getD k 0 then 0 else 1
theorem turnsK_range (l : List UInt8) : ∀ k, 0 ≤ turnsK l k ∧ turnsK l k ≤ k
  | 0 => by simp [turnsK]
  | 1 => by simp [turnsK]
  | k + 2 => by
    have := turnsK_range l (k + 1)
    unfold turnsK
    split <;> omega
def turnsB (s : ByteArray) (k : Nat) : Bool := s.data.toList.getD (k + 1) 0 == s.data.toList.getD k 0
theorem turnsB_at {s : ByteArray} {k : Nat} (h : k + 1 < s.size) : (((s[k + 1].toNat : Int)) != (s[k].toNat : Int)) = !turnsB s k := by
  have e1 : s.data.toList.getD (k + 1) 0 = s[k + 1] := by rw [List.getD_eq_getElem?_getD, byte_get s _ h]; rfl
  have e2 : s.data.toList.getD k 0 = s[k] := by rw [List.getD_eq_getElem?_getD, byte_get s k (by omega)]; rfl
  unfold turnsB
  rw [e1, e2, Bool.eq_iff_iff]
  simp only [bne_iff_ne, ne_eq, Bool.not_eq_true', beq_eq_false_iff_ne]
  constructor
  · intro h e; exact h (by rw [e])
  · intro h e; exact h (UInt8.toNat_inj.1 (by omega))


/-- What TurnsOf answers. -/
def turnsN (s : ByteArray) : Int := if wayC s = 0 then turnsK s.data.toList s.size else 0
theorem wayC_le {s : ByteArray} (h : wayC s = 0) : s.size ≤ 200 := by
  unfold wayC at h
  split at h
  · cases h
  · omega
theorem wayC_range (s : ByteArray) : 0 ≤ wayC s ∧ wayC s ≤ 5 := by
  unfold wayC
  split
  · omega
  · split <;> omega




end Go.Proofs.Ytaeenkjbmlgcmaa
