/- Ways as strings of letters: the code of a way, of the program and of the model. -/
import Derived.Test.YtgmahakpmjfhhaaRRBase
import Derived.Test.YtgmahakpmjfhhaaRRGrow
import Derived.Lib.Bytealg
import Derived.Lib.Strings
namespace Go.Proofs.YtgmahakpmjfhhaaRR
open Go.RowKit
set_option linter.unusedVariables false

/-- The place of a letter, or -1. -/
def letN (c : UInt8) : Int := if c = 78 then 0 else if c = 87 then 1 else if c = 69 then 2 else if c = 83 then 3 else -1
def okB (c : UInt8) : Bool := c == 78 || c == 87 || c == 69 || c == 83
theorem okB_let (c : UInt8) : okB c = true ↔ 0 ≤ letN c := by
  unfold okB letN
  by_cases h1 : c = 78 <;> by_cases h2 : c = 87 <;> by_cases h3 : c = 69 <;> by_cases h4 : c = 83 <;> simp [h1, h2, h3, h4]
theorem letN_range (c : UInt8) : -1 ≤ letN c ∧ letN c ≤ 3 := by
  unfold letN
  split
  · omega
  · split
    · omega
    · split
      · omega
      · split <;> omega
theorem letN_index (c : UInt8) : Lib.indexByte [78, 87, 69, 83] c = letN c := by
  unfold letN
  simp only [Lib.indexByte, beq_iff_eq, eq_comm (b := c)]
  by_cases h1 : c = 78
  · simp [h1]
  · by_cases h2 : c = 87
    · simp [h2]
    · by_cases h3 : c = 69
      · simp [h3]
      · by_cases h4 : c = 83 <;> simp [h1, h2, h3, h4]
/-- The code of a way alone. -/
def wayC (s : ByteArray) : Int := if 200 < s.size then 3 else if s.data.toList.all okB then 0 else 5
theorem byte_get (s : ByteArray) (k : Nat) (h : k < s.size) : s.data.toList[k]? = some s[k] := by
  rw [List.getElem?_eq_getElem (by simpa using h)]
  rfl
theorem all_of {s : ByteArray} (h : ∀ k (hk : k < s.size), okB s[k] = true) : s.data.toList.all okB = true := by
  rw [List.all_eq_true]
  intro c hc
  obtain ⟨i, hi, he⟩ := List.getElem_of_mem hc
  have hi' : i < s.size := by simpa using hi
  have := h i hi'
  rw [← he]
  exact this
theorem all_not {s : ByteArray} {k : Nat} (hk : k < s.size) (h : okB s[k] = false) : s.data.toList.all okB = false := by
  rw [List.all_eq_false]
  refine ⟨s[k], ?_, by simp [h]⟩
  exact List.mem_of_getElem? (byte_get s k hk)

set_option maxHeartbeats 1000000 in
set_option maxRecDepth 100000 in
theorem strlite_any (s : ByteArray) (c : Int) (w : World) :
    Calls Try.prog 195 #[.string s, .int .u8 c] w fun e w' => e = .returned (.int .i64 (Lib.indexByte s.data.toList c.toNat.toUInt8)) ∧ w = w' := by
  go_enter Try.func195, Try.ntmps195
  go_wp2
  rw [run_callFunc_extern Try.func196 (by kernel_rfl) (by kernel_rfl) (by kernel_rfl) (e := Extern.BytealgIndexByte.indexByte) (by kernel_rfl), Lib.run_indexByteString]
  simp only [Result.andThen]
  rw [Oper.upon_value]
  go_wp2
  go_ret
  exact ⟨rfl, rfl⟩
set_option maxHeartbeats 1000000 in
theorem strIndexByte_any (s : ByteArray) (c : Int) (w : World) :
    Calls Try.prog 189 #[.string s, .int .u8 c] w fun e w' => e = .returned (.int .i64 (Lib.indexByte s.data.toList c.toNat.toUInt8)) ∧ w = w' := by
  go_enter Try.func189, Try.ntmps189
  go_wp2_with (go_at_call 195; refine (strlite_any _ _ _).mono ?_; rintro e w' ⟨rfl, rfl⟩)
  go_ret
  exact ⟨rfl, rfl⟩
/-- The place of a byte among the letters. -/
theorem letter_any (c : UInt8) (w : World) :
    Calls Try.prog 189 #[.string ⟨#[78, 87, 69, 83]⟩, .int .u8 (c.toNat : Int)] w fun e w' => e = .returned (.int .i64 (letN c)) ∧ w = w' := by
  refine (strIndexByte_any _ _ w).mono ?_
  rintro e w' ⟨rfl, rfl⟩
  refine ⟨?_, rfl⟩
  rw [← letN_index c]
  simp

set_option maxHeartbeats 1000000 in
theorem check_way (s : ByteArray) (hs : s.size ≤ maxLen) (w : World) :
    Calls Try.prog 174 #[.string s] w fun e w' => e = .returned (.int .i64 (wayC s)) ∧ w = w' := by
  unfold maxLen at hs
  have HW := Lib.hid (show wayC s = if 200 < s.size then 3 else if s.data.toList.all okB then 0 else 5 from rfl)
  by_cases h2 : 200 < s.size
  · have HE := Lib.hid (show wayC s = 3 by rw [HW.out, if_pos h2])
    have hd : decide ((200 : Int) < (s.size : Int)) = true := by simp; omega
    go_enter Try.func174, Try.ntmps174
    go_wp2_with fail
    go_ret
    exact ⟨by rw [HE.out]; rfl, rfl⟩
  · have HE := Lib.hid (show wayC s = if s.data.toList.all okB then 0 else 5 by rw [HW.out, if_neg h2])
    have hle : s.size ≤ 200 := by omega
    have hd : decide ((200 : Int) < (s.size : Int)) = false := by simp; omega
    clear h2
    go_enter Try.func174, Try.ntmps174
    go_wp2_with fail
    go_loop [9] (fun i => ∃ k : Nat, k ≤ s.size ∧ i = .int .i64 k ∧ ∀ j (hj : j < s.size), j < k → okB s[j] = true) (fun i => s.size - (intOf i).toNat)
    case atStart => exact ⟨0, Nat.zero_le _, rfl, fun j _ h => by omega⟩
    case round =>
      obtain ⟨k, hk, rfl, hok⟩ := hrel
      have HOK := Lib.hid hok
      clear hok
      by_cases hlt : k < s.size
      · have hr := letN_range s[k]
        obtain ⟨hr0, hr1⟩ := hr
        by_cases hb : 0 ≤ letN s[k]
        · have HB := Lib.hid ((okB_let s[k]).2 hb)
          go_wp2_with (refine (letter_any s[k] _).mono ?_; rintro e w' ⟨rfl, rfl⟩)
          go_round
          case rel => exact ⟨k + 1, by omega, by go_num, fun j hj h => by
            by_cases e : j = k
            · subst e; exact HB.out
            · exact HOK.out j hj (by omega)⟩
          case measure => simp [intOf]; omega
        · have HB := Lib.hid (show okB s[k] = false by
            cases h : okB s[k] with
            | false => rfl
            | true => exact absurd ((okB_let s[k]).1 h) hb)
          go_wp2_with (refine (letter_any s[k] _).mono ?_; rintro e w' ⟨rfl, rfl⟩)
          go_ret
          exact ⟨by rw [HE.out, all_not hlt HB.out]; rfl, rfl⟩
      · go_wp2_with fail
        go_ret
        exact ⟨by rw [HE.out, all_of (fun j hj => HOK.out j hj (by omega))]; rfl, rfl⟩
end Go.Proofs.YtgmahakpmjfhhaaRR
