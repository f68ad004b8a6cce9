/- Ways as strings of letters: the code of a way, of the program and of the model. TurnsOf, of the program and of the model. -/
import Derived.Test.YthfhpcigjnjkdaaDoorZA
import Derived.Test.YthfhpcigjnjkdaaDoorZB
import Derived.Lib.Bytealg
import Derived.Lib.Strings
namespace Go.Proofs.YthfhpcigjnjkdaaDoor
open Go.RowKit
set_option linter.unusedVariables false

/-- The place of a letter, or -1. -/
def letN (c : UInt8) : Int := if c = 78 then 0 else if c = 87 then 1 else if c = 69 then 2 else if c = 83 then 3 else -1
def okB (c : UInt8) : Bool := c == 78 || c == 87 || c == 69 || c == 83
theorem okB_let (c : UInt8) : okB c = true ↔ 0 ≤ letN c := by
  unfold okB letN
  by_cases h1 : c = 78 <;> by_cases h2 : c = 87 <;> by_cases h3 : c = 69 <;> by_cases h4 : c = 83 <;> simp [h1, h2, h3, h4]
theorem letN_range (c : UInt8) : -1 ≤ letN c ∧ letN c ≤ 3 := by
  unfold letN
  split
  · omega
  · split
    · omega
    · split
      · omega
      · split <;> omega
theorem letN_index (c : UInt8) : Lib.indexByte [78, 87, 69, 83] c = letN c := by
  unfold letN
  simp only [Lib.indexByte, beq_iff_eq, eq_comm (b := c)]
  by_cases h1 : c = 78
  · simp [h1]
  · by_cases h2 : c = 87
    · simp [h2]
    · by_cases h3 : c = 69
      · simp [h3]
      · by_cases h4 : c = 83 <;> simp [h1, h2, h3, h4]
/-- The code of a way alone. -/
def wayC (s : ByteArray) : Int := if 200 < s.size then 3 else if s.data.toList.all okB then 0 else 5
theorem byte_get (s : ByteArray) (k : Nat) (h : k < s.size) : s.data.toList[k]? = some s[k] := by
  rw [List.getElem?_eq_getElem (by simpa using h)]
  rfl
theorem all_of {s : ByteArray} (h : ∀ k (hk : k < s.size), okB s[k] = true) : s.data.toList.all okB = true := by
  rw [List.all_eq_true]
  intro c hc
  obtain ⟨i, hi, he⟩ := List.getElem_of_mem hc
  have hi' : i < s.size := by simpa using hi
  have := h i hi'
  rw [← he]
  exact this
theorem all_not {s : ByteArray} {k : Nat} (hk : k < s.size) (h : okB s[k] = false) : s.data.toList.all okB = false := by
  rw [List.all_eq_false]
  refine ⟨s[k], ?_, by simp [h]⟩
  exact List.mem_of_getElem? (byte_get s k hk)

set_option maxHeartbeats 1000000 in
set_option maxRecDepth 100000 in
theorem strlite_any (s : ByteArray) (c : Int) (w : World) :
    Calls Tryd.prog 110 #[.string s, .int .u8 c] w fun e w' => e = .returned (.int .i64 (Lib.indexByte s.data.toList c.toNat.toUInt8)) ∧ w = w' := by
  go_enter Tryd.func110, Tryd.ntmps110
  go_wp2
  rw [run_callFunc_extern Tryd.func141 (by kernel_rfl) (by kernel_rfl) (by kernel_rfl) (e := Extern.BytealgIndexByte.indexByte) (by kernel_rfl), Lib.run_indexByteString]
  simp only [Result.andThen]
  rw [Oper.upon_value]
  go_wp2
  go_ret
  exact ⟨rfl, rfl⟩
set_option maxHeartbeats 1000000 in
theorem strIndexByte_any (s : ByteArray) (c : Int) (w : World) :
    Calls Tryd.prog 63 #[.string s, .int .u8 c] w fun e w' => e = .returned (.int .i64 (Lib.indexByte s.data.toList c.toNat.toUInt8)) ∧ w = w' := by
  go_enter Tryd.func63, Tryd.ntmps63
  go_wp2_with (go_at_call 110; refine (strlite_any _ _ _).mono ?_; rintro e w' ⟨rfl, rfl⟩)
  go_ret
  exact ⟨rfl, rfl⟩
/-- The place of a byte among the letters. -/
theorem letter_any (c : UInt8) (w : World) :
    Calls Tryd.prog 63 #[.string ⟨#[78, 87, 69, 83]⟩, .int .u8 (c.toNat : Int)] w fun e w' => e = .returned (.int .i64 (letN c)) ∧ w = w' := by
  refine (strIndexByte_any _ _ w).mono ?_
  rintro e w' ⟨rfl, rfl⟩
  refine ⟨?_, rfl⟩
  rw [← letN_index c]
  simp

end Go.Proofs.YthfhpcigjnjkdaaDoor

namespace Go.Proofs.YthfhpcigjnjkdaaDoor
open Go.RowKit
set_option linter.unusedVariables false

/-- The text of all letters. -/
def nwes : ByteArray := ⟨#[78, 87, 69, 83]⟩
theorem nwes_index0 (w : World) : (Instr.index 9 (.string ⟨#[78, 87, 69, 83]⟩) (.int .i64 0)).run Tryd.prog w = .ok (.int .u8 78) w := by kernel_rfl
theorem nwes_index1 (w : World) : (Instr.index 9 (.string ⟨#[78, 87, 69, 83]⟩) (.int .i64 1)).run Tryd.prog w = .ok (.int .u8 87) w := by kernel_rfl
theorem nwes_index2 (w : World) : (Instr.index 9 (.string ⟨#[78, 87, 69, 83]⟩) (.int .i64 2)).run Tryd.prog w = .ok (.int .u8 69) w := by kernel_rfl
theorem nwes_index3 (w : World) : (Instr.index 9 (.string ⟨#[78, 87, 69, 83]⟩) (.int .i64 3)).run Tryd.prog w = .ok (.int .u8 83) w := by kernel_rfl



/-- How many letters of the first k differ from the one before. -/
def turnsK (l : List UInt8) : Nat → Int
  | 0 => 0
  | 1 => 0
  | k + 2 => turnsK l (k + 1) + if l.getD (k + 1) 0 = l.getD k 0 then 0 else 1
theorem turnsK_range (l : List UInt8) : ∀ k, 0 ≤ turnsK l k ∧ turnsK l k ≤ k
  | 0 => by simp [turnsK]
  | 1 => by simp [turnsK]
  | k + 2 => by
    have := turnsK_range l (k + 1)
    unfold turnsK
    split <;> omega
def turnsB (s : ByteArray) (k : Nat) : Bool := s.data.toList.getD (k + 1) 0 == s.data.toList.getD k 0
theorem turnsB_at {s : ByteArray} {k : Nat} (h : k + 1 < s.size) : (((s[k + 1].toNat : Int)) != (s[k].toNat : Int)) = !turnsB s k := by
  have e1 : s.data.toList.getD (k + 1) 0 = s[k + 1] := by rw [List.getD_eq_getElem?_getD, byte_get s _ h]; rfl
  have e2 : s.data.toList.getD k 0 = s[k] := by rw [List.getD_eq_getElem?_getD, byte_get s k (by omega)]; rfl
  unfold turnsB
  rw [e1, e2, Bool.eq_iff_iff]
  simp only [bne_iff_ne, ne_eq, Bool.not_eq_true', beq_eq_false_iff_ne]
  constructor
  · intro h e; exact h (by rw [e])
  · intro h e; exact h (UInt8.toNat_inj.1 (by omega))


/-- What TurnsOf answers. -/
def turnsN (s : ByteArray) : Int := if wayC s = 0 then turnsK s.data.toList s.size else 0
theorem wayC_le {s : ByteArray} (h : wayC s = 0) : s.size ≤ 200 := by
  unfold wayC at h
  split at h
  · cases h
  · omega
theorem wayC_range (s : ByteArray) : 0 ≤ wayC s ∧ wayC s ≤ 5 := by
  unfold wayC
  split
  · omega
  · split <;> omega




end Go.Proofs.YthfhpcigjnjkdaaDoor
