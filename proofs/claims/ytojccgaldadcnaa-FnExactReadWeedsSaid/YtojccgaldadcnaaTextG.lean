/- The text of a grid: a letter for each cell, a newline behind each row. -/
import Derived.Test.YtojccgaldadcnaaZB
import Derived.Test.YtojccgaldadcnaaZC
namespace Go.Proofs.Ytojccgaldadcnaa
open Go.RowKit Go.Shelf
set_option linter.unusedVariables false

/-- The text of the first cells. -/
def textG (f : Nat → Nat → UInt8) {W H : Nat} (pre : List (Fin W × Fin H)) : List UInt8 := pre.flatMap fun c => f c.2 c.1 :: (if c.1.val + 1 = W then [10] else [])
theorem textG_snoc (f : Nat → Nat → UInt8) {W H : Nat} (pre : List (Fin W × Fin H)) (c : Fin W × Fin H) : textG f (pre ++ [c]) = textG f pre ++ f c.2 c.1 :: (if c.1.val + 1 = W then [10] else []) := by simp [textG]
theorem textG_length (f : Nat → Nat → UInt8) {W H : Nat} : ∀ pre : List (Fin W × Fin H), (textG f pre).length ≤ pre.length * 2
  | [] => by simp [textG]
  | c :: pre => by
    have := textG_length f pre
    simp only [textG, List.flatMap_cons, List.length_append, List.length_cons] at *
    split
    · simp only [List.length_singleton]; omega
    · simp only [List.length_nil]; omega
/-- The text of the first rows. -/
def rowsG (f : Nat → Nat → UInt8) (W k : Nat) : List UInt8 := (List.range k).flatMap fun y => (List.range W).map (fun x => f y x) ++ [10]
theorem rowsG_succ (f : Nat → Nat → UInt8) (W k : Nat) : rowsG f W (k + 1) = rowsG f W k ++ ((List.range W).map (fun x => f k x) ++ [10]) := by simp [rowsG, List.range_succ]
theorem rowsG_len (f : Nat → Nat → UInt8) (W : Nat) : ∀ k, (rowsG f W k).length = k * (W + 1)
  | 0 => by simp [rowsG]
  | k + 1 => by
    have := rowsG_len f W k
    rw [rowsG_succ]
    simp only [List.length_append, List.length_map, List.length_range, List.length_singleton, this]
    rw [Nat.succ_mul]
theorem rowsG_length (f : Nat → Nat → UInt8) (W : Nat) (hW : W ≤ 10) (k : Nat) : (rowsG f W k).length ≤ k * 11 := by
  rw [rowsG_len]
  exact Nat.mul_le_mul_left _ (by omega)
theorem textG_row (f : Nat → Nat → UInt8) (W H k : Nat) (hW : 1 ≤ W) (hk : k < H) (h : textG f ((allC W H).take (k * W)) = rowsG f W k) : ∀ j, j ≤ W → textG f ((allC W H).take (k * W + j)) = rowsG f W k ++ (List.range j).map (fun x => f k x) ++ (if j = W then [10] else [])
  | 0, _ => by simp only [Nat.add_zero, h]; rw [if_neg (by omega)]; simp
  | j + 1, hj => by
    have ih := textG_row f W H k hW hk h j (by omega)
    rw [if_neg (by omega), List.append_nil] at ih
    rw [← Nat.add_assoc, allC_take W H k j (by omega) hk, textG_snoc, ih]
    simp [List.range_succ]
theorem textG_rows (f : Nat → Nat → UInt8) (W H : Nat) (hW : 1 ≤ W) : ∀ k, k ≤ H → textG f ((allC W H).take (k * W)) = rowsG f W k
  | 0, _ => by simp [textG, rowsG]
  | k + 1, hk => by
    have := textG_row f W H k hW (by omega) (textG_rows f W H hW k (by omega)) W (Nat.le_refl _)
    rw [if_pos rfl] at this
    rw [Nat.succ_mul, this, rowsG_succ]
    simp
theorem textG_all (f : Nat → Nat → UInt8) (W H : Nat) (hW : 1 ≤ W) : textG f (allC W H) = rowsG f W H := by
  rw [← textG_rows f W H hW H (Nat.le_refl _), List.take_of_length_le (by rw [allC_length]; exact Nat.le_refl _)]
theorem gbytes_one (l : List UInt8) (c : UInt8) : Lib.byteCells (l ++ c :: []) = Lib.byteCells l ++ [.int .u8 c.toNat] := by simp [Lib.byteCells]
theorem gbytes_two (l : List UInt8) (c d : UInt8) : Lib.byteCells (l ++ c :: [d]) = Lib.byteCells l ++ [.int .u8 c.toNat] ++ [.int .u8 d.toNat] := by simp [Lib.byteCells]
/-- The letters of weeds. -/
def letW (s : Nat → Nat → Bool) : Nat → Nat → UInt8 := fun y x => if s y x then 119 else 46
end Go.Proofs.Ytojccgaldadcnaa
