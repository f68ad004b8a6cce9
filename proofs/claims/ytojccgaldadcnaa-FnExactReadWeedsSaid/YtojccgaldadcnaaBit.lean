/- Rows of bits: a number of 16 bits as the set of its bits; what '&', '|', '&^', '<<', '>>' make of it; rows of such numbers by value. -/
import Derived.Test.YtojccgaldadcnaaZA
import Derived.Laws.BitsAllLaws
namespace Go.Proofs.Ytojccgaldadcnaa
open Go.RowKit
set_option linter.unusedVariables false
set_option linter.unusedSimpArgs false

/-- The number whose bits below n are told. -/
def bitsTo (b : Nat → Bool) : Nat → Nat
  | 0 => 0
  | n + 1 => bitsTo b n + (if b n then 2 ^ n else 0)
theorem bitsTo_lt (b : Nat → Bool) : ∀ n, bitsTo b n < 2 ^ n
  | 0 => by simp [bitsTo]
  | n + 1 => by
    have := bitsTo_lt b n
    simp only [bitsTo, Nat.pow_succ]
    split <;> omega
theorem testBit_bitsTo (b : Nat → Bool) : ∀ n j, (bitsTo b n).testBit j = (decide (j < n) && b j)
  | 0, j => by simp [bitsTo]
  | n + 1, j => by
    have ih := testBit_bitsTo b n j
    have hl := bitsTo_lt b n
    simp only [bitsTo]
    cases hb : b n with
    | false =>
      rw [if_neg (by simp), Nat.add_zero, ih]
      by_cases h : j < n
      · simp [h, Nat.lt_succ_of_lt h]
      · by_cases e : j = n
        · subst e; simp [hb]
        · simp [h, show ¬ j < n + 1 by omega]
    | true =>
      have hor : 2 ^ n + bitsTo b n = 2 ^ n ||| bitsTo b n := by simpa using Nat.two_pow_add_eq_or_of_lt hl 1
      rw [if_pos rfl, Nat.add_comm, hor, Nat.testBit_or, Nat.testBit_two_pow, ih]
      by_cases e : j = n
      · subst e; simp [hb]
      · by_cases h : j < n
        · simp [Ne.symm e, h, Nat.lt_succ_of_lt h]
        · simp [Ne.symm e, h, show ¬ j < n + 1 by omega]
/-- The number of 16 bits. -/
def rowN (b : Nat → Bool) : Nat := bitsTo b 16
theorem rowN_lt (b : Nat → Bool) : rowN b < 65536 := bitsTo_lt b 16
theorem rowN_bit (b : Nat → Bool) (j : Nat) : (rowN b).testBit j = (decide (j < 16) && b j) := testBit_bitsTo b 16 j
theorem rowN_ext {a b : Nat → Bool} (h : ∀ j, j < 16 → a j = b j) : rowN a = rowN b := by
  apply Nat.eq_of_testBit_eq
  intro j
  rw [rowN_bit, rowN_bit]
  by_cases hj : j < 16
  · rw [h j hj]
  · simp [hj]
theorem rowN_inj {a b : Nat → Bool} (h : rowN a = rowN b) (j : Nat) (hj : j < 16) : a j = b j := by
  have := congrArg (fun n => n.testBit j) h
  simpa [rowN_bit, hj] using this
theorem rowN_of (n : Nat) (h : n < 65536) : rowN n.testBit = n := by
  apply Nat.eq_of_testBit_eq
  intro j
  rw [rowN_bit]
  by_cases hj : j < 16
  · simp [hj]
  · have : n < 2 ^ j := Nat.lt_of_lt_of_le h (by have := Nat.pow_le_pow_right (n := 2) (by decide) (show 16 ≤ j by omega); omega)
    simp [hj, Nat.testBit_lt_two_pow this]
theorem rowN_zero : rowN (fun _ => false) = 0 := by
  apply Nat.eq_of_testBit_eq
  intro j
  rw [rowN_bit]
  simp
theorem rowN_one : rowN (fun j => j == 0) = 1 := by decide

@[go_sem] theorem bits_or_row (a b : Nat → Bool) : bits .or .u16 (rowN a : Int) (rowN b : Int) = (rowN (fun x => a x || b x) : Int) := by
  rw [u16_or_nat _ _ (rowN_lt a) (rowN_lt b)]
  congr 1
  apply Nat.eq_of_testBit_eq
  intro j
  simp only [Nat.testBit_or, rowN_bit]
  cases decide (j < 16) <;> simp
@[go_sem] theorem bits_and_row (a b : Nat → Bool) : bits .and .u16 (rowN a : Int) (rowN b : Int) = (rowN (fun x => a x && b x) : Int) := by
  rw [u16_and_nat _ _ (rowN_lt a) (rowN_lt b)]
  congr 1
  apply Nat.eq_of_testBit_eq
  intro j
  simp only [Nat.testBit_and, rowN_bit]
  cases decide (j < 16) <;> simp
@[go_sem] theorem bits_andNot_row (a b : Nat → Bool) : bits .andNot .u16 (rowN a : Int) (rowN b : Int) = (rowN (fun x => a x && !b x) : Int) := by
  rw [u16_andNot_nat _ _ (rowN_lt a) (rowN_lt b)]
  congr 1
  apply Nat.eq_of_testBit_eq
  intro j
  have hb := rowN_lt b
  have e : 65535 - rowN b = 2 ^ 16 - (rowN b + 1) := by omega
  rw [Nat.testBit_and, e, Nat.testBit_two_pow_sub_succ (by omega)]
  simp only [rowN_bit]
  cases decide (j < 16) <;> simp
/-- A row moved up by n places; what goes past the 16th is lost. -/
theorem rowN_shl (a : Nat → Bool) (n : Nat) : (rowN a * 2 ^ n) % 65536 = rowN (fun x => decide (n ≤ x) && a (x - n)) := by
  apply Nat.eq_of_testBit_eq
  intro j
  rw [show (65536 : Nat) = 2 ^ 16 by decide, Nat.testBit_mod_two_pow, Nat.testBit_mul_two_pow, rowN_bit, rowN_bit]
  by_cases h : j < 16
  · by_cases h2 : n ≤ j
    · simp [h, h2, show j - n < 16 by omega]
    · simp [h, h2]
  · simp [h]
theorem rowN_shr (a : Nat → Bool) (n : Nat) : rowN a / 2 ^ n = rowN (fun x => decide (x + n < 16) && a (x + n)) := by
  apply Nat.eq_of_testBit_eq
  intro j
  rw [Nat.testBit_div_two_pow, rowN_bit, rowN_bit]
  by_cases h : j + n < 16
  · simp [h, show j < 16 by omega]
  · simp [h]
theorem rowN_mod2 (a : Nat → Bool) : rowN a % 2 = if a 0 then 1 else 0 := by
  have h := rowN_bit a 0
  simp only [Nat.testBit_zero] at h
  simp at h
  cases ha : a 0 <;> simp [ha] at h ⊢ <;> omega
theorem rowN_and1 (a : Nat → Bool) : rowN (fun x => a x && x == 0) = if a 0 then 1 else 0 := by
  cases ha : a 0
  · rw [if_neg (by simp)]
    refine (rowN_ext fun j _ => ?_).trans rowN_zero
    by_cases e : j = 0 <;> simp [e, ha]
  · rw [if_pos rfl]
    refine (rowN_ext fun j _ => ?_).trans rowN_one
    by_cases e : j = 0 <;> simp [e, ha]
theorem rowN_pow (n : Nat) (h : n < 16) : rowN (fun x => x == n) = 2 ^ n := by
  apply Nat.eq_of_testBit_eq
  intro j
  rw [rowN_bit, Nat.testBit_two_pow]
  by_cases e : j = n
  · subst e; simp [h]
  · simp [e, Ne.symm e]

/-- How many bits are set. -/
def cntTo (b : Nat → Bool) : Nat → Nat
  | 0 => 0
  | n + 1 => cntTo b n + (if b n then 1 else 0)
theorem cntTo_le (b : Nat → Bool) : ∀ n, cntTo b n ≤ n
  | 0 => by simp [cntTo]
  | n + 1 => by have := cntTo_le b n; simp only [cntTo]; split <;> omega
def cntN (b : Nat → Bool) : Nat := cntTo b 16

/-- A row of n numbers of 16 bits. -/
def bV (n : Nat) (s : Nat → Nat → Bool) : Array Value := ((List.range n).map fun y => Value.int .u16 (rowN (s y) : Int)).toArray
@[simp, go_sem] theorem bV_size (n : Nat) (s : Nat → Nat → Bool) : (bV n s).size = n := by simp [bV]
@[go_sem] theorem bV_get (n : Nat) (s : Nat → Nat → Bool) (j : Nat) (h : j < n) : (bV n s)[j]? = some (.int .u16 (rowN (s j) : Int)) := by simp [bV, h]
@[go_sem] theorem bV_at (n : Nat) (s : Nat → Nat → Bool) (j : Nat) (h : j < (bV n s).size) : (bV n s)[j] = .int .u16 (rowN (s j) : Int) := by
  have := bV_get n s j (by simpa using h)
  rw [Array.getElem?_eq_getElem h] at this; exact Option.some.inj this
@[go_sem] theorem bV_ones (n : Nat) (s : Nat → Nat → Bool) : Ones (bV n s) = true := by
  refine of_ones fun v hv => ?_; simp [bV] at hv; obtain ⟨j, _, rfl⟩ := hv; rfl
theorem bV_ext {n : Nat} {s t : Nat → Nat → Bool} (h : ∀ y x, y < n → x < 16 → s y x = t y x) : bV n s = bV n t := by
  unfold bV; congr 1; apply List.map_congr_left; intro j hj; rw [rowN_ext fun x hx => h j x (by simpa using hj) hx]
theorem bV_of {cs : Array Value} {n : Nat} {s : Nat → Nat → Bool} (hs : cs.size = n) (h : ∀ j, j < n → cs[j]? = some (.int .u16 (rowN (s j) : Int))) : cs = bV n s := by
  apply Array.ext_getElem?
  intro j
  by_cases hj : j < n
  · rw [h j hj, bV_get n s j hj]
  · rw [Array.getElem?_eq_none (by omega), Array.getElem?_eq_none (by simp; omega)]
@[go_sem] theorem bV_all (n : Nat) (s : Nat → Nat → Bool) : (bV n s).extract 0 n = bV n s := by
  simp
theorem bV_zero (n : Nat) : (bV n fun _ _ => false) = (List.replicate n (Value.int .u16 0)).toArray := by
  apply (bV_of _ _).symm
  · simp
  · intro j hj
    rw [rowN_zero]
    simp [hj]
/-- One row is exchanged. -/
def updR (s : Nat → Nat → Bool) (k : Nat) (b : Nat → Bool) : Nat → Nat → Bool := fun y => if y = k then b else s y
theorem bV_set (n : Nat) (s : Nat → Nat → Bool) (k : Nat) (b : Nat → Bool) (h : k < n) : (bV n s).setIfInBounds k (.int .u16 (rowN b : Int)) = bV n (updR s k b) := by
  apply bV_of
  · simp
  · intro j hj
    rw [Array.getElem?_setIfInBounds]
    by_cases e : k = j
    · subst e; simp [h, updR]
    · rw [if_neg e, bV_get _ _ _ hj]; simp [updR, Ne.symm e]
@[go_sem] theorem splice_bV (n : Nat) (s t : Nat → Nat → Bool) : splice (bV n s) 0 (bV n t) = bV n t := splice_all _ _ (by simp)
/-- What '==' says of two rows of them. -/
def bEq (n : Nat) (s t : Nat → Nat → Bool) : Bool := (List.range n).all fun y => rowN (s y) == rowN (t y)
theorem bEq_true {n : Nat} {s t : Nat → Nat → Bool} (h : bEq n s t = true) : ∀ y x, y < n → x < 16 → s y x = t y x := by
  intro y x hy hx
  simp only [bEq, List.all_eq_true, List.mem_range, beq_iff_eq] at h
  exact rowN_inj (h y hy) x hx
theorem bEq_of {n : Nat} {s t : Nat → Nat → Bool} (h : ∀ y x, y < n → x < 16 → s y x = t y x) : bEq n s t = true := by
  simp only [bEq, List.all_eq_true, List.mem_range, beq_iff_eq]
  exact fun y hy => rowN_ext fun x hx => h y x hy hx

section
variable {P : Program} (w : World)
theorem eqItems_bV (d : Nat) {e : TypeId} (he : P.underlying e = some (.int .u16)) (n : Nat) (s t : Nat → Nat → Bool) : ∀ (is : List Nat), (∀ i ∈ is, i < n) →
    (Op.eqItems (d + 1) e 1 (bV n s) (bV n t) is).run P w = .ok (is.all fun i => rowN (s i) == rowN (t i)) w
  | [], _ => by simp [Op.eqItems]
  | i :: is, h => by
    have hi := h i (by simp)
    have ih := eqItems_bV d he n s t is (fun j hj => h j (by simp [hj]))
    simp only [Op.eqItems, Sem.run_bind, Nat.mul_one, run_part_one w he _ _ _ (bV_get n s i hi), run_part_one w he _ _ _ (bV_get n t i hi), Result.andThen_ok, run_equalIn_int w d e .u16 .u16 _ _ he]
    have hc : (((rowN (s i) : Nat) : Int) == ((rowN (t i) : Nat) : Int)) = (rowN (s i) == rowN (t i)) := by
      rw [Bool.eq_iff_iff, beq_iff_eq, beq_iff_eq]; omega
    rw [hc]
    cases hq : (rowN (s i) == rowN (t i))
    · simp [hq]
    · simp [hq, ih]
theorem equal_bV (d : Nat) {t e : TypeId} {n : Nat} (ht : P.underlying t = some (.array n e)) (he : P.underlying e = some (.int .u16)) (hc : P.cellsOf e = 1) (s u : Nat → Nat → Bool) :
    (Op.equalIn (d + 2) t (.agg (bV n s)) (.agg (bV n u))).run P w = .ok (bEq n s u) w := by
  obtain ⟨i, hi⟩ := info_of_underlying he
  rw [show d + 2 = (d + 1) + 1 from rfl, run_equalIn_array w (d + 1) _ _ ht hi, hc]
  exact eqItems_bV w d he n s u _ (fun i hi => by simpa using hi)
end
end Go.Proofs.Ytojccgaldadcnaa
