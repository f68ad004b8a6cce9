/- Weather and heights, as they are asked for: growthsFrom of the program, l03Asked of the model. -/
import Derived.Test.YthfhpcigjnjkdaaDoorSGrowth
namespace Go.Proofs.YthfhpcigjnjkdaaDoor
open Go.RowKit
set_option linter.unusedVariables false

theorem upto64_is (n m : Int) (v : Bool) (h : upB n m = v) (w : World) :
    Calls Tryd.prog 82 #[.int .i64 n, .int .i64 m] w fun e w' => e = .returned (.bool v) ∧ w' = w := by
  have H := Lib.hid h
  by_cases h1 : 0 ≤ n
  · have d1 : decide (0 ≤ n) = true := by simpa using h1
    obtain ⟨d, hd⟩ : ∃ d, decide (n ≤ m) = d := ⟨_, rfl⟩
    have HV := Lib.hid (show v = d by rw [← h, upB, d1, hd, Bool.true_and])
    clear h
    go_enter Tryd.func82, Tryd.ntmps82
    go_wp2
    go_ret
    exact ⟨by rw [HV.out, ← hd]; rfl, rfl⟩
  · have d1 : decide (0 ≤ n) = false := by simpa using h1
    have HV := Lib.hid (show v = false by rw [← h, upB, d1, Bool.false_and])
    clear h
    go_enter Tryd.func82, Tryd.ntmps82
    go_wp2
    go_ret
    exact ⟨by rw [HV.out]; rfl, rfl⟩

/-- The code of weather, and of numbers that are as told or not. -/
def askC (N m : Nat) (fine : Bool) : Int := if m = N then (if fine then 0 else 2) else 1
def askB (N m : Nat) (fine : Bool) : Bool := decide (m = N) && fine
def askN (N m : Nat) (fine : Bool) : Nat := if askB N m fine then N else 0
def askV (zs : List Int) (N m : Nat) (fine : Bool) : List Value := if askB N m fine then intsV .i64 (growL zs N) else []

theorem firstNo_at {p : Nat → Bool} {N q k : Nat} (h : FirstNo p N q) (ha : ∀ j, j < k → p j = true) (hk : k < N) (hn : p k = false) : q = k := by
  rcases Nat.lt_trichotomy q k with h' | h' | h'
  · have h2 := h.stop (by omega); rw [ha q h'] at h2; cases h2
  · exact h'
  · have h2 := h.all k h'; rw [hn] at h2; cases h2
theorem ask_bad {N m : Nat} {b : Bool} (h : askB N m b = false) : askC N m b = 1 ∨ askC N m b = 2 := by
  unfold askC
  unfold askB at h
  split
  · rename_i e
    right
    rw [decide_eq_true e, Bool.true_and] at h
    rw [h]; rfl
  · exact .inl rfl
theorem ask_good {N m : Nat} {b : Bool} (h : askB N m b = true) : m = N ∧ b = true ∧ askC N m b = 0 := by
  unfold askB at h
  simp only [Bool.and_eq_true, decide_eq_true_eq] at h
  obtain ⟨rfl, rfl⟩ := h
  exact ⟨rfl, rfl, by simp [askC]⟩



def minZ (a b : Int) : Int := if a < b then a else b
theorem minZ_min (a b : Int) : min a b = minZ a b := by unfold minZ; omega


end Go.Proofs.YthfhpcigjnjkdaaDoor
