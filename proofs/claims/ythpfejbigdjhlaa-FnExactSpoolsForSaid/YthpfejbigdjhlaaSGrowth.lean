/- Weather of the model: when it is valid, and by how much grass grows. -/
import Derived.Test.YthpfejbigdjhlaaGrowth
import Derived.Test.YthpfejbigdjhlaaZC
namespace Go.Proofs.Ythpfejbigdjhlaa
open Go.RowKit
set_option linter.unusedVariables false

theorem l00In_is (n a b : Int) (v : Bool) (h : (decide (a ≤ n) && decide (n ≤ b)) = v) (w : World) :
    Calls Try.prog 96 #[.int .i64 n, .int .i64 a, .int .i64 b] w fun e w' => e = .returned (.bool v) ∧ w' = w := by
  by_cases h1 : a ≤ n
  · have d1 : decide (a ≤ n) = true := by simpa using h1
    obtain ⟨d, hd⟩ : ∃ d, decide (n ≤ b) = d := ⟨_, rfl⟩
    have HV := Lib.hid (show v = d by rw [← h, d1, hd, Bool.true_and])
    clear h
    go_enter Try.func96, Try.ntmps96
    go_wp2
    go_ret
    exact ⟨by rw [HV.out, ← hd]; rfl, rfl⟩
  · have d1 : decide (a ≤ n) = false := by simpa using h1
    have HV := Lib.hid (show v = false by rw [← h, d1, Bool.false_and])
    clear h
    go_enter Try.func96, Try.ntmps96
    go_wp2
    go_ret
    exact ⟨by rw [HV.out]; rfl, rfl⟩



theorem first_all {zs : List Int} {N m : Nat} (h : FirstNo (dayP zs) N m) : (m = N) ↔ N ≤ 30 ∧ ∀ i, i < N → dayB zs i = true := by
  constructor
  · rintro rfl
    refine ⟨?_, fun i hi => ?_⟩
    · rcases Nat.lt_or_ge 30 m with h' | h'
      · have := h.all 30 h'
        simp [dayP] at this
      · exact h'
    · have := h.all i hi
      simp only [dayP, Bool.and_eq_true] at this
      exact this.2
  · rintro ⟨h1, h2⟩
    have := h.le
    rcases Nat.lt_or_ge m N with h' | h'
    · have h3 := h.stop h'
      have h4 : dayP zs m = true := by simp [dayP, h2 m h']; omega
      rw [h3] at h4; cases h4
    · omega


end Go.Proofs.Ythpfejbigdjhlaa
