/- Numbers from 0 up to a bound. -/
import Derived.Test.YtaeenkjbmlgcmaaZA
namespace Go.Proofs.Ytaeenkjbmlgcmaa
open Go.RowKit
set_option linter.unusedVariables false

def upZ (n m : Int) : Bool := decide (0 ≤ n) && decide (n ≤ m)
theorem upZ_in (n m : Int) : upZ n m = inB n 0 m := rfl
theorem upTo64_is (n m : Int) (v : Bool) (h : upZ n m = v) (w : World) :
    Calls Try.prog 92 #[.int .i64 n, .int .i64 m] w fun e w' => e = .returned (.bool v) ∧ w' = w := by
  have H := Lib.hid h
  by_cases h1 : 0 ≤ n
  · have d1 : decide (0 ≤ n) = true := by simpa using h1
    obtain ⟨d, hd⟩ : ∃ d, decide (n ≤ m) = d := ⟨_, rfl⟩
    have HV := Lib.hid (show v = d by rw [← h, upZ, d1, hd, Bool.true_and])
    clear h
    go_enter Try.func92, Try.ntmps92
    go_wp2
    go_ret
    exact ⟨by rw [HV.out, ← hd]; rfl, rfl⟩
  · have d1 : decide (0 ≤ n) = false := by simpa using h1
    have HV := Lib.hid (show v = false by rw [← h, upZ, d1, Bool.false_and])
    clear h
    go_enter Try.func92, Try.ntmps92
    go_wp2
    go_ret
    exact ⟨by rw [HV.out]; rfl, rfl⟩

end Go.Proofs.Ytaeenkjbmlgcmaa
