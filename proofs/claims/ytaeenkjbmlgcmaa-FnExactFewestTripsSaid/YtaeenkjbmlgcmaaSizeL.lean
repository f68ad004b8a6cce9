/- The lengths that a law lets by; apart rows. -/
import Derived.Test.YtaeenkjbmlgcmaaArgs
namespace Go.Proofs.Ytaeenkjbmlgcmaa
open Go.RowKit
set_option linter.unusedVariables false

theorem apart_symm {a b : Option Nat} (h : a = none ∨ a ≠ b) : b = none ∨ b ≠ a := by
  cases b with
  | none => exact .inl rfl
  | some y => exact .inr (fun e => by rcases h with h | h <;> simp_all)

end Go.Proofs.Ytaeenkjbmlgcmaa
