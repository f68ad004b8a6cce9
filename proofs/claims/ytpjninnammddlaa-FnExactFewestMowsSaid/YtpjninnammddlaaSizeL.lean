/- The lengths that a law lets by; apart rows. -/
import Derived.Test.YtpjninnammddlaaArgs
namespace Go.Proofs.Ytpjninnammddlaa
open Go.RowKit
set_option linter.unusedVariables false

theorem apart_symm {a b : Option Nat} (h : a = none ∨ a ≠ b) : b = none ∨ b ≠ a := by
  cases b with
  | none => exact .inl rfl
  | some y => exact .inr (fun e => by rcases h with h | h <;> simp_all)

theorem szWeatherS_any (n : Nat) (a : Option Addr) (c left : Nat) (h : n ≤ left ∧ left ≤ 2000000) (w : World) :
    Calls Try.prog 6 #[.slice a n c, .int .i64 (left : Int)] w fun e w' => e = .returned (.int .i64 ((left - n : Nat) : Int)) ∧ w = w' := by
  have h1 := h.1
  have h2 := h.2
  go_enter Try.func6, Try.ntmps6
  go_wp2_with fail
  go_ret
  exact ⟨congrArg (fun x => Ending.returned (.int .i64 x)) (by omega), rfl⟩
theorem szWeatherS_big (n : Nat) (a : Option Addr) (c left : Nat) (h : left < n) (h2 : left ≤ 2000000) (hn : n ≤ 9223372036854775807) (w : World) :
    Calls Try.prog 6 #[.slice a n c, .int .i64 (left : Int)] w fun e w' => e = .returned (.int .i64 (-1)) ∧ w = w' := by
  go_enter Try.func6, Try.ntmps6
  go_wp2_with fail
  go_ret
  exact ⟨rfl, rfl⟩
end Go.Proofs.Ytpjninnammddlaa
