/- SteepSteps: what both answer. -/
import Derived.Test.YtbccffnmjmbgoaaBSteep
import Derived.Test.YtbccffnmjmbgoaaSSteep
namespace Go.Proofs.Ytbccffnmjmbgoaa
open Go.RowKit
theorem steep_both (L : Lawn) (hL : L.Fits) (g : Nat → Nat → Int) (hg : LevFits g) (z : Int) : ∃ n m : Int, (∀ w : World, Calls Try.prog 26 #[.agg L.cells, .agg (levV g), .int .i64 z] w fun e w' => e = .returned (.tuple #[.int .i64 n, .int .i64 m]) ∧ Below w.heap.size w w') ∧
    (∀ w : World, Calls Try.prog 25 #[.agg L.cells, .agg (levV g), .int .i64 z] w fun e w' => e = .returned (.tuple #[.int .i64 n, .int .i64 m]) ∧ Below w.heap.size w w') := by
  cases hv : levB L g with
  | false => exact ⟨_, _, implSteep_lev L hL g hv z, specSteep_bad L hL g hg z 1 (by rw [hv]; rfl) (by decide)⟩
  | true =>
    cases hu : upZ z 18 with
    | false => exact ⟨_, _, implSteep_far L hL g hv z hu, specSteep_bad L hL g hg z 2 (by rw [hv, hu]; rfl) (by decide)⟩
    | true =>
      obtain ⟨h1, h2, -⟩ := validB_true (levB_true hv).1
      exact ⟨_, _, steep_loop L.wide.toNat L.high.toNat (by omega) (by omega) L (by omega) (by omega) hL g hg hv z hu, specSteep_good L hL g hg hv z hu⟩
end Go.Proofs.Ytbccffnmjmbgoaa
