/- Sides that are equal. -/
import Derived.Test.YthfhpcigjnjkdaaDoorSd5
import Derived.Test.YthfhpcigjnjkdaaDoorZD
namespace Go.Proofs.YthfhpcigjnjkdaaDoor
open Go.RowKit
set_option linter.unusedVariables false
attribute [local go_sem ↓] loadSd storeSd allocSd buildSd

set_option maxRecDepth 100000 in
set_option maxHeartbeats 1000000 in
theorem eqSides_sameR (f : Sd) (w : World) :
    Calls Tryd.prog 40 #[.agg (sdV f), .agg (sdV f)] w fun e w' => e = .returned (.bool true) ∧ Below w.heap.size w w' := by
  go_enter Tryd.func40, Tryd.ntmps40
  go_wp2_with fail
  obtain ⟨W0, hW0⟩ : ∃ W0, (w.alloc (.cells (sdV f) 53)).alloc (.cells (sdV f) 53) = W0 := ⟨_, rfl⟩
  have g0 : Holds W0 w.heap.size (sdV f) := by rw [← hW0]; exact (Holds.new _ _ _).alloc _
  have g1 : Holds W0 (w.heap.size + 1) (sdV f) := by rw [← hW0]; exact Holds.new' _ _ _ _ (by simp)
  have hb0 : Below w.heap.size w W0 := by rw [← hW0]; exact ((Below.refl w.heap.size w).alloc (Nat.le_refl _) _).alloc (by simp) _
  rw [hW0]
  clear hW0
  go_loopw [5] (fun q wr => ∃ k : Nat, k ≤ 5 ∧ q = .int .i64 k ∧ Below W0.heap.size W0 wr) (fun q _ => 5 - (intOf q).toNat)
  case atStart => exact ⟨0, by omega, rfl, Below.refl _ _⟩
  case round =>
    obtain ⟨k, hk, rfl, hb⟩ := hrel
    by_cases hlt : k < 5
    · have hd : decide ((k : Int) < (5 : Int)) = true := by simp; omega
      have c0 := (g0.below hb g0.lt).sd k hlt
      have c1 := (g1.below hb g1.lt).sd k hlt
      go_wp2_with fail
      go_quiet (fail)
      go_wp2_with fail
      go_roundw
      case rel => exact ⟨k + 1, by omega, by go_num, below_drewN hb _⟩
      case measure => simp [intOf]; omega
    · obtain rfl : k = 5 := by omega
      have hd : decide (((5 : Nat) : Int) < (5 : Int)) = false := by decide
      go_wp2_with fail
      go_ret
      exact ⟨rfl, below_onto hb0 hb⟩

end Go.Proofs.YthfhpcigjnjkdaaDoor
