/- CountKind and CellsOf of the model. -/
import Derived.Test.YtgmahakpmjfhhaaRRAll
namespace Go.Proofs.YtgmahakpmjfhhaaRR
open Go.RowKit
attribute [local go_sem ↓] loadRow loadGrid loadLawn loadMirror storeRow storeGrid storeLawn allocRow allocGrid allocLawn buildZero buildSides

/-- What CountKind answers. -/
def countV (L : Lawn) (K : Int) : Value :=
  if told (validB L) (inB K 0 3) = 0 then .tuple #[.int .i64 (ofKind L L.wide.toNat L.high.toNat K).length, .int .i64 0] else .tuple #[.int .i64 0, .int .i64 (told (validB L) (inB K 0 3))]
theorem valid_sides {L : Lawn} (h : validB L = true) : ∃ W H : Nat, (W ≤ 10 ∧ H ≤ 10) ∧ (1 ≤ W ∧ 1 ≤ H) ∧ L.wide = W ∧ L.high = H := by
  obtain ⟨h1, h2, -⟩ := validB_true h
  exact ⟨L.wide.toNat, L.high.toNat, by omega, by omega, by omega, by omega⟩

end Go.Proofs.YtgmahakpmjfhhaaRR
