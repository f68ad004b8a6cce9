/- Sides, of the program. -/
import Derived.Test.YteaajkkhbflmdaaDoorSSide
import Derived.Test.YteaajkkhbflmdaaDoorZG
namespace Go.Proofs.YteaajkkhbflmdaaDoor
open Go.RowKit
set_option linter.unusedVariables false
attribute [local go_sem ↓] loadRow loadGrid loadLawn loadMirror storeRow storeGrid storeLawn allocRow allocGrid allocLawn buildZero buildSides loadSd storeSd allocSd buildSd

/-- What lies at a cell that the lawn has, told by the program. -/
theorem kind_lies {L : Lawn} (hv : validB L = true) (c : Pt) (h : isB L c.1 c.2 = true) : ∃ n : Nat, n < 4 ∧ lies L c = n ∧
    ∀ w, Calls Tryd.prog 71 #[.agg L.cells, .agg #[.int .i8 c.1, .int .i8 c.2]] w fun e w' => e = .returned (.int .u8 n) ∧ Below w.heap.size w w' := by
  obtain ⟨i, j, hi, hj, e1, e2⟩ := cell_nat hv h
  have hk := (validB_true hv).2.2 j i hj hi
  simp only [okAt, Bool.and_eq_true] at hk
  have hk := inB_true hk.1
  refine ⟨(L.kind j i).toNat, by omega, by unfold lies; rw [if_pos h, e1, e2]; rfl, fun w => ?_⟩
  have := kind_any L i j hi hj w
  rw [e1, e2, Int.toNat_of_nonneg hk.1]
  exact this

end Go.Proofs.YteaajkkhbflmdaaDoor
