/- A cell that is stored, in one step. -/
import Derived.Test.YteaajkkhbflmdaaDoorZA
namespace Go.Proofs.YteaajkkhbflmdaaDoor
open Go.RowKit
set_option linter.unusedVariables false

@[go_sem] theorem wideCl : wideB Tryd.prog 39 2 = true := by kernel_rfl
section
variable (ρ : Operand → Value) (dst : Option Tmp) (x y : Operand) (t : TypeId) (pos : String) (aft : Array Edge) (g : Option (Nat × Bool)) (w : World)
theorem storeCl : (execOp ρ ⟨dst, .store 39 x y, t, pos, aft, g⟩).run Tryd.prog w = opStore Tryd.prog 39 2 (ρ x) (ρ y) w := rfl
end
@[go_sem] theorem opStoreCl_at (g : Nat) (a b : Value) (x y : Int) (w : World) : opStoreRow Tryd.prog 39 2 g 0 #[a, b] true #[.int .i8 x, .int .i8 y] w = .ok .skip (w.setRow g #[.int .i8 x, .int .i8 y]) := by
  rw [opStoreRow_at _ _ _ _ _ _ _ _ wideCl rfl (by simp [Ones, Value.oneCell']) (by simp)]
  rfl
end Go.Proofs.YteaajkkhbflmdaaDoor
