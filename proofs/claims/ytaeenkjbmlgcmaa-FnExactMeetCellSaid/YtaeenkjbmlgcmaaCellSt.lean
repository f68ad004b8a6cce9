/- A cell that is stored, in one step. -/
import Derived.Test.YtaeenkjbmlgcmaaZA
namespace Go.Proofs.Ytaeenkjbmlgcmaa
open Go.RowKit
set_option linter.unusedVariables false

@[go_sem] theorem wideCl : wideB Try.prog 37 2 = true := by kernel_rfl
section
variable (ρ : Operand → Value) (dst : Option Tmp) (x y : Operand) (t : TypeId) (pos : String) (aft : Array Edge) (g : Option (Nat × Bool)) (w : World)
theorem storeCl : (execOp ρ ⟨dst, .store 37 x y, t, pos, aft, g⟩).run Try.prog w = opStore Try.prog 37 2 (ρ x) (ρ y) w := rfl
end
@[go_sem] theorem opStoreCl_at (g : Nat) (a b : Value) (x y : Int) (w : World) : opStoreRow Try.prog 37 2 g 0 #[a, b] true #[.int .i8 x, .int .i8 y] w = .ok .skip (w.setRow g #[.int .i8 x, .int .i8 y]) := by
  rw [opStoreRow_at _ _ _ _ _ _ _ _ wideCl rfl (by simp [Ones, Value.oneCell']) (by simp)]
  rfl
end Go.Proofs.Ytaeenkjbmlgcmaa
