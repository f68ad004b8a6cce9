/- What functions of robots are told: a struct with a lawn in it; checkCells over any cells. -/
import Derived.Test.YtaeenkjbmlgcmaaConcat
import Derived.Test.YtaeenkjbmlgcmaaSTold
namespace Go.Proofs.Ytaeenkjbmlgcmaa
open Go.RowKit
set_option linter.unusedVariables false
set_option linter.unusedSimpArgs false
attribute [local go_sem ↓] loadRow loadGrid loadLawn loadMirror storeRow storeGrid storeLawn allocRow allocGrid allocLawn buildZero buildSides

def askA (L : Lawn) (v1 v2 v3 : Value) (full : Int) : Array Value := L.cells ++ #[v1, v2, v3, .int .i64 full]
@[simp, go_sem] theorem askA_size (L : Lawn) (v1 v2 v3 : Value) (full : Int) : (askA L v1 v2 v3 full).size = 106 := by simp [askA]
@[simp, go_sem] theorem askA_lawn (L : Lawn) (v1 v2 v3 : Value) (full : Int) : (askA L v1 v2 v3 full).extract 0 102 = L.cells := by
  unfold askA
  rw [Array.extract_append]
  simp
theorem askA_at (L : Lawn) (v1 v2 v3 : Value) (full : Int) : (askA L v1 v2 v3 full)[102]? = some v1 ∧ (askA L v1 v2 v3 full)[103]? = some v2 ∧ (askA L v1 v2 v3 full)[104]? = some v3 ∧ (askA L v1 v2 v3 full)[105]? = some (.int .i64 full) := by
  unfold askA
  refine ⟨?_, ?_, ?_, ?_⟩ <;> rw [Array.getElem?_append_right (by simp)] <;> simp
section
variable {ρ : Operand → Value} {w : World} {dst : Option Tmp} {x y z : Operand} {t : TypeId} {pos : String} {aft : Array Edge} {g : Option (Nat × Bool)}
set_option maxRecDepth 100000 in
theorem buildAsk3 : (execOp ρ ⟨dst, .build 109 #[(0, x), (1, y), (4, z)], t, pos, aft, g⟩).run Try.prog w = opBuild Try.prog 109 #[(0, ρ x), (1, ρ y), (4, ρ z)] w := by kernel_rfl
end
set_option maxRecDepth 100000 in
theorem buildAsk3_at (L : Lawn) (a : Option Addr) (n c : Nat) (full : Int) (w : World) : opBuild Try.prog 109 #[(0, .agg L.cells), (1, .slice a n c), (4, .int .i64 full)] w = .ok (.value (.agg (askA L (.slice a n c) (.slice none 0 0) (.slice none 0 0) full))) w := opBuild_of (by kernel_rfl) w
end Go.Proofs.Ytaeenkjbmlgcmaa
