/- A robot: a lawn and a full charge. -/
import Derived.Test.YtaeenkjbmlgcmaaAskT
namespace Go.Proofs.Ytaeenkjbmlgcmaa
open Go.RowKit
set_option linter.unusedVariables false
attribute [local go_sem ↓] loadRow loadGrid loadLawn loadMirror storeRow storeGrid storeLawn allocRow allocGrid allocLawn buildZero buildSides

def robotA (L : Lawn) (full : Int) : Array Value := L.cells ++ #[.int .i64 full]
@[simp, go_sem] theorem robotA_size (L : Lawn) (full : Int) : (robotA L full).size = 103 := by simp [robotA]
@[simp, go_sem] theorem robotA_lawn (L : Lawn) (full : Int) : (robotA L full).extract 0 102 = L.cells := by
  unfold robotA
  rw [Array.extract_append]
  simp
theorem robotA_full (L : Lawn) (full : Int) : (robotA L full)[102]? = some (.int .i64 full) := by
  unfold robotA
  rw [Array.getElem?_append_right (by simp)]
  simp
@[go_sem] theorem robotA_ones (L : Lawn) (full : Int) : Ones (robotA L full) = true := by
  refine of_ones fun v hv => ?_
  unfold robotA at hv
  rw [Array.toList_append, List.mem_append] at hv
  rcases hv with hv | hv
  · exact ones_of (Lawn.cells_ones L) _ hv
  · simp at hv; subst hv; rfl
@[go_sem] theorem wideRobot : wideB Try.prog 115 103 = true := by kernel_rfl
section
variable {ρ : Operand → Value} {w : World} {dst : Option Tmp} {x y z : Operand} {t : TypeId} {pos : String} {aft : Array Edge} {g : Option (Nat × Bool)}
set_option maxRecDepth 100000 in
theorem storeRobot : (execOp ρ ⟨dst, .store 115 x y, t, pos, aft, g⟩).run Try.prog w = opStore Try.prog 115 103 (ρ x) (ρ y) w := rfl
set_option maxRecDepth 100000 in
theorem allocRobot : (execOp ρ ⟨dst, .alloc 115, t, pos, aft, g⟩).run Try.prog w = .ok (.value (.pointer (some ⟨w.heap.size, 0, none⟩))) (w.alloc (.cells (robotA ⟨0, 0, fun _ _ => 0⟩ 0) 115)) := by kernel_rfl
set_option maxRecDepth 100000 in
theorem buildRobot : (execOp ρ ⟨dst, .build 115 #[(0, x), (1, y)], t, pos, aft, g⟩).run Try.prog w = opBuild Try.prog 115 #[(0, ρ x), (1, ρ y)] w := by kernel_rfl
end
set_option maxRecDepth 100000 in
theorem buildRobot_at (L : Lawn) (full : Int) (w : World) : opBuild Try.prog 115 #[(0, .agg L.cells), (1, .int .i64 full)] w = .ok (.value (.agg (robotA L full))) w := opBuild_of (by kernel_rfl) w
end Go.Proofs.Ytaeenkjbmlgcmaa
