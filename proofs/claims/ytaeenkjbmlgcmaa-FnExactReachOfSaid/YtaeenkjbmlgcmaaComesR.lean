/- comesHome of the program, on a robot. -/
import Derived.Test.YtaeenkjbmlgcmaaRobotT
import Derived.Handy
namespace Go.Proofs.Ytaeenkjbmlgcmaa
open Go.RowKit
set_option linter.unusedVariables false
attribute [local go_sem ↓] loadRow loadGrid loadLawn loadMirror storeRow storeGrid storeLawn allocRow allocGrid allocLawn buildZero buildSides storeRobot allocRobot

theorem assertRobotR (v : Value) (w : World) : (Instr.typeAssert (.iface 115 v) 185 115 true).run Try.prog w = .ok (.tuple #[v, .bool true]) w := by kernel_rfl
set_option maxRecDepth 100000 in
set_option maxHeartbeats 1000000 in
theorem comesHome_robot (L : Lawn) (full n : Int) (hn : 0 ≤ n) (hn2 : n < 100) (w : World) :
    Calls Try.prog 120 #[.iface 115 (.agg (robotA L full)), .int .i64 n] w fun e w' => e = .returned (.bool (decide (2 * n ≤ full))) ∧ Below w.heap.size w w' := by
  have HA := fun w => assertRobotR (.agg (robotA L full)) w
  obtain ⟨R, hR⟩ : ∃ R, robotA L full = R := ⟨_, rfl⟩
  have hRs : R.size = 103 := by rw [← hR]; simp
  have hRf : R[102]? = some (.int .i64 full) := by rw [← hR]; exact robotA_full _ _
  have hRo : Ones R = true := by rw [← hR]; exact robotA_ones _ _
  rw [hR] at HA ⊢
  have g0 := Holds.new w R 115
  have f1 : (w.alloc (.cells R 115)).cell? ⟨w.heap.size, 102, none⟩ = some (.int .i64 full) := (g0.cell 102).trans hRf
  have hb0 := (Below.refl w.heap.size w).alloc (Nat.le_refl _) (.cells R 115)
  have hw : wrap64 (2 * n) = 2 * n := by unfold wrap64; omega
  have hsp : splice (robotA ⟨0, 0, fun _ _ => 0⟩ 0) 0 R = R := splice_all _ _ (by simp; omega)
  clear hR hRf
  go_enter Try.func120, Try.ntmps120
  go_wp2_with fail
  go_ret
  exact ⟨rfl, hb0⟩
end Go.Proofs.Ytaeenkjbmlgcmaa
