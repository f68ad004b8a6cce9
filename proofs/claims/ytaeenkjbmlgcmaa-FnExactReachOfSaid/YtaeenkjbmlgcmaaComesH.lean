/- comesHome of the program, on a lawn. -/
import Derived.Test.YtaeenkjbmlgcmaaCheck2
import Derived.Handy
namespace Go.Proofs.Ytaeenkjbmlgcmaa
open Go.RowKit
set_option linter.unusedVariables false
attribute [local go_sem ↓] loadRow loadGrid loadLawn loadMirror storeRow storeGrid storeLawn allocRow allocGrid allocLawn buildZero buildSides

noncomputable def robotZ : Value := ((Try.prog.info? 115).bind (·.zero)).getD undef
theorem assertRobot (v : Value) (w : World) : (Instr.typeAssert (.iface 29 v) 185 115 true).run Try.prog w = .ok (.tuple #[robotZ, .bool false]) w := by kernel_rfl

theorem comesHome_lawn (v : Value) (n : Int) (w : World) :
    Calls Try.prog 120 #[.iface 29 v, .int .i64 n] w fun e w' => e = .returned (.bool true) ∧ w' = w := by
  have HA := fun w => assertRobot v w
  go_enter Try.func120, Try.ntmps120
  go_wp2_with fail
  go_ret
  exact ⟨rfl, rfl⟩
end Go.Proofs.Ytaeenkjbmlgcmaa
