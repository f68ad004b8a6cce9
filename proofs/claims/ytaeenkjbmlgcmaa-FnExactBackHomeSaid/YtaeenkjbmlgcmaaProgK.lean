/- How far a mower has come as a key of maps. -/
import Derived.Test.YtaeenkjbmlgcmaaWayK
import Derived.Test.YtaeenkjbmlgcmaaMower
namespace Go.Proofs.Ytaeenkjbmlgcmaa
open Go.RowKit
set_option linter.unusedVariables false
set_option linter.unusedSimpArgs false

theorem heldProg : Try.prog.stoodInHeld 101 = false := by kernel_rfl
theorem wideCellP : wideB Try.prog 37 2 = true := by kernel_rfl
/-- A mower that has mown nothing, at a cell. -/
def progK (c : Pt) : Value := .agg #[.int .i8 c.1, .int .i8 c.2, .int .u16 0]
theorem progKey : KeyOk Try.prog 101 progK := by
  have pc : ∀ (c : Pt) (w : World), (part 37 #[.int .i8 c.1, .int .i8 c.2, .int .u16 0] 0).run Try.prog w = .ok (cellV c.1 c.2) w := fun c w => by
    rw [run_part_wide w wideCellP]; rfl
  refine ⟨⟨_, Try.underlying101, by simp, by simp, by simp⟩, fun e x w => ?_, fun x y w => ?_, fun x => ?_⟩
  · refine check_struct Try.underlying101 e 9999 _ w fun f hf => ?_
    simp only [List.mem_cons, List.not_mem_nil, or_false] at hf
    rcases hf with rfl | rfl
    · refine ⟨by decide, cellV x.1 x.2, pc x w, ?_⟩
      refine check_struct Try.underlying37 e 9998 _ w fun f hf => ?_
      simp only [List.mem_cons, List.not_mem_nil, or_false] at hf
      rcases hf with rfl | rfl
      · exact ⟨by decide, .int .i8 x.1, run_part_one w Try.underlying22 _ _ _ rfl, check_int Try.underlying22 e 9997 _ w⟩
      · exact ⟨by decide, .int .i8 x.2, run_part_one w Try.underlying22 _ _ _ rfl, check_int Try.underlying22 e 9997 _ w⟩
    · exact ⟨by decide, .int .u16 0, run_part_one w Try.underlying99 _ _ _ rfl, check_int Try.underlying99 e 9998 _ w⟩
  · have e0 : (Op.equalIn 9999 37 (cellV x.1 x.2) (cellV y.1 y.2)).run Try.prog w = .ok (decide (x = y)) w :=
      equal_cell_of (P := Try.prog) Try.underlying37 rfl heldCell (by decide) (by decide) Try.underlying22 Try.underlying22 rfl rfl 9997 x y w
    have e1 : (Op.equalIn 9999 99 (.int .u16 0) (.int .u16 0)).run Try.prog w = _ := run_equalIn_int w 9998 99 .u16 .u16 0 0 Try.underlying99
    have pm : ∀ (c : Pt) (w : World), (part 99 #[.int .i8 c.1, .int .i8 c.2, .int .u16 0] 2).run Try.prog w = .ok (.int .u16 0) w := fun c w => run_part_one w Try.underlying99 _ _ _ rfl
    show (Op.equalIn (9999 + 1) 101 (progK x) (progK y)).run Try.prog w = _
    unfold progK
    rw [run_equalIn_struct w 9999 101 _ _ (by rw [show Try.prog.fieldsOf 101 = _ from by simp [Program.fieldsOf, Try.underlying101]; rfl]; exact Try.underlying101) heldProg]
    simp only [Program.fieldsOf, Try.underlying101]
    cases h0 : decide (x = y)
    · rw [h0] at e0
      simp [Op.eqFields, pc, pm, e0, e1]
    · rw [h0] at e0
      simp [Op.eqFields, pc, pm, e0, e1]
  · simp [progK, Instr.sameBits]
theorem strZero (w : World) : (zeroValue 96).run Try.prog w = .ok (.string ByteArray.empty) w := by kernel_rfl
end Go.Proofs.Ytaeenkjbmlgcmaa
