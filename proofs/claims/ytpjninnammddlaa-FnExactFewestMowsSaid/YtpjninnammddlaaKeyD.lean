/- Pairs of numbers as keys of maps. -/
import Derived.Test.YtpjninnammddlaaZF
namespace Go.Proofs.Ytpjninnammddlaa
open Go.RowKit
set_option linter.unusedVariables false
set_option linter.unusedSimpArgs false

def pairK (p : Int × Int) : Value := .agg #[.int .i64 p.1, .int .i64 p.2]
theorem cellsI64 : Try.prog.cellsOf 2 = 1 := by kernel_rfl
theorem pairKey : KeyOk Try.prog 57 pairK := by
  obtain ⟨iu, hiu⟩ := info_of_underlying Try.underlying2
  have pt : ∀ (p : Int × Int) (w : World), (part 2 #[.int .i64 p.1, .int .i64 p.2] 0).run Try.prog w = .ok (.int .i64 p.1) w ∧ (part 2 #[.int .i64 p.1, .int .i64 p.2] 1).run Try.prog w = .ok (.int .i64 p.2) w := fun p w =>
    ⟨run_part_one w Try.underlying2 _ _ _ rfl, run_part_one w Try.underlying2 _ _ _ rfl⟩
  refine ⟨⟨_, Try.underlying57, by simp, by simp, by simp⟩, fun e x w => ?_, fun x y w => ?_, fun x => ?_⟩
  · refine check_array Try.underlying57 hiu e 9999 _ w fun j hj => ?_
    rw [cellsI64, Nat.mul_one]
    have hj2 : j = 0 ∨ j = 1 := by omega
    rcases hj2 with rfl | rfl
    · exact ⟨_, (pt x w).1, check_int Try.underlying2 e 9998 _ w⟩
    · exact ⟨_, (pt x w).2, check_int Try.underlying2 e 9998 _ w⟩
  · show (Op.equalIn (9999 + 1) 57 (.agg _) (.agg _)).run Try.prog w = _
    rw [run_equalIn_array w 9999 _ _ Try.underlying57 hiu]
    have e0 : (Op.equalIn 9999 2 (.int .i64 x.1) (.int .i64 y.1)).run Try.prog w = _ := run_equalIn_int w 9998 2 .i64 .i64 x.1 y.1 Try.underlying2
    have e1 : (Op.equalIn 9999 2 (.int .i64 x.2) (.int .i64 y.2)).run Try.prog w = _ := run_equalIn_int w 9998 2 .i64 .i64 x.2 y.2 Try.underlying2
    have hd : decide (x = y) = ((x.1 == y.1) && (x.2 == y.2)) := by
      rw [Bool.eq_iff_iff]; simp [Prod.ext_iff]
    rw [hd]
    simp only [List.range_succ, List.range_zero, List.nil_append, List.cons_append, Op.eqItems, cellsI64, Nat.mul_one, Sem.run_bind, (pt x w).1, (pt x w).2, (pt y w).1, (pt y w).2, e0, e1, Result.andThen_ok]
    cases h0 : (x.1 == y.1)
    · simp [h0]
    · cases h1 : (x.2 == y.2) <;> simp [(pt x w).2, (pt y w).2, e1, h1]
  · simp [pairK, Instr.sameBits]
end Go.Proofs.Ytpjninnammddlaa
