/- The law on ValidWear answers true: of any wear the program says what the model says. No condition: at every input. -/
import Derived.Test.YthpfejbigdjhlaaRows
import Derived.Test.YthpfejbigdjhlaaOpen
import Derived.Test.YthpfejbigdjhlaaHead
import Derived.Test.YthpfejbigdjhlaaWear
namespace Go.Proofs.Ythpfejbigdjhlaa
open Go.ChangeShapes Go.WideShapes Go.ChangeAt Go.RowKit
set_option linter.unusedVariables false

set_option maxRecDepth 100000 in
theorem fnExactValidWear_lifted (os : Os) (started : os.Started) (H : Type) (enc : TypeId × Value → H) :
    ReturnsInHanded {} Try.checked os 7 .any (Rows.fnExactValidWearSpec.pre6 enc Try.prog Try.f7 Rows.fnExactValidWearRow.domain false) (Rows.fnExactValidWearSpec.post enc Try.prog Try.f7 false true false false) := by
  refine returnsInHanded_of_change (C := Try.checked) own started (by kernel_rfl) Try.func7
    (ChangeSpec.witness6 (enc := enc) (C := Try.checked) false ⟨#[], #[.agg #[.int .i8 0, .int .i8 0, .int .i8 0, .int .i8 0, .int .i8 0]], []⟩ 8 (by kernel_rfl) (by kernel_rfl) (by kernel_rfl) (by kernel_rfl)) ?_
  intro W base args ds gs before hval0 hW hcnd _
  have hval : ∀ (j : Nat) t v, Try.f7.params[j]? = some t → args[j]? = some v → Value.okWide Try.prog W .any base t v := hval0
  have hW' := hW
  obtain ⟨p, q, hA0, hV, rfl, hfz, hnd⟩ := hW
  have hA : DataW.TrodAll enc Try.prog W 0 (fun _ => true) true Try.f7.params.toList args.toList ds p := hA0
  rw [Try.params7] at hA hval
  obtain ⟨v0, vs0, d0, ds0, p0, q0, hargs, rfl, rfl, h0, r0⟩ := trodAll_cons hA
  obtain ⟨rfl, rfl, rfl⟩ := trodAll_nil r0
  obtain rfl : args = #[v0] := by cases args; simp_all
  obtain ⟨rfl, rfl⟩ := trodVars_none hV
  obtain ⟨a0, rfl, w0⟩ := open_wear (hval 0 43 v0 rfl rfl) h0
  clear hA0 hval0
  refine (exactValidWear a0 w0 W).mono fun e W' ⟨he, hb⟩ => ?_
  subst he
  exact ⟨_, rfl, lawPost hW' rfl rfl rfl (by kernel_rfl) hb⟩

set_option maxRecDepth 100000 in
theorem fnExactValidWear_closed : joinedFacts Try.prog 7 Try.f7 Rows.fnExactValidWearSpec Rows.fnExactValidWearRow = true := by
  unfold joinedFacts
  rewrite [enterIs, liftsIs, makeIs]
  kernel_rfl
theorem fnExactValidWear_named : Try.prog.funcNamed Rows.fnExactValidWearRow.func = some 7 := by kernel_rfl
theorem fnExactValidWear_inst : Try.f7.isInstance Try.prog Rows.fnExactValidWearRow.origin Rows.fnExactValidWearRow.targs := of_decide_eq_true (by kernel_rfl)
theorem fnExactValidWear_wrap : Try.f7.isWrapper Try.prog Rows.fnExactValidWearRow.wrapper Rows.fnExactValidWearRow.mainSum := by unfold Func.isWrapper; first | (rw [if_pos (by decide +kernel)]; kernel_rfl) | (rw [if_neg (by decide +kernel)]; exact ⟨rfl, rfl⟩)

theorem fnExactValidWear_holds : Rows.FnExactValidWearSaid :=
  OpenClaim.holds_of_wide 7 Try.f7 rfl rfl rfl rfl rfl rfl rfl ⟨rfl, rfl, rfl, rfl, rfl⟩ rfl rfl rfl rfl rfl fnExactValidWear_named Try.func7 fnExactValidWear_closed
    fnExactValidWear_inst fnExactValidWear_wrap (fun os started H enc _ => fnExactValidWear_lifted os started H enc)
end Go.Proofs.Ythpfejbigdjhlaa
