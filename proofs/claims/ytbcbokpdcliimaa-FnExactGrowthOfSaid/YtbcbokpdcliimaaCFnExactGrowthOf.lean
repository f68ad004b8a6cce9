/- The law on GrowthOf answers true: of any day the program says what the model says. No condition: at every input. -/
import Derived.Test.YtbcbokpdcliimaaRows
import Derived.Test.YtbcbokpdcliimaaOpen
import Derived.Test.YtbcbokpdcliimaaHead
import Derived.Test.YtbcbokpdcliimaaLGrowthOf
namespace Go.Proofs.Ytbcbokpdcliimaa
open Go.ChangeShapes Go.WideShapes Go.ChangeAt Go.RowKit
set_option linter.unusedVariables false

set_option maxRecDepth 100000 in
theorem fnExactGrowthOf_lifted (os : Os) (started : os.Started) (H : Type) (enc : TypeId × Value → H) :
    ReturnsInHanded {} Try.checked os 5 .any (Rows.fnExactGrowthOfSpec.pre6 enc Try.prog Try.f5 Rows.fnExactGrowthOfRow.domain false) (Rows.fnExactGrowthOfSpec.post enc Try.prog Try.f5 false true false false) := by
  refine returnsInHanded_of_change (C := Try.checked) own started (by kernel_rfl) Try.func5
    (ChangeSpec.witness6 (enc := enc) (C := Try.checked) false ⟨#[], #[.agg #[.int .i8 0, .int .i8 0]], []⟩ 8 (by kernel_rfl) (by kernel_rfl) (by kernel_rfl) (by kernel_rfl)) ?_
  intro W base args ds gs before hval0 hW hcnd _
  have hval : ∀ (j : Nat) t v, Try.f5.params[j]? = some t → args[j]? = some v → Value.okWide Try.prog W .any base t v := hval0
  have hW' := hW
  obtain ⟨p, q, hA0, hV, rfl, hfz, hnd⟩ := hW
  have hA : DataW.TrodAll enc Try.prog W 0 (fun _ => true) true Try.f5.params.toList args.toList ds p := hA0
  rw [Try.params5] at hA hval
  obtain ⟨v0, vs0, d0, ds0, p0, q0, hargs, rfl, rfl, h0, r0⟩ := trodAll_cons hA
  obtain ⟨rfl, rfl, rfl⟩ := trodAll_nil r0
  obtain rfl : args = #[v0] := by cases args; simp_all
  obtain ⟨rfl, rfl⟩ := trodVars_none hV
  obtain ⟨a0, rfl, w0⟩ := open_weather (hval 0 37 v0 rfl rfl) h0
  clear hA0 hval0
  refine (exactGrowthOf a0.1 a0.2 w0.1 w0.2 W).mono fun e W' ⟨he, hb⟩ => ?_
  subst he
  exact ⟨_, rfl, lawPost hW' rfl rfl rfl (by kernel_rfl) hb⟩

set_option maxRecDepth 100000 in
theorem fnExactGrowthOf_closed : joinedFacts Try.prog 5 Try.f5 Rows.fnExactGrowthOfSpec Rows.fnExactGrowthOfRow = true := by
  unfold joinedFacts
  rewrite [enterIs, liftsIs, makeIs]
  kernel_rfl
theorem fnExactGrowthOf_named : Try.prog.funcNamed Rows.fnExactGrowthOfRow.func = some 5 := by kernel_rfl
theorem fnExactGrowthOf_inst : Try.f5.isInstance Try.prog Rows.fnExactGrowthOfRow.origin Rows.fnExactGrowthOfRow.targs := of_decide_eq_true (by kernel_rfl)
theorem fnExactGrowthOf_wrap : Try.f5.isWrapper Try.prog Rows.fnExactGrowthOfRow.wrapper Rows.fnExactGrowthOfRow.mainSum := by unfold Func.isWrapper; first | (rw [if_pos (by decide +kernel)]; kernel_rfl) | (rw [if_neg (by decide +kernel)]; exact ⟨rfl, rfl⟩)

theorem fnExactGrowthOf_holds : Rows.FnExactGrowthOfSaid :=
  OpenClaim.holds_of_wide 5 Try.f5 rfl rfl rfl rfl rfl rfl rfl ⟨rfl, rfl, rfl, rfl, rfl⟩ rfl rfl rfl rfl rfl fnExactGrowthOf_named Try.func5 fnExactGrowthOf_closed
    fnExactGrowthOf_inst fnExactGrowthOf_wrap (fun os started H enc _ => fnExactGrowthOf_lifted os started H enc)
end Go.Proofs.Ytbcbokpdcliimaa
