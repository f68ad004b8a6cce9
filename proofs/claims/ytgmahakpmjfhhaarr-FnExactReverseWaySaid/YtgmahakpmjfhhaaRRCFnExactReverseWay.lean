/- The law on ReverseWay answers true: of any way the program answers the way back that the model answers. No condition: at every input. -/
import Derived.Test.YtgmahakpmjfhhaaRRRows
import Derived.Test.YtgmahakpmjfhhaaRROpen
import Derived.Test.YtgmahakpmjfhhaaRRHead
import Derived.Test.YtgmahakpmjfhhaaRRIBack
import Derived.ChangeMaps5
namespace Go.Proofs.YtgmahakpmjfhhaaRR
open Go.ChangeShapes Go.WideShapes Go.ChangeAt Go.RowKit
set_option linter.unusedVariables false

set_option maxRecDepth 100000 in
theorem fnExactReverseWay_lifted (os : Os) (started : os.Started) (H : Type) (enc : TypeId × Value → H) :
    ReturnsInHanded {} Try.checked os 20 .any (Rows.fnExactReverseWaySpec.pre6 enc Try.prog Try.f20 Rows.fnExactReverseWayRow.domain false) (Rows.fnExactReverseWaySpec.post enc Try.prog Try.f20 false true false false) := by
  refine returnsInHanded_of_change (C := Try.checked) own started (by kernel_rfl) Try.func20
    (ChangeSpec.witness6 (enc := enc) (C := Try.checked) false ⟨#[], #[.string ⟨#[]⟩], []⟩ 8 (by kernel_rfl) (by kernel_rfl) (by kernel_rfl) (by kernel_rfl)) ?_
  intro W base args ds gs before hval0 hW hcnd _
  have hval : ∀ (j : Nat) t v, Try.f20.params[j]? = some t → args[j]? = some v → Value.okWide Try.prog W .any base t v := hval0
  have hW' := hW
  obtain ⟨p, q, hA0, hV, rfl, hfz, hnd⟩ := hW
  have hA : DataW.TrodAll enc Try.prog W 0 (fun _ => true) true Try.f20.params.toList args.toList ds p := hA0
  rw [Try.params20] at hA hval
  obtain ⟨v0, vs0, d0, ds0, p0, q0, hargs, rfl, rfl, h0, r0⟩ := trodAll_cons hA
  obtain ⟨rfl, rfl, rfl⟩ := trodAll_nil r0
  obtain rfl : args = #[v0] := by cases args; simp_all
  obtain ⟨rfl, rfl⟩ := trodVars_none hV
  obtain ⟨a0, rfl, -, -, w0⟩ := Go.ChangeMaps.open_string Try.underlying9 (hval 0 9 v0 rfl rfl) h0
  clear hA0 hval0
  refine (exactReverse a0 w0 W).mono fun e W' ⟨he, hb⟩ => ?_
  subst he
  exact ⟨_, rfl, lawPost hW' rfl rfl rfl (by kernel_rfl) hb⟩

set_option maxRecDepth 100000 in
theorem fnExactReverseWay_closed : joinedFacts Try.prog 20 Try.f20 Rows.fnExactReverseWaySpec Rows.fnExactReverseWayRow = true := by
  unfold joinedFacts
  rewrite [enterIs, liftsIs, makeIs]
  kernel_rfl
theorem fnExactReverseWay_named : Try.prog.funcNamed Rows.fnExactReverseWayRow.func = some 20 := by kernel_rfl
theorem fnExactReverseWay_inst : Try.f20.isInstance Try.prog Rows.fnExactReverseWayRow.origin Rows.fnExactReverseWayRow.targs := of_decide_eq_true (by kernel_rfl)
theorem fnExactReverseWay_wrap : Try.f20.isWrapper Try.prog Rows.fnExactReverseWayRow.wrapper Rows.fnExactReverseWayRow.mainSum := by unfold Func.isWrapper; first | (rw [if_pos (by decide +kernel)]; kernel_rfl) | (rw [if_neg (by decide +kernel)]; exact ⟨rfl, rfl⟩)

theorem fnExactReverseWay_holds : Rows.FnExactReverseWaySaid :=
  OpenClaim.holds_of_wide 20 Try.f20 rfl rfl rfl rfl rfl rfl rfl ⟨rfl, rfl, rfl, rfl, rfl⟩ rfl rfl rfl rfl rfl fnExactReverseWay_named Try.func20 fnExactReverseWay_closed
    fnExactReverseWay_inst fnExactReverseWay_wrap (fun os started H enc _ => fnExactReverseWay_lifted os started H enc)
end Go.Proofs.YtgmahakpmjfhhaaRR
