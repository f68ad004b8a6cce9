/- The law on LooseWay answers true: of any way the program answers the way that the model answers. No condition: at every input. -/
import Derived.Test.YtgmahakpmjfhhaaRRRows
import Derived.Test.YtgmahakpmjfhhaaRROpen
import Derived.Test.YtgmahakpmjfhhaaRRHead
import Derived.Test.YtgmahakpmjfhhaaRRILoose
import Derived.ChangeMaps5
namespace Go.Proofs.YtgmahakpmjfhhaaRR
open Go.ChangeShapes Go.WideShapes Go.ChangeAt Go.RowKit
set_option linter.unusedVariables false

set_option maxRecDepth 100000 in
theorem fnExactLooseWay_lifted (os : Os) (started : os.Started) (H : Type) (enc : TypeId × Value → H) :
    ReturnsInHanded {} Try.checked os 21 .any (Rows.fnExactLooseWaySpec.pre6 enc Try.prog Try.f21 Rows.fnExactLooseWayRow.domain false) (Rows.fnExactLooseWaySpec.post enc Try.prog Try.f21 false true false false) := by
  refine returnsInHanded_of_change (C := Try.checked) own started (by kernel_rfl) Try.func21
    (ChangeSpec.witness6 (enc := enc) (C := Try.checked) false ⟨#[], #[.string ⟨#[]⟩], []⟩ 8 (by kernel_rfl) (by kernel_rfl) (by kernel_rfl) (by kernel_rfl)) ?_
  intro W base args ds gs before hval0 hW hcnd _
  have hval : ∀ (j : Nat) t v, Try.f21.params[j]? = some t → args[j]? = some v → Value.okWide Try.prog W .any base t v := hval0
  have hW' := hW
  obtain ⟨p, q, hA0, hV, rfl, hfz, hnd⟩ := hW
  have hA : DataW.TrodAll enc Try.prog W 0 (fun _ => true) true Try.f21.params.toList args.toList ds p := hA0
  rw [Try.params21] at hA hval
  obtain ⟨v0, vs0, d0, ds0, p0, q0, hargs, rfl, rfl, h0, r0⟩ := trodAll_cons hA
  obtain ⟨rfl, rfl, rfl⟩ := trodAll_nil r0
  obtain rfl : args = #[v0] := by cases args; simp_all
  obtain ⟨rfl, rfl⟩ := trodVars_none hV
  obtain ⟨a0, rfl, -, -, w0⟩ := Go.ChangeMaps.open_string Try.underlying9 (hval 0 9 v0 rfl rfl) h0
  clear hA0 hval0
  refine (exactLoose a0 w0 W).mono fun e W' ⟨he, hb⟩ => ?_
  subst he
  exact ⟨_, rfl, lawPost hW' rfl rfl rfl (by kernel_rfl) hb⟩

set_option maxRecDepth 100000 in
theorem fnExactLooseWay_closed : joinedFacts Try.prog 21 Try.f21 Rows.fnExactLooseWaySpec Rows.fnExactLooseWayRow = true := by
  unfold joinedFacts
  rewrite [enterIs, liftsIs, makeIs]
  kernel_rfl
theorem fnExactLooseWay_named : Try.prog.funcNamed Rows.fnExactLooseWayRow.func = some 21 := by kernel_rfl
theorem fnExactLooseWay_inst : Try.f21.isInstance Try.prog Rows.fnExactLooseWayRow.origin Rows.fnExactLooseWayRow.targs := of_decide_eq_true (by kernel_rfl)
theorem fnExactLooseWay_wrap : Try.f21.isWrapper Try.prog Rows.fnExactLooseWayRow.wrapper Rows.fnExactLooseWayRow.mainSum := by unfold Func.isWrapper; first | (rw [if_pos (by decide +kernel)]; kernel_rfl) | (rw [if_neg (by decide +kernel)]; exact ⟨rfl, rfl⟩)

theorem fnExactLooseWay_holds : Rows.FnExactLooseWaySaid :=
  OpenClaim.holds_of_wide 21 Try.f21 rfl rfl rfl rfl rfl rfl rfl ⟨rfl, rfl, rfl, rfl, rfl⟩ rfl rfl rfl rfl rfl fnExactLooseWay_named Try.func21 fnExactLooseWay_closed
    fnExactLooseWay_inst fnExactLooseWay_wrap (fun os started H enc _ => fnExactLooseWay_lifted os started H enc)
end Go.Proofs.YtgmahakpmjfhhaaRR
