/- The law on TurnsOf answers true: of any way the program counts the turns that the model counts. No condition: at every input. -/
import Derived.Test.YtgmahakpmjfhhaaRRRows
import Derived.Test.YtgmahakpmjfhhaaRROpen
import Derived.Test.YtgmahakpmjfhhaaRRHead
import Derived.Test.YtgmahakpmjfhhaaRRTurns
import Derived.ChangeMaps5
namespace Go.Proofs.YtgmahakpmjfhhaaRR
open Go.ChangeShapes Go.WideShapes Go.ChangeAt Go.RowKit
set_option linter.unusedVariables false

set_option maxRecDepth 100000 in
theorem fnExactTurnsOf_lifted (os : Os) (started : os.Started) (H : Type) (enc : TypeId × Value → H) :
    ReturnsInHanded {} Try.checked os 15 .any (Rows.fnExactTurnsOfSpec.pre6 enc Try.prog Try.f15 Rows.fnExactTurnsOfRow.domain false) (Rows.fnExactTurnsOfSpec.post enc Try.prog Try.f15 false true false false) := by
  refine returnsInHanded_of_change (C := Try.checked) own started (by kernel_rfl) Try.func15
    (ChangeSpec.witness6 (enc := enc) (C := Try.checked) false ⟨#[], #[.string ⟨#[]⟩], []⟩ 8 (by kernel_rfl) (by kernel_rfl) (by kernel_rfl) (by kernel_rfl)) ?_
  intro W base args ds gs before hval0 hW hcnd _
  have hval : ∀ (j : Nat) t v, Try.f15.params[j]? = some t → args[j]? = some v → Value.okWide Try.prog W .any base t v := hval0
  have hW' := hW
  obtain ⟨p, q, hA0, hV, rfl, hfz, hnd⟩ := hW
  have hA : DataW.TrodAll enc Try.prog W 0 (fun _ => true) true Try.f15.params.toList args.toList ds p := hA0
  rw [Try.params15] at hA hval
  obtain ⟨v0, vs0, d0, ds0, p0, q0, hargs, rfl, rfl, h0, r0⟩ := trodAll_cons hA
  obtain ⟨rfl, rfl, rfl⟩ := trodAll_nil r0
  obtain rfl : args = #[v0] := by cases args; simp_all
  obtain ⟨rfl, rfl⟩ := trodVars_none hV
  obtain ⟨a0, rfl, -, -, w0⟩ := Go.ChangeMaps.open_string Try.underlying9 (hval 0 9 v0 rfl rfl) h0
  clear hA0 hval0
  refine (exactTurns a0 w0 W).mono fun e W' ⟨he, hb⟩ => ?_
  subst he
  exact ⟨_, rfl, lawPost hW' rfl rfl rfl (by kernel_rfl) hb⟩

set_option maxRecDepth 100000 in
theorem fnExactTurnsOf_closed : joinedFacts Try.prog 15 Try.f15 Rows.fnExactTurnsOfSpec Rows.fnExactTurnsOfRow = true := by
  unfold joinedFacts
  rewrite [enterIs, liftsIs, makeIs]
  kernel_rfl
theorem fnExactTurnsOf_named : Try.prog.funcNamed Rows.fnExactTurnsOfRow.func = some 15 := by kernel_rfl
theorem fnExactTurnsOf_inst : Try.f15.isInstance Try.prog Rows.fnExactTurnsOfRow.origin Rows.fnExactTurnsOfRow.targs := of_decide_eq_true (by kernel_rfl)
theorem fnExactTurnsOf_wrap : Try.f15.isWrapper Try.prog Rows.fnExactTurnsOfRow.wrapper Rows.fnExactTurnsOfRow.mainSum := by unfold Func.isWrapper; first | (rw [if_pos (by decide +kernel)]; kernel_rfl) | (rw [if_neg (by decide +kernel)]; exact ⟨rfl, rfl⟩)

theorem fnExactTurnsOf_holds : Rows.FnExactTurnsOfSaid :=
  OpenClaim.holds_of_wide 15 Try.f15 rfl rfl rfl rfl rfl rfl rfl ⟨rfl, rfl, rfl, rfl, rfl⟩ rfl rfl rfl rfl rfl fnExactTurnsOf_named Try.func15 fnExactTurnsOf_closed
    fnExactTurnsOf_inst fnExactTurnsOf_wrap (fun os started H enc _ => fnExactTurnsOf_lifted os started H enc)
end Go.Proofs.YtgmahakpmjfhhaaRR
