/- The law on DriestSpell answers true: of any list of weather the program says what the model says. No condition: at every input. -/
import Derived.Test.YtbcbokpdcliimaaRows
import Derived.Test.YtbcbokpdcliimaaOpen
import Derived.Test.YtbcbokpdcliimaaHead
import Derived.Test.YtbcbokpdcliimaaLDriestSpell
import Derived.Test.YtbcbokpdcliimaaOpenL
namespace Go.Proofs.Ytbcbokpdcliimaa
open Go.ChangeShapes Go.WideShapes Go.ChangeAt Go.RowKit
set_option linter.unusedVariables false

set_option maxRecDepth 100000 in
theorem fnExactDriestSpell_lifted (os : Os) (started : os.Started) (H : Type) (enc : TypeId × Value → H) :
    ReturnsInHanded {} Try.checked os 10 .any (Rows.fnExactDriestSpellSpec.pre6 enc Try.prog Try.f10 Rows.fnExactDriestSpellRow.domain false) (Rows.fnExactDriestSpellSpec.post enc Try.prog Try.f10 false true false false) := by
  refine returnsInHanded_of_change (C := Try.checked) own started (by kernel_rfl) Try.func10
    (ChangeSpec.witness6 (enc := enc) (C := Try.checked) false ⟨#[], #[.slice none 0 0], []⟩ 8 (by kernel_rfl) (by kernel_rfl) (by kernel_rfl) (by kernel_rfl)) ?_
  intro W base args ds gs before hval0 hW hcnd _
  have hval : ∀ (j : Nat) t v, Try.f10.params[j]? = some t → args[j]? = some v → Value.okWide Try.prog W .any base t v := hval0
  have hW' := hW
  obtain ⟨p, q, hA0, hV, rfl, hfz, hnd⟩ := hW
  have hA : DataW.TrodAll enc Try.prog W 0 (fun _ => true) true Try.f10.params.toList args.toList ds p := hA0
  rw [Try.params10] at hA hval
  obtain ⟨v0, vs0, d0, ds0, p0, q0, hargs, rfl, rfl, h0, r0⟩ := trodAll_cons hA
  obtain ⟨rfl, rfl, rfl⟩ := trodAll_nil r0
  obtain rfl : args = #[v0] := by cases args; simp_all
  obtain ⟨rfl, rfl⟩ := trodVars_none hV
  obtain ⟨n0, z0, k0, m0, w0⟩ := open_weathers (hval 0 22 v0 rfl rfl) h0
  clear hA0 hval0
  refine (exactDriestSpell n0 v0 z0 m0 w0 W k0).mono fun e W' ⟨he, hb⟩ => ?_
  subst he
  exact ⟨_, rfl, lawPost hW' rfl rfl rfl (by kernel_rfl) hb⟩

set_option maxRecDepth 100000 in
theorem fnExactDriestSpell_closed : joinedFacts Try.prog 10 Try.f10 Rows.fnExactDriestSpellSpec Rows.fnExactDriestSpellRow = true := by
  unfold joinedFacts
  rewrite [enterIs, liftsIs, makeIs]
  kernel_rfl
theorem fnExactDriestSpell_named : Try.prog.funcNamed Rows.fnExactDriestSpellRow.func = some 10 := by kernel_rfl
theorem fnExactDriestSpell_inst : Try.f10.isInstance Try.prog Rows.fnExactDriestSpellRow.origin Rows.fnExactDriestSpellRow.targs := of_decide_eq_true (by kernel_rfl)
theorem fnExactDriestSpell_wrap : Try.f10.isWrapper Try.prog Rows.fnExactDriestSpellRow.wrapper Rows.fnExactDriestSpellRow.mainSum := by unfold Func.isWrapper; first | (rw [if_pos (by decide +kernel)]; kernel_rfl) | (rw [if_neg (by decide +kernel)]; exact ⟨rfl, rfl⟩)

theorem fnExactDriestSpell_holds : Rows.FnExactDriestSpellSaid :=
  OpenClaim.holds_of_wide 10 Try.f10 rfl rfl rfl rfl rfl rfl rfl ⟨rfl, rfl, rfl, rfl, rfl⟩ rfl rfl rfl rfl rfl fnExactDriestSpell_named Try.func10 fnExactDriestSpell_closed
    fnExactDriestSpell_inst fnExactDriestSpell_wrap (fun os started H enc _ => fnExactDriestSpell_lifted os started H enc)
end Go.Proofs.Ytbcbokpdcliimaa
