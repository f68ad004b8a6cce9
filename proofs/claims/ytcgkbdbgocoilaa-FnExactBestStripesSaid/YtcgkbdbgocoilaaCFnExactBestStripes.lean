/- The law on BestStripes answers true: of any lawn the program answers what the model answers. No condition: at every input. -/
import Derived.Test.YtcgkbdbgocoilaaRows
import Derived.Test.YtcgkbdbgocoilaaOpen
import Derived.Test.YtcgkbdbgocoilaaHead
import Derived.Test.YtcgkbdbgocoilaaLBestStripes
namespace Go.Proofs.Ytcgkbdbgocoilaa
open Go.ChangeShapes Go.WideShapes Go.ChangeAt Go.RowKit
set_option linter.unusedVariables false

set_option maxRecDepth 100000 in
theorem fnExactBestStripes_lifted (os : Os) (started : os.Started) (H : Type) (enc : TypeId × Value → H) :
    ReturnsInHanded {} Try.checked os 9 .any (Rows.fnExactBestStripesSpec.pre6 enc Try.prog Try.f9 Rows.fnExactBestStripesRow.domain false) (Rows.fnExactBestStripesSpec.post enc Try.prog Try.f9 false true false false) := by
  refine returnsInHanded_of_change (C := Try.checked) own started (by kernel_rfl) Try.func9
    (ChangeSpec.witness6 (enc := enc) (C := Try.checked) false ⟨#[], #[.agg #[.int .i8 0, .int .i8 0, .int .u8 0, .int .u8 0, .int .u8 0, .int .u8 0, .int .u8 0, .int .u8 0, .int .u8 0, .int .u8 0, .int .u8 0, .int .u8 0, .int .u8 0, .int .u8 0, .int .u8 0, .int .u8 0, .int .u8 0, .int .u8 0, .int .u8 0, .int .u8 0, .int .u8 0, .int .u8 0, .int .u8 0, .int .u8 0, .int .u8 0, .int .u8 0, .int .u8 0, .int .u8 0, .int .u8 0, .int .u8 0, .int .u8 0, .int .u8 0, .int .u8 0, .int .u8 0, .int .u8 0, .int .u8 0, .int .u8 0, .int .u8 0, .int .u8 0, .int .u8 0, .int .u8 0, .int .u8 0, .int .u8 0, .int .u8 0, .int .u8 0, .int .u8 0, .int .u8 0, .int .u8 0, .int .u8 0, .int .u8 0, .int .u8 0, .int .u8 0, .int .u8 0, .int .u8 0, .int .u8 0, .int .u8 0, .int .u8 0, .int .u8 0, .int .u8 0, .int .u8 0, .int .u8 0, .int .u8 0, .int .u8 0, .int .u8 0, .int .u8 0, .int .u8 0, .int .u8 0, .int .u8 0, .int .u8 0, .int .u8 0, .int .u8 0, .int .u8 0, .int .u8 0, .int .u8 0, .int .u8 0, .int .u8 0, .int .u8 0, .int .u8 0, .int .u8 0, .int .u8 0, .int .u8 0, .int .u8 0, .int .u8 0, .int .u8 0, .int .u8 0, .int .u8 0, .int .u8 0, .int .u8 0, .int .u8 0, .int .u8 0, .int .u8 0, .int .u8 0, .int .u8 0, .int .u8 0, .int .u8 0, .int .u8 0, .int .u8 0, .int .u8 0, .int .u8 0, .int .u8 0, .int .u8 0, .int .u8 0]], []⟩ 8 (by kernel_rfl) (by kernel_rfl) (by kernel_rfl) (by kernel_rfl)) ?_
  intro W base args ds gs before hval0 hW hcnd _
  have hval : ∀ (j : Nat) t v, Try.f9.params[j]? = some t → args[j]? = some v → Value.okWide Try.prog W .any base t v := hval0
  have hW' := hW
  obtain ⟨p, q, hA0, hV, rfl, hfz, hnd⟩ := hW
  have hA : DataW.TrodAll enc Try.prog W 0 (fun _ => true) true Try.f9.params.toList args.toList ds p := hA0
  rw [Try.params9] at hA hval
  obtain ⟨v0, vs0, d0, ds0, p0, q0, hargs, rfl, rfl, h0, r0⟩ := trodAll_cons hA
  obtain ⟨rfl, rfl, rfl⟩ := trodAll_nil r0
  obtain rfl : args = #[v0] := by cases args; simp_all
  obtain ⟨rfl, rfl⟩ := trodVars_none hV
  obtain ⟨a0, rfl, w0⟩ := open_lawn (hval 0 26 v0 rfl rfl) h0
  clear hA0 hval0
  refine (exactBestStripes a0 w0 W).mono fun e W' ⟨he, hb⟩ => ?_
  subst he
  exact ⟨_, rfl, lawPost hW' rfl rfl rfl (by kernel_rfl) hb⟩

set_option maxRecDepth 100000 in
theorem fnExactBestStripes_closed : joinedFacts Try.prog 9 Try.f9 Rows.fnExactBestStripesSpec Rows.fnExactBestStripesRow = true := by
  unfold joinedFacts
  rewrite [enterIs, liftsIs, makeIs]
  kernel_rfl
theorem fnExactBestStripes_named : Try.prog.funcNamed Rows.fnExactBestStripesRow.func = some 9 := by kernel_rfl
theorem fnExactBestStripes_inst : Try.f9.isInstance Try.prog Rows.fnExactBestStripesRow.origin Rows.fnExactBestStripesRow.targs := of_decide_eq_true (by kernel_rfl)
theorem fnExactBestStripes_wrap : Try.f9.isWrapper Try.prog Rows.fnExactBestStripesRow.wrapper Rows.fnExactBestStripesRow.mainSum := by unfold Func.isWrapper; first | (rw [if_pos (by decide +kernel)]; kernel_rfl) | (rw [if_neg (by decide +kernel)]; exact ⟨rfl, rfl⟩)

theorem fnExactBestStripes_holds : Rows.FnExactBestStripesSaid :=
  OpenClaim.holds_of_wide 9 Try.f9 rfl rfl rfl rfl rfl rfl rfl ⟨rfl, rfl, rfl, rfl, rfl⟩ rfl rfl rfl rfl rfl fnExactBestStripes_named Try.func9 fnExactBestStripes_closed
    fnExactBestStripes_inst fnExactBestStripes_wrap (fun os started H enc _ => fnExactBestStripes_lifted os started H enc)
end Go.Proofs.Ytcgkbdbgocoilaa
