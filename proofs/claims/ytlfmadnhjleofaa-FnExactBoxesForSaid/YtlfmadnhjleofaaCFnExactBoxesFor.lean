/- The law on BoxesFor answers true: of any clippings and any two numbers the program says what the model says. No condition: at every input. -/
import Derived.Test.YtlfmadnhjleofaaRows
import Derived.Test.YtlfmadnhjleofaaOpen
import Derived.Test.YtlfmadnhjleofaaHead
import Derived.Test.YtlfmadnhjleofaaLBoxesFor
import Derived.Test.YtlfmadnhjleofaaOpenL
namespace Go.Proofs.Ytlfmadnhjleofaa
open Go.ChangeShapes Go.WideShapes Go.ChangeAt Go.RowKit
set_option linter.unusedVariables false

set_option maxRecDepth 100000 in
theorem fnExactBoxesFor_lifted (os : Os) (started : os.Started) (H : Type) (enc : TypeId × Value → H) :
    ReturnsInHanded {} Try.checked os 13 .any (Rows.fnExactBoxesForSpec.pre6 enc Try.prog Try.f13 Rows.fnExactBoxesForRow.domain false) (Rows.fnExactBoxesForSpec.post enc Try.prog Try.f13 false true false false) := by
  refine returnsInHanded_of_change (C := Try.checked) own started (by kernel_rfl) Try.func13
    (ChangeSpec.witness6 (enc := enc) (C := Try.checked) false ⟨#[], #[.slice none 0 0, .int .i64 0, .int .i64 0], []⟩ 8 (by kernel_rfl) (by kernel_rfl) (by kernel_rfl) (by kernel_rfl)) ?_
  intro W base args ds gs before hval0 hW hcnd _
  have hval : ∀ (j : Nat) t v, Try.f13.params[j]? = some t → args[j]? = some v → Value.okWide Try.prog W .any base t v := hval0
  have hW' := hW
  obtain ⟨p, q, hA0, hV, rfl, hfz, hnd⟩ := hW
  have hA : DataW.TrodAll enc Try.prog W 0 (fun _ => true) true Try.f13.params.toList args.toList ds p := hA0
  rw [Try.params13] at hA hval
  obtain ⟨v0, vs0, d0, ds0, p0, q0, hargs, rfl, rfl, h0, r0⟩ := trodAll_cons hA
  obtain ⟨v1, vs1, d1, ds1, p1, q1, rfl, rfl, rfl, h1, r1⟩ := trodAll_cons r0
  obtain ⟨v2, vs2, d2, ds2, p2, q2, rfl, rfl, rfl, h2, r2⟩ := trodAll_cons r1
  obtain ⟨rfl, rfl, rfl⟩ := trodAll_nil r2
  obtain rfl : args = #[v0, v1, v2] := by cases args; simp_all
  obtain ⟨rfl, rfl⟩ := trodVars_none hV
  obtain ⟨n0, z0, k0, m0, w0⟩ := open_int64s (hval 0 59 v0 rfl rfl) h0
  obtain ⟨a1, rfl, -, -, w1⟩ := open_int Try.underlying2 (hval 1 2 v1 rfl rfl) h1
  obtain ⟨a2, rfl, -, -, w2⟩ := open_int Try.underlying2 (hval 2 2 v2 rfl rfl) h2
  clear hA0 hval0
  refine (exactBoxesFor n0 v0 z0 a1 a2 m0 W k0).mono fun e W' ⟨he, hb⟩ => ?_
  subst he
  exact ⟨_, rfl, lawPost hW' rfl rfl rfl (by kernel_rfl) hb⟩

set_option maxRecDepth 100000 in
theorem fnExactBoxesFor_closed : joinedFacts Try.prog 13 Try.f13 Rows.fnExactBoxesForSpec Rows.fnExactBoxesForRow = true := by
  unfold joinedFacts
  rewrite [enterIs, liftsIs, makeIs]
  kernel_rfl
theorem fnExactBoxesFor_named : Try.prog.funcNamed Rows.fnExactBoxesForRow.func = some 13 := by kernel_rfl
theorem fnExactBoxesFor_inst : Try.f13.isInstance Try.prog Rows.fnExactBoxesForRow.origin Rows.fnExactBoxesForRow.targs := of_decide_eq_true (by kernel_rfl)
theorem fnExactBoxesFor_wrap : Try.f13.isWrapper Try.prog Rows.fnExactBoxesForRow.wrapper Rows.fnExactBoxesForRow.mainSum := by unfold Func.isWrapper; first | (rw [if_pos (by decide +kernel)]; kernel_rfl) | (rw [if_neg (by decide +kernel)]; exact ⟨rfl, rfl⟩)

theorem fnExactBoxesFor_holds : Rows.FnExactBoxesForSaid :=
  OpenClaim.holds_of_wide 13 Try.f13 rfl rfl rfl rfl rfl rfl rfl ⟨rfl, rfl, rfl, rfl, rfl⟩ rfl rfl rfl rfl rfl fnExactBoxesFor_named Try.func13 fnExactBoxesFor_closed
    fnExactBoxesFor_inst fnExactBoxesFor_wrap (fun os started H enc _ => fnExactBoxesFor_lifted os started H enc)
end Go.Proofs.Ytlfmadnhjleofaa
