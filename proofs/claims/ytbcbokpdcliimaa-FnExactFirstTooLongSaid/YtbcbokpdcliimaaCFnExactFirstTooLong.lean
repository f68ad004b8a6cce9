/- The law on FirstTooLong answers true: of any three numbers, any list of weather and any plan the program says what the model says. No condition: at every input. -/
import Derived.Test.YtbcbokpdcliimaaRows
import Derived.Test.YtbcbokpdcliimaaOpen
import Derived.Test.YtbcbokpdcliimaaHead
import Derived.Test.YtbcbokpdcliimaaLFirstTooLong
import Derived.Test.YtbcbokpdcliimaaOpenL
namespace Go.Proofs.Ytbcbokpdcliimaa
open Go.ChangeShapes Go.WideShapes Go.ChangeAt Go.RowKit
set_option linter.unusedVariables false

set_option maxRecDepth 100000 in
theorem fnExactFirstTooLong_lifted (os : Os) (started : os.Started) (H : Type) (enc : TypeId × Value → H) :
    ReturnsInHanded {} Try.checked os 8 .any (Rows.fnExactFirstTooLongSpec.pre6 enc Try.prog Try.f8 Rows.fnExactFirstTooLongRow.domain false) (Rows.fnExactFirstTooLongSpec.post enc Try.prog Try.f8 false true false false) := by
  refine returnsInHanded_of_change (C := Try.checked) own started (by kernel_rfl) Try.func8
    (ChangeSpec.witness6 (enc := enc) (C := Try.checked) false ⟨#[], #[.int .i64 0, .int .i64 0, .int .i64 0, .slice none 0 0, .slice none 0 0], []⟩ 8 (by kernel_rfl) (by kernel_rfl) (by kernel_rfl) (by kernel_rfl)) ?_
  intro W base args ds gs before hval0 hW hcnd _
  have hval : ∀ (j : Nat) t v, Try.f8.params[j]? = some t → args[j]? = some v → Value.okWide Try.prog W .any base t v := hval0
  have hW' := hW
  obtain ⟨p, q, hA0, hV, rfl, hfz, hnd⟩ := hW
  have hA : DataW.TrodAll enc Try.prog W 0 (fun _ => true) true Try.f8.params.toList args.toList ds p := hA0
  rw [Try.params8] at hA hval
  obtain ⟨v0, vs0, d0, ds0, p0, q0, hargs, rfl, rfl, h0, r0⟩ := trodAll_cons hA
  obtain ⟨v1, vs1, d1, ds1, p1, q1, rfl, rfl, rfl, h1, r1⟩ := trodAll_cons r0
  obtain ⟨v2, vs2, d2, ds2, p2, q2, rfl, rfl, rfl, h2, r2⟩ := trodAll_cons r1
  obtain ⟨v3, vs3, d3, ds3, p3, q3, rfl, rfl, rfl, h3, r3⟩ := trodAll_cons r2
  obtain ⟨v4, vs4, d4, ds4, p4, q4, rfl, rfl, rfl, h4, r4⟩ := trodAll_cons r3
  obtain ⟨rfl, rfl, rfl⟩ := trodAll_nil r4
  obtain rfl : args = #[v0, v1, v2, v3, v4] := by cases args; simp_all
  obtain ⟨rfl, rfl⟩ := trodVars_none hV
  obtain ⟨a0, rfl, -, -, w0⟩ := open_int Try.underlying2 (hval 0 2 v0 rfl rfl) h0
  obtain ⟨a1, rfl, -, -, w1⟩ := open_int Try.underlying2 (hval 1 2 v1 rfl rfl) h1
  obtain ⟨a2, rfl, -, -, w2⟩ := open_int Try.underlying2 (hval 2 2 v2 rfl rfl) h2
  obtain ⟨n3, z3, k3, m3, w3⟩ := open_weathers (hval 3 22 v3 rfl rfl) h3
  obtain ⟨n4, z4, k4, m4, w4⟩ := open_int64s (hval 4 24 v4 rfl rfl) h4
  clear hA0 hval0
  refine (exactFirstTooLong a0 a1 a2 n3 v3 z3 n4 v4 z4 m3 w3 m4 W k3 k4).mono fun e W' ⟨he, hb⟩ => ?_
  subst he
  exact ⟨_, rfl, lawPost hW' rfl rfl rfl (by kernel_rfl) hb⟩

set_option maxRecDepth 100000 in
theorem fnExactFirstTooLong_closed : joinedFacts Try.prog 8 Try.f8 Rows.fnExactFirstTooLongSpec Rows.fnExactFirstTooLongRow = true := by
  unfold joinedFacts
  rewrite [enterIs, liftsIs, makeIs]
  kernel_rfl
theorem fnExactFirstTooLong_named : Try.prog.funcNamed Rows.fnExactFirstTooLongRow.func = some 8 := by kernel_rfl
theorem fnExactFirstTooLong_inst : Try.f8.isInstance Try.prog Rows.fnExactFirstTooLongRow.origin Rows.fnExactFirstTooLongRow.targs := of_decide_eq_true (by kernel_rfl)
theorem fnExactFirstTooLong_wrap : Try.f8.isWrapper Try.prog Rows.fnExactFirstTooLongRow.wrapper Rows.fnExactFirstTooLongRow.mainSum := by unfold Func.isWrapper; first | (rw [if_pos (by decide +kernel)]; kernel_rfl) | (rw [if_neg (by decide +kernel)]; exact ⟨rfl, rfl⟩)

theorem fnExactFirstTooLong_holds : Rows.FnExactFirstTooLongSaid :=
  OpenClaim.holds_of_wide 8 Try.f8 rfl rfl rfl rfl rfl rfl rfl ⟨rfl, rfl, rfl, rfl, rfl⟩ rfl rfl rfl rfl rfl fnExactFirstTooLong_named Try.func8 fnExactFirstTooLong_closed
    fnExactFirstTooLong_inst fnExactFirstTooLong_wrap (fun os started H enc _ => fnExactFirstTooLong_lifted os started H enc)
end Go.Proofs.Ytbcbokpdcliimaa
