/- The law on SeedDays answers true: of any list of weather and any three numbers the program says what the model says. No condition: at every input. -/
import Derived.Test.YtbcbokpdcliimaaRows
import Derived.Test.YtbcbokpdcliimaaOpen
import Derived.Test.YtbcbokpdcliimaaHead
import Derived.Test.YtbcbokpdcliimaaLSeedDays
import Derived.Test.YtbcbokpdcliimaaOpenL
namespace Go.Proofs.Ytbcbokpdcliimaa
open Go.ChangeShapes Go.WideShapes Go.ChangeAt Go.RowKit
set_option linter.unusedVariables false

set_option maxRecDepth 100000 in
theorem fnExactSeedDays_lifted (os : Os) (started : os.Started) (H : Type) (enc : TypeId × Value → H) :
    ReturnsInHanded {} Try.checked os 12 .any (Rows.fnExactSeedDaysSpec.pre6 enc Try.prog Try.f12 Rows.fnExactSeedDaysRow.domain false) (Rows.fnExactSeedDaysSpec.post enc Try.prog Try.f12 false true false false) := by
  refine returnsInHanded_of_change (C := Try.checked) own started (by kernel_rfl) Try.func12
    (ChangeSpec.witness6 (enc := enc) (C := Try.checked) false ⟨#[], #[.slice none 0 0, .int .i64 0, .int .i64 0, .int .i64 0], []⟩ 8 (by kernel_rfl) (by kernel_rfl) (by kernel_rfl) (by kernel_rfl)) ?_
  intro W base args ds gs before hval0 hW hcnd _
  have hval : ∀ (j : Nat) t v, Try.f12.params[j]? = some t → args[j]? = some v → Value.okWide Try.prog W .any base t v := hval0
  have hW' := hW
  obtain ⟨p, q, hA0, hV, rfl, hfz, hnd⟩ := hW
  have hA : DataW.TrodAll enc Try.prog W 0 (fun _ => true) true Try.f12.params.toList args.toList ds p := hA0
  rw [Try.params12] at hA hval
  obtain ⟨v0, vs0, d0, ds0, p0, q0, hargs, rfl, rfl, h0, r0⟩ := trodAll_cons hA
  obtain ⟨v1, vs1, d1, ds1, p1, q1, rfl, rfl, rfl, h1, r1⟩ := trodAll_cons r0
  obtain ⟨v2, vs2, d2, ds2, p2, q2, rfl, rfl, rfl, h2, r2⟩ := trodAll_cons r1
  obtain ⟨v3, vs3, d3, ds3, p3, q3, rfl, rfl, rfl, h3, r3⟩ := trodAll_cons r2
  obtain ⟨rfl, rfl, rfl⟩ := trodAll_nil r3
  obtain rfl : args = #[v0, v1, v2, v3] := by cases args; simp_all
  obtain ⟨rfl, rfl⟩ := trodVars_none hV
  obtain ⟨n0, z0, k0, m0, w0⟩ := open_weathers (hval 0 22 v0 rfl rfl) h0
  obtain ⟨a1, rfl, -, -, w1⟩ := open_int Try.underlying2 (hval 1 2 v1 rfl rfl) h1
  obtain ⟨a2, rfl, -, -, w2⟩ := open_int Try.underlying2 (hval 2 2 v2 rfl rfl) h2
  obtain ⟨a3, rfl, -, -, w3⟩ := open_int Try.underlying2 (hval 3 2 v3 rfl rfl) h3
  clear hA0 hval0
  refine (exactSeedDays n0 v0 z0 a1 a2 a3 m0 w0 W k0).mono fun e W' ⟨he, hb⟩ => ?_
  subst he
  exact ⟨_, rfl, lawPost hW' rfl rfl rfl (by kernel_rfl) hb⟩

set_option maxRecDepth 100000 in
theorem fnExactSeedDays_closed : joinedFacts Try.prog 12 Try.f12 Rows.fnExactSeedDaysSpec Rows.fnExactSeedDaysRow = true := by
  unfold joinedFacts
  rewrite [enterIs, liftsIs, makeIs]
  kernel_rfl
theorem fnExactSeedDays_named : Try.prog.funcNamed Rows.fnExactSeedDaysRow.func = some 12 := by kernel_rfl
theorem fnExactSeedDays_inst : Try.f12.isInstance Try.prog Rows.fnExactSeedDaysRow.origin Rows.fnExactSeedDaysRow.targs := of_decide_eq_true (by kernel_rfl)
theorem fnExactSeedDays_wrap : Try.f12.isWrapper Try.prog Rows.fnExactSeedDaysRow.wrapper Rows.fnExactSeedDaysRow.mainSum := by unfold Func.isWrapper; first | (rw [if_pos (by decide +kernel)]; kernel_rfl) | (rw [if_neg (by decide +kernel)]; exact ⟨rfl, rfl⟩)

theorem fnExactSeedDays_holds : Rows.FnExactSeedDaysSaid :=
  OpenClaim.holds_of_wide 12 Try.f12 rfl rfl rfl rfl rfl rfl rfl ⟨rfl, rfl, rfl, rfl, rfl⟩ rfl rfl rfl rfl rfl fnExactSeedDays_named Try.func12 fnExactSeedDays_closed
    fnExactSeedDays_inst fnExactSeedDays_wrap (fun os started H enc _ => fnExactSeedDays_lifted os started H enc)
end Go.Proofs.Ytbcbokpdcliimaa
