/- The law on SameWeather answers true: of any two lists of weather the program says what the model says. No condition: at every input. -/
import Derived.Test.YtlfmadnhjleofaaRows
import Derived.Test.YtlfmadnhjleofaaOpen
import Derived.Test.YtlfmadnhjleofaaHead
import Derived.Test.YtlfmadnhjleofaaLSameWeather
import Derived.Test.YtlfmadnhjleofaaOpenL
namespace Go.Proofs.Ytlfmadnhjleofaa
open Go.ChangeShapes Go.WideShapes Go.ChangeAt Go.RowKit
set_option linter.unusedVariables false

set_option maxRecDepth 100000 in
theorem fnExactSameWeather_lifted (os : Os) (started : os.Started) (H : Type) (enc : TypeId × Value → H) :
    ReturnsInHanded {} Try.checked os 12 .any (Rows.fnExactSameWeatherSpec.pre6 enc Try.prog Try.f12 Rows.fnExactSameWeatherRow.domain false) (Rows.fnExactSameWeatherSpec.post enc Try.prog Try.f12 false true false false) := by
  refine returnsInHanded_of_change (C := Try.checked) own started (by kernel_rfl) Try.func12
    (ChangeSpec.witness6 (enc := enc) (C := Try.checked) false ⟨#[], #[.slice none 0 0, .slice none 0 0], []⟩ 8 (by kernel_rfl) (by kernel_rfl) (by kernel_rfl) (by kernel_rfl)) ?_
  intro W base args ds gs before hval0 hW hcnd _
  have hval : ∀ (j : Nat) t v, Try.f12.params[j]? = some t → args[j]? = some v → Value.okWide Try.prog W .any base t v := hval0
  have hW' := hW
  obtain ⟨p, q, hA0, hV, rfl, hfz, hnd⟩ := hW
  have hA : DataW.TrodAll enc Try.prog W 0 (fun _ => true) true Try.f12.params.toList args.toList ds p := hA0
  rw [Try.params12] at hA hval
  obtain ⟨v0, vs0, d0, ds0, p0, q0, hargs, rfl, rfl, h0, r0⟩ := trodAll_cons hA
  obtain ⟨v1, vs1, d1, ds1, p1, q1, rfl, rfl, rfl, h1, r1⟩ := trodAll_cons r0
  obtain ⟨rfl, rfl, rfl⟩ := trodAll_nil r1
  obtain rfl : args = #[v0, v1] := by cases args; simp_all
  obtain ⟨rfl, rfl⟩ := trodVars_none hV
  obtain ⟨n0, z0, k0, m0, w0⟩ := open_weathers (hval 0 92 v0 rfl rfl) h0
  obtain ⟨n1, z1, k1, m1, w1⟩ := open_weathers (hval 1 92 v1 rfl rfl) h1
  clear hA0 hval0
  refine (exactSameWeather n0 v0 z0 n1 v1 z1 m0 m1 W k0 k1).mono fun e W' ⟨he, hb⟩ => ?_
  subst he
  exact ⟨_, rfl, lawPost hW' rfl rfl rfl (by kernel_rfl) hb⟩

set_option maxRecDepth 100000 in
theorem fnExactSameWeather_closed : joinedFacts Try.prog 12 Try.f12 Rows.fnExactSameWeatherSpec Rows.fnExactSameWeatherRow = true := by
  unfold joinedFacts
  rewrite [enterIs, liftsIs, makeIs]
  kernel_rfl
theorem fnExactSameWeather_named : Try.prog.funcNamed Rows.fnExactSameWeatherRow.func = some 12 := by kernel_rfl
theorem fnExactSameWeather_inst : Try.f12.isInstance Try.prog Rows.fnExactSameWeatherRow.origin Rows.fnExactSameWeatherRow.targs := of_decide_eq_true (by kernel_rfl)
theorem fnExactSameWeather_wrap : Try.f12.isWrapper Try.prog Rows.fnExactSameWeatherRow.wrapper Rows.fnExactSameWeatherRow.mainSum := by unfold Func.isWrapper; first | (rw [if_pos (by decide +kernel)]; kernel_rfl) | (rw [if_neg (by decide +kernel)]; exact ⟨rfl, rfl⟩)

theorem fnExactSameWeather_holds : Rows.FnExactSameWeatherSaid :=
  OpenClaim.holds_of_wide 12 Try.f12 rfl rfl rfl rfl rfl rfl rfl ⟨rfl, rfl, rfl, rfl, rfl⟩ rfl rfl rfl rfl rfl fnExactSameWeather_named Try.func12 fnExactSameWeather_closed
    fnExactSameWeather_inst fnExactSameWeather_wrap (fun os started H enc _ => fnExactSameWeather_lifted os started H enc)
end Go.Proofs.Ytlfmadnhjleofaa
