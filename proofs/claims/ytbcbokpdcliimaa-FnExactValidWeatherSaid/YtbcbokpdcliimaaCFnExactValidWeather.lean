/- The law on ValidWeather answers true: of any list of weather the program says what the model says. No condition: at every input. -/
import Derived.Test.YtbcbokpdcliimaaRows
import Derived.Test.YtbcbokpdcliimaaOpen
import Derived.Test.YtbcbokpdcliimaaHead
import Derived.Test.YtbcbokpdcliimaaLValidWeather
import Derived.Test.YtbcbokpdcliimaaOpenL
namespace Go.Proofs.Ytbcbokpdcliimaa
open Go.ChangeShapes Go.WideShapes Go.ChangeAt Go.RowKit
set_option linter.unusedVariables false

set_option maxRecDepth 100000 in
theorem fnExactValidWeather_lifted (os : Os) (started : os.Started) (H : Type) (enc : TypeId × Value → H) :
    ReturnsInHanded {} Try.checked os 4 .any (Rows.fnExactValidWeatherSpec.pre6 enc Try.prog Try.f4 Rows.fnExactValidWeatherRow.domain false) (Rows.fnExactValidWeatherSpec.post enc Try.prog Try.f4 false true false false) := by
  refine returnsInHanded_of_change (C := Try.checked) own started (by kernel_rfl) Try.func4
    (ChangeSpec.witness6 (enc := enc) (C := Try.checked) false ⟨#[], #[.slice none 0 0], []⟩ 8 (by kernel_rfl) (by kernel_rfl) (by kernel_rfl) (by kernel_rfl)) ?_
  intro W base args ds gs before hval0 hW hcnd _
  have hval : ∀ (j : Nat) t v, Try.f4.params[j]? = some t → args[j]? = some v → Value.okWide Try.prog W .any base t v := hval0
  have hW' := hW
  obtain ⟨p, q, hA0, hV, rfl, hfz, hnd⟩ := hW
  have hA : DataW.TrodAll enc Try.prog W 0 (fun _ => true) true Try.f4.params.toList args.toList ds p := hA0
  rw [Try.params4] at hA hval
  obtain ⟨v0, vs0, d0, ds0, p0, q0, hargs, rfl, rfl, h0, r0⟩ := trodAll_cons hA
  obtain ⟨rfl, rfl, rfl⟩ := trodAll_nil r0
  obtain rfl : args = #[v0] := by cases args; simp_all
  obtain ⟨rfl, rfl⟩ := trodVars_none hV
  obtain ⟨n0, z0, k0, m0, w0⟩ := open_weathers (hval 0 22 v0 rfl rfl) h0
  clear hA0 hval0
  refine (exactValidWeather n0 v0 z0 m0 w0 W k0).mono fun e W' ⟨he, hb⟩ => ?_
  subst he
  exact ⟨_, rfl, lawPost hW' rfl rfl rfl (by kernel_rfl) hb⟩

set_option maxRecDepth 100000 in
theorem fnExactValidWeather_closed : joinedFacts Try.prog 4 Try.f4 Rows.fnExactValidWeatherSpec Rows.fnExactValidWeatherRow = true := by
  unfold joinedFacts
  rewrite [enterIs, liftsIs, makeIs]
  kernel_rfl
theorem fnExactValidWeather_named : Try.prog.funcNamed Rows.fnExactValidWeatherRow.func = some 4 := by kernel_rfl
theorem fnExactValidWeather_inst : Try.f4.isInstance Try.prog Rows.fnExactValidWeatherRow.origin Rows.fnExactValidWeatherRow.targs := of_decide_eq_true (by kernel_rfl)
theorem fnExactValidWeather_wrap : Try.f4.isWrapper Try.prog Rows.fnExactValidWeatherRow.wrapper Rows.fnExactValidWeatherRow.mainSum := by unfold Func.isWrapper; first | (rw [if_pos (by decide +kernel)]; kernel_rfl) | (rw [if_neg (by decide +kernel)]; exact ⟨rfl, rfl⟩)

theorem fnExactValidWeather_holds : Rows.FnExactValidWeatherSaid :=
  OpenClaim.holds_of_wide 4 Try.f4 rfl rfl rfl rfl rfl rfl rfl ⟨rfl, rfl, rfl, rfl, rfl⟩ rfl rfl rfl rfl rfl fnExactValidWeather_named Try.func4 fnExactValidWeather_closed
    fnExactValidWeather_inst fnExactValidWeather_wrap (fun os started H enc _ => fnExactValidWeather_lifted os started H enc)
end Go.Proofs.Ytbcbokpdcliimaa
