/- The law on CutStrips answers true: of any pieces and any strip the program answers what the model answers, in memory of its own. No condition: at every input. -/
import Derived.Test.YthpfejbigdjhlaaRows
import Derived.Test.YthpfejbigdjhlaaOpen
import Derived.Test.YthpfejbigdjhlaaHead
import Derived.Test.YthpfejbigdjhlaaLCutStrips
import Derived.Test.YthpfejbigdjhlaaOpenL
namespace Go.Proofs.Ythpfejbigdjhlaa
open Go.ChangeShapes Go.WideShapes Go.ChangeAt Go.RowKit
set_option linter.unusedVariables false

set_option maxRecDepth 100000 in
theorem fnExactCutStrips_lifted (os : Os) (started : os.Started) (H : Type) (enc : TypeId × Value → H) :
    ReturnsInHanded {} Try.checked os 12 .any (Rows.fnExactCutStripsSpec.pre6 enc Try.prog Try.f12 Rows.fnExactCutStripsRow.domain false) (Rows.fnExactCutStripsSpec.post enc Try.prog Try.f12 false true false false) := by
  refine returnsInHanded_of_change (C := Try.checked) own started (by kernel_rfl) Try.func12
    (ChangeSpec.witness6 (enc := enc) (C := Try.checked) false ⟨#[], #[.slice none 0 0, .int .i64 0], []⟩ 8 (by kernel_rfl) (by kernel_rfl) (by kernel_rfl) (by kernel_rfl)) ?_
  intro W base args ds gs before hval0 hW hcnd _
  have hval : ∀ (j : Nat) t v, Try.f12.params[j]? = some t → args[j]? = some v → Value.okWide Try.prog W .any base t v := hval0
  have hW' := hW
  obtain ⟨p, q, hA0, hV, rfl, hfz, hnd⟩ := hW
  have hA : DataW.TrodAll enc Try.prog W 0 (fun _ => true) true Try.f12.params.toList args.toList ds p := hA0
  rw [Try.params12] at hA hval
  obtain ⟨v0, vs0, d0, ds0, p0, q0, hargs, rfl, rfl, h0, r0⟩ := trodAll_cons hA
  obtain ⟨v1, vs1, d1, ds1, p1, q1, rfl, rfl, rfl, h1, r1⟩ := trodAll_cons r0
  obtain ⟨rfl, rfl, rfl⟩ := trodAll_nil r1
  obtain rfl : args = #[v0, v1] := by cases args; simp_all
  obtain ⟨rfl, rfl⟩ := trodVars_none hV
  obtain ⟨n0, z0, k0, m0, w0⟩ := open_int64s (hval 0 57 v0 rfl rfl) h0
  obtain ⟨a1, rfl, -, -, w1⟩ := open_int Try.underlying2 (hval 1 2 v1 rfl rfl) h1
  clear hA0 hval0
  refine (exactCutStrips n0 v0 z0 a1 m0 W k0).mono fun e W' ⟨he, hb⟩ => ?_
  subst he
  exact ⟨_, rfl, lawPost hW' rfl rfl rfl (by kernel_rfl) hb⟩

set_option maxRecDepth 100000 in
theorem fnExactCutStrips_closed : joinedFacts Try.prog 12 Try.f12 Rows.fnExactCutStripsSpec Rows.fnExactCutStripsRow = true := by
  unfold joinedFacts
  rewrite [enterIs, liftsIs, makeIs]
  kernel_rfl
theorem fnExactCutStrips_named : Try.prog.funcNamed Rows.fnExactCutStripsRow.func = some 12 := by kernel_rfl
theorem fnExactCutStrips_inst : Try.f12.isInstance Try.prog Rows.fnExactCutStripsRow.origin Rows.fnExactCutStripsRow.targs := of_decide_eq_true (by kernel_rfl)
theorem fnExactCutStrips_wrap : Try.f12.isWrapper Try.prog Rows.fnExactCutStripsRow.wrapper Rows.fnExactCutStripsRow.mainSum := by unfold Func.isWrapper; first | (rw [if_pos (by decide +kernel)]; kernel_rfl) | (rw [if_neg (by decide +kernel)]; exact ⟨rfl, rfl⟩)

theorem fnExactCutStrips_holds : Rows.FnExactCutStripsSaid :=
  OpenClaim.holds_of_wide 12 Try.f12 rfl rfl rfl rfl rfl rfl rfl ⟨rfl, rfl, rfl, rfl, rfl⟩ rfl rfl rfl rfl rfl fnExactCutStrips_named Try.func12 fnExactCutStrips_closed
    fnExactCutStrips_inst fnExactCutStrips_wrap (fun os started H enc _ => fnExactCutStrips_lifted os started H enc)
end Go.Proofs.Ythpfejbigdjhlaa
