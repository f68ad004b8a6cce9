/- The card of the law on SidesText: of any five numbers the program answers the text that the model answers. The row lists tables of the library, and where texts are read two errors of it; the card ties them. No other condition. -/
import Derived.Test.YthfhpcigjnjkdaaDoorRows
import Derived.Test.YthfhpcigjnjkdaaDoorCards
import Derived.Test.YthfhpcigjnjkdaaDoorTie
import Derived.Test.YthfhpcigjnjkdaaDoorOpen
import Derived.Test.YthfhpcigjnjkdaaDoorHead
import Derived.Test.YthfhpcigjnjkdaaDoorLaidT3
import Derived.LaidLaws
import Derived.Lay
import Derived.Test.YthfhpcigjnjkdaaDoorSSdT
import Derived.ChangeVars
import Derived.ChangeSame
import Derived.JoinedOf
import Derived.SevenTiedAt
import Derived.Stop.Joined
namespace Go.Proofs.YthfhpcigjnjkdaaDoor
open Go.ChangeShapes Go.WideShapes Go.ChangeAt Go.RowKit
set_option linter.unusedVariables false

set_option maxRecDepth 100000 in
theorem fnExactSidesText_lifted (os : Os) (started : os.Started) (H : Type) (enc : TypeId × Value → H) :
    ReturnsInHanded {} Tryd.checked os 8 .any (fun w args => (Rows.fnExactSidesTextSpec.pre enc Tryd.prog Tryd.f8 [] false w args ∧ laidMet Tryd.prog Rows.fnExactSidesTextRow.laid w) ∧ sizedMet enc Tryd.prog Tryd.f8 (OpenSpec.ofChange Rows.fnExactSidesTextSpec) false w args)
      (Rows.fnExactSidesTextSpec.post enc Tryd.prog Tryd.f8 false true false false) := by
  refine returnsInHanded_of_change_and (C := Tryd.checked) (X := fun w _ => laidMet Tryd.prog Rows.fnExactSidesTextRow.laid w) (fun _ _ _ hh h => h.of_heap hh) own started (by kernel_rfl) Tryd.func8
    (ChangeSpec.witness_at (enc := enc) (C := Tryd.checked) (os := os) (X := fun w _ => laidMet Tryd.prog Rows.fnExactSidesTextRow.laid w) false (World.laidAll Tryd.prog os Rows.fnExactSidesTextRow.laid) #[.agg #[.int .i64 0, .int .i64 0, .int .i64 0, .int .i64 0, .int .i64 0]] 8 rfl (by kernel_rfl) (by kernel_rfl) (by kernel_rfl) (by kernel_rfl) (by kernel_rfl) (laidMet_laidAll _ (by kernel_rfl) (by kernel_rfl))) ?_
  intro W base args ds gs before hval0 hW _ _ hL _
  have hval : ∀ (j : Nat) t v, Tryd.f8.params[j]? = some t → args[j]? = some v → Value.okWide Tryd.prog W .any base t v := hval0
  have hW' := hW
  obtain ⟨p, q, hA0, hV, rfl, hfz, hnd⟩ := hW
  have hA : DataW.TrodAll enc Tryd.prog W 0 (fun _ => true) true Tryd.f8.params.toList args.toList ds p := hA0
  rw [Tryd.params8] at hA hval
  obtain ⟨v0, vs0, d0, ds0, p0, q0, hargs, rfl, rfl, h0, r0⟩ := trodAll_cons hA
  obtain ⟨rfl, rfl, rfl⟩ := trodAll_nil r0
  obtain rfl : args = #[v0] := by cases args; simp_all
  obtain ⟨rfl, rfl⟩ := trodVars_none hV
  obtain ⟨a0, rfl⟩ := open_sides5 (hval 0 51 v0 rfl rfl) h0
  have hE := tab_of_laid3 hL
  clear hA0 hval0
  refine (exactSidesText a0 W hE).mono fun e W' ⟨he, hb⟩ => ?_
  subst he
  exact ⟨_, rfl, lawPost hW' rfl rfl rfl (by kernel_rfl) hb⟩

set_option maxRecDepth 100000 in
theorem fnExactSidesText_closed : joinedFacts Tryd.prog 8 Tryd.f8 Rows.fnExactSidesTextSpec Rows.fnExactSidesTextRow = true := by
  unfold joinedFacts
  rewrite [enterIs, liftsIs, makeIs]
  kernel_rfl
theorem fnExactSidesText_row : Rows.FnExactSidesTextSaid :=
  OpenClaim.holds_of_wide 8 Tryd.f8 rfl rfl rfl rfl rfl rfl rfl ⟨rfl, rfl, rfl, rfl, rfl⟩ rfl rfl rfl rfl rfl (by kernel_rfl) Tryd.func8 fnExactSidesText_closed
    (of_decide_eq_true (by kernel_rfl)) (by unfold Func.isWrapper; first | (rw [if_pos (by decide +kernel)]; kernel_rfl) | (rw [if_neg (by decide +kernel)]; exact ⟨rfl, rfl⟩))
    (fun os started H enc _ => fnExactSidesText_lifted os started H enc)

theorem fnExactSidesText_holds : Rows.FnExactSidesTextCardSaid :=
  Claim7.holds_tied_plain_at .later [] [.data, .data, .data] true Rows.fnExactSidesTextCard.stood.harness true
    fnExactSidesText_row (fun _ h => by cases h) (by kernel_rfl) (fun _ h => by cases h) fnExactSidesText_row_tie rfl ⟨rfl, rfl⟩ (by kernel_rfl) (by kernel_rfl)
    (fun f fn hf hfn => by
      obtain rfl : f = 8 := Option.some.inj ((show Tryd.prog.funcNamed "loop.example/g01405/laws.FnExactSidesText" = some 8 by kernel_rfl).symm.trans hf) |>.symm
      obtain rfl : fn = Tryd.f8 := (Option.some.inj (Tryd.func8.symm.trans hfn)).symm
      exact ⟨by kernel_rfl, fun j t ht => by
        rw [Tryd.params8] at ht
        have t0 : Tryd.prog.wantsStandIn 51 = false := by kernel_rfl
        rcases j with _ | j
        · obtain rfl : t = 51 := by simpa using ht.symm
          exact t0
        simp at ht⟩)
    (by kernel_rfl)
end Go.Proofs.YthfhpcigjnjkdaaDoor
