/- The card of the law on WalkText: of any walk the program answers the text that the model answers. The row lists tables of the library, and where texts are read two errors of it; the card ties them. No other condition. -/
import Derived.Test.YthfhpcigjnjkdaaDoorRows
import Derived.Test.YthfhpcigjnjkdaaDoorCards
import Derived.Test.YthfhpcigjnjkdaaDoorTie
import Derived.Test.YthfhpcigjnjkdaaDoorOpen
import Derived.Test.YthfhpcigjnjkdaaDoorHead
import Derived.LaidLaws
import Derived.Lay
import Derived.Test.YthfhpcigjnjkdaaDoorLWalkText
import Derived.Test.YthfhpcigjnjkdaaDoorOpenC
import Derived.ChangeVars
import Derived.ChangeSame
import Derived.JoinedOf
import Derived.SevenTiedAt
import Derived.Stop.Joined
namespace Go.Proofs.YthfhpcigjnjkdaaDoor
open Go.ChangeShapes Go.WideShapes Go.ChangeAt Go.RowKit
set_option linter.unusedVariables false

set_option maxRecDepth 100000 in
theorem fnExactWalkText_lifted (os : Os) (started : os.Started) (H : Type) (enc : TypeId × Value → H) :
    ReturnsInHanded {} Tryd.checked os 6 .any (fun w args => (Rows.fnExactWalkTextSpec.pre enc Tryd.prog Tryd.f6 [] false w args ∧ laidMet Tryd.prog Rows.fnExactWalkTextRow.laid w) ∧ sizedMet enc Tryd.prog Tryd.f6 (OpenSpec.ofChange Rows.fnExactWalkTextSpec) false w args)
      (Rows.fnExactWalkTextSpec.post enc Tryd.prog Tryd.f6 false true false false) := by
  refine returnsInHanded_of_change_and (C := Tryd.checked) (X := fun w _ => laidMet Tryd.prog Rows.fnExactWalkTextRow.laid w) (fun _ _ _ hh h => h.of_heap hh) own started (by kernel_rfl) Tryd.func6
    (ChangeSpec.witness_at (enc := enc) (C := Tryd.checked) (os := os) (X := fun w _ => laidMet Tryd.prog Rows.fnExactWalkTextRow.laid w) false (World.laidAll Tryd.prog os Rows.fnExactWalkTextRow.laid) #[.slice none 0 0] 8 rfl (by kernel_rfl) (by kernel_rfl) (by kernel_rfl) (by kernel_rfl) (by kernel_rfl) (laidMet_laidAll _ (by kernel_rfl) (by kernel_rfl))) ?_
  intro W base args ds gs before hval0 hW _ _ hL _
  have hval : ∀ (j : Nat) t v, Tryd.f6.params[j]? = some t → args[j]? = some v → Value.okWide Tryd.prog W .any base t v := hval0
  have hW' := hW
  obtain ⟨p, q, hA0, hV, rfl, hfz, hnd⟩ := hW
  have hA : DataW.TrodAll enc Tryd.prog W 0 (fun _ => true) true Tryd.f6.params.toList args.toList ds p := hA0
  rw [Tryd.params6] at hA hval
  obtain ⟨v0, vs0, d0, ds0, p0, q0, hargs, rfl, rfl, h0, r0⟩ := trodAll_cons hA
  obtain ⟨rfl, rfl, rfl⟩ := trodAll_nil r0
  obtain rfl : args = #[v0] := by cases args; simp_all
  obtain ⟨rfl, rfl⟩ := trodVars_none hV
  obtain ⟨n0, z0, k0, m0, w0⟩ := open_cellsA (hval 0 41 v0 rfl rfl) h0
  clear hA0 hval0
  refine (exactWalkText n0 v0 z0 m0 w0 W k0).mono fun e W' ⟨he, hb⟩ => ?_
  subst he
  exact ⟨_, rfl, lawPost hW' rfl rfl rfl (by kernel_rfl) hb⟩

set_option maxRecDepth 100000 in
theorem fnExactWalkText_closed : joinedFacts Tryd.prog 6 Tryd.f6 Rows.fnExactWalkTextSpec Rows.fnExactWalkTextRow = true := by
  unfold joinedFacts
  rewrite [enterIs, liftsIs, makeIs]
  kernel_rfl
theorem fnExactWalkText_row : Rows.FnExactWalkTextSaid :=
  OpenClaim.holds_of_wide 6 Tryd.f6 rfl rfl rfl rfl rfl rfl rfl ⟨rfl, rfl, rfl, rfl, rfl⟩ rfl rfl rfl rfl rfl (by kernel_rfl) Tryd.func6 fnExactWalkText_closed
    (of_decide_eq_true (by kernel_rfl)) (by unfold Func.isWrapper; first | (rw [if_pos (by decide +kernel)]; kernel_rfl) | (rw [if_neg (by decide +kernel)]; exact ⟨rfl, rfl⟩))
    (fun os started H enc _ => fnExactWalkText_lifted os started H enc)

theorem fnExactWalkText_holds : Rows.FnExactWalkTextCardSaid :=
  Claim7.holds_tied_plain_at .later [] [.data, .data, .data] true Rows.fnExactWalkTextCard.stood.harness true
    fnExactWalkText_row (fun _ h => by cases h) (by kernel_rfl) (fun _ h => by cases h) fnExactWalkText_row_tie rfl ⟨rfl, rfl⟩ (by kernel_rfl) (by kernel_rfl)
    (fun f fn hf hfn => by
      obtain rfl : f = 6 := Option.some.inj ((show Tryd.prog.funcNamed "loop.example/g01405/laws.FnExactWalkText" = some 6 by kernel_rfl).symm.trans hf) |>.symm
      obtain rfl : fn = Tryd.f6 := (Option.some.inj (Tryd.func6.symm.trans hfn)).symm
      exact ⟨by kernel_rfl, fun j t ht => by
        rw [Tryd.params6] at ht
        have t0 : Tryd.prog.wantsStandIn 41 = false := by kernel_rfl
        rcases j with _ | j
        · obtain rfl : t = 41 := by simpa using ht.symm
          exact t0
        simp at ht⟩)
    (by kernel_rfl)
end Go.Proofs.YthfhpcigjnjkdaaDoor
