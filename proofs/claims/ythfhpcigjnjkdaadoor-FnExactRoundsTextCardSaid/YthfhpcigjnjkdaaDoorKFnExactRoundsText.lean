/- The card of the law on RoundsText: of any rounds the program answers the text that the model answers. The row lists tables of the library, and where texts are read two errors of it; the card ties them. No other condition. -/
import Derived.Test.YthfhpcigjnjkdaaDoorRows
import Derived.Test.YthfhpcigjnjkdaaDoorCards
import Derived.Test.YthfhpcigjnjkdaaDoorTie
import Derived.Test.YthfhpcigjnjkdaaDoorOpen
import Derived.Test.YthfhpcigjnjkdaaDoorHead
import Derived.LaidLaws
import Derived.Lay
import Derived.Test.YthfhpcigjnjkdaaDoorLRoundsText
import Derived.ChangeVars
import Derived.ChangeSame
import Derived.JoinedOf
import Derived.SevenTiedAt
import Derived.Stop.Joined
namespace Go.Proofs.YthfhpcigjnjkdaaDoor
open Go.ChangeShapes Go.WideShapes Go.ChangeAt Go.RowKit
set_option linter.unusedVariables false

set_option maxRecDepth 100000 in
theorem fnExactRoundsText_lifted (os : Os) (started : os.Started) (H : Type) (enc : TypeId × Value → H) :
    ReturnsInHanded {} Tryd.checked os 12 .any (fun w args => (Rows.fnExactRoundsTextSpec.pre enc Tryd.prog Tryd.f12 [] false w args ∧ laidMet Tryd.prog Rows.fnExactRoundsTextRow.laid w) ∧ sizedMet enc Tryd.prog Tryd.f12 (OpenSpec.ofChange Rows.fnExactRoundsTextSpec) false w args)
      (Rows.fnExactRoundsTextSpec.post enc Tryd.prog Tryd.f12 false true false false) := by
  refine returnsInHanded_of_change_and (C := Tryd.checked) (X := fun w _ => laidMet Tryd.prog Rows.fnExactRoundsTextRow.laid w) (fun _ _ _ hh h => h.of_heap hh) own started (by kernel_rfl) Tryd.func12
    (ChangeSpec.witness_at (enc := enc) (C := Tryd.checked) (os := os) (X := fun w _ => laidMet Tryd.prog Rows.fnExactRoundsTextRow.laid w) false (World.laidAll Tryd.prog os Rows.fnExactRoundsTextRow.laid) #[.slice none 0 0] 8 rfl (by kernel_rfl) (by kernel_rfl) (by kernel_rfl) (by kernel_rfl) (by kernel_rfl) (laidMet_laidAll _ (by kernel_rfl) (by kernel_rfl))) ?_
  intro W base args ds gs before hval0 hW _ _ hL _
  have hval : ∀ (j : Nat) t v, Tryd.f12.params[j]? = some t → args[j]? = some v → Value.okWide Tryd.prog W .any base t v := hval0
  have hW' := hW
  obtain ⟨p, q, hA0, hV, rfl, hfz, hnd⟩ := hW
  have hA : DataW.TrodAll enc Tryd.prog W 0 (fun _ => true) true Tryd.f12.params.toList args.toList ds p := hA0
  rw [Tryd.params12] at hA hval
  obtain ⟨v0, vs0, d0, ds0, p0, q0, hargs, rfl, rfl, h0, r0⟩ := trodAll_cons hA
  obtain ⟨rfl, rfl, rfl⟩ := trodAll_nil r0
  obtain rfl : args = #[v0] := by cases args; simp_all
  obtain ⟨rfl, rfl⟩ := trodVars_none hV
  obtain ⟨n0, z0, k0, m0, w0⟩ := open_rounds (hval 0 71 v0 rfl rfl) h0
  clear hA0 hval0
  refine (exactRoundsText n0 v0 z0 m0 w0 W k0).mono fun e W' ⟨he, hb⟩ => ?_
  subst he
  exact ⟨_, rfl, lawPost hW' rfl rfl rfl (by kernel_rfl) hb⟩

set_option maxRecDepth 100000 in
theorem fnExactRoundsText_closed : joinedFacts Tryd.prog 12 Tryd.f12 Rows.fnExactRoundsTextSpec Rows.fnExactRoundsTextRow = true := by
  unfold joinedFacts
  rewrite [enterIs, liftsIs, makeIs]
  kernel_rfl
theorem fnExactRoundsText_row : Rows.FnExactRoundsTextSaid :=
  OpenClaim.holds_of_wide 12 Tryd.f12 rfl rfl rfl rfl rfl rfl rfl ⟨rfl, rfl, rfl, rfl, rfl⟩ rfl rfl rfl rfl rfl (by kernel_rfl) Tryd.func12 fnExactRoundsText_closed
    (of_decide_eq_true (by kernel_rfl)) (by unfold Func.isWrapper; first | (rw [if_pos (by decide +kernel)]; kernel_rfl) | (rw [if_neg (by decide +kernel)]; exact ⟨rfl, rfl⟩))
    (fun os started H enc _ => fnExactRoundsText_lifted os started H enc)

theorem fnExactRoundsText_holds : Rows.FnExactRoundsTextCardSaid :=
  Claim7.holds_tied_plain_at .later [] [.data, .data, .data] true Rows.fnExactRoundsTextCard.stood.harness true
    fnExactRoundsText_row (fun _ h => by cases h) (by kernel_rfl) (fun _ h => by cases h) fnExactRoundsText_row_tie rfl ⟨rfl, rfl⟩ (by kernel_rfl) (by kernel_rfl)
    (fun f fn hf hfn => by
      obtain rfl : f = 12 := Option.some.inj ((show Tryd.prog.funcNamed "loop.example/g01405/laws.FnExactRoundsText" = some 12 by kernel_rfl).symm.trans hf) |>.symm
      obtain rfl : fn = Tryd.f12 := (Option.some.inj (Tryd.func12.symm.trans hfn)).symm
      exact ⟨by kernel_rfl, fun j t ht => by
        rw [Tryd.params12] at ht
        have t0 : Tryd.prog.wantsStandIn 71 = false := by kernel_rfl
        rcases j with _ | j
        · obtain rfl : t = 71 := by simpa using ht.symm
          exact t0
        simp at ht⟩)
    (by kernel_rfl)
end Go.Proofs.YthfhpcigjnjkdaaDoor
