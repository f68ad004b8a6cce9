/- GrowthAll, of the program. -/
import Derived.Test.YthpfejbigdjhlaaDays
namespace Go.Proofs.Ythpfejbigdjhlaa
open Go.RowKit Go.Shelf
set_option linter.unusedVariables false
attribute [local go_sem] Oper.semAt_some


def growL (zs : List Int) (n : Nat) : List Int := (List.range n).map (growZ zs)
theorem daysL_snd (zs : List Int) (n : Nat) : (daysL zs n).map (·.2) = growL zs n := by simp [daysL, growL]
def growthN (N m : Nat) : Nat := if m = N then N else 0
def growthV (zs : List Int) (N m : Nat) : List Value := if m = N then intsV .i64 (growL zs N) else []
def growthC (N m : Nat) : Int := if m = N then 0 else 1
theorem own_ints {β : Type} (s B : Nat) (n : β → Nat) (f : β → List Int) : Own (fun (b : β) w => ∃ v, Holds w s #[v] ∧ w.ownsRow B 2 1 v (n b) (intsV .i64 (f b))) := by
  rintro b W W' row ⟨v, h1, h2⟩ hg hr
  refine ⟨v, h1.grown hg hr, h2.kept hg ?_⟩
  cases hv : v.ownBlock with
  | none => exact .inl rfl
  | some g =>
    refine .inr fun e => ?_
    obtain ⟨o, ho, hc⟩ := hr g e.symm
    obtain ⟨-, h3 | ⟨g', cap, cur, rfl, -, h5, -⟩⟩ := h2
    · rw [h3.1] at hv; cases hv
    · simp only [Value.ownBlock, Option.some.injEq] at hv
      subst hv
      rw [h5] at ho
      cases ho
      simp [Obj.isCells] at hc

end Go.Proofs.Ythpfejbigdjhlaa
