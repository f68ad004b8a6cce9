/- SidesOf and EdgeLong, of both; the law on SidesOf. -/
import Derived.Test.YtmoldkdidhnahaaISides
import Derived.Test.YtmoldkdidhnahaaSSides
namespace Go.Proofs.Ytmoldkdidhnahaa
open Go.RowKit
set_option linter.unusedVariables false
attribute [local go_sem ↓] loadRow loadGrid loadLawn loadMirror storeRow storeGrid storeLawn allocRow allocGrid allocLawn buildZero buildSides loadSd storeSd allocSd buildSd

theorem sidesOfL_yes {L : Lawn} (hv : validB L = true) : ∃ Wn Hn : Nat, (Wn ≤ 10 ∧ Hn ≤ 10) ∧ (1 ≤ Wn ∧ 1 ≤ Hn) ∧ L.wide = Wn ∧ L.high = Hn ∧ sidesOfL L = allS L Wn Hn := by
  obtain ⟨Wn, Hn, h1, h2, h3, h4⟩ := valid_sides hv
  refine ⟨Wn, Hn, h1, h2, h3, h4, ?_⟩
  unfold sidesOfL
  rw [if_pos hv, h3, h4]
  rfl
theorem sidesOfL_no {L : Lawn} (hv : validB L = false) : sidesOfL L = fun _ => 0 := by unfold sidesOfL; rw [hv]; rfl
theorem sidesOfL_bound (L : Lawn) (j : Nat) : 0 ≤ sidesOfL L j ∧ sidesOfL L j ≤ 400 := by
  cases hv : validB L
  case false => rw [sidesOfL_no hv]; exact ⟨Int.le_refl 0, (by decide : (0 : Int) ≤ 400)⟩
  case true =>
    obtain ⟨Wn, Hn, ⟨h1, h1'⟩, h2, h3, h4, h5⟩ := sidesOfL_yes hv
    rw [h5]
    exact grassS_bound L Wn Hn _ (by rw [allC_length]; exact Nat.le_trans (Nat.mul_le_mul h1' h1) (by omega)) j







end Go.Proofs.Ytmoldkdidhnahaa
