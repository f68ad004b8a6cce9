/- RunsOf of the program. CellsOf of the program. CountKind, of the program and of the model. CellsOf of the model. RunsOf of the model. -/
import Derived.Test.YtaeenkjbmlgcmaaZC
import Derived.Test.YtaeenkjbmlgcmaaZD
import Derived.Laws.EntriesVeiled
import Derived.Test.YtaeenkjbmlgcmaaZB
import Derived.Maps.OwnIn
namespace Go.Proofs.Ytaeenkjbmlgcmaa
open Go.RowKit Go.Shelf
set_option linter.unusedVariables false
attribute [local go_sem] Oper.semAt_some
attribute [local go_sem ↓] loadRow loadGrid loadLawn loadMirror storeRow storeGrid storeLawn allocRow allocGrid allocLawn buildZero buildSides loadRow' loadGrid' loadLawn' loadMirror' storeRow' storeGrid' storeLawn' allocRow' allocGrid' allocLawn' buildZero' buildSides'

/-- A run begins at a cell. -/
def headB (L : Lawn) (across : Bool) (y x : Nat) : Bool := grassB L x y && !grassB L ((x : Int) - stepX across) ((y : Int) - stepY across)
/-- The cells of the runs that begin at some cells. -/
def runsV {W H : Nat} (L : Lawn) (across : Bool) (l : List (Fin W × Fin H)) : List Value := l.flatMap fun c => [.int .i8 c.1.val, .int .i8 c.2.val, .int .i8 (runLen L across c.1.val c.2.val)]
theorem runsV_append {W H : Nat} (L : Lawn) (across : Bool) (l l' : List (Fin W × Fin H)) : runsV L across (l ++ l') = runsV L across l ++ runsV L across l' := by simp [runsV]
theorem runsV_get {W H : Nat} (L : Lawn) (across : Bool) : ∀ (l : List (Fin W × Fin H)) (i : Nat) (c : Fin W × Fin H), l[i]? = some c →
    (runsV L across l)[i * 3]? = some (.int .i8 c.1.val) ∧ (runsV L across l)[i * 3 + 1]? = some (.int .i8 c.2.val) ∧ (runsV L across l)[i * 3 + 2]? = some (.int .i8 (runLen L across c.1.val c.2.val))
  | [], i, c, h => by simp at h
  | a :: l, 0, c, h => by simp at h; subst h; exact ⟨rfl, rfl, rfl⟩
  | a :: l, i + 1, c, h => by
    have ih := runsV_get L across l i c (by simpa using h)
    simp only [runsV, List.flatMap_cons] at ih ⊢
    rw [show (i + 1) * 3 = i * 3 + 3 by omega, show i * 3 + 3 + 1 = i * 3 + 1 + 3 by omega, show i * 3 + 3 + 2 = i * 3 + 2 + 3 by omega]
    simpa using ih
theorem runsV_ints {W H : Nat} (L : Lawn) (across : Bool) (l : List (Fin W × Fin H)) (n : Nat) (hn : l.length = n) : ∀ j, j < n * 3 → ∃ z, (runsV L across l)[j]? = some (.int .i8 z) := by
  intro j hj
  obtain ⟨c, hc⟩ : ∃ c, l[j / 3]? = some c := ⟨_, List.getElem?_eq_getElem (by omega)⟩
  obtain ⟨h1, h2, h3⟩ := runsV_get L across _ _ _ hc
  have : j % 3 = 0 ∨ j % 3 = 1 ∨ j % 3 = 2 := by omega
  rcases this with h | h | h
  · exact ⟨_, by rw [show j = j / 3 * 3 by omega]; exact h1⟩
  · exact ⟨_, by rw [show j = j / 3 * 3 + 1 by omega]; exact h2⟩
  · exact ⟨_, by rw [show j = j / 3 * 3 + 2 by omega]; exact h3⟩



/-- What RunsOf lists. -/
def runsC (L : Lawn) (across : Bool) : List (Fin L.wide.toNat × Fin L.high.toNat) := if validB L then filtB (headB L across) (allC L.wide.toNat L.high.toNat) else []
def validC (L : Lawn) : Int := if validB L then 0 else 1
theorem runsC_le (L : Lawn) (across : Bool) : (runsC L across).length ≤ 100 := by
  unfold runsC
  split
  · rename_i hv
    obtain ⟨h1, h2, -⟩ := validB_true hv
    refine Nat.le_trans (filtB_le _ _) ?_
    rw [allC_length]
    exact Nat.le_trans (Nat.mul_le_mul (show L.high.toNat ≤ 10 by omega) (show L.wide.toNat ≤ 10 by omega)) (by omega)
  · simp

end Go.Proofs.Ytaeenkjbmlgcmaa

namespace Go.Proofs.Ytaeenkjbmlgcmaa
open Go.RowKit Go.Shelf
attribute [local go_sem] Oper.semAt_some
attribute [local go_sem ↓] loadRow loadGrid loadLawn loadMirror storeRow storeGrid storeLawn allocRow allocGrid allocLawn buildZero buildSides loadRow' loadGrid' loadLawn' loadMirror' storeRow' storeGrid' storeLawn' allocRow' allocGrid' allocLawn' buildZero' buildSides'

/-- Those of the cells that have come that are of a kind. -/
def filtK {W H : Nat} (L : Lawn) (K : Int) (pre : List (Fin W × Fin H)) : List (Fin W × Fin H) := pre.filter fun c => L.kind c.2 c.1 == K
theorem own_own {β : Type} {W H : Nat} (s B : Nat) (e : TypeId) (size : Nat) (f : β → List (Fin W × Fin H)) : Own (fun (b : β) w => ∃ v, Holds w s #[v] ∧ w.ownsRow B e size v (f b).length (flatV (f b))) := by
  rintro b W W' row ⟨v, h1, h2⟩ hg hr
  refine ⟨v, h1.grown hg hr, h2.kept hg ?_⟩
  rcases h2.2 with ⟨rfl, -⟩ | ⟨g, cap, cur, rfl, hb, hgg, -⟩
  · exact .inl rfl
  · refine .inr fun he => ?_
    obtain ⟨o, ho, hc⟩ := hr g he.symm
    rw [hgg] at ho
    cases ho
    cases hc






end Go.Proofs.Ytaeenkjbmlgcmaa

namespace Go.Proofs.Ytaeenkjbmlgcmaa
open Go.RowKit
attribute [local go_sem ↓] loadRow loadGrid loadLawn loadMirror storeRow storeGrid storeLawn allocRow allocGrid allocLawn buildZero buildSides

/-- The cells that CellsOf answers. -/
def cellsL (L : Lawn) (K : Int) : List (Fin L.wide.toNat × Fin L.high.toNat) := if told (validB L) (inB K 0 3) = 0 then ofKind L L.wide.toNat L.high.toNat K else []


theorem cellsL_le (L : Lawn) (K : Int) : (cellsL L K).length ≤ 100 := by
  unfold cellsL
  split
  · rename_i h
    have hv : validB L = true := by
      cases e : validB L with
      | true => rfl
      | false => rw [e] at h; simp [told] at h
    obtain ⟨h1, h2, -⟩ := validB_true hv
    refine Nat.le_trans (List.length_filter_le _ _) ?_
    rw [allC_length]
    exact Nat.le_trans (Nat.mul_le_mul (show L.high.toNat ≤ 10 by omega) (show L.wide.toNat ≤ 10 by omega)) (by omega)
  · simp


end Go.Proofs.Ytaeenkjbmlgcmaa

namespace Go.Proofs.Ytaeenkjbmlgcmaa
open Go.RowKit
attribute [local go_sem ↓] loadRow loadGrid loadLawn loadMirror storeRow storeGrid storeLawn allocRow allocGrid allocLawn buildZero buildSides

end Go.Proofs.Ytaeenkjbmlgcmaa

namespace Go.Proofs.Ytaeenkjbmlgcmaa
open Go.RowKit
set_option linter.unusedVariables false
attribute [local go_sem ↓] loadRow loadGrid loadLawn loadMirror storeRow storeGrid storeLawn allocRow allocGrid allocLawn buildZero buildSides



theorem isB_fin {L : Lawn} {W H : Nat} (hW : L.wide = W) (hH : L.high = H) (c : Fin W × Fin H) : isB L c.1.val c.2.val = true := by
  have := c.1.isLt; have := c.2.isLt
  simp only [isB, inB, Bool.and_eq_true, decide_eq_true_eq]; omega
theorem heads_of_grass {L : Lawn} {W H : Nat} (across : Bool) (l : List (Fin W × Fin H)) : filtB (headB L across) (l.filter fun c => L.kind c.2 c.1 == 0) = filtB (headB L across) l := by
  unfold filtB
  rw [List.filter_filter]
  apply List.filter_congr
  intro c _
  cases h : headB L across c.2 c.1
  · simp
  · simp only [headB, grassB, Bool.and_eq_true] at h
    simpa using h.1.2


end Go.Proofs.Ytaeenkjbmlgcmaa
