/- Hauls one after the other, pure. -/
import Derived.Test.YteaajkkhbflmdaaDoorMoveP
namespace Go.Proofs.YteaajkkhbflmdaaDoor
set_option linter.unusedVariables false

/-- A haul: from, to, amount. -/
abbrev Hl := Int × Int × Int × Int × Int
def hlE5 (L : Lawn) (g : Nat → Nat → Int) (h : Hl) : Option Nat := hlE L g h.1 h.2.1 h.2.2.1 h.2.2.2.1 h.2.2.2.2
def hlG5 (g : Nat → Nat → Int) (h : Hl) : Nat → Nat → Int := hlG g h.1 h.2.1 h.2.2.1 h.2.2.2.1 h.2.2.2.2
/-- A haul as values; hauls as a row of cells. -/
def hlA (h : Hl) : Array Value := #[.int .i8 h.1, .int .i8 h.2.1, .int .i8 h.2.2.1, .int .i8 h.2.2.2.1, .int .i8 h.2.2.2.2]
def hlV (l : List Hl) : List Value := l.flatMap fun h => [.int .i8 h.1, .int .i8 h.2.1, .int .i8 h.2.2.1, .int .i8 h.2.2.2.1, .int .i8 h.2.2.2.2]
theorem hlV_length : ∀ (l : List Hl), (hlV l).length = l.length * 5
  | [] => rfl
  | r :: l => by
    have ih := hlV_length l
    simp only [hlV, List.flatMap_cons, List.length_append, List.length_cons, List.length_nil] at ih ⊢
    omega
theorem hlV_get : ∀ (l : List Hl) (i : Nat) (h : Hl), l[i]? = some h → (hlV l)[i * 5]? = some (.int .i8 h.1) ∧ (hlV l)[i * 5 + 1]? = some (.int .i8 h.2.1) ∧ (hlV l)[i * 5 + 2]? = some (.int .i8 h.2.2.1) ∧ (hlV l)[i * 5 + 3]? = some (.int .i8 h.2.2.2.1) ∧ (hlV l)[i * 5 + 4]? = some (.int .i8 h.2.2.2.2)
  | [], i, r, h => by simp at h
  | q :: l, 0, r, h => by
    simp at h
    subst h
    exact ⟨rfl, rfl, rfl, rfl, rfl⟩
  | q :: l, i + 1, r, h => by
    have ih := hlV_get l i r (by simpa using h)
    have e : hlV (q :: l) = .int .i8 q.1 :: .int .i8 q.2.1 :: .int .i8 q.2.2.1 :: .int .i8 q.2.2.2.1 :: .int .i8 q.2.2.2.2 :: hlV l := rfl
    rw [e, show (i + 1) * 5 = i * 5 + 1 + 1 + 1 + 1 + 1 by omega, show i * 5 + 1 + 1 + 1 + 1 + 1 + 1 = i * 5 + 1 + 1 + 1 + 1 + 1 + 1 by omega]
    obtain ⟨h0, h1, h2, h3, h4⟩ := ih
    refine ⟨by simpa using h0, ?_, ?_, ?_, ?_⟩
    · rw [show i * 5 + 1 + 1 + 1 + 1 + 1 + 1 = (i * 5 + 1) + 1 + 1 + 1 + 1 + 1 by omega]; simpa using h1
    · rw [show i * 5 + 1 + 1 + 1 + 1 + 1 + 2 = (i * 5 + 2) + 1 + 1 + 1 + 1 + 1 by omega]; simpa using h2
    · rw [show i * 5 + 1 + 1 + 1 + 1 + 1 + 3 = (i * 5 + 3) + 1 + 1 + 1 + 1 + 1 by omega]; simpa using h3
    · rw [show i * 5 + 1 + 1 + 1 + 1 + 1 + 4 = (i * 5 + 4) + 1 + 1 + 1 + 1 + 1 by omega]; simpa using h4
/-- The code of hauls one after the other, and the levels behind them. -/
def mvC (L : Lawn) : (Nat → Nat → Int) → List Hl → Int
  | g, [] => 0
  | g, h :: r => match hlE5 L g h with
    | some k => errZ k
    | none => mvC L (hlG5 g h) r
def mvG (L : Lawn) : (Nat → Nat → Int) → List Hl → Nat → Nat → Int
  | g, [] => g
  | g, h :: r => match hlE5 L g h with
    | some _ => fun _ _ => 0
    | none => mvG L (hlG5 g h) r
theorem mv_bad {L : Lawn} {g : Nat → Nat → Int} {l : List Hl} {i : Nat} {h : Hl} {k : Nat} (hi : l[i]? = some h) (hk : hlE5 L g h = some k) : mvC L g (l.drop i) = errZ k ∧ mvG L g (l.drop i) = fun _ _ => 0 := by
  rw [List.drop_eq_getElem_cons (List.getElem?_eq_some_iff.1 hi).1, (List.getElem?_eq_some_iff.1 hi).2]
  simp [mvC, mvG, hk]
theorem mv_good {L : Lawn} {g : Nat → Nat → Int} {l : List Hl} {i : Nat} {h : Hl} (hi : l[i]? = some h) (hk : hlE5 L g h = none) : mvC L g (l.drop i) = mvC L (hlG5 g h) (l.drop (i + 1)) ∧ mvG L g (l.drop i) = mvG L (hlG5 g h) (l.drop (i + 1)) := by
  rw [List.drop_eq_getElem_cons (List.getElem?_eq_some_iff.1 hi).1, (List.getElem?_eq_some_iff.1 hi).2]
  simp [mvC, mvG, hk]
theorem mv_end (L : Lawn) (g : Nat → Nat → Int) (l : List Hl) : mvC L g (l.drop l.length) = 0 ∧ mvG L g (l.drop l.length) = g := by simp [mvC, mvG]
theorem hlE_fine {L : Lawn} {g : Nat → Nat → Int} {h : Hl} (hk : hlE5 L g h = none) : levB L (hlG5 g h) = true := by
  unfold hlE5 hlE at hk
  split at hk
  · cases hk
  split at hk
  · cases hk
  split at hk
  · cases hk
  split at hk
  · assumption
  · cases hk
theorem hlE_small {L : Lawn} {g : Nat → Nat → Int} {h : Hl} {k : Nat} (hk : hlE5 L g h = some k) : k < 4 := by
  unfold hlE5 hlE at hk
  split at hk
  · cases hk; decide
  split at hk
  · cases hk; decide
  split at hk
  · cases hk; decide
  split at hk
  · cases hk
  · cases hk; decide
/-- What MoveAll answers. -/
def mvAC (L : Lawn) (g : Nat → Nat → Int) (l : List Hl) : Int := if levB L g then (if 60 < l.length then 3 else mvC L g l) else 1
def mvAG (L : Lawn) (g : Nat → Nat → Int) (l : List Hl) : Nat → Nat → Int := if levB L g then (if 60 < l.length then fun _ _ => 0 else mvG L g l) else fun _ _ => 0
end Go.Proofs.YteaajkkhbflmdaaDoor
