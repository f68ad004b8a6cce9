/- LeastBattery, of the program: what is found around a home, and the charge for it. -/
import Derived.Test.YtaeenkjbmlgcmaaStepsM
import Derived.Test.YtaeenkjbmlgcmaaZG
import Derived.Test.YtaeenkjbmlgcmaaMapR
import Derived.Test.YtaeenkjbmlgcmaaGrowV
import Derived.Handy
namespace Go.Proofs.Ytaeenkjbmlgcmaa
open Go.RowKit
set_option linter.unusedVariables false
set_option linter.unusedSimpArgs false
attribute [local go_sem ↓] loadRow loadGrid loadLawn loadMirror storeRow storeGrid storeLawn allocRow allocGrid allocLawn buildZero buildSides

/-- The greatest number of those that have come. -/
def MostTo (l : Found) (seen : List Nat) (d : Int) : Prop := (∀ j ∈ seen, ∀ p, l[j]? = some p → p.2 ≤ d) ∧ (d = 0 ∨ ∃ j ∈ seen, ∃ p, l[j]? = some p ∧ p.2 = d)
/-- The greatest number of a list of pairs, or zero. -/
def MostIs (l : Found) (d : Int) : Prop := (∀ p ∈ l, p.2 ≤ d) ∧ (d = 0 ∨ ∃ p ∈ l, p.2 = d)
theorem mostTo_take {l : Found} {seen : List Nat} {d : Int} {j : Nat} {p : Pt × Int} (h : MostTo l seen d) (hj : l[j]? = some p) : MostTo l (seen ++ [j]) (if d < p.2 then p.2 else d) := by
  constructor
  · intro i hi p' hp'
    rcases List.mem_append.1 hi with hi | hi
    · have := h.1 i hi p' hp'; split <;> omega
    · rw [List.mem_singleton.1 hi, hj] at hp'
      cases hp'
      split <;> omega
  · split
    · exact .inr ⟨j, by simp, p, hj, rfl⟩
    · exact h.2.elim .inl fun ⟨i, hi, x⟩ => .inr ⟨i, by simp [hi], x⟩
theorem mostTo_end {l : Found} {seen : List Nat} {d : Int} (h : MostTo l seen d) (hs : ∀ j, j < l.length → j ∈ seen) : MostIs l d := by
  refine ⟨fun p hp => ?_, h.2.imp id fun ⟨j, hj, p, hp, hd⟩ => ⟨p, List.mem_of_getElem? hp, hd⟩⟩
  obtain ⟨i, hi, rfl⟩ := List.getElem_of_mem hp
  exact h.1 i (hs i hi) _ (List.getElem?_eq_getElem hi)
theorem most_one {l : Found} {d e : Int} (h0 : ∀ p ∈ l, 0 ≤ p.2) (h1 : MostIs l d) (h2 : MostIs l e) : d = e := by
  have key : ∀ {a b : Int}, MostIs l a → MostIs l b → a ≤ b := fun {a b} h g => by
    rcases h.2 with rfl | ⟨p, hp, rfl⟩
    · rcases g.2 with rfl | ⟨q, hq, rfl⟩
      · omega
      · exact h0 q hq
    · exact g.1 p hp
  have := key h1 h2
  have := key h2 h1
  omega
theorem mostTo_bound {l : Found} {seen : List Nat} {d : Int} (h : MostTo l seen d) (hb : ∀ p ∈ l, 0 ≤ p.2 ∧ p.2 < 100) : 0 ≤ d ∧ d < 100 := by
  rcases h.2 with h2 | ⟨j, hj, p, hp, hd⟩
  · omega
  · have := hb p (List.mem_of_getElem? hp); omega

end Go.Proofs.Ytaeenkjbmlgcmaa
