/- LeastBattery, of the program. -/
import Derived.Test.YtaeenkjbmlgcmaaAround
import Derived.Test.YtaeenkjbmlgcmaaIReach4
import Derived.Test.YtaeenkjbmlgcmaaChkO
namespace Go.Proofs.Ytaeenkjbmlgcmaa
open Go.RowKit
set_option linter.unusedVariables false
set_option linter.unusedSimpArgs false
attribute [local go_sem ↓] loadRow loadGrid loadLawn loadMirror storeRow storeGrid storeLawn allocRow allocGrid allocLawn buildZero buildSides

/-- The greatest number of a list of pairs, or zero. -/
def mostZ (l : Found) : Int := l.foldr (fun p m => if m < p.2 then p.2 else m) 0
theorem mostZ_is : ∀ l : Found, MostIs l (mostZ l)
  | [] => ⟨(fun p hp => by cases hp), .inl rfl⟩
  | p :: l => by
    have ih := mostZ_is l
    have e : mostZ (p :: l) = if mostZ l < p.2 then p.2 else mostZ l := rfl
    rw [e]
    constructor
    · intro q hq
      rcases List.mem_cons.1 hq with rfl | hq
      · split <;> omega
      · have := ih.1 q hq; split <;> omega
    · split
      · exact .inr ⟨p, by simp, rfl⟩
      · exact ih.2.imp id fun ⟨q, hq, e⟩ => ⟨q, by simp [hq], e⟩
theorem MostIs.perm {l l' : Found} {d : Int} (h : MostIs l d) (hp : l'.Perm l) : MostIs l' d :=
  ⟨fun p hm => h.1 p (hp.mem_iff.1 hm), h.2.imp id fun ⟨q, hq, e⟩ => ⟨q, hp.mem_iff.2 hq, e⟩⟩
/-- The grass found around a home; the charge for it. -/
def aroundL (L : Lawn) (x y : Int) : Found := (found (openP L) (x, y) 100).filter fun p => grassP L p.1
def batN (L : Lawn) (x y : Int) : Int := if stepsC L x y = 0 then 2 * mostZ (aroundL L x y) else 0
theorem stepsC_zero {L : Lawn} {x y : Int} (h : stepsC L x y = 0) : validB L = true ∧ isB L x y = true ∧ openB L x y = true := by
  unfold stepsC at h
  split at h
  · split at h
    · split at h
      · simp_all
      · cases h
    · cases h
  · cases h
theorem around_val {L : Lawn} {x y : Int} (hv : validB L = true) (ho : openB L x y = true) : ∀ p ∈ aroundL L x y, 0 ≤ p.2 ∧ p.2 < 100 := by
  intro p hp
  unfold aroundL at hp
  have hp := (List.mem_filter.1 hp).1
  have hg := found_good (pass := openP L) (s := (x, y)) ho 100
  have hl := good_length (openP_near hv) hg
  obtain ⟨j, hj, rfl⟩ := List.getElem_of_mem hp
  have := hg.val j _ (List.getElem?_eq_getElem hj)
  omega

end Go.Proofs.Ytaeenkjbmlgcmaa
