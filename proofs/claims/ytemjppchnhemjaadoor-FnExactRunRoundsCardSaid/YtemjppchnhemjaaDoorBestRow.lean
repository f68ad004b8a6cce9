/- BestRow, of the program and of the model. -/
import Derived.Test.YtemjppchnhemjaaDoorSpreadD
import Derived.Test.YtemjppchnhemjaaDoorClearR
import Derived.Test.YtemjppchnhemjaaDoorCntP
namespace Go.Proofs.YtemjppchnhemjaaDoor
open Go.RowKit
set_option linter.unusedVariables false
set_option linter.unusedSimpArgs false
attribute [local go_sem ↓] loadRow loadGrid loadLawn loadMirror storeRow storeGrid storeLawn allocRow allocGrid allocLawn buildZero buildSides loadWd storeWd allocWd buildZWd eqlWd

/-- How many weeds there are a day later, where a row has been cut. -/
def cutN (L : Lawn) (s : Nat → Nat → Bool) (n r : Nat) : Nat := cntR (dayS (soilS L) n (cutS L r false s)) 10
/-- The first of some numbers that is the least, and that number; 101 ahead of the first. -/
def leastTo (c : Nat → Nat) : Nat → Nat × Nat
  | 0 => (0, 101)
  | k + 1 => if c k < (leastTo c k).2 then (k, c k) else leastTo c k
theorem leastTo_le (c : Nat → Nat) : ∀ k, (leastTo c k).1 ≤ k ∧ (leastTo c k).2 ≤ 101
  | 0 => ⟨by simp [leastTo], by simp [leastTo]⟩
  | k + 1 => by
    have := leastTo_le c k
    simp only [leastTo]
    split <;> omega
theorem leastTo_one (c : Nat → Nat) (h : c 0 ≤ 100) : leastTo c 1 = (0, c 0) := by
  show (if c 0 < 101 then _ else _) = _
  exact if_pos (by omega)
theorem leastTo_hit (c : Nat → Nat) (k : Nat) (h : c k < (leastTo c k).2) : leastTo c (k + 1) = (k, c k) := by simp [leastTo, h]
theorem leastTo_miss (c : Nat → Nat) (k : Nat) (h : ¬ c k < (leastTo c k).2) : leastTo c (k + 1) = leastTo c k := by simp [leastTo, h]
theorem weedB_cut {L : Lawn} {s : Nat → Nat → Bool} (hw : weedB L s = true) (r : Nat) (hd : Bool) : weedB L (cutS L r hd s) = true := by
  obtain ⟨hv, hs⟩ := weedB_true hw
  exact weedB_of hv fun y x hy hx h => hs y x hy hx (by simp only [cutS, Bool.and_eq_true] at h; exact h.1)
theorem cutN_le {L : Lawn} {s : Nat → Nat → Bool} (hw : weedB L s = true) (n r : Nat) : cutN L s n r ≤ 100 := cnt_le (weedB_day (weedB_cut hw r false) n)
def bestR (L : Lawn) (s : Nat → Nat → Bool) (need : Int) : Nat × Nat := leastTo (cutN L s need.toNat) L.high.toNat
def bestRC (L : Lawn) (s : Nat → Nat → Bool) (need : Int) : Int := told (weedB L s) (inB need 1 4)
def bestR0 (L : Lawn) (s : Nat → Nat → Bool) (need : Int) : Int := if bestRC L s need = 0 then ((bestR L s need).1 : Nat) else 0
def bestR1 (L : Lawn) (s : Nat → Nat → Bool) (need : Int) : Int := if bestRC L s need = 0 then ((bestR L s need).2 : Nat) else 0
theorem needC_good {L : Lawn} {s : Nat → Nat → Bool} {need : Int} (h : bestRC L s need = 0) : weedB L s = true ∧ (1 ≤ need ∧ need ≤ 4) := by
  unfold bestRC told at h
  cases hv : weedB L s
  · rw [hv] at h; simp at h
  · rw [hv] at h
    cases hf : inB need 1 4
    · rw [hf] at h; simp at h
    · exact ⟨rfl, inB_true hf⟩


end Go.Proofs.YtemjppchnhemjaaDoor
