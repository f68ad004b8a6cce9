/- CutRow and HoeRow, of the program and of the model. -/
import Derived.Test.YtemjppchnhemjaaDoorCheckR
import Derived.Test.YtemjppchnhemjaaDoorGrowMP
import Derived.Test.YtemjppchnhemjaaDoorGrowS

namespace Go.Proofs.YtemjppchnhemjaaDoor
open Go.RowKit
set_option linter.unusedVariables false
set_option linter.unusedSimpArgs false
attribute [local go_sem ↓] loadRow loadGrid loadLawn loadMirror storeRow storeGrid storeLawn allocRow allocGrid allocLawn buildZero buildSides loadWd storeWd allocWd buildZWd eqlWd

/-- What CutRow and HoeRow answer. -/
def clrB (L : Lawn) (s : Nat → Nat → Bool) (r : Int) : Bool := weedB L s && upZ r (L.high - 1)
def clrR (L : Lawn) (s : Nat → Nat → Bool) (r : Int) (hd : Bool) : Nat → Nat → Bool := if clrB L s r then cutS L r.toNat hd s else fun _ _ => false
def clrN (L : Lawn) (s : Nat → Nat → Bool) (r : Int) (hd : Bool) : Int := if clrB L s r then (cntR s 10 : Nat) - (cntR (cutS L r.toNat hd s) 10 : Nat) else 0
def clrC (L : Lawn) (s : Nat → Nat → Bool) (r : Int) : Int := told (weedB L s) (upZ r (L.high - 1))
theorem clr_good {L : Lawn} {s : Nat → Nat → Bool} {r : Int} {hd : Bool} (h1 : weedB L s = true) (h2 : upZ r (L.high - 1) = true) : (∃ k : Nat, r = k ∧ (k : Int) < L.high ∧ clrR L s r hd = cutS L k hd s ∧ clrN L s r hd = (cntR s 10 : Nat) - (cntR (cutS L k hd s) 10 : Nat)) ∧ clrC L s r = 0 := by
  have hr : 0 ≤ r ∧ r ≤ L.high - 1 := by simpa [upZ] using h2
  refine ⟨⟨r.toNat, by omega, by omega, ?_, ?_⟩, by rw [clrC, h1, h2]; rfl⟩
  · rw [clrR, clrB, h1, h2]; rfl
  · rw [clrN, clrB, h1, h2]; rfl
theorem clr_bad {L : Lawn} {s : Nat → Nat → Bool} {r : Int} {hd : Bool} (h : clrC L s r ≠ 0) : clrR L s r hd = (fun _ _ => false) ∧ clrN L s r hd = 0 := by
  have hb : clrB L s r = false := by
    unfold clrC told at h
    unfold clrB
    cases h1 : weedB L s <;> cases h2 : upZ r (L.high - 1) <;> simp_all
  rw [clrR, clrN, hb]
  exact ⟨rfl, rfl⟩





end Go.Proofs.YtemjppchnhemjaaDoor
