/- Numbers from 0 up to a bound. checkMoles, of the program. What a check that finds nothing says. l06Below, of the model. -/
import Derived.Test.YtaeenkjbmlgcmaaZA
import Derived.Test.YtaeenkjbmlgcmaaMoleP
import Derived.Test.YtaeenkjbmlgcmaaVLev
import Derived.Test.YtaeenkjbmlgcmaaErrs
import Derived.Test.YtaeenkjbmlgcmaaZG
import Derived.BigQuiet
namespace Go.Proofs.Ytaeenkjbmlgcmaa
open Go.RowKit
set_option linter.unusedVariables false

def upZ (n m : Int) : Bool := decide (0 ≤ n) && decide (n ≤ m)
theorem upZ_in (n m : Int) : upZ n m = inB n 0 m := rfl
theorem upTo64_is (n m : Int) (v : Bool) (h : upZ n m = v) (w : World) :
    Calls Try.prog 92 #[.int .i64 n, .int .i64 m] w fun e w' => e = .returned (.bool v) ∧ w' = w := by
  have H := Lib.hid h
  by_cases h1 : 0 ≤ n
  · have d1 : decide (0 ≤ n) = true := by simpa using h1
    obtain ⟨d, hd⟩ : ∃ d, decide (n ≤ m) = d := ⟨_, rfl⟩
    have HV := Lib.hid (show v = d by rw [← h, upZ, d1, hd, Bool.true_and])
    clear h
    go_enter Try.func92, Try.ntmps92
    go_wp2
    go_ret
    exact ⟨by rw [HV.out, ← hd]; rfl, rfl⟩
  · have d1 : decide (0 ≤ n) = false := by simpa using h1
    have HV := Lib.hid (show v = false by rw [← h, upZ, d1, Bool.false_and])
    clear h
    go_enter Try.func92, Try.ntmps92
    go_wp2
    go_ret
    exact ⟨by rw [HV.out]; rfl, rfl⟩

end Go.Proofs.Ytaeenkjbmlgcmaa

namespace Go.Proofs.Ytaeenkjbmlgcmaa
open Go.RowKit Go.Shelf
set_option linter.unusedVariables false
set_option linter.unusedSimpArgs false
attribute [local go_sem ↓] loadRow loadGrid loadLawn loadMirror storeRow storeGrid storeLawn allocRow allocGrid allocLawn buildZero buildSides




/-- Which error is met. -/
def chkE (L : Lawn) (g : Nat → Nat → Int) (fine : Bool) (cs : List Pt) : Option Nat :=
  if !levB L g then some 4 else if !fine || cs.any (fun c => !isB L c.1 c.2) then some 0 else if cs.any (fun c => !grassB L c.1 c.2) then some 1 else none
def chkC (L : Lawn) (g : Nat → Nat → Int) (fine : Bool) (cs : List Pt) : Int := match chkE L g fine cs with | none => 0 | some k => errZ k

end Go.Proofs.Ytaeenkjbmlgcmaa

namespace Go.Proofs.Ytaeenkjbmlgcmaa
open Go.RowKit
set_option linter.unusedVariables false
theorem chkE_none {L : Lawn} {g : Nat → Nat → Int} {fine : Bool} {cs : List Pt} (h : chkE L g fine cs = none) : levB L g = true ∧ ∀ c ∈ cs, grassP L c = true := by
  unfold chkE at h
  split at h
  · cases h
  rename_i h1
  split at h
  · cases h
  split at h
  · cases h
  rename_i h3
  refine ⟨by simpa using h1, fun c hc => ?_⟩
  have h4 : cs.any (fun c => !grassB L c.1 c.2) = false := by simpa using h3
  have := List.any_eq_false.1 h4 c hc
  simpa [grassP] using this
theorem errZ_ne (k : Nat) : errZ k ≠ 0 := by
  unfold errZ
  split
  · decide
  · split <;> decide
theorem cell_Q {L : Lawn} (hv : validB L = true) {x y : Int} (h : grassP L (x, y) = true) : ∃ q : Q10, x = (q.1.val : Int) ∧ y = (q.2.val : Int) ∧ grassP L (ptQ q) = true := by
  have h1 := ptQ_toQ (grassP_near hv (x, y) h)
  have h2 : ((toQ (x, y)).1.val : Int) = x := congrArg Prod.fst h1
  have h3 : ((toQ (x, y)).2.val : Int) = y := congrArg Prod.snd h1
  exact ⟨toQ (x, y), h2.symm, h3.symm, by rw [h1]; exact h⟩
end Go.Proofs.Ytaeenkjbmlgcmaa

namespace Go.Proofs.Ytaeenkjbmlgcmaa
open Go.RowKit Go.Shelf
set_option linter.unusedVariables false
set_option linter.unusedSimpArgs false
attribute [local go_sem ↓] loadRow loadGrid loadLawn loadMirror storeRow storeGrid storeLawn allocRow allocGrid allocLawn buildZero buildSides

theorem chkC_is (L : Lawn) (g : Nat → Nat → Int) (fine : Bool) (cs : List Pt) : chkC L g fine cs = if levB L g = false then 1 else if (fine && cs.all fun c => isB L c.1 c.2) = false then 2 else if (cs.all fun c => grassB L c.1 c.2) = false then 4 else 0 := by
  have e1 : cs.any (fun c => !isB L c.1 c.2) = !(cs.all fun c => isB L c.1 c.2) := by rw [List.not_all_eq_any_not]
  have e2 : cs.any (fun c => !grassB L c.1 c.2) = !(cs.all fun c => grassB L c.1 c.2) := by rw [List.not_all_eq_any_not]
  unfold chkC chkE
  rw [e1, e2]
  cases levB L g <;> cases fine <;> cases cs.all (fun c => isB L c.1 c.2) <;> cases cs.all (fun c => grassB L c.1 c.2) <;> rfl
end Go.Proofs.Ytaeenkjbmlgcmaa
