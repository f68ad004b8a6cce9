/- Rounds: what they leave, and how many cells they free. -/
import Derived.Test.YtemjppchnhemjaaDoorBestRow
import Derived.Test.YtemjppchnhemjaaDoorEachR
import Derived.Test.YtemjppchnhemjaaDoorStill
namespace Go.Proofs.YtemjppchnhemjaaDoor
open Go.RowKit
set_option linter.unusedVariables false
set_option linter.unusedSimpArgs false

/-- The weeds and the freed cells behind the first rounds. -/
def runK (L : Lawn) (n : Nat) (s : Nat → Nat → Bool) (rs : List (Int × Bool)) : Nat → (Nat → Nat → Bool) × Int
  | 0 => (s, 0)
  | k + 1 => match rs[k]? with
    | none => runK L n s rs k
    | some r => (cutS L r.1.toNat r.2 (dayS (soilS L) n (runK L n s rs k).1), (runK L n s rs k).2 + ((cntR (dayS (soilS L) n (runK L n s rs k).1) 10 : Nat) - (cntR (cutS L r.1.toNat r.2 (dayS (soilS L) n (runK L n s rs k).1)) 10 : Nat)))
theorem runK_succ {L : Lawn} {n : Nat} {s : Nat → Nat → Bool} {rs : List (Int × Bool)} {k : Nat} {r : Int × Bool} (h : rs[k]? = some r) : runK L n s rs (k + 1) = (cutS L r.1.toNat r.2 (dayS (soilS L) n (runK L n s rs k).1), (runK L n s rs k).2 + ((cntR (dayS (soilS L) n (runK L n s rs k).1) 10 : Nat) - (cntR (cutS L r.1.toNat r.2 (dayS (soilS L) n (runK L n s rs k).1)) 10 : Nat))) := by
  simp only [runK, h]
theorem runK_weed {L : Lawn} {n : Nat} {s : Nat → Nat → Bool} {rs : List (Int × Bool)} (hw : weedB L s = true) : ∀ k, weedB L (runK L n s rs k).1 = true
  | 0 => hw
  | k + 1 => by
    unfold runK
    cases h : rs[k]? with
    | none => exact runK_weed hw k
    | some r => exact weedB_cut (weedB_day (runK_weed hw k) n) _ _
theorem cut_le {L : Lawn} {t : Nat → Nat → Bool} {r : Nat} {h : Bool} : cntR (cutS L r h t) 10 ≤ cntR t 10 := cntR_sub fun y x _ _ hh => by
  simp only [cutS, Bool.and_eq_true] at hh
  exact hh.1
theorem runK_bound {L : Lawn} {n : Nat} {s : Nat → Nat → Bool} {rs : List (Int × Bool)} (hw : weedB L s = true) : ∀ k, 0 ≤ (runK L n s rs k).2 ∧ (runK L n s rs k).2 ≤ 100 * k
  | 0 => by simp [runK]
  | k + 1 => by
    have ih := runK_bound (L := L) (n := n) (s := s) (rs := rs) hw k
    unfold runK
    cases h : rs[k]? with
    | none => dsimp only; omega
    | some r =>
      have h1 := cnt_le (weedB_day (runK_weed (n := n) (rs := rs) hw k) n)
      have h2 := cut_le (L := L) (t := dayS (soilS L) n (runK L n s rs k).1) (r := r.1.toNat) (h := r.2)
      dsimp only
      omega
/-- What RunRounds answers. -/
def runC (L : Lawn) (s : Nat → Nat → Bool) (need : Int) (rs : List (Int × Bool)) : Int := if told (weedB L s) (inB need 1 4) = 0 then roundsC L rs else told (weedB L s) (inB need 1 4)
def runR (L : Lawn) (s : Nat → Nat → Bool) (need : Int) (rs : List (Int × Bool)) : Nat → Nat → Bool := if runC L s need rs = 0 then (runK L need.toNat s rs rs.length).1 else fun _ _ => false
def runF (L : Lawn) (s : Nat → Nat → Bool) (need : Int) (rs : List (Int × Bool)) : Int := if runC L s need rs = 0 then (runK L need.toNat s rs rs.length).2 else 0
theorem roundsC_zero {L : Lawn} {rs : List (Int × Bool)} (h : roundsC L rs = 0) : rowsB L rs = true ∧ rs.length ≤ 60 := by
  unfold roundsC at h
  cases hr : rowsB L rs with
  | false => rw [hr] at h; simp at h
  | true =>
    rw [hr] at h
    by_cases h6 : 60 < rs.length
    · rw [if_pos rfl, if_pos h6] at h; simp at h
    · exact ⟨rfl, by omega⟩
theorem rowsB_get {L : Lawn} {rs : List (Int × Bool)} (h : rowsB L rs = true) {k : Nat} {r : Int × Bool} (hk : rs[k]? = some r) : 0 ≤ r.1 ∧ r.1 < L.high := by
  have := List.all_eq_true.1 h _ (List.mem_of_getElem? hk)
  simp only [upZ, Bool.and_eq_true, decide_eq_true_eq] at this
  omega
theorem told_zero {a b : Bool} (h : told a b = 0) : a = true ∧ b = true := by
  cases a <;> cases b <;> simp_all [told]
theorem own_setRow_low {W : World} {B n : Nat} {v : Value} {e : TypeId} {size : Nat} {xs : List Value} (h : W.ownsRow B e size v n xs) {g : Nat} (cs : Array Value) (hg : g < B) : (W.setRow g cs).ownsRow B e size v n xs := by
  refine ⟨h.1, ?_⟩
  rcases h.2 with h2 | ⟨b, cap, cur, hv, hbg, hb, r⟩
  · exact .inl h2
  · exact .inr ⟨b, cap, cur, hv, hbg, (setRow_other W g b cs (by omega)).trans hb, r⟩
end Go.Proofs.YtemjppchnhemjaaDoor
