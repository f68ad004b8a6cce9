/- The beds that become grass, one after another: pure. -/
import Derived.Test.YtmoldkdidhnahaaPutV
namespace Go.Proofs.Ytmoldkdidhnahaa
open Go.RowKit
set_option linter.unusedVariables false

/-- Whether a cell is a bed with grass at three sides or at four. -/
def roundQ {W H : Nat} (L : Lawn) (c : Fin W × Fin H) : Bool := decide (3 ≤ sidesL L ((c.1.val : Int), (c.2.val : Int)) 0)
def roundB {W H : Nat} (L : Lawn) (c : Fin W × Fin H) : Bool := L.kind c.2 c.1 == 1 && roundQ L c
/-- The first one of them. -/
def firstR (L : Lawn) (W H : Nat) : Option (Fin W × Fin H) := (allC W H).find? (roundB L)
theorem firstR_kind (L : Lawn) (W H : Nat) : firstR L W H = (ofKind L W H 1).find? (roundQ L) := by
  unfold firstR ofKind
  rw [List.find?_filter]
  congr 1
  funext c
  rw [Bool.eq_iff_iff]
  simp [roundB]
/-- The lawn after k of them. -/
def rn (W H : Nat) (L : Lawn) : Nat → Lawn
  | 0 => L
  | k + 1 => match firstR (rn W H L k) W H with
    | none => rn W H L k
    | some c => (rn W H L k).put c.2.val c.1.val 0
theorem rn_succ {W H : Nat} {L : Lawn} {k : Nat} {c : Fin W × Fin H} (h : firstR (rn W H L k) W H = some c) : rn W H L (k + 1) = (rn W H L k).put c.2.val c.1.val 0 := by
  simp only [rn, h]
theorem rn_wide (W H : Nat) (L : Lawn) : ∀ k, (rn W H L k).wide = L.wide ∧ (rn W H L k).high = L.high
  | 0 => ⟨rfl, rfl⟩
  | k + 1 => by
    have ih := rn_wide W H L k
    simp only [rn]
    split
    · exact ih
    · exact ih
theorem rn_fits {W H : Nat} {L : Lawn} (hL : L.Fits) : ∀ k, (rn W H L k).Fits
  | 0 => hL
  | k + 1 => by
    have ih := rn_fits (W := W) (H := H) hL k
    simp only [rn]
    split
    · exact ih
    · exact put_fits ih _ _ (by omega)
theorem rn_valid {W H : Nat} {L : Lawn} (hv : validB L = true) (hW : L.wide = W) (hH : L.high = H) : ∀ k, validB (rn W H L k) = true
  | 0 => hv
  | k + 1 => by
    have ih := rn_valid hv hW hH k
    obtain ⟨e1, e2⟩ := rn_wide W H L k
    simp only [rn]
    split
    · exact ih
    · exact put_valid ih (isB_fin (by rw [e1]; exact hW) (by rw [e2]; exact hH) _) (by decide)
theorem countP_lt {α : Type} {p q : α → Bool} (h : ∀ x, q x = true → p x = true) {a : α} (hp : p a = true) (hq : q a = false) : ∀ l : List α, a ∈ l → l.countP q < l.countP p
  | [], hm => absurd hm (by simp)
  | b :: l, hm => by
    have hle : l.countP q ≤ l.countP p := List.countP_mono_left fun x _ hx => h x hx
    rw [List.countP_cons, List.countP_cons]
    rcases List.mem_cons.1 hm with rfl | hm
    · rw [hp, hq]; simp; omega
    · have ih := countP_lt h hp hq l hm
      have : (if q b = true then 1 else 0) ≤ (if p b = true then 1 else 0) := by
        by_cases e : q b = true
        · rw [if_pos e, if_pos (h b e)]; exact Nat.le_refl _
        · rw [if_neg e]; exact Nat.zero_le _
      omega
/-- How many beds there are. -/
def bedsN (L : Lawn) (W H : Nat) : Nat := (allC W H).countP fun c => L.kind c.2 c.1 == 1
theorem firstR_some {L : Lawn} {W H : Nat} {c : Fin W × Fin H} (h : firstR L W H = some c) : L.kind c.2 c.1 = 1 ∧ 3 ≤ sidesL L ((c.1.val : Int), (c.2.val : Int)) 0 := by
  have := List.find?_some h
  simp only [roundB, roundQ, Bool.and_eq_true, beq_iff_eq, decide_eq_true_eq] at this
  exact this
theorem beds_put {L : Lawn} {W H : Nat} {c : Fin W × Fin H} (h : L.kind c.2 c.1 = 1) : bedsN (L.put c.2.val c.1.val 0) W H < bedsN L W H := by
  unfold bedsN
  refine countP_lt (a := c) (fun x hx => ?_) (by simp [h]) (by simp [Lawn.put]) _ (allC_mem _ _ _)
  simp only [Lawn.put, beq_iff_eq] at hx ⊢
  split at hx
  · omega
  · exact hx
theorem rn_beds (W H : Nat) (L : Lawn) : ∀ k, (∀ j, j < k → firstR (rn W H L j) W H ≠ none) → bedsN (rn W H L k) W H + k ≤ bedsN L W H
  | 0, _ => by simp [rn]
  | k + 1, h => by
    have ih := rn_beds W H L k fun j hj => h j (by omega)
    cases hc : firstR (rn W H L k) W H with
    | none => exact absurd hc (h k (by omega))
    | some c =>
      rw [rn_succ hc]
      have := beds_put (W := W) (H := H) (c := c) (firstR_some hc).1
      omega
/-- There is an end, and it is no later than the hundredth. -/
theorem rn_ends (W H : Nat) (hW : W ≤ 10) (hH : H ≤ 10) (L : Lawn) : ∃ n, n ≤ 100 ∧ firstR (rn W H L n) W H = none ∧ ∀ j, j < n → firstR (rn W H L j) W H ≠ none := by
  have hb : bedsN L W H ≤ 100 := by
    unfold bedsN
    refine Nat.le_trans List.countP_le_length ?_
    rw [allC_length]
    exact Nat.le_trans (Nat.mul_le_mul hH hW) (by omega)
  have key : ∀ k, (∃ n, n < k ∧ firstR (rn W H L n) W H = none ∧ ∀ j, j < n → firstR (rn W H L j) W H ≠ none) ∨ ∀ j, j < k → firstR (rn W H L j) W H ≠ none := by
    intro k
    induction k with
    | zero => exact .inr fun j hj => by omega
    | succ k ih =>
      rcases ih with ⟨n, h1, h2, h3⟩ | h
      · exact .inl ⟨n, by omega, h2, h3⟩
      · cases hc : firstR (rn W H L k) W H with
        | none => exact .inl ⟨k, by omega, hc, h⟩
        | some c =>
          refine .inr fun j hj => ?_
          by_cases e : j = k
          · subst e; rw [hc]; simp
          · exact h j (by omega)
  rcases key 101 with ⟨n, h1, h2, h3⟩ | h
  · exact ⟨n, by omega, h2, h3⟩
  · have := rn_beds W H L 101 h
    omega
end Go.Proofs.Ytmoldkdidhnahaa
