/- Counting weeds: pure. -/
import Derived.Test.YtemjppchnhemjaaDoorWeedP
import Derived.Test.YtemjppchnhemjaaDoorZC
namespace Go.Proofs.YtemjppchnhemjaaDoor
open Go.RowKit
set_option linter.unusedVariables false
set_option linter.unusedSimpArgs false

theorem cntTo_tail {b : Nat → Bool} {m : Nat} (h : ∀ x, m ≤ x → b x = false) : ∀ n, m ≤ n → cntTo b n = cntTo b m
  | 0, hn => by
    obtain rfl : m = 0 := by omega
    rfl
  | n + 1, hn => by
    rcases Nat.lt_or_ge n m with hl | hl
    · obtain rfl : m = n + 1 := by omega
      rfl
    · simp only [cntTo]
      rw [cntTo_tail h n hl, h n hl]
      rfl
theorem cntR_take {W H : Nat} (t : Nat → Nat → Bool) (hW : W ≤ 16) (ht : ∀ y x, t y x = true → x < W ∧ y < H) : ∀ (k j : Nat), k < H → j ≤ W → ((allC W H).take (k * W + j)).countP (fun c => t c.2 c.1) = cntR t k + cntTo (t k) j
  | 0, 0, _, _ => by simp [cntR, cntTo]
  | k + 1, 0, hk, hj => by
    have ih := cntR_take t hW ht k W (by omega) (Nat.le_refl _)
    rw [show (k + 1) * W + 0 = k * W + W by rw [Nat.succ_mul]; rfl, ih]
    have : cntTo (t k) 16 = cntTo (t k) W := cntTo_tail (fun x hx => by
      cases h : t k x with
      | false => rfl
      | true => have := ht k x h; omega) 16 hW
    show cntR t k + cntTo (t k) W = cntR t k + cntTo (t k) 16 + 0
    rw [this, Nat.add_zero]
  | k, j + 1, hk, hj => by
    have ih := cntR_take t hW ht k j hk (by omega)
    rw [← Nat.add_assoc, allC_take W H k j (by omega) hk, List.countP_append, ih]
    simp only [List.countP_cons, List.countP_nil, cntTo]
    omega
termination_by k j => (k, j)
theorem cntR_zero {t : Nat → Nat → Bool} {H : Nat} (h : ∀ y x, H ≤ y → t y x = false) : ∀ n, H ≤ n → cntR t n = cntR t H
  | 0, hn => by
    obtain rfl : H = 0 := by omega
    rfl
  | n + 1, hn => by
    rcases Nat.lt_or_ge n H with hl | hl
    · obtain rfl : H = n + 1 := by omega
      rfl
    · simp only [cntR]
      rw [cntR_zero h n hl, cntN, cntTo_tail (m := 0) (fun x _ => h n x hl) 16 (by omega)]
      rfl
theorem cntR_all {W H : Nat} (t : Nat → Nat → Bool) (hW : W ≤ 10) (hH : H ≤ 10) (ht : ∀ y x, t y x = true → x < W ∧ y < H) : cntR t 10 = (allC W H).countP (fun c => t c.2 c.1) := by
  have h1 : cntR t 10 = cntR t H := cntR_zero (fun y x hy => by
    cases h : t y x with
    | false => rfl
    | true => have := ht y x h; omega) 10 hH
  rw [h1]
  rcases Nat.eq_zero_or_pos H with h | h
  · subst h
    have : allC W 0 = [] := List.eq_nil_of_length_eq_zero (by rw [allC_length]; omega)
    rw [this]; rfl
  · have h2 := cntR_take t (by omega) ht (H - 1) W (by omega) (Nat.le_refl _)
    have h3 : (H - 1) * W + W = H * W := by rw [← Nat.succ_mul]; congr 1; omega
    rw [h3, List.take_of_length_le (by rw [allC_length]; omega)] at h2
    rw [h2]
    have h4 : cntTo (t (H - 1)) 16 = cntTo (t (H - 1)) W := cntTo_tail (fun x hx => by
      cases h : t (H - 1) x with
      | false => rfl
      | true => have := ht _ x h; omega) 16 (by omega)
    conv => lhs; rw [show H = (H - 1) + 1 by omega]
    simp only [cntR, cntN, h4]
theorem cntR_ext {s t : Nat → Nat → Bool} : ∀ {n : Nat}, (∀ y x, y < n → x < 16 → s y x = t y x) → cntR s n = cntR t n
  | 0, _ => rfl
  | n + 1, h => by
    simp only [cntR, cntN]
    rw [cntR_ext (fun y x hy hx => h y x (by omega) hx), cntTo_ext (fun x hx => h n x (by omega) hx)]
/-- Weeds within the grid alone. -/
def gridS (s : Nat → Nat → Bool) : Nat → Nat → Bool := fun y x => decide (y < 10) && (decide (x < 16) && s y x)
theorem cnt_grid (s : Nat → Nat → Bool) : cntR s 10 = cntR (gridS s) 10 := cntR_ext fun y x hy hx => by simp [gridS, hy, hx]
theorem cnt_le {L : Lawn} {s : Nat → Nat → Bool} (hw : weedB L s = true) : cntR s 10 ≤ 100 := by
  obtain ⟨hv, hs⟩ := weedB_true hw
  obtain ⟨h1, h2, -⟩ := validB_true hv
  rw [cnt_grid, cntR_all (W := 10) (H := 10) _ (by omega) (by omega) (fun y x h => by
    simp only [gridS, Bool.and_eq_true, decide_eq_true_eq] at h
    have := isB_in (kindS_in (hs y x h.1 h.2.1 h.2.2))
    omega)]
  exact Nat.le_trans List.countP_le_length (by rw [allC_length]; exact Nat.le_refl _)
end Go.Proofs.YtemjppchnhemjaaDoor
