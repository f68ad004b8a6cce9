/- A lawn of which one cell has become another kind. -/
import Derived.Test.YtmoldkdidhnahaaSSide
import Derived.Test.YtmoldkdidhnahaaSetCell
namespace Go.Proofs.Ytmoldkdidhnahaa
open Go.RowKit
set_option linter.unusedVariables false

theorem put_wide (L : Lawn) (y x : Nat) (k : Int) : (L.put y x k).wide = L.wide ∧ (L.put y x k).high = L.high := ⟨rfl, rfl⟩
theorem put_fits {L : Lawn} (hL : L.Fits) (y x : Nat) {k : Int} (hk : 0 ≤ k ∧ k ≤ 255) : (L.put y x k).Fits := by
  refine ⟨hL.w0, hL.w1, hL.h0, hL.h1, fun a b ha hb => ?_, fun a b ha hb => ?_⟩
  · have := hL.k0 a b ha hb
    simp only [Lawn.put]; split <;> omega
  · have := hL.k1 a b ha hb
    simp only [Lawn.put]; split <;> omega
theorem put_valid {L : Lawn} (hv : validB L = true) {x y : Nat} (hi : isB L x y = true) {k : Int} (hk : inB k 0 3 = true) : validB (L.put y x k) = true := by
  obtain ⟨h1, h2, h3⟩ := validB_true hv
  simp only [validB, Bool.and_eq_true, List.all_eq_true, List.mem_range]
  refine ⟨⟨inB_yes h1.1 h1.2, inB_yes h2.1 h2.2⟩, fun a ha b hb => ?_⟩
  have h4 := h3 a b ha hb
  unfold okAt at h4 ⊢
  simp only [Lawn.put]
  by_cases e : a = y ∧ b = x
  · obtain ⟨rfl, rfl⟩ := e
    rw [if_pos ⟨rfl, rfl⟩, hk]
    have : isB { L with kind := fun a' b' => if a' = a ∧ b' = b then k else L.kind a' b' } (b : Int) (a : Int) = isB L b a := rfl
    rw [this, hi]
    simp
  · rw [if_neg e]
    exact h4
end Go.Proofs.Ytmoldkdidhnahaa
