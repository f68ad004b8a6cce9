/- When weeds are valid for a lawn: pure; and the weeds that a range over the cells has laid. -/
import Derived.Test.YtojccgaldadcnaaWdOps
import Derived.Test.YtojccgaldadcnaaZB
namespace Go.Proofs.Ytojccgaldadcnaa
open Go.RowKit
set_option linter.unusedVariables false
set_option linter.unusedSimpArgs false

/-- The cells of some kinds. -/
def kindS (L : Lawn) (ks : List Int) : Nat → Nat → Bool := fun y x => isB L x y && ks.contains (L.kind y x)
/-- The cells in which weeds can grow. -/
def soilS (L : Lawn) : Nat → Nat → Bool := kindS L [0, 1]
def weedB (L : Lawn) (s : Nat → Nat → Bool) : Bool := validB L && (List.range 10).all fun y => (List.range 16).all fun x => !s y x || soilS L y x
theorem weedB_true {L : Lawn} {s : Nat → Nat → Bool} (h : weedB L s = true) : validB L = true ∧ ∀ y x, y < 10 → x < 16 → s y x = true → soilS L y x = true := by
  simp only [weedB, Bool.and_eq_true, List.all_eq_true, List.mem_range, Bool.or_eq_true, Bool.not_eq_true'] at h
  refine ⟨h.1, fun y x hy hx hs => ?_⟩
  rcases h.2 y hy x hx with h | h
  · rw [hs] at h; cases h
  · exact h
theorem weedB_of {L : Lawn} {s : Nat → Nat → Bool} (hv : validB L = true) (h : ∀ y x, y < 10 → x < 16 → s y x = true → soilS L y x = true) : weedB L s = true := by
  simp only [weedB, Bool.and_eq_true, List.all_eq_true, List.mem_range, Bool.or_eq_true, Bool.not_eq_true']
  refine ⟨hv, fun y hy x hx => ?_⟩
  cases hs : s y x
  · exact .inl rfl
  · exact .inr (h y x hy hx hs)
theorem weedB_lawn {L : Lawn} {s : Nat → Nat → Bool} (h : validB L = false) : weedB L s = false := by simp [weedB, h]
theorem weedB_not {L : Lawn} {s : Nat → Nat → Bool} {y x : Nat} (hy : y < 10) (hx : x < 16) (h1 : s y x = true) (h2 : soilS L y x = false) : weedB L s = false := by
  cases hv : weedB L s with
  | false => rfl
  | true => have := (weedB_true hv).2 y x hy hx h1; rw [h2] at this; cases this
/-- All places ahead of a row's place are fine. -/
def weedTo (L : Lawn) (s : Nat → Nat → Bool) (k j : Nat) : Prop := ∀ y x, y < 10 → x < 16 → (y < k ∨ y = k ∧ x < j) → s y x = true → soilS L y x = true
theorem weedTo_zero (L : Lawn) (s : Nat → Nat → Bool) : weedTo L s 0 0 := fun y x _ _ h => by omega
theorem weedTo_snoc {L : Lawn} {s : Nat → Nat → Bool} {k j : Nat} (h : weedTo L s k j) (hn : s k j = true → soilS L k j = true) : weedTo L s k (j + 1) := fun y x hy hx hl => by
  by_cases e : y = k ∧ x = j
  · obtain ⟨rfl, rfl⟩ := e; exact hn
  · exact h y x hy hx (by omega)
theorem weedTo_row {L : Lawn} {s : Nat → Nat → Bool} {k : Nat} (h : weedTo L s k 16) : weedTo L s (k + 1) 0 := fun y x hy hx hl => h y x hy hx (by omega)
theorem weedB_end {L : Lawn} {s : Nat → Nat → Bool} (hv : validB L = true) (h : weedTo L s 10 0) : weedB L s = true := weedB_of hv fun y x hy hx => h y x hy hx (by omega)

/-- Of the cells that have come those of a set. -/
def layS {W H : Nat} (g : Nat → Nat → Bool) (pre : List (Fin W × Fin H)) : Nat → Nat → Bool := fun y x => pre.any (fun c => c.2.val == y && c.1.val == x) && g y x
theorem layS_nil {W H : Nat} (g : Nat → Nat → Bool) (n : Nat) : bV n (layS g ([] : List (Fin W × Fin H))) = bV n fun _ _ => false := bV_ext fun y x _ _ => by simp [layS]
theorem layS_hit {W H : Nat} (g : Nat → Nat → Bool) (pre : List (Fin W × Fin H)) (c : Fin W × Fin H) (h : g c.2 c.1 = true) : bV 10 (withB (layS g pre) c.2 c.1) = bV 10 (layS g (pre ++ [c])) := by
  refine bV_ext fun y x _ _ => ?_
  unfold withB layS
  simp only [List.any_append, List.any_cons, List.any_nil, Bool.or_false]
  by_cases e : y = c.2.val ∧ x = c.1.val
  · obtain ⟨rfl, rfl⟩ := e
    simp [h]
  · have hb : (c.2.val == y && c.1.val == x) = false := by
      cases h : (c.2.val == y && c.1.val == x) with
      | false => rfl
      | true => simp only [Bool.and_eq_true, beq_iff_eq] at h; exact absurd ⟨h.1.symm, h.2.symm⟩ e
    have hb2 : (y == c.2.val && x == c.1.val) = false := by
      cases h : (y == c.2.val && x == c.1.val) with
      | false => rfl
      | true => simp only [Bool.and_eq_true, beq_iff_eq] at h; exact absurd ⟨h.1, h.2⟩ e
    rw [hb, hb2]
    simp
theorem layS_miss {W H : Nat} (g : Nat → Nat → Bool) (pre : List (Fin W × Fin H)) (c : Fin W × Fin H) (h : g c.2 c.1 = false) : bV 10 (layS g (pre ++ [c])) = bV 10 (layS g pre) := by
  refine bV_ext fun y x _ _ => ?_
  unfold layS
  simp only [List.any_append, List.any_cons, List.any_nil, Bool.or_false]
  by_cases e : y = c.2.val ∧ x = c.1.val
  · obtain ⟨rfl, rfl⟩ := e
    simp [h]
  · have hb : (c.2.val == y && c.1.val == x) = false := by
      cases h : (c.2.val == y && c.1.val == x) with
      | false => rfl
      | true => simp only [Bool.and_eq_true, beq_iff_eq] at h; exact absurd ⟨h.1.symm, h.2.symm⟩ e
    rw [hb]
    simp
theorem allC_anyS (W H : Nat) (y x : Nat) : (allC W H).any (fun c => c.2.val == y && c.1.val == x) = decide (x < W ∧ y < H) := by
  rw [Bool.eq_iff_iff, List.any_eq_true, decide_eq_true_eq]
  constructor
  · rintro ⟨c, _, hc⟩
    simp only [Bool.and_eq_true, beq_iff_eq] at hc
    have := c.1.isLt; have := c.2.isLt; omega
  · rintro ⟨hx, hy⟩
    exact ⟨(⟨x, hx⟩, ⟨y, hy⟩), allC_mem _ _ _, by simp⟩
theorem isB_nat {L : Lawn} {W H : Nat} (hW : L.wide = W) (hH : L.high = H) (y x : Nat) : isB L x y = decide (x < W ∧ y < H) := by
  rw [Bool.eq_iff_iff]
  simp only [isB, inB, Bool.and_eq_true, decide_eq_true_eq]
  omega
/-- All cells have come: those of the set that lie in the lawn. -/
theorem layS_all {W H : Nat} {L : Lawn} (hW : L.wide = W) (hH : L.high = H) (g : Nat → Nat → Bool) (hg : ∀ y x, g y x = true → isB L x y = true) : bV 10 (layS g (allC W H)) = bV 10 g := by
  refine bV_ext fun y x _ _ => ?_
  unfold layS
  rw [allC_anyS]
  cases hs : g y x with
  | false => simp
  | true =>
    have := hg y x hs
    rw [isB_nat hW hH] at this
    rw [this]; rfl
theorem kindS_in {L : Lawn} {ks : List Int} {y x : Nat} (h : kindS L ks y x = true) : isB L x y = true := by simp only [kindS, Bool.and_eq_true] at h; exact h.1
theorem weed_eq {L : Lawn} {s : Nat → Nat → Bool} (hv : validB L = true) : bEq 10 s (fun y x => s y x && soilS L y x) = weedB L s := by
  rw [Bool.eq_iff_iff]
  constructor
  · intro h
    exact weedB_of hv fun y x hy hx hs => by have := bEq_true h y x hy hx; rw [hs] at this; simpa using this.symm
  · intro h
    exact bEq_of fun y x hy hx => by
      cases hs : s y x with
      | false => rfl
      | true => rw [(weedB_true h).2 y x hy hx hs]; rfl
end Go.Proofs.Ytojccgaldadcnaa
