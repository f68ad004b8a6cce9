/- The fewest days to mow, as the program reckons them: as many as the late plan has. -/
import Derived.Test.YtpjninnammddlaaLate
namespace Go.Proofs.Ytpjninnammddlaa
open Go.RowKit
set_option linter.unusedVariables false
set_option linter.unusedSimpArgs false

section
variable (cut most : Int)
/-- The fewest days of those that are left, from a height: 31 stands for none. -/
def fewW : List Int → Int → Int
  | [], _ => 0
  | g :: gs, h => minZ (1 + (if most < minZ h cut + g then 31 else fewW gs (minZ h cut + g))) (if most < h + g then 31 else fewW gs (h + g))
def fewC (gs : List Int) (h : Int) : Int := if most < h then 31 else fewW cut most gs h
theorem fewW_cons (g : Int) (gs : List Int) (h : Int) : fewW cut most (g :: gs) h = minZ (1 + fewC cut most gs (minZ h cut + g)) (fewC cut most gs (h + g)) := rfl
/-- The late plan's days of those that are left. -/
def lateO : List Int → Int → Option Nat
  | [], _ => some 0
  | g :: gs, h => if most < lateG cut most h g then none else (lateO gs (lateG cut most h g)).map (· + if most < h + g then 1 else 0)
end
section
variable {cut most : Int}
theorem fewW_range : ∀ (gs : List Int) (h : Int), 0 ≤ fewW cut most gs h ∧ fewW cut most gs h ≤ 31
  | [], h => by simp [fewW]
  | g :: gs, h => by
    rw [fewW_cons]
    have h1 : 0 ≤ fewC cut most gs (minZ h cut + g) := by unfold fewC; split; omega; exact (fewW_range gs _).1
    have h2 : 0 ≤ fewC cut most gs (h + g) ∧ fewC cut most gs (h + g) ≤ 31 := by unfold fewC; split; omega; exact fewW_range gs _
    generalize fewC cut most gs (minZ h cut + g) = a at h1 ⊢
    generalize fewC cut most gs (h + g) = b at h2 ⊢
    unfold minZ
    split <;> omega
theorem fewC_range (gs : List Int) (h : Int) : 0 ≤ fewC cut most gs h ∧ fewC cut most gs h ≤ 31 := by
  unfold fewC; split; omega; exact fewW_range gs _
theorem fewW_mono : ∀ (gs : List Int) {x y : Int}, x ≤ y → fewW cut most gs x ≤ fewW cut most gs y
  | [], x, y, _ => by simp [fewW]
  | g :: gs, x, y, h => by
    have hC : ∀ {a b : Int}, a ≤ b → fewC cut most gs a ≤ fewC cut most gs b := fun {a b} hab => by
      unfold fewC
      split <;> split
      · omega
      · omega
      · exact (fewW_range gs _).2
      · exact fewW_mono gs hab
    rw [fewW_cons, fewW_cons]
    have h1 : minZ x cut + g ≤ minZ y cut + g := by unfold minZ; split <;> split <;> omega
    have h2 := hC h1
    have h3 := hC (show x + g ≤ y + g by omega)
    generalize fewC cut most gs (minZ x cut + g) = a at h2 ⊢
    generalize fewC cut most gs (minZ y cut + g) = b at h2 ⊢
    generalize fewC cut most gs (x + g) = c at h3 ⊢
    generalize fewC cut most gs (y + g) = d at h3 ⊢
    unfold minZ
    split <;> split <;> omega
theorem fewC_mono (gs : List Int) {a b : Int} (hab : a ≤ b) : fewC cut most gs a ≤ fewC cut most gs b := by
  unfold fewC
  split <;> split
  · omega
  · omega
  · exact (fewW_range gs _).2
  · exact fewW_mono gs hab
/-- Grass that was cut once more needs one day less at best. -/
theorem fewW_cut : ∀ (gs : List Int) {x y : Int}, (∀ g ∈ gs, 0 ≤ g) → cut ≤ x → x ≤ y → fewW cut most gs y ≤ 1 + fewW cut most gs x
  | [], x, y, _, _, _ => by simp [fewW]
  | g :: gs, x, y, hg, hc, h => by
    have hg0 := hg g (by simp)
    have e1 : minZ x cut = cut := by unfold minZ; split <;> omega
    have e2 : minZ y cut = cut := by unfold minZ; split <;> omega
    rw [fewW_cons, fewW_cons, e1, e2]
    have hr := fewC_range (cut := cut) (most := most) gs (x + g)
    have h2 := fewC_mono (cut := cut) (most := most) gs (show cut + g ≤ x + g by omega)
    have h3 : y + g ≤ most → fewC cut most gs (y + g) ≤ 1 + fewC cut most gs (x + g) := fun hm => by
      unfold fewC
      rw [if_neg (by omega), if_neg (by omega)]
      exact fewW_cut gs (fun e he => hg e (by simp [he])) (by omega) (by omega)
    have h4 : most < y + g → fewC cut most gs (y + g) = 31 := fun hm => by unfold fewC; rw [if_pos hm]
    generalize fewC cut most gs (cut + g) = a at h2 ⊢
    generalize fewC cut most gs (x + g) = b at h2 h3 hr ⊢
    generalize fewC cut most gs (y + g) = d at h3 h4 ⊢
    unfold minZ
    split <;> split <;> omega
def fewO : Option Nat → Int
  | none => 31
  | some n => n
theorem lateO_le : ∀ (gs : List Int) (h : Int) n, lateO cut most gs h = some n → n ≤ gs.length
  | [], h, n, e => by simp [lateO] at e; omega
  | g :: gs, h, n, e => by
    unfold lateO at e
    split at e
    · cases e
    · obtain ⟨m, h1, rfl⟩ := Option.map_eq_some_iff.1 e
      have := lateO_le gs _ m h1
      rw [List.length_cons]
      split <;> omega
/-- The late plan has the fewest days. -/
theorem few_late : ∀ (gs : List Int) (h : Int), gs.length ≤ 30 → (∀ g ∈ gs, 0 ≤ g) → fewW cut most gs h = fewO (lateO cut most gs h)
  | [], h, _, _ => rfl
  | g :: gs, h, hl, hg => by
    have hg0 := hg g (by simp)
    have hgs : ∀ e ∈ gs, 0 ≤ e := fun e he => hg e (by simp [he])
    have hl' : gs.length ≤ 30 := by simp at hl; omega
    rw [fewW_cons]
    unfold lateO lateG
    by_cases hm : most < h + g
    · simp only [if_pos hm]
      have e2 : fewC cut most gs (h + g) = 31 := by unfold fewC; rw [if_pos hm]
      rw [e2]
      by_cases hx : most < minZ h cut + g
      · have e1 : fewC cut most gs (minZ h cut + g) = 31 := by unfold fewC; rw [if_pos hx]
        rw [e1, if_pos hx]
        rfl
      · have e1 : fewC cut most gs (minZ h cut + g) = fewO (lateO cut most gs (minZ h cut + g)) := by unfold fewC; rw [if_neg hx]; exact few_late gs _ hl' hgs
        rw [e1, if_neg hx]
        cases ho : lateO cut most gs (minZ h cut + g) with
        | none => rfl
        | some n =>
          have := lateO_le gs _ n ho
          simp only [Option.map_some, fewO]
          simp only [List.length_cons] at hl
          unfold minZ
          split <;> omega
    · simp only [if_neg hm]
      have e2 : fewC cut most gs (h + g) = fewW cut most gs (h + g) := by unfold fewC; rw [if_neg hm]
      have h3 : fewC cut most gs (h + g) ≤ 1 + fewC cut most gs (minZ h cut + g) := by
        have hle : minZ h cut + g ≤ h + g := by unfold minZ; split <;> omega
        rw [e2]
        unfold fewC
        rw [if_neg (by omega)]
        rcases Int.le_total h cut with hc | hc
        · have : minZ h cut = h := by unfold minZ; split <;> omega
          rw [this]; omega
        · exact fewW_cut gs hgs (by unfold minZ; split <;> omega) hle
      have e3 : minZ (1 + fewC cut most gs (minZ h cut + g)) (fewC cut most gs (h + g)) = fewC cut most gs (h + g) := by
        generalize fewC cut most gs (minZ h cut + g) = a at h3 ⊢
        generalize fewC cut most gs (h + g) = b at h3 ⊢
        unfold minZ; split <;> omega
      rw [e3, e2, few_late gs _ hl' hgs]
      cases lateO cut most gs (h + g) <;> rfl
end
theorem growL_length (zs : List Int) (n : Nat) : (growL zs n).length = n := by simp [growL]
theorem growL_at (zs : List Int) {n k : Nat} (h : k < n) : (growL zs n)[k]? = some (growZ zs k) := by simp [growL, h]
theorem growL_drop (zs : List Int) {n k : Nat} (h : k < n) : (growL zs n).drop k = growZ zs k :: (growL zs n).drop (k + 1) := by
  have hk : k < (growL zs n).length := by rw [growL_length]; exact h
  rw [List.drop_eq_getElem_cons hk]
  congr 1
  have := growL_at zs h
  rw [List.getElem?_eq_getElem hk] at this
  exact Option.some.inj this
/-- The late plan of the model, as a list says it. -/
theorem lateO_firstNo {zs : List Int} {cut most start : Int} {N q : Nat} (hq : FirstNo (lateB zs cut most start) N q) : ∀ n k, k + n = N → k ≤ q → lateO cut most ((growL zs N).drop k) (lateH zs cut most start k) = if q = N then some ((lateP zs cut most start N).length - (lateP zs cut most start k).length) else none
  | 0, k, hk, hkq => by
    obtain rfl : k = N := by omega
    have hqk : q = k := by have := hq.le; omega
    rw [List.drop_eq_nil_of_le (by rw [growL_length]; omega), if_pos hqk, Nat.sub_self]
    rfl
  | n + 1, k, hk, hkq => by
    rw [growL_drop zs (show k < N by omega)]
    unfold lateO
    have hB : lateB zs cut most start k = decide (lateG cut most (lateH zs cut most start k) (growZ zs k) ≤ most) := rfl
    by_cases hb : most < lateG cut most (lateH zs cut most start k) (growZ zs k)
    · rw [if_pos hb]
      have : lateB zs cut most start k = false := by rw [hB]; simp; omega
      have hqk : q = k := by
        rcases Nat.lt_or_ge k q with h1 | h1
        · rw [hq.all k h1] at this; cases this
        · omega
      rw [if_neg (by omega)]
    · rw [if_neg hb]
      have ht : lateB zs cut most start k = true := by rw [hB]; simp; omega
      have hqk : k < q := by
        rcases Nat.lt_or_ge k q with h1 | h1
        · exact h1
        · have hqe : q = k := by omega
          have := hq.stop (by omega)
          rw [hqe, ht] at this
          cases this
      have ih := lateO_firstNo hq n (k + 1) (by omega) (by omega)
      rw [show lateG cut most (lateH zs cut most start k) (growZ zs k) = lateH zs cut most start (k + 1) from rfl, ih]
      have hlen : ∀ j, j ≤ N → (lateP zs cut most start j).length ≤ (lateP zs cut most start N).length := fun j hj => by
        obtain ⟨d, rfl⟩ : ∃ d, N = j + d := ⟨N - j, by omega⟩
        clear hj hq hk hkq ih
        induction d with
        | zero => exact Nat.le_refl _
        | succ d ihd =>
          refine Nat.le_trans ihd ?_
          show _ ≤ (lateP zs cut most start (j + d) ++ _).length
          rw [List.length_append]
          omega
      have h1 := hlen (k + 1) (by omega)
      by_cases hqN : q = N
      · rw [if_pos hqN, if_pos hqN]
        simp only [Option.map_some, Option.some.injEq]
        have hs : (lateP zs cut most start (k + 1)).length = (lateP zs cut most start k).length + if most < lateH zs cut most start k + growZ zs k then 1 else 0 := by
          show (lateP zs cut most start k ++ _).length = _
          rw [List.length_append]
          split <;> rfl
        rw [hs] at h1 ⊢
        split at h1 <;> split <;> omega
      · rw [if_neg hqN, if_neg hqN]; rfl
theorem lateO_is {zs : List Int} {cut most start : Int} {N q : Nat} (hq : FirstNo (lateB zs cut most start) N q) : lateO cut most (growL zs N) start = if q = N then some (lateP zs cut most start N).length else none := by
  have := lateO_firstNo hq N 0 (by omega) (by omega)
  simpa [lateH, lateP] using this
end Go.Proofs.Ytpjninnammddlaa
