/- FewestMows: the first plan with the fewest days, as both sides find it. -/
import Derived.Test.YtpjninnammddlaaFewD
namespace Go.Proofs.Ytpjninnammddlaa
open Go.RowKit
set_option linter.unusedVariables false
set_option linter.unusedSimpArgs false

section
variable (cut most : Int) (G : List Int)
/-- A day on which the first plan with the fewest days mows. -/
def fmB (k : Nat) (h : Int) : Bool := 1 + fewC cut most (G.drop (k + 1)) (minZ h cut + G.getD k 0) == fewW cut most (G.drop k) h
def fmH (start : Int) : Nat → Int
  | 0 => start
  | k + 1 => if fmB cut most G k (fmH start k) = true then minZ (fmH start k) cut + G.getD k 0 else fmH start k + G.getD k 0
def fmP (start : Int) : Nat → List Int
  | 0 => []
  | k + 1 => fmP start k ++ if fmB cut most G k (fmH cut most G start k) = true then [(k : Int)] else []
end
section
variable {cut most start : Int} {G : List Int}
theorem fmP_le : ∀ k, (fmP cut most G start k).length ≤ k
  | 0 => by simp [fmP]
  | k + 1 => by
    have := fmP_le k
    rw [fmP, List.length_append]
    split <;> simp <;> omega
theorem fm_cons {k : Nat} (hk : k < G.length) : G.drop k = G.getD k 0 :: G.drop (k + 1) := by
  rw [List.drop_eq_getElem_cons hk]
  congr 1
  simp [List.getD_eq_getElem?_getD, List.getElem?_eq_getElem hk]
/-- A plan can be gone on with from each day. -/
theorem fm_good (h0 : fewW cut most G start ≤ 30) : ∀ k, k ≤ G.length → fewW cut most (G.drop k) (fmH cut most G start k) ≤ 30 ∧ (0 < k → fmH cut most G start k ≤ most)
  | 0, _ => by rw [List.drop_zero]; exact ⟨h0, fun h => absurd h (Nat.lt_irrefl 0)⟩
  | k + 1, hk => by
    obtain ⟨h1, -⟩ := fm_good h0 k (by omega)
    have hc := fm_cons (show k < G.length by omega)
    rw [hc, fewW_cons] at h1
    have e : ∀ b, fmB cut most G k (fmH cut most G start k) = b → fmH cut most G start (k + 1) = if b = true then minZ (fmH cut most G start k) cut + G.getD k 0 else fmH cut most G start k + G.getD k 0 := fun b hb => by rw [fmH, hb]
    have hb : fmB cut most G k (fmH cut most G start k) = (1 + fewC cut most (G.drop (k + 1)) (minZ (fmH cut most G start k) cut + G.getD k 0) == fewW cut most (G.drop k) (fmH cut most G start k)) := rfl
    rw [hc, fewW_cons] at hb
    have good : ∀ x, fewC cut most (G.drop (k + 1)) x ≤ 30 → fewW cut most (G.drop (k + 1)) x ≤ 30 ∧ x ≤ most := fun x hx => by
      unfold fewC at hx
      split at hx
      · omega
      · exact ⟨hx, by omega⟩
    cases hB : fmB cut most G k (fmH cut most G start k) with
    | true =>
      rw [e _ hB, if_pos rfl]
      rw [hB] at hb
      have hb := hb.symm
      rw [beq_iff_eq] at hb
      obtain ⟨g1, g2⟩ := good _ (show fewC cut most (G.drop (k + 1)) (minZ (fmH cut most G start k) cut + G.getD k 0) ≤ 30 by
        have := fewC_range (cut := cut) (most := most) (G.drop (k + 1)) (minZ (fmH cut most G start k) cut + G.getD k 0)
        omega)
      exact ⟨g1, fun _ => g2⟩
    | false =>
      rw [e _ hB, if_neg (by decide)]
      rw [hB] at hb
      have hb := hb.symm
      rw [beq_eq_false_iff_ne] at hb
      obtain ⟨g1, g2⟩ := good _ (show fewC cut most (G.drop (k + 1)) (fmH cut most G start k + G.getD k 0) ≤ 30 by
        generalize fewC cut most (G.drop (k + 1)) (minZ (fmH cut most G start k) cut + G.getD k 0) = a at h1 hb
        generalize fewC cut most (G.drop (k + 1)) (fmH cut most G start k + G.getD k 0) = b at h1 hb ⊢
        unfold minZ at h1 hb
        split at h1 <;> split at hb <;> omega)
      exact ⟨g1, fun _ => g2⟩
/-- What is still to come: one day less behind a day that mows. -/
theorem fm_left (h0 : fewW cut most G start ≤ 30) {k : Nat} (hk : k < G.length) : fewW cut most (G.drop (k + 1)) (fmH cut most G start (k + 1)) = fewW cut most (G.drop k) (fmH cut most G start k) - if fmB cut most G k (fmH cut most G start k) = true then 1 else 0 := by
  have hg := fm_good h0 k (by omega)
  have hg2 := fm_good h0 (k + 1) (by omega)
  have hm := hg2.2 (by omega)
  have hc : fewW cut most (G.drop (k + 1)) (fmH cut most G start (k + 1)) = fewC cut most (G.drop (k + 1)) (fmH cut most G start (k + 1)) := by unfold fewC; rw [if_neg (by omega)]
  rw [hc]
  have hb : fmB cut most G k (fmH cut most G start k) = (1 + fewC cut most (G.drop (k + 1)) (minZ (fmH cut most G start k) cut + G.getD k 0) == fewW cut most (G.drop k) (fmH cut most G start k)) := rfl
  cases hB : fmB cut most G k (fmH cut most G start k) with
  | true =>
    rw [fmH, if_pos hB, if_pos rfl]
    rw [hB] at hb
    have := (beq_iff_eq.1 hb.symm)
    omega
  | false =>
    rw [fmH, if_neg (by rw [hB]; decide), if_neg (by decide), Int.sub_zero]
    rw [hB] at hb
    have := (beq_eq_false_iff_ne.1 hb.symm)
    rw [fm_cons hk, fewW_cons] at this ⊢
    generalize fewC cut most (G.drop (k + 1)) (minZ (fmH cut most G start k) cut + G.getD k 0) = a at this ⊢
    generalize fewC cut most (G.drop (k + 1)) (fmH cut most G start k + G.getD k 0) = b at this ⊢
    unfold minZ at this ⊢
    split at this <;> split <;> omega
/-- Where no day is to come, none mows. -/
theorem fm_rest (h0 : fewW cut most G start ≤ 30) {k : Nat} (hz : fewW cut most (G.drop k) (fmH cut most G start k) = 0) : ∀ n, k + n ≤ G.length → fmP cut most G start (k + n) = fmP cut most G start k ∧ fewW cut most (G.drop (k + n)) (fmH cut most G start (k + n)) = 0
  | 0, _ => ⟨rfl, hz⟩
  | n + 1, hn => by
    obtain ⟨h1, h2⟩ := fm_rest h0 hz n (by omega)
    have hl := fm_left h0 (show k + n < G.length by omega)
    have hf : fmB cut most G (k + n) (fmH cut most G start (k + n)) = false := by
      unfold fmB
      rw [h2, beq_eq_false_iff_ne]
      have := fewC_range (cut := cut) (most := most) (G.drop (k + n + 1)) (minZ (fmH cut most G start (k + n)) cut + G.getD (k + n) 0)
      omega
    rw [← Nat.add_assoc]
    refine ⟨?_, ?_⟩
    · rw [fmP, hf, if_neg (by decide), List.append_nil, h1]
    · rw [hl, hf, h2]; rfl
end
end Go.Proofs.Ytpjninnammddlaa
