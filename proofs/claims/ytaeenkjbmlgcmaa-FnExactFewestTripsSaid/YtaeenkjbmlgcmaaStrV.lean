/- Strings, and pairs of numbers, qs rows of cells. -/
import Derived.Test.YtaeenkjbmlgcmaaTextP
import Derived.Test.YtaeenkjbmlgcmaaArgs
namespace Go.Proofs.Ytaeenkjbmlgcmaa
open Go.RowKit
set_option linter.unusedVariables false
set_option linter.unusedSimpArgs false

/-- Strings qs a row of cells. -/
def strV (ls : List (List UInt8)) : List Value := ls.map fun l => .string ⟨l.toArray⟩
theorem strV_length (ls : List (List UInt8)) : (strV ls).length = ls.length := by simp [strV]
theorem strV_get {ls : List (List UInt8)} {i : Nat} {l : List UInt8} (h : ls[i]? = some l) : (strV ls)[i]? = some (.string ⟨l.toArray⟩) := by simp [strV, h]
theorem strInfo : (Try.prog.info? 9).map (fun i => (i.zero, i.size, i.bytes)) = some (some (.string ⟨#[]⟩), 1, 16) := by kernel_rfl


/-- Pairs qs a row of cells. -/
def prV (qs : List (Int × Int)) : List Value := qs.flatMap fun a => [.int .i8 a.1, .int .i8 a.2]
theorem prV_length : ∀ (qs : List (Int × Int)), (prV qs).length = qs.length * 2
  | [] => rfl
  | a :: qs => by
    have ih := prV_length qs
    simp only [prV, List.flatMap_cons, List.length_append, List.length_cons, List.length_nil] at ih ⊢
    omega
theorem prV_get : ∀ (qs : List (Int × Int)) (i : Nat) (a : Int × Int), qs[i]? = some a → (prV qs)[i * 2]? = some (.int .i8 a.1) ∧ (prV qs)[i * 2 + 1]? = some (.int .i8 a.2)
  | [], i, a, h => by simp at h
  | q :: qs, 0, a, h => by
    simp at h
    subst h
    exact ⟨rfl, rfl⟩
  | q :: qs, i + 1, a, h => by
    have ih := prV_get qs i a (by simpa using h)
    have e : prV (q :: qs) = .int .i8 q.1 :: .int .i8 q.2 :: prV qs := rfl
    rw [e, show (i + 1) * 2 = i * 2 + 1 + 1 by omega]
    exact ⟨by simpa using ih.1, by simpa using ih.2⟩
theorem prV_append (qs : List (Int × Int)) (a : Int × Int) : prV (qs ++ [a]) = prV qs ++ [.int .i8 a.1, .int .i8 a.2] := by simp [prV]
theorem prV_ints {qs : List (Int × Int)} {n : Nat} (h : qs.length = n) : ∀ j, j < n * 2 → ∃ z, (prV qs)[j]? = some (.int .i8 z) := fun j hj => by
  obtain ⟨a, ha⟩ : ∃ a, qs[j / 2]? = some a := ⟨_, List.getElem?_eq_getElem (by omega)⟩
  have := prV_get qs _ a ha
  rcases Nat.mod_two_eq_zero_or_one j with h0 | h0
  · exact ⟨a.1, by rw [← this.1]; congr 1; omega⟩
  · exact ⟨a.2, by rw [← this.2]; congr 1; omega⟩
/-- The pairs of a row of numbers. -/
def pairsZ (zs : List Int) (n : Nat) : List (Int × Int) := (List.range n).map fun i => (zs.getD (i * 2) 0, zs.getD (i * 2 + 1) 0)
theorem pairsZ_length (zs : List Int) (n : Nat) : (pairsZ zs n).length = n := by simp [pairsZ]
theorem pairsZ_row {zs : List Int} {n : Nat} (h : zs.length = n * 2) : intsV .i8 zs = prV (pairsZ zs n) := by
  apply List.ext_getElem?
  intro j
  rcases Nat.lt_or_ge j (n * 2) with hj | hj
  · have ha : (pairsZ zs n)[j / 2]? = some (zs.getD (j / 2 * 2) 0, zs.getD (j / 2 * 2 + 1) 0) := by
      unfold pairsZ
      rw [List.getElem?_map, List.getElem?_range (by omega)]
      rfl
    have := prV_get _ _ _ ha
    rcases Nat.mod_two_eq_zero_or_one j with h0 | h0
    · have e : j / 2 * 2 = j := by omega
      rw [e] at this
      rw [this.1]
      simp [intsV, List.getElem?_eq_getElem (show j < zs.length by omega)]
    · have e : j / 2 * 2 + 1 = j := by omega
      rw [e] at this
      rw [this.2]
      simp [intsV, List.getElem?_eq_getElem (show j < zs.length by omega)]
  · rw [List.getElem?_eq_none (by simp [intsV]; omega), List.getElem?_eq_none (by rw [prV_length, pairsZ_length]; omega)]

/-- The text of the first things. -/
def jn {α : Type} (tx : α → List UInt8) (qs : List α) (i : Nat) : List UInt8 := joinS 32 ((qs.take i).map tx)
theorem jn_zero {α : Type} (tx : α → List UInt8) (qs : List α) : jn tx qs 0 = [] := rfl
theorem jn_succ {α : Type} {tx : α → List UInt8} {qs : List α} {i : Nat} {a : α} (h : qs[i]? = some a) : jn tx qs (i + 1) = (if i = 0 then [] else jn tx qs i ++ [32]) ++ tx a := by
  have hl := (List.getElem?_eq_some_iff.1 h).1
  unfold jn
  rw [List.take_add_one, h, Option.toList_some, List.map_append, List.map_cons, List.map_nil, join_append]
  congr 1
  by_cases e : i = 0
  · subst e; simp
  · rw [if_neg (by intro e2; have := congrArg List.length e2; simp only [List.length_map, List.length_take, List.length_nil] at this; omega), if_neg e]
theorem jn_all {α : Type} (tx : α → List UInt8) (qs : List α) {n : Nat} (h : qs.length = n) : jn tx qs n = joinS 32 (qs.map tx) := by unfold jn; rw [List.take_of_length_le (by omega)]
theorem jn_len {α : Type} {tx : α → List UInt8} (qs : List α) (h : ∀ a, (tx a).length ≤ 7) : ∀ i, (jn tx qs i).length ≤ i * 8
  | 0 => by simp [jn, joinS]
  | i + 1 => by
    have ih := jn_len qs h i
    rcases Nat.lt_or_ge i qs.length with hl | hl
    · obtain ⟨a, ha⟩ : ∃ a, qs[i]? = some a := ⟨_, List.getElem?_eq_getElem hl⟩
      rw [jn_succ ha]
      have := h a
      split
      · simp; omega
      · simp; omega
    · have e : jn tx qs (i + 1) = jn tx qs i := by unfold jn; rw [List.take_of_length_le (by omega), List.take_of_length_le (by omega)]
      rw [e]; omega
theorem dd_len3 (n : Nat) : (dd n).length ≤ 3 := by
  unfold dd
  split
  · simp
  · split <;> simp
theorem pairT_len7 (d : UInt8) (a : Int × Int) : (pairT d a).length ≤ 7 := by
  have := dd_len3 a.1.toNat
  have := dd_len3 a.2.toNat
  unfold pairT
  simp
  omega
theorem join_le {α : Type} {tx : α → List UInt8} (qs : List α) (h : ∀ a, (tx a).length ≤ 7) : (joinS 32 (qs.map tx)).length ≤ qs.length * 8 := by
  rw [← jn_all tx qs rfl]; exact jn_len qs h _
/-- The numbers of pairs. -/
def zsOf (qs : List (Int × Int)) : List Int := qs.flatMap fun a => [a.1, a.2]
theorem zsOf_length (qs : List (Int × Int)) : (zsOf qs).length = qs.length * 2 := by
  induction qs with
  | nil => rfl
  | cons a qs ih => simp only [zsOf, List.flatMap_cons, List.length_append, List.length_cons, List.length_nil] at ih ⊢; omega
theorem zsOf_row (qs : List (Int × Int)) : intsV .i8 (zsOf qs) = prV qs := by
  induction qs with
  | nil => rfl
  | cons a qs ih =>
    have e : zsOf (a :: qs) = a.1 :: a.2 :: zsOf qs := rfl
    have e2 : prV (a :: qs) = .int .i8 a.1 :: .int .i8 a.2 :: prV qs := rfl
    rw [e, e2, ← ih]
    rfl
theorem zsOf_get : ∀ (qs : List (Int × Int)) (i : Nat) (a : Int × Int), qs[i]? = some a → (zsOf qs).getD (i * 2) 0 = a.1 ∧ (zsOf qs).getD (i * 2 + 1) 0 = a.2
  | [], i, a, h => by simp at h
  | q :: qs, 0, a, h => by
    simp at h
    subst h
    exact ⟨rfl, rfl⟩
  | q :: qs, i + 1, a, h => by
    have ih := zsOf_get qs i a (by simpa using h)
    have e : zsOf (q :: qs) = q.1 :: q.2 :: zsOf qs := rfl
    rw [e, show (i + 1) * 2 = i * 2 + 1 + 1 by omega]
    exact ⟨by simpa using ih.1, by simpa using ih.2⟩
theorem pairsZ_zsOf (qs : List (Int × Int)) {n : Nat} (h : qs.length = n) : pairsZ (zsOf qs) n = qs := by
  apply List.ext_getElem?
  intro i
  rcases Nat.lt_or_ge i n with hi | hi
  · obtain ⟨a, ha⟩ : ∃ a, qs[i]? = some a := ⟨_, List.getElem?_eq_getElem (by omega)⟩
    have := zsOf_get qs i a ha
    unfold pairsZ
    rw [List.getElem?_map, List.getElem?_range hi, Option.map_some, this.1, this.2, ha]
  · rw [List.getElem?_eq_none (by rw [pairsZ_length]; omega), List.getElem?_eq_none (by omega)]
theorem zsOf_range {qs : List (Int × Int)} (h : ∀ a ∈ qs, (-128 ≤ a.1 ∧ a.1 ≤ 127) ∧ -128 ≤ a.2 ∧ a.2 ≤ 127) : ∀ z ∈ zsOf qs, -128 ≤ z ∧ z ≤ 127 := fun z hz => by
  simp only [zsOf, List.mem_flatMap, List.mem_cons, List.not_mem_nil, or_false] at hz
  obtain ⟨a, ha, rfl | rfl⟩ := hz
  · exact (h a ha).1
  · exact (h a ha).2
end Go.Proofs.Ytaeenkjbmlgcmaa
