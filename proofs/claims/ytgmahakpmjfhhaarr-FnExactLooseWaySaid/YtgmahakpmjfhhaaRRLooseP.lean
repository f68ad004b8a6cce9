/- Taking out pairs of opposite letters: the pure part. -/
import Derived.Test.YtgmahakpmjfhhaaRRIBack
namespace Go.Proofs.YtgmahakpmjfhhaaRR
set_option linter.unusedVariables false

abbrev OkL (c : UInt8) : Prop := c = 78 ∨ c = 87 ∨ c = 69 ∨ c = 83
theorem okL_of {c : UInt8} (h : okB c = true) : OkL c := by
  simp only [okB, Bool.or_eq_true, beq_iff_eq] at h
  unfold OkL
  rcases h with ((h | h) | h) | h <;> simp [h]
theorem okL_opp {c : UInt8} (h : OkL c) : OkL (oppU c) := by rcases h with rfl | rfl | rfl | rfl <;> (unfold OkL; decide)
theorem opp_opp {c : UInt8} (h : OkL c) : oppU (oppU c) = c := by rcases h with rfl | rfl | rfl | rfl <;> decide
theorem okL_let {c : UInt8} (h : OkL c) : ∃ j : Nat, j < 4 ∧ letN c = j := by
  rcases h with rfl | rfl | rfl | rfl
  · exact ⟨0, by omega, by decide⟩
  · exact ⟨1, by omega, by decide⟩
  · exact ⟨2, by omega, by decide⟩
  · exact ⟨3, by omega, by decide⟩
theorem opp_sum {c d : UInt8} (hc : OkL c) (hd : OkL d) : (letN c + letN d = 3) ↔ d = oppU c := by
  rcases hc with rfl | rfl | rfl | rfl <;> rcases hd with rfl | rfl | rfl | rfl <;> decide

/-- A letter comes upon a stack. -/
def pushL (st : List UInt8) (x : UInt8) : List UInt8 :=
  match st with
  | [] => [x]
  | t :: r => if t = oppU x then r else x :: t :: r
def looseL (l : List UInt8) : List UInt8 := l.foldl pushL []
/-- No letter follows its opposite. -/
def Red : List UInt8 → Prop
  | [] => True
  | [_] => True
  | a :: b :: r => b ≠ oppU a ∧ Red (b :: r)
theorem Red.tail {a : UInt8} {r : List UInt8} (h : Red (a :: r)) : Red r := by
  cases r with
  | nil => trivial
  | cons b r => exact h.2
theorem push_ok {st : List UInt8} {x : UInt8} (h : ∀ c ∈ st, OkL c) (hx : OkL x) : ∀ c ∈ pushL st x, OkL c := by
  intro c hc
  unfold pushL at hc
  split at hc
  · simp at hc; subst hc; exact hx
  · split at hc
    · exact h c (List.mem_cons_of_mem _ hc)
    · simp only [List.mem_cons] at hc
      rcases hc with rfl | rfl | hc
      · exact hx
      · exact h _ (by simp)
      · exact h _ (by simp [hc])
theorem push_red {st : List UInt8} {x : UInt8} (h : Red st) : Red (pushL st x) := by
  unfold pushL
  split
  · trivial
  · split
    · exact h.tail
    · exact ⟨by assumption, h⟩
theorem fold_red : ∀ (l st : List UInt8), Red st → Red (l.foldl pushL st)
  | [], _, h => h
  | x :: l, st, h => fold_red l _ (push_red h)
theorem fold_ok : ∀ (l st : List UInt8), (∀ c ∈ l, OkL c) → (∀ c ∈ st, OkL c) → ∀ c ∈ l.foldl pushL st, OkL c
  | [], _, _, h => h
  | x :: l, st, hl, h => fold_ok l _ (fun c hc => hl c (List.mem_cons_of_mem _ hc)) (push_ok h (hl x (by simp)))
theorem push_push {st : List UInt8} {x : UInt8} (h : Red st) (hs : ∀ c ∈ st, OkL c) (hx : OkL x) : pushL (pushL st x) (oppU x) = st := by
  have e := opp_opp hx
  cases st with
  | nil => simp [pushL, e]
  | cons t r =>
    by_cases ht : t = oppU x
    · subst ht
      have h1 : pushL (oppU x :: r) x = r := by simp [pushL]
      rw [h1]
      cases r with
      | nil => rfl
      | cons u r =>
        have hu : u ≠ x := by have := h.1; rwa [e] at this
        simp [pushL, e, hu]
    · simp [pushL, ht, e]
theorem loose_pair (a b : List UInt8) (x : UInt8) (ha : ∀ c ∈ a, OkL c) (hx : OkL x) : looseL (a ++ x :: oppU x :: b) = looseL (a ++ b) := by
  unfold looseL
  rw [List.foldl_append, List.foldl_append, List.foldl_cons, List.foldl_cons, push_push (fold_red a [] trivial) (fold_ok a [] ha (by simp)) hx]
theorem loose_append (a : List UInt8) (x : UInt8) : looseL (a ++ [x]) = pushL (looseL a) x := by simp [looseL, List.foldl_append]
theorem loose_length : ∀ (l st : List UInt8), (l.foldl pushL st).length ≤ st.length + l.length
  | [], _ => by simp
  | x :: l, st => by
    have h1 := loose_length l (pushL st x)
    have h2 : (pushL st x).length ≤ st.length + 1 := by
      unfold pushL
      split
      · simp
      · split <;> simp <;> omega
    simp only [List.foldl_cons, List.length_cons]
    omega
/-- Without a pair nothing goes out. -/
theorem loose_none (l : List UInt8) (hl : ∀ c ∈ l, OkL c) : ∀ k, k ≤ l.length → (∀ q, q + 1 < k → l.getD (q + 1) 0 ≠ oppU (l.getD q 0)) → looseL (l.take k) = (l.take k).reverse
  | 0, _, _ => rfl
  | 1, h, _ => by
    cases l with
    | nil => simp at h
    | cons a l => simp [looseL, pushL]
  | k + 2, h, hq => by
    have ih := loose_none l hl (k + 1) (by omega) (fun q h1 => hq q (by omega))
    have e1 : l.take (k + 2) = l.take (k + 1) ++ [l[k + 1]'(by omega)] := by rw [List.take_add_one, List.getElem?_eq_getElem (by omega)]; rfl
    have e2 : l.take (k + 1) = l.take k ++ [l[k]'(by omega)] := by rw [List.take_add_one, List.getElem?_eq_getElem (by omega)]; rfl
    have hn := hq k (by omega)
    rw [List.getD_eq_getElem?_getD, List.getD_eq_getElem?_getD, List.getElem?_eq_getElem (by omega), List.getElem?_eq_getElem (by omega)] at hn
    simp only [Option.getD_some] at hn
    have hk := hl _ (List.getElem_mem (show k < l.length by omega))
    have hk1 := hl _ (List.getElem_mem (show k + 1 < l.length by omega))
    rw [e1, loose_append, ih, e2]
    simp only [List.reverse_append, List.reverse_cons, List.reverse_nil, List.nil_append, List.singleton_append, pushL]
    rw [if_neg]
    intro he
    apply hn
    rw [he, opp_opp hk1]
theorem loose_whole (l : List UInt8) (hl : ∀ c ∈ l, OkL c) (hq : ∀ q, q + 1 < l.length → l.getD (q + 1) 0 ≠ oppU (l.getD q 0)) : looseL l = l.reverse := by
  have := loose_none l hl l.length (Nat.le_refl _) hq
  rwa [List.take_length] at this
theorem two_at (l : List UInt8) (k : Nat) (h : k + 1 < l.length) : l = l.take k ++ l[k] :: l[k + 1] :: l.drop (k + 2) := by
  have e1 : l.drop k = l[k] :: l.drop (k + 1) := List.drop_eq_getElem_cons (by omega)
  have e2 : l.drop (k + 1) = l[k + 1] :: l.drop (k + 2) := List.drop_eq_getElem_cons h
  rw [← e2, ← e1, List.take_append_drop]
def looseS (s : ByteArray) : ByteArray := if wayC s = 0 then ⟨(looseL s.data.toList).reverse.toArray⟩ else ⟨#[]⟩
theorem way_ok {s : ByteArray} (h : wayC s = 0) : ∀ c ∈ s.data.toList, OkL c := by
  intro c hc
  unfold wayC at h
  split at h
  · cases h
  · split at h
    · rename_i ha
      exact okL_of ((List.all_eq_true.1 ha) c hc)
    · cases h
end Go.Proofs.YtgmahakpmjfhhaaRR
