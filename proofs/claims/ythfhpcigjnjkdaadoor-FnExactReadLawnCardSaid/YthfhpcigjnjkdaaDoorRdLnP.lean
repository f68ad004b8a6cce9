/- Reading a lawn: the pure part. -/
import Derived.Test.YthfhpcigjnjkdaaDoorRdLvP
import Derived.Test.YthfhpcigjnjkdaaDoorSetCell
namespace Go.Proofs.YthfhpcigjnjkdaaDoor
set_option linter.unusedVariables false
set_option linter.unusedSimpArgs false

/-- The kind of a letter, or -1. -/
def kd (b : UInt8) : Int := if b = 46 then 0 else if b = 35 then 1 else if b = 84 then 2 else if b = 61 then 3 else -1
theorem kd_range (b : UInt8) : kd b = -1 ∨ kd b = 0 ∨ kd b = 1 ∨ kd b = 2 ∨ kd b = 3 := by
  unfold kd
  split
  · simp
  split
  · simp
  split
  · simp
  split <;> simp
theorem kd_index (b : UInt8) : Lib.indexByte [46, 35, 84, 61] b = kd b := by
  unfold kd
  by_cases h0 : b = 46
  · subst h0; rfl
  by_cases h1 : b = 35
  · subst h1; rfl
  by_cases h2 : b = 84
  · subst h2; rfl
  by_cases h3 : b = 61
  · subst h3; rfl
  rw [if_neg h0, if_neg h1, if_neg h2, if_neg h3]
  have e0 : ((46 : UInt8) == b) = false := by rw [beq_eq_false_iff_ne]; exact fun h => h0 h.symm
  have e1 : ((35 : UInt8) == b) = false := by rw [beq_eq_false_iff_ne]; exact fun h => h1 h.symm
  have e2 : ((84 : UInt8) == b) = false := by rw [beq_eq_false_iff_ne]; exact fun h => h2 h.symm
  have e3 : ((61 : UInt8) == b) = false := by rw [beq_eq_false_iff_ne]; exact fun h => h3 h.symm
  simp [Lib.indexByte, e0, e1, e2, e3]
theorem split_end {c : UInt8} : ∀ p : List UInt8, splitS c (p ++ [c]) = splitS c p ++ [[]]
  | [] => by simp [splitS]
  | a :: p => by
    have ih := split_end (c := c) p
    simp only [List.cons_append, splitS]
    split
    · rw [ih]; rfl
    · rw [ih]
      cases h : splitS c p with
      | nil => exact absurd h (splitS_ne c p)
      | cons x r => rfl
theorem splitK_short (c : UInt8) : ∀ (k : Nat) (s : List UInt8), (Lib.splitK [c] 0 k s).length ≤ k → Lib.splitK [c] 0 k s = splitS c s
  | 0, s, h => by
    have := List.length_pos_iff.2 (splitK_join c 0 s)
    omega
  | k + 1, s, h => by
    unfold Lib.splitK at h ⊢
    rcases Lib.index_spec s [c] with ⟨h1, h2⟩ | ⟨i, h1, h2, h3, h4⟩
    · rw [h1]
      have hc : c ∉ s := fun hm => by
        obtain ⟨j, hj⟩ := List.getElem?_of_mem hm
        have hl := (List.getElem?_eq_some_iff.1 hj).1
        have := h2 j (by omega)
        rw [Lib.occAt_iff_take _ _ _ (by simp; omega)] at this
        rw [List.drop_eq_getElem_cons hl, (List.getElem?_eq_some_iff.1 hj).2] at this
        simp at this
      rw [splitS_one hc]
      rfl
    · rw [h1] at h ⊢
      have hi := Lib.occAt_head (c := c) (t := []) rfl h3
      have hn : ∀ j, j < i → s[j]? ≠ some c := fun j hj hjc => by
        have hl := (List.getElem?_eq_some_iff.1 hjc).1
        have := h4 j hj
        rw [Lib.occAt_iff_take _ _ _ (by simp; omega)] at this
        rw [List.drop_eq_getElem_cons hl, (List.getElem?_eq_some_iff.1 hjc).2] at this
        simp at this
      obtain ⟨e, hp⟩ := cutP hi hn
      have hs : splitS c s = s.take i :: splitS c (s.drop (i + 1)) := by
        conv => lhs; rw [e]
        exact splitS_cut hp
      rw [if_neg (by simp)] at h ⊢
      simp only [Int.toNat_natCast, Nat.add_zero, List.length_singleton, List.length_cons] at h ⊢
      rw [hs, splitK_short c k _ (by omega)]
      rfl

theorem splitK_le (c : UInt8) : ∀ (k : Nat) (s : List UInt8) {n : Nat}, k + 1 ≤ n → (Lib.splitK [c] 0 k s).length ≤ n
  | 0, s, n, h => by unfold Lib.splitK; simp; omega
  | k + 1, s, n, h => by
    unfold Lib.splitK
    split
    · simp; omega
    · exact Nat.le_trans (Nat.succ_le_succ (splitK_le c k _ (n := n - 1) (by omega))) (by omega)
/-- The width and the height that a text tells. -/
def wdT (t : List UInt8) : Nat := ((splitS 10 t).getD 0 []).length
def hgT (t : List UInt8) : Nat := (splitS 10 t).length - 1
def GoodLn (t : List UInt8) : Prop := (splitS 10 t)[hgT t]? = some [] ∧ (1 ≤ hgT t ∧ hgT t ≤ 10) ∧ (1 ≤ wdT t ∧ wdT t ≤ 10) ∧ ∀ y l, y < hgT t → (splitS 10 t)[y]? = some l → l.length = wdT t ∧ ∀ (x : Nat) b, l[x]? = some b → 0 ≤ kd b
def codeT (t : List UInt8) (y x : Nat) : Int := kd (((splitS 10 t).getD y []).getD x 0)
theorem codeT_get {t l : List UInt8} {y x : Nat} {b : UInt8} (hl : (splitS 10 t)[y]? = some l) (hb : l[x]? = some b) : codeT t y x = kd b := by
  unfold codeT
  simp only [List.getD_eq_getElem?_getD, hl, Option.getD_some, hb]
noncomputable def rnL (t : List UInt8) : Lawn := open Classical in if GoodLn t then ⟨(wdT t : Int), (hgT t : Int), fillC (codeT t) (wdT t) (hgT t) 0⟩ else Lawn.zero
noncomputable def rnC (t : List UInt8) : Int := open Classical in if GoodLn t then 0 else 5
theorem rn_none {t : List UInt8} (h : ¬ GoodLn t) : rnC t = 5 ∧ rnL t = Lawn.zero := by unfold rnC rnL; rw [if_neg h, if_neg h]; exact ⟨rfl, rfl⟩
theorem rn_some {t : List UInt8} (h : GoodLn t) : rnC t = 0 ∧ rnL t = ⟨(wdT t : Int), (hgT t : Int), fillC (codeT t) (wdT t) (hgT t) 0⟩ := by unfold rnC rnL; rw [if_pos h, if_pos h]; exact ⟨rfl, rfl⟩
/-- The first rows are fine. -/
def rowsOk (t : List UInt8) (k : Nat) : Prop := ∀ y l, y < k → (splitS 10 t)[y]? = some l → l.length = wdT t ∧ ∀ (x : Nat) b, l[x]? = some b → 0 ≤ kd b
theorem rowsOk_zero (t : List UInt8) : rowsOk t 0 := fun y l h => by omega
theorem rowsOk_snoc {t l : List UInt8} {k : Nat} (h : rowsOk t k) (hl : (splitS 10 t)[k]? = some l) (h1 : l.length = wdT t) (h2 : ∀ (x : Nat) b, x < l.length → l[x]? = some b → 0 ≤ kd b) : rowsOk t (k + 1) := fun y l' hy hl' => by
  by_cases e : y = k
  · subst e
    rw [hl] at hl'
    cases hl'
    exact ⟨h1, fun x b hb => h2 x b (List.getElem?_eq_some_iff.1 hb).1 hb⟩
  · exact h y l' (by omega) hl'
theorem fill_put {W H k j : Nat} {C : Nat → Nat → Int} (hj : j < W) : (Lawn.put ⟨(W : Int), (H : Int), fillC C W k j⟩ k j (C k j)) = ⟨(W : Int), (H : Int), fillC C W k (j + 1)⟩ := by
  rw [← fillC_set C hj]
  rfl
theorem good_end {t : List UInt8} (h : GoodLn t) : Lib.hasSuffix t [10] = true := by
  obtain ⟨h1, ⟨h2, -⟩, -⟩ := h
  have hl := (List.getElem?_eq_some_iff.1 h1).1
  have e : splitS 10 t = (splitS 10 t).take (hgT t) ++ [[]] := by
    conv => lhs; rw [← List.take_append_drop (hgT t) (splitS 10 t), List.drop_eq_getElem_cons hl, (List.getElem?_eq_some_iff.1 h1).2]
    rw [List.drop_eq_nil_of_le (by unfold hgT at hl ⊢; omega)]
  have ht := join_split 10 t
  rw [e, join_append, if_neg (by
    intro e2
    have := congrArg List.length e2
    rw [List.length_take, List.length_nil] at this
    omega), List.append_nil] at ht
  rw [← ht]
  unfold Lib.hasSuffix
  simp [List.isSuffixOf_iff_suffix]
theorem suffix_cut {t : List UInt8} (h : Lib.hasSuffix t [10] = true) : t = Lib.trimSuffix t [10] ++ [10] := by
  unfold Lib.trimSuffix
  rw [if_pos h]
  unfold Lib.hasSuffix at h
  rw [List.isSuffixOf_iff_suffix] at h
  obtain ⟨p, rfl⟩ := h
  simp
section
variable {t : List UInt8} {ls : List (List UInt8)}
/-- What the program cuts the text into. -/
theorem cut_rows (h : Lib.hasSuffix t [10] = true) (hls : Lib.splitK [10] 0 (min 11 ((Lib.trimSuffix t [10]).length + 1) - 1) (Lib.trimSuffix t [10]) = ls) :
    (ls.length ≤ 10 → splitS 10 t = ls ++ [[]]) ∧ (10 < ls.length → 10 < hgT t) := by
  have e : splitS 10 t = splitS 10 (Lib.trimSuffix t [10]) ++ [[]] := by
    conv => lhs; rw [suffix_cut h]
    exact split_end _
  have hsl := splitS_len 10 (Lib.trimSuffix t [10])
  have hh : hgT t = (splitS 10 (Lib.trimSuffix t [10])).length := by unfold hgT; rw [e]; simp
  refine ⟨fun hl => ?_, fun hl => ?_⟩
  · rw [e]
    congr 1
    rw [← hls] at hl ⊢
    by_cases hb : 11 ≤ (Lib.trimSuffix t [10]).length + 1
    · rw [show min 11 ((Lib.trimSuffix t [10]).length + 1) - 1 = 10 by omega] at hl ⊢
      exact (splitK_short 10 10 _ hl).symm
    · exact (splitK_is 10 _ _ (by omega)).symm
  · rw [hh]
    rcases Nat.lt_or_ge 10 (splitS 10 (Lib.trimSuffix t [10])).length with h2 | h2
    · exact h2
    · have := splitK_is 10 (min 11 ((Lib.trimSuffix t [10]).length + 1) - 1) (Lib.trimSuffix t [10]) (by omega)
      rw [hls] at this
      rw [this] at hl
      omega
end
end Go.Proofs.YthfhpcigjnjkdaaDoor
