/- Reading weeds from a text: the pure part. -/
import Derived.Test.YtojccgaldadcnaaWeedT
namespace Go.Proofs.Ytojccgaldadcnaa
open Go.RowKit
set_option linter.unusedVariables false
set_option linter.unusedSimpArgs false

/-- A text, cut at each letter of one kind. -/
def splitS (c : UInt8) : List UInt8 → List (List UInt8)
  | [] => [[]]
  | a :: t => if a = c then [] :: splitS c t else match splitS c t with
    | [] => [[a]]
    | h :: r => (a :: h) :: r
theorem splitS_cut {c : UInt8} {q : List UInt8} : ∀ {p : List UInt8}, c ∉ p → splitS c (p ++ c :: q) = p :: splitS c q
  | [], _ => by simp [splitS]
  | a :: p, h => by
    have ha : a ≠ c := fun e => h (by simp [e])
    have ih := splitS_cut (c := c) (q := q) (p := p) (fun e => h (by simp [e]))
    simp [splitS, ha, ih]
theorem splitS_one {c : UInt8} : ∀ {p : List UInt8}, c ∉ p → splitS c p = [p]
  | [], _ => by simp [splitS]
  | a :: p, h => by
    have ha : a ≠ c := fun e => h (by simp [e])
    have ih := splitS_one (c := c) (p := p) (fun e => h (by simp [e]))
    simp [splitS, ha, ih]
theorem splitS_ne (c : UInt8) : ∀ t, splitS c t ≠ []
  | [] => by simp [splitS]
  | a :: t => by
    unfold splitS
    split
    · simp
    · split <;> simp
def joinS (c : UInt8) : List (List UInt8) → List UInt8
  | [] => []
  | [a] => a
  | a :: b :: r => a ++ c :: joinS c (b :: r)
theorem join_split (c : UInt8) : ∀ t, joinS c (splitS c t) = t
  | [] => by simp [splitS, joinS]
  | a :: t => by
    have ih := join_split c t
    unfold splitS
    split
    · rename_i e
      cases hs : splitS c t with
      | nil => exact absurd hs (splitS_ne c t)
      | cons h r => rw [hs] at ih; simp [joinS, ih, e]
    · cases hs : splitS c t with
      | nil => exact absurd hs (splitS_ne c t)
      | cons h r =>
        rw [hs] at ih
        cases r with
        | nil => simp [joinS] at ih ⊢; exact ih
        | cons h2 r => simp [joinS] at ih ⊢; exact ih
theorem join_rows (c : UInt8) : ∀ rows : List (List UInt8), joinS c (rows ++ [[]]) = rows.flatMap fun r => r ++ [c]
  | [] => by simp [joinS]
  | a :: rows => by
    have ih := join_rows c rows
    cases rows with
    | nil => simp [joinS]
    | cons b rows =>
      simp only [List.cons_append, joinS, List.flatMap_cons] at ih ⊢
      rw [ih]
      simp
theorem split_rows {c : UInt8} : ∀ {rows : List (List UInt8)}, (∀ r ∈ rows, c ∉ r) → splitS c (rows.flatMap fun r => r ++ [c]) = rows ++ [[]]
  | [], _ => by simp [splitS]
  | a :: rows, h => by
    have ih := split_rows (c := c) (rows := rows) fun r hr => h r (by simp [hr])
    rw [List.flatMap_cons, List.append_assoc, List.singleton_append, splitS_cut (h a (by simp)), ih]
    rfl

theorem rowsG_is (f : Nat → Nat → UInt8) (W H : Nat) : rowsG f W H = ((List.range H).map fun y => (List.range W).map fun x => f y x).flatMap fun r => r ++ [10] := by
  simp [rowsG, List.flatMap_map]
theorem rowsG_ext {f g : Nat → Nat → UInt8} {W H : Nat} (h : ∀ y x, y < H → x < W → f y x = g y x) : rowsG f W H = rowsG g W H := by
  rw [rowsG_is, rowsG_is]
  congr 1
  refine List.map_congr_left fun y hy => List.map_congr_left fun x hx => h y x (List.mem_range.1 hy) (List.mem_range.1 hx)
theorem rowsG_get (f : Nat → Nat → UInt8) (W : Nat) {y x : Nat} (hx : x < W) : ∀ H, y < H → (rowsG f W H)[y * (W + 1) + x]? = some (f y x)
  | k + 1, hy => by
    rw [rowsG_succ]
    have hl := rowsG_len f W k
    rcases Nat.lt_or_ge y k with h | h
    · have : y * (W + 1) + x < k * (W + 1) := by
        have := Nat.mul_le_mul_right (W + 1) (show y + 1 ≤ k from h)
        rw [Nat.succ_mul] at this
        omega
      rw [List.getElem?_append_left (by rw [hl]; exact this)]
      exact rowsG_get f W hx k h
    · obtain rfl : y = k := by omega
      rw [List.getElem?_append_right (by rw [hl]; omega), hl, show y * (W + 1) + x - y * (W + 1) = x by omega, List.getElem?_append_left (by simp [hx])]
      simp [hx]

/-- What is read at the places of the cells. -/
def rdG (W H : Nat) (t : List UInt8) : Nat → Nat → Bool := fun y x => decide (x < W) && (decide (y < H) && (t[y * (W + 1) + x]? == some 119))
/-- What is read from the lines. -/
def lsG (W H : Nat) (ls : List (List UInt8)) : Nat → Nat → Bool := fun y x => decide (x < W) && (decide (y < H) && ((ls[y]?.bind fun r => r[x]?) == some 119))
structure LinesOk (L : Lawn) (W H : Nat) (ls : List (List UInt8)) : Prop where
  len : ls.length = H + 1
  last : ls[H]? = some []
  row : ∀ y, y < H → ∃ r, ls[y]? = some r ∧ r.length = W ∧ ∀ x, x < W → r[x]? = some 119 ∨ r[x]? = some 46
  weed : weedB L (lsG W H ls) = true

theorem lines_text {L : Lawn} {W H : Nat} {t : List UInt8} (h : LinesOk L W H (splitS 10 t)) : lsG W H (splitS 10 t) = rdG W H t ∧ rowsG (letW (rdG W H t)) W H = t := by
  obtain ⟨h1, h2, h3, -⟩ := h
  have ht := join_split 10 t
  generalize splitS 10 t = ls at h1 h2 h3 ht ⊢
  obtain ⟨f, hf⟩ : ∃ f : Nat → Nat → UInt8, f = fun y x => ((ls[y]?.bind fun r => r[x]?).getD 46) := ⟨_, rfl⟩
  have hfv : ∀ y x, y < H → x < W → (ls[y]?.bind fun r => r[x]?) = some (f y x) ∧ (f y x = 119 ∨ f y x = 46) := fun y x hy hx => by
    obtain ⟨r, hr, hl, hv⟩ := h3 y hy
    rcases hv x hx with h | h <;> simp [hf, hr, h]
  have hrows : ls = ((List.range H).map fun y => (List.range W).map fun x => f y x) ++ [[]] := by
    apply List.ext_getElem?
    intro y
    rcases Nat.lt_trichotomy y H with hy | hy | hy
    · rw [List.getElem?_append_left (by simp [hy])]
      obtain ⟨r, hr, hl, hv⟩ := h3 y hy
      rw [hr]
      simp only [List.getElem?_map, List.getElem?_range hy, Option.map_some]
      congr 1
      apply List.ext_getElem?
      intro x
      rcases Nat.lt_or_ge x W with hx | hx
      · have := (hfv y x hy hx).1
        rw [hr] at this
        simp only [Option.bind_some] at this
        rw [this]
        simp [hx]
      · rw [List.getElem?_eq_none (by omega), List.getElem?_eq_none (by simp [hx])]
    · subst hy
      rw [h2, List.getElem?_append_right (by simp)]
      simp
    · rw [List.getElem?_eq_none (by omega), List.getElem?_eq_none (by simp; omega)]
  have htx : t = rowsG f W H := by rw [rowsG_is, ← join_rows, ← hrows, ht]
  have hrd : ∀ y x, y < H → x < W → t[y * (W + 1) + x]? = some (f y x) := fun y x hy hx => by rw [htx]; exact rowsG_get f W hx H hy
  refine ⟨?_, ?_⟩
  · funext y x
    unfold lsG rdG
    by_cases hx : x < W
    · by_cases hy : y < H
      · rw [(hfv y x hy hx).1, hrd y x hy hx]
      · simp [hy]
    · simp [hx]
  · conv => rhs; rw [htx]
    refine rowsG_ext fun y x hy hx => ?_
    unfold letW rdG
    rw [hrd y x hy hx]
    rcases (hfv y x hy hx).2 with h | h <;> simp [h, hx, hy]
theorem text_lines {L : Lawn} {W H : Nat} {g : Nat → Nat → Bool} (hg : ∀ y x, g y x = true → x < W ∧ y < H) (hw : weedB L g = true) : LinesOk L W H (splitS 10 (rowsG (letW g) W H)) ∧ lsG W H (splitS 10 (rowsG (letW g) W H)) = g := by
  have e : splitS 10 (rowsG (letW g) W H) = ((List.range H).map fun y => (List.range W).map fun x => letW g y x) ++ [[]] := by
    rw [rowsG_is]
    refine split_rows fun r hr => ?_
    obtain ⟨y, -, rfl⟩ := List.mem_map.1 hr
    intro hm
    obtain ⟨x, -, hx⟩ := List.mem_map.1 hm
    unfold letW at hx
    split at hx <;> simp at hx
  have hrow : ∀ y, y < H → (((List.range H).map fun y => (List.range W).map fun x => letW g y x) ++ [[]])[y]? = some ((List.range W).map fun x => letW g y x) := fun y hy => by
    rw [List.getElem?_append_left (by simp [hy])]
    simp [hy]
  have hls : lsG W H (splitS 10 (rowsG (letW g) W H)) = g := by
    rw [e]
    funext y x
    unfold lsG
    by_cases hx : x < W
    · by_cases hy : y < H
      · rw [hrow y hy]
        simp only [hx, hy, decide_true, Bool.true_and, Option.bind_some, List.getElem?_map, List.getElem?_range hx, Option.map_some]
        unfold letW
        cases g y x <;> simp
      · cases hgg : g y x with
        | false => simp [hy]
        | true => exact absurd (hg y x hgg).2 hy
    · cases hgg : g y x with
      | false => simp [hx]
      | true => exact absurd (hg y x hgg).1 hx
  refine ⟨⟨?_, ?_, ?_, by rw [hls]; exact hw⟩, hls⟩
  · rw [e]; simp
  · rw [e, List.getElem?_append_right (by simp)]; simp
  · intro y hy
    rw [e]
    refine ⟨_, hrow y hy, by simp, fun x hx => ?_⟩
    simp only [List.getElem?_map, List.getElem?_range hx, Option.map_some]
    unfold letW
    cases g y x <;> simp

/-- What ReadWeeds answers. -/
def readG (L : Lawn) (t : List UInt8) : Nat → Nat → Bool := rdG L.wide.toNat L.high.toNat t
def readC (L : Lawn) (s : ByteArray) : Int := if validB L then (if textW L (readG L s.data.toList) = s then 0 else 5) else 1
def readR (L : Lawn) (s : ByteArray) : Nat → Nat → Bool := if readC L s = 0 then readG L s.data.toList else fun _ _ => false
theorem readG_in {L : Lawn} {t : List UInt8} {y x : Nat} (h : readG L t y x = true) : x < L.wide.toNat ∧ y < L.high.toNat := by
  simp only [readG, rdG, Bool.and_eq_true, decide_eq_true_eq] at h
  exact ⟨h.1, h.2.1⟩
theorem arr_list (s : ByteArray) : (⟨s.data.toList.toArray⟩ : ByteArray) = s := by cases s; simp
theorem readC_good {L : Lawn} {s : ByteArray} (hv : validB L = true) (h : LinesOk L L.wide.toNat L.high.toNat (splitS 10 s.data.toList)) : readC L s = 0 ∧ lsG L.wide.toNat L.high.toNat (splitS 10 s.data.toList) = readR L s := by
  obtain ⟨h1, h2⟩ := lines_text h
  have hw : weedB L (readG L s.data.toList) = true := by have := h.weed; rw [h1] at this; exact this
  have hc : readC L s = 0 := by
    unfold readC
    rw [hv, if_pos rfl, if_pos]
    unfold textW
    rw [hw, if_pos rfl]
    show (⟨(rowsG (letW (rdG _ _ _)) _ _).toArray⟩ : ByteArray) = s
    rw [h2, arr_list]
  exact ⟨hc, by unfold readR; rw [if_pos hc]; exact h1⟩
theorem readC_bad {L : Lawn} {s : ByteArray} (hv : validB L = true) (h : ¬ LinesOk L L.wide.toNat L.high.toNat (splitS 10 s.data.toList)) : readC L s = 5 := by
  unfold readC
  rw [hv, if_pos rfl, if_neg]
  intro he
  cases hw : weedB L (readG L s.data.toList) with
  | true =>
    unfold textW at he
    rw [hw, if_pos rfl] at he
    have := (text_lines (fun y x => readG_in) hw).1
    have e : rowsG (letW (readG L s.data.toList)) L.wide.toNat L.high.toNat = s.data.toList := by have := congrArg (fun b : ByteArray => b.data.toList) he; simpa using this
    rw [e] at this
    exact h this
  | false =>
    unfold textW at he
    rw [hw] at he
    simp only [Bool.false_eq_true, if_false] at he
    have : readG L s.data.toList = fun _ _ => false := by
      rw [← he]
      funext y x
      simp [readG, rdG]
    rw [this, weedB_of hv fun y x _ _ h => by cases h] at hw
    cases hw
end Go.Proofs.Ytojccgaldadcnaa
