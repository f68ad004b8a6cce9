/- Rows of rows of cells: how a program owns them. -/
import Derived.Test.YtaeenkjbmlgcmaaZC
import Derived.Test.YtaeenkjbmlgcmaaZB
namespace Go.Proofs.Ytaeenkjbmlgcmaa
open Go.RowKit
set_option linter.unusedVariables false

/-- Rows of cells, each in a block of its own, in a row that is owned. -/
def RowsAt (w : World) (B : Nat) (v : Value) (hs : List Value) (rows : List (List Value)) : Prop :=
  w.ownsRow B 45 1 v rows.length hs ∧
  (∀ (i : Nat) h xs, hs[i]? = some h → rows[i]? = some xs → w.ownsRow B 37 2 h (xs.length / 2) xs) ∧
  (∀ (i j : Nat) h h', i ≠ j → hs[i]? = some h → hs[j]? = some h' → h.ownBlock = none ∨ h.ownBlock ≠ h'.ownBlock)
def RowsC (w : World) (B : Nat) (v : Value) (rows : List (List Value)) : Prop := ∃ hs, RowsAt w B v hs rows
theorem RowsAt.length {w : World} {B : Nat} {v : Value} {hs : List Value} {rows : List (List Value)} (h : RowsAt w B v hs rows) : hs.length = rows.length := by
  have := h.1.1
  simpa using this
theorem RowsAt.get {w : World} {B : Nat} {v : Value} {hs : List Value} {rows : List (List Value)} (h : RowsAt w B v hs rows) {i : Nat} (hi : i < rows.length) : ∃ r xs, hs[i]? = some r ∧ rows[i]? = some xs ∧ w.ownsRow B 37 2 r (xs.length / 2) xs := by
  have hl := h.length
  exact ⟨hs[i], rows[i], List.getElem?_eq_getElem (by omega), List.getElem?_eq_getElem hi, h.2.1 i _ _ (List.getElem?_eq_getElem (by omega)) (List.getElem?_eq_getElem hi)⟩
/-- Rows of other types lie apart. -/
theorem own_kinds {w : World} {B B' : Nat} {e e' : TypeId} {size size' n n' : Nat} {v v' : Value} {xs xs' : List Value} (h : w.ownsRow B e size v n xs) (h' : w.ownsRow B' e' size' v' n' xs') (he : e ≠ e') : v.ownBlock = none ∨ v.ownBlock ≠ v'.ownBlock := by
  rcases h.2 with ⟨rfl, -⟩ | ⟨g, cap, cur, rfl, -, hg, -⟩
  · exact .inl rfl
  · refine .inr fun hk => ?_
    rcases h'.2 with ⟨rfl, -⟩ | ⟨g', cap', cur', rfl, -, hg', -⟩
    · simp [Value.ownBlock] at hk
    · simp only [Value.ownBlock, Option.some.injEq] at hk
      subst hk
      rw [hg] at hg'
      simp only [Option.some.injEq, Obj.cells.injEq] at hg'
      exact he hg'.2.1
theorem RowsAt.kept {w w' : World} {B : Nat} {v : Value} {hs : List Value} {rows : List (List Value)} {row : Option Nat} (h : RowsAt w B v hs rows) (hg : w.grownBy w' row) (hr : ∀ k, row = some k → k < B) : RowsAt w' B v hs rows := by
  have ap : ∀ {e : TypeId} {size n : Nat} {u : Value} {xs : List Value}, w.ownsRow B e size u n xs → u.ownBlock = none ∨ u.ownBlock ≠ row := fun {e size n u xs} ho => by
    cases hu : u.ownBlock with
    | none => exact .inl rfl
    | some k =>
      refine .inr fun he => ?_
      have h1 := own_far ho k hu
      have h2 := hr k he.symm
      omega
  exact ⟨h.1.kept hg (ap h.1), fun i r xs h1 h2 => (h.2.1 i r xs h1 h2).kept hg (ap (h.2.1 i r xs h1 h2)), h.2.2⟩
theorem RowsAt.below {w w' : World} {B : Nat} {v : Value} {hs : List Value} {rows : List (List Value)} (h : RowsAt w B v hs rows) (hb : Below w.heap.size w w') : RowsAt w' B v hs rows :=
  h.kept (row := none) ⟨hb.os, hb.tape, hb.output, hb.size, fun k hk _ => hb.block k hk⟩ (by simp)
theorem RowsAt.only {w w' : World} {B : Nat} {v : Value} {hs : List Value} {rows : List (List Value)} {T : List Nat} (h : RowsAt w B v hs rows) (hO : Only T w w') (hv : ∀ k, v.ownBlock = some k → k ∉ T) (hr : ∀ r ∈ hs, ∀ k, r.ownBlock = some k → k ∉ T) : RowsAt w' B v hs rows :=
  ⟨hO.own h.1 hv, fun i r xs h1 h2 => hO.own (h.2.1 i r xs h1 h2) (hr r (List.mem_of_getElem? h1)), h.2.2⟩
theorem RowsAt.low {w : World} {A B : Nat} {v : Value} {hs : List Value} {rows : List (List Value)} (h : RowsAt w B v hs rows) (hb : A ≤ B) : RowsAt w A v hs rows :=
  ⟨ownsRow_low h.1 hb, fun i r xs h1 h2 => ownsRow_low (h.2.1 i r xs h1 h2) hb, h.2.2⟩
theorem RowsC.below {w w' : World} {B : Nat} {v : Value} {rows : List (List Value)} (h : RowsC w B v rows) (hb : Below w.heap.size w w') : RowsC w' B v rows := by
  obtain ⟨hs, h⟩ := h
  exact ⟨hs, h.below hb⟩
theorem RowsC.low {w : World} {A B : Nat} {v : Value} {rows : List (List Value)} (h : RowsC w B v rows) (hb : A ≤ B) : RowsC w A v rows := by
  obtain ⟨hs, h⟩ := h
  exact ⟨hs, h.low hb⟩
theorem RowsC.slice {w : World} {B : Nat} {v : Value} {rows : List (List Value)} (h : RowsC w B v rows) : ∃ a c, v = .slice a rows.length c := by
  obtain ⟨hs, h⟩ := h
  exact own_slice h.1
theorem RowsAt.empty (w : World) (B : Nat) : RowsAt w B (.slice none 0 0) [] [] := ⟨World.ownsRow_nil _ _ _ _, by simp, by simp⟩
theorem typesApart : 45 ≠ 37 := by decide
/-- One row more. -/
theorem RowsAt.more {w w' : World} {B : Nat} {v v' : Value} {hs : List Value} {rows : List (List Value)} {r : Value} {xs : List Value} (h : RowsAt w B v hs rows) (hr : w.ownsRow B 37 2 r (xs.length / 2) xs)
    (hn : ∀ (i : Nat) u, hs[i]? = some u → (u.ownBlock = none ∨ u.ownBlock ≠ r.ownBlock) ∧ (r.ownBlock = none ∨ r.ownBlock ≠ u.ownBlock)) (hg : w.grownBy w' v.ownBlock) (ho : w'.ownsRow B 45 1 v' (rows.length + 1) (hs ++ [r])) : RowsAt w' B v' (hs ++ [r]) (rows ++ [xs]) := by
  have hl := h.length
  have kp : ∀ {n : Nat} {u : Value} {ys : List Value}, w.ownsRow B 37 2 u n ys → w'.ownsRow B 37 2 u n ys := fun {n u ys} hu => hu.kept hg (own_kinds hu h.1 typesApart.symm)
  refine ⟨by simpa using ho, fun i u ys h1 h2 => ?_, fun i j u u' hij h1 h2 => ?_⟩
  · rcases Nat.lt_or_ge i rows.length with hi | hi
    · rw [List.getElem?_append_left (by omega)] at h1 h2
      exact kp (h.2.1 i u ys h1 h2)
    · have hi2 := (List.getElem?_eq_some_iff.1 h1).1
      simp at hi2
      obtain rfl : i = rows.length := by omega
      rw [List.getElem?_append_right (by omega), hl] at h1
      rw [List.getElem?_append_right (by omega)] at h2
      simp at h1 h2
      subst h1; subst h2
      exact kp hr
  · have h1l := (List.getElem?_eq_some_iff.1 h1).1
    have h2l := (List.getElem?_eq_some_iff.1 h2).1
    simp at h1l h2l
    rcases Nat.lt_or_ge i hs.length with hi | hi
    · rw [List.getElem?_append_left hi] at h1
      rcases Nat.lt_or_ge j hs.length with hj | hj
      · rw [List.getElem?_append_left hj] at h2
        exact h.2.2 i j u u' hij h1 h2
      · obtain rfl : j = hs.length := by omega
        simp at h2
        subst h2
        exact (hn i u h1).1
    · obtain rfl : i = hs.length := by omega
      simp at h1
      subst h1
      rw [List.getElem?_append_left (by omega)] at h2
      exact (hn j u' h2).2
/-- A row that is made later lies apart from those before. -/
theorem RowsAt.fresh {w w' : World} {B B' n : Nat} {v r : Value} {hs : List Value} {rows : List (List Value)} {xs : List Value} (h : RowsAt w B v hs rows) (hs' : w.heap.size ≤ B') (hr : w'.ownsRow B' 37 2 r n xs) (i : Nat) (u : Value) (hu : hs[i]? = some u) : (u.ownBlock = none ∨ u.ownBlock ≠ r.ownBlock) ∧ (r.ownBlock = none ∨ r.ownBlock ≠ u.ownBlock) := by
  have hl := h.length
  have hi := (List.getElem?_eq_some_iff.1 hu).1
  have ho := h.2.1 i u _ hu (List.getElem?_eq_getElem (show i < rows.length by omega))
  cases hk : u.ownBlock with
  | none => exact ⟨.inl rfl, by cases r.ownBlock <;> simp⟩
  | some k =>
    have h1 := (ho.lt k hk).2
    have hne : r.ownBlock ≠ some k := fun he => by have := own_far hr k he; omega
    exact ⟨.inr fun he => hne he.symm, .inr hne⟩
/-- One row is exchanged in place. -/
theorem RowsAt.set {w w' : World} {B : Nat} {v r : Value} {hs : List Value} {rows : List (List Value)} {i : Nat} {xs ys : List Value} (h : RowsAt w B v hs rows) (hr : hs[i]? = some r) (hx : rows[i]? = some xs) (hl : ys.length = xs.length) (hg : w.grownBy w' r.ownBlock) (ho : w'.ownsRow B 37 2 r (xs.length / 2) ys) : RowsAt w' B v hs (rows.set i ys) := by
  refine ⟨by simpa using h.1.kept hg (own_kinds h.1 (h.2.1 i r xs hr hx) typesApart), fun j u zs h1 h2 => ?_, h.2.2⟩
  rw [List.getElem?_set] at h2
  split at h2
  · rename_i e
    subst e
    split at h2
    · cases h2
      rw [hr] at h1
      cases h1
      rw [hl]
      exact ho
    · cases h2
  · rename_i e
    exact (h.2.1 j u zs h1 h2).kept hg (h.2.2 j i u r (by omega) h1 hr)
theorem RowsAt.far {w : World} {B : Nat} {v r : Value} {hs : List Value} {rows : List (List Value)} {i : Nat} (h : RowsAt w B v hs rows) (hr : hs[i]? = some r) : ∀ k, r.ownBlock = some k → B ≤ k := by
  have hl := h.length
  have hi := (List.getElem?_eq_some_iff.1 hr).1
  exact own_far (h.2.1 i r _ hr (List.getElem?_eq_getElem (show i < rows.length by omega)))

/-- The marks of rows. -/
def marksSS (k : Nat) : List (List Value) → List (List Value)
  | [] => []
  | xs :: r => marks8 k (xs.length / 2 * 2) :: marksSS (k + 2 * (xs.length / 2)) r
def sumSS : List (List Value) → Nat
  | [] => 0
  | xs :: r => 2 * (xs.length / 2) + sumSS r
theorem marksSS_length : ∀ (k : Nat) (rows : List (List Value)), (marksSS k rows).length = rows.length
  | k, [] => rfl
  | k, xs :: r => by simp [marksSS, marksSS_length]
theorem marksSS_get : ∀ (k : Nat) (rows : List (List Value)) (i : Nat) (xs : List Value), rows[i]? = some xs → (marksSS k rows)[i]? = some (marks8 (k + sumSS (rows.take i)) (xs.length / 2 * 2))
  | k, [], i, xs, h => by simp at h
  | k, ys :: r, 0, xs, h => by
    simp at h
    subst h
    simp [marksSS, sumSS]
  | k, ys :: r, i + 1, xs, h => by
    have ih := marksSS_get (k + 2 * (ys.length / 2)) r i xs (by simpa using h)
    simp only [marksSS, List.getElem?_cons_succ, List.take_succ_cons, sumSS]
    rw [ih]
    congr 2
    omega
theorem sumSS_succ : ∀ (rows : List (List Value)) (i : Nat) (xs : List Value), rows[i]? = some xs → sumSS (rows.take (i + 1)) = sumSS (rows.take i) + 2 * (xs.length / 2)
  | [], i, xs, h => by simp at h
  | ys :: r, 0, xs, h => by
    simp at h
    subst h
    simp [sumSS]
  | ys :: r, i + 1, xs, h => by
    have ih := sumSS_succ r i xs (by simpa using h)
    simp only [List.take_succ_cons, sumSS] at ih ⊢
    omega
theorem sumSS_le (m : Nat) : ∀ (rows : List (List Value)), (∀ xs ∈ rows, xs.length ≤ m) → sumSS rows ≤ rows.length * m
  | [], _ => by simp [sumSS]
  | xs :: r, h => by
    have ih := sumSS_le m r fun ys hy => h ys (by simp [hy])
    have := h xs (by simp)
    simp only [sumSS, List.length_cons, Nat.add_mul, Nat.one_mul]
    omega
/-- Rows of which the first i are marked. -/
def markedSS (ms rows : List (List Value)) (i : Nat) : List (List Value) := ms.take i ++ rows.drop i
theorem markedSS_get {ms rows : List (List Value)} {i : Nat} {xs : List Value} (hl : ms.length = rows.length) (h : rows[i]? = some xs) : (markedSS ms rows i)[i]? = some xs := by
  have := (List.getElem?_eq_some_iff.1 h).1
  unfold markedSS
  rw [List.getElem?_append_right (by simp; omega)]
  simpa [show min i ms.length = i by omega] using h
theorem markedSS_set {ms rows : List (List Value)} {i : Nat} {ys : List Value} (hl : ms.length = rows.length) (h : ms[i]? = some ys) : (markedSS ms rows i).set i ys = markedSS ms rows (i + 1) := by
  have hlt := (List.getElem?_eq_some_iff.1 h).1
  unfold markedSS
  rw [List.set_append_right _ _ (by simp; omega)]
  rw [List.take_add_one, h]
  simp only [List.length_take, Option.toList_some, List.append_assoc]
  congr 1
  rw [show i - min i ms.length = 0 by omega, List.drop_eq_getElem_cons (by omega : i < rows.length)]
  rfl
theorem markedSS_length (ms rows : List (List Value)) (i : Nat) (h : ms.length = rows.length) : (markedSS ms rows i).length = rows.length := by simp [markedSS]; omega
theorem markedSS_none (ms rows : List (List Value)) : markedSS ms rows 0 = rows := by simp [markedSS]
theorem markedSS_all (ms rows : List (List Value)) (h : ms.length = rows.length) : markedSS ms rows rows.length = ms := by simp [markedSS, ← h]
end Go.Proofs.Ytaeenkjbmlgcmaa
