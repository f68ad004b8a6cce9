/- The marks that a law writes into an answer, and the look whether they still stand there. -/
import Derived.Test.YtgmahakpmjfhhaaRROnly
import Derived.Test.YtgmahakpmjfhhaaRRAll
namespace Go.Proofs.YtgmahakpmjfhhaaRR
open Go.RowKit
set_option linter.unusedVariables false

theorem own_set {w : World} {B : Nat} {e : TypeId} {size n g cap : Nat} {xs : List Value} (h : w.ownsRow B e size (.slice (some ⟨g, 0, none⟩) n cap) n xs) (i : Nat) (u : Value) (hi : i < xs.length) :
    (w.setCell ⟨g, i, none⟩ u).ownsRow B e size (.slice (some ⟨g, 0, none⟩) n cap) n (xs.set i u) := by
  obtain ⟨hl, h2⟩ := h
  refine ⟨by simpa using hl, ?_⟩
  rcases h2 with ⟨h0, -⟩ | ⟨g', cap', cur, he, hb, hg, hn, hm, hs, ht⟩
  · simp at h0
  · simp only [Value.slice.injEq, Option.some.injEq, Addr.mk.injEq] at he
    obtain ⟨⟨rfl, -⟩, -, rfl⟩ := he
    refine .inr ⟨g, cap, cur.setIfInBounds i u, rfl, hb, heap_setCell_same w g i cur e u hg, hn, hm, by simpa using hs, ?_⟩
    rw [← ht, Array.toList_setIfInBounds, List.take_set]
theorem own_free {w : World} {B : Nat} {e : TypeId} {size n g cap : Nat} {xs : List Value} (h : w.ownsRow B e size (.slice (some ⟨g, 0, none⟩) n cap) n xs) (j : Nat) : w.frozen? ⟨g, j, none⟩ = false := by
  rcases h.2 with ⟨h0, -⟩ | ⟨g', cap', cur, he, hb, hg, -⟩
  · simp at h0
  · simp only [Value.slice.injEq, Option.some.injEq, Addr.mk.injEq] at he
    obtain ⟨⟨rfl, -⟩, -, rfl⟩ := he
    simp [World.frozen?, hg]
theorem own_lt {w : World} {B : Nat} {e : TypeId} {size n g cap : Nat} {xs : List Value} (h : w.ownsRow B e size (.slice (some ⟨g, 0, none⟩) n cap) n xs) : B ≤ g ∧ g < w.heap.size := by
  rcases h.2 with ⟨h0, -⟩ | ⟨g', cap', cur, he, hb, hg, -⟩
  · simp at h0
  · simp only [Value.slice.injEq, Option.some.injEq, Addr.mk.injEq] at he
    obtain ⟨⟨rfl, -⟩, -, rfl⟩ := he
    exact ⟨hb, (Array.getElem?_eq_some_iff.1 hg).1⟩

/-- Numbers from k on, as int8. -/
def marks8 (k m : Nat) : List Value := (List.range m).map fun j : Nat => .int .i8 (IntKind.i8.wrap ((k : Int) + j))
def marks64 (k m : Nat) : List Value := (List.range m).map fun j : Nat => .int .i64 ((k : Int) + j)
@[simp] theorem marks8_length (k m : Nat) : (marks8 k m).length = m := by simp [marks8]
@[simp] theorem marks64_length (k m : Nat) : (marks64 k m).length = m := by simp [marks64]
theorem marks8_get (k m j : Nat) (h : j < m) : (marks8 k m)[j]? = some (.int .i8 (IntKind.i8.wrap ((k : Int) + j))) := by simp [marks8, h]
theorem marks64_get (k m j : Nat) (h : j < m) : (marks64 k m)[j]? = some (.int .i64 ((k : Int) + j)) := by simp [marks64, h]
/-- A list whose first i members are marks. -/
def marked (ms xs : List Value) (i : Nat) : List Value := ms.take i ++ xs.drop i
theorem marked_length (ms xs : List Value) (i : Nat) (h : ms.length = xs.length) : (marked ms xs i).length = xs.length := by simp [marked]; omega
theorem marked_set (ms xs : List Value) (i : Nat) (u : Value) (h : ms.length = xs.length) (hi : ms[i]? = some u) : (marked ms xs i).set i u = marked ms xs (i + 1) := by
  have hlt := (List.getElem?_eq_some_iff.1 hi).1
  unfold marked
  rw [List.set_append_right _ _ (by simp; omega)]
  rw [List.take_add_one, hi]
  simp only [List.length_take, Option.toList_some, List.append_assoc]
  congr 1
  rw [show i - min i ms.length = 0 by omega, List.drop_eq_getElem_cons (by omega : i < xs.length)]
  rfl
theorem marked_all (ms xs : List Value) (h : ms.length = xs.length) : marked ms xs ms.length = ms := by simp [marked, List.drop_eq_nil_of_le (Nat.le_of_eq h.symm)]
theorem marked_none (ms xs : List Value) : marked ms xs 0 = xs := by simp [marked]

theorem own_mark {w : World} {B : Nat} {e : TypeId} {size n g cap : Nat} {ms xs : List Value} {i : Nat} {u : Value} (h : w.ownsRow B e size (.slice (some ⟨g, 0, none⟩) n cap) n (marked ms xs i)) (hl : ms.length = xs.length) (hu : ms[i]? = some u) :
    (w.setCell ⟨g, i, none⟩ u).ownsRow B e size (.slice (some ⟨g, 0, none⟩) n cap) n (marked ms xs (i + 1)) := by
  have hlt := (List.getElem?_eq_some_iff.1 hu).1
  rw [← marked_set ms xs i u hl hu]
  exact own_set h i u (by rw [marked_length _ _ _ hl]; omega)
theorem grown_set {w w' : World} {g : Nat} (h : w.grownBy w' (some g)) (i : Nat) (u : Value) : w.grownBy (w'.setCell ⟨g, i, none⟩ u) (some g) :=
  ⟨h.os, h.tape, h.output, by have := h.size; simpa using this, fun k hk hr => (Below.heap_setCell w' ⟨g, i, none⟩ u k (fun e => hr (by rw [e]))).trans (h.block k hk hr)⟩
theorem grown_refl (w : World) (row : Option Nat) : w.grownBy w row := ⟨rfl, rfl, rfl, Nat.le_refl _, fun _ _ _ => rfl⟩
theorem own_apart {w w' : World} {B B' : Nat} {e e' : TypeId} {size size' n n' : Nat} {v v' : Value} {xs xs' : List Value} (h : w.ownsRow B e size v n xs) (hs : w.heap.size ≤ B') (h' : w'.ownsRow B' e' size' v' n' xs') : v.ownBlock = none ∨ v.ownBlock ≠ v'.ownBlock := by
  cases hv : v.ownBlock with
  | none => exact .inl rfl
  | some k =>
    refine .inr fun he => ?_
    have h1 := (h.lt k hv).2
    have h2 := own_far h' k he.symm
    omega
theorem held_grown {W W' : World} {b B : Nat} {cs : Array Value} {e : TypeId} {size n : Nat} {v : Value} {xs : List Value} (h : Holds W b cs) (ho : W.ownsRow B e size v n xs) (hg : W.grownBy W' v.ownBlock) (hb : b < B) : Holds W' b cs := by
  have hl := h.lt
  obtain ⟨t, ht⟩ := h
  refine ⟨t, (hg.block b hl fun hk => ?_).trans ht⟩
  have := own_far ho b hk.symm
  omega
theorem below_marked {W W' : World} {A B : Nat} {w : World} {e : TypeId} {size n : Nat} {v : Value} {xs : List Value} (h : Below A w W) (ho : W.ownsRow B e size v n xs) (hg : W.grownBy W' v.ownBlock) (hb : A ≤ B) (hA : A ≤ W.heap.size) : Below A w W' :=
  h.grown hg hA fun k hk => Nat.le_trans hb (own_far ho k hk)
/-- The turn of a block of deferred calls leaves what is owned. -/
theorem own_putD {W : World} {D B : Nat} {o o' : Obj} {e : TypeId} {size n : Nat} {v : Value} {xs : List Value} (h : W.ownsRow B e size v n xs) (hK : W.heap[D]? = some o) (ho : o.isCells = false := by rfl) : (W.putObj D o').ownsRow B e size v n xs := by
  refine World.ownsRow.kept h (grownBy_putObj' W D o') ?_
  rcases h.2 with ⟨he, -⟩ | ⟨g, cap, cur, he, hb, hgg, -⟩
  · rw [he]; exact .inl rfl
  · rw [he]
    refine .inr fun hgD => ?_
    simp only [Value.ownBlock, Option.some.injEq] at hgD
    subst hgD
    rw [hgg] at hK
    cases hK
    cases ho
end Go.Proofs.YtgmahakpmjfhhaaRR
