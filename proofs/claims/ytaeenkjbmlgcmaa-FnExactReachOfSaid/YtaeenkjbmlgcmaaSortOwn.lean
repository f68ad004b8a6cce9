/- A row of cells that the call has built, sorted in place. -/
import Derived.Test.YtaeenkjbmlgcmaaKeysP
import Derived.Test.YtaeenkjbmlgcmaaZG
import Derived.Test.YtaeenkjbmlgcmaaZB
import Derived.Shelf.SlSortCmp.InsertionK
namespace Go.Proofs.Ytaeenkjbmlgcmaa
open Go.RowKit
set_option linter.unusedVariables false

def encP (c : Pt) : List Value := [.int .i8 c.1, .int .i8 c.2]
theorem flatP_len : ∀ l : List Pt, (flatP l).length = l.length * 2
  | [] => rfl
  | c :: l => by
    have := flatP_len l
    unfold flatP at this ⊢
    simp only [List.flatMap_cons, List.length_append, List.length_cons, List.length_nil, this]
    omega
theorem flatP_at : ∀ (l : List Pt) (j r : Nat), r < 2 → (flatP l)[j * 2 + r]? = (l[j]?).bind fun c => (encP c)[r]?
  | [], j, r, _ => by simp [flatP]
  | c :: l, 0, r, hr => by
    unfold flatP
    rw [List.flatMap_cons, List.getElem?_append_left (by simp; omega)]
    simp [encP]
  | c :: l, j + 1, r, hr => by
    have := flatP_at l j r hr
    unfold flatP at this ⊢
    rw [List.flatMap_cons, List.getElem?_append_right (by simp; omega)]
    simp only [List.length_cons, List.length_nil, List.getElem?_cons_succ]
    rw [← this]
    congr 1
    omega
theorem flatK_cells (l : List Pt) : Sort.flatK encP 2 l.toArray = (flatP l).toArray := by
  apply Array.ext_getElem?
  intro t
  by_cases ht : t < l.length * 2
  · have hd : t / 2 < l.length := by omega
    have hm : t % 2 < 2 := Nat.mod_lt _ (by omega)
    have h1 := flatP_at l (t / 2) (t % 2) hm
    rw [show t / 2 * 2 + t % 2 = t by omega, List.getElem?_eq_getElem hd] at h1
    simp only [Option.bind_some] at h1
    have h2 := Sort.get_flatK encP 2 l.toArray t (by simpa using ht)
    have h3 : t < (Sort.flatK encP 2 l.toArray).size := by simpa using ht
    rw [getElem!_pos _ t h3] at h2
    rw [Array.getElem?_eq_getElem h3, h2]
    rw [List.getElem?_toArray, h1]
    obtain ⟨q, hq⟩ : ∃ q, l[t / 2] = q := ⟨_, rfl⟩
    have h4 : (l.toArray)[t / 2]! = q := by rw [getElem!_pos l.toArray (t / 2) (by simpa using hd), ← hq]; simp
    rw [h4, hq]
    have h5 : t % 2 < (encP q).length := by simp [encP]; omega
    rw [List.getElem?_eq_getElem h5, getElem!_pos (encP q) (t % 2) h5]
  · rw [Array.getElem?_eq_none (by simp; omega), Array.getElem?_eq_none (by simp [flatP_len]; omega)]

theorem own_holdsK {w : World} {base g cap : Nat} {e : TypeId} {ys : List Pt} (h : w.ownsRow base e 2 (.slice (some ⟨g, 0, none⟩) ys.length cap) ys.length (flatP ys)) : Sort.HoldsK encP 2 w g 0 ys.toArray ∧ g < w.heap.size ∧ base ≤ g := by
  rcases h.2 with ⟨h2, -⟩ | ⟨g', cap', cur, he, hb, hg, h1, h2, h3, h4⟩
  · cases h2
  · simp only [Value.slice.injEq, Option.some.injEq, Addr.mk.injEq, true_and, and_true] at he
    obtain ⟨rfl, rfl⟩ := he
    refine ⟨?_, (Array.getElem?_eq_some_iff.1 hg).1, hb⟩
    unfold Sort.HoldsK
    rw [flatK_cells]
    intro j hj
    have hj' : j < (flatP ys).length := by simpa using hj
    refine ⟨?_, by simp [World.frozen?, hg]⟩
    have h5 : (cur.toList.take (ys.length * 2))[j]? = (flatP ys)[j]? := by rw [h4]
    rw [List.getElem?_take_of_lt (by rw [← flatP_len]; exact hj')] at h5
    simp only [World.cell?, hg, Nat.zero_add]
    simp only [Option.isSome_none, Bool.false_eq_true, if_false]
    rw [← Array.getElem?_toList, h5]
    simp [hj']
theorem heap_sortedK {w : World} {g n : Nat} {os : Array Obj} {cur : Array Value} {e : TypeId} {fr : Nat × Nat} (d : Array Pt) (hb : w.heap[g]? = some (.cells cur e fr)) :
    (sortWorldK encP 2 w g 0 n d os).heap[g]? = some (.cells (Sort.putCells id 0 (Sort.flatK encP 2 d) cur) e fr) := by
  have hg : g < w.heap.size := (Array.getElem?_eq_some_iff.1 hb).1
  unfold sortWorldK Sort.putRowK
  rw [Sort.heap_grow_old _ _ (by simpa using hg)]
  simp [Sort.putRow, Sort.mapBlock, Sort.ahead, Array.getElem?_modify, hb, Sort.onCells]
theorem grownBy_sortedK {w : World} {g n : Nat} {os : Array Obj} (d : Array Pt) : w.grownBy (sortWorldK encP 2 w g 0 n d os) (some g) := by
  unfold sortWorldK Sort.putRowK
  refine ⟨rfl, rfl, rfl, by simp, fun k hk hne => ?_⟩
  rw [Sort.heap_grow_old _ _ (by simpa using hk)]
  have : g ≠ k := fun e => hne (by rw [e])
  simp [Sort.putRow, Sort.mapBlock, Sort.ahead, Array.getElem?_modify, this]
theorem own_sortedK {w : World} {base g cap n : Nat} {e : TypeId} {os : Array Obj} {ys zs : List Pt} (h : w.ownsRow base e 2 (.slice (some ⟨g, 0, none⟩) ys.length cap) ys.length (flatP ys)) (hl : zs.length = ys.length) :
    (sortWorldK encP 2 w g 0 n zs.toArray os).ownsRow base e 2 (.slice (some ⟨g, 0, none⟩) ys.length cap) ys.length (flatP zs) := by
  rcases h.2 with ⟨h2, -⟩ | ⟨g', cap', cur, he, hb, hg, h1, h2, h3, h4⟩
  · cases h2
  · simp only [Value.slice.injEq, Option.some.injEq, Addr.mk.injEq, true_and, and_true] at he
    obtain ⟨rfl, rfl⟩ := he
    refine ⟨by rw [flatP_len, hl], .inr ⟨g, cap, _, rfl, hb, heap_sortedK _ hg, h1, h2, by simp [Sort.putCells, h3], ?_⟩⟩
    rw [flatK_cells]
    apply List.ext_getElem?
    intro j
    by_cases hj : j < ys.length * 2
    · rw [List.getElem?_take_of_lt hj, Array.getElem?_toList]
      have : j < (flatP zs).length := by rw [flatP_len, hl]; exact hj
      have : j < cur.size := by rw [h3]; exact Nat.lt_of_lt_of_le hj (Nat.mul_le_mul_right 2 h1)
      simp [Sort.putCells, *]
      exact ⟨_, Array.getElem?_eq_getElem ‹j < cur.size›⟩
    · rw [List.getElem?_take_eq_none (by omega), List.getElem?_eq_none (by rw [flatP_len, hl]; omega)]
end Go.Proofs.Ytaeenkjbmlgcmaa
