/- A cell of a lawn as a pair of numbers. Cells in their order, as a sort by Cell.compare lays them: the pure part. A row of cells that the call has built, sorted in place. -/
import Derived.Test.YtaeenkjbmlgcmaaZB
import Derived.Test.YtaeenkjbmlgcmaaZF
import Derived.Shelf.SlSortCmp.Insertion
import Derived.Test.YtaeenkjbmlgcmaaZG
import Derived.Shelf.SlSortCmp.InsertionK
namespace Go.Proofs.Ytaeenkjbmlgcmaa
open Go.RowKit
set_option linter.unusedVariables false

def ptOf {W H : Nat} (c : Fin W × Fin H) : Pt := ((c.1.val : Int), (c.2.val : Int))
theorem ptOf_inj {W H : Nat} {a b : Fin W × Fin H} (h : ptOf a = ptOf b) : a = b := by
  have h1 := congrArg Prod.fst h
  have h2 := congrArg Prod.snd h
  simp only [ptOf] at h1 h2
  ext <;> omega
theorem allC_nodup (W H : Nat) : (allC W H).Nodup := by
  rw [List.nodup_iff_pairwise_ne, List.pairwise_iff_getElem]
  intro i j hi hj hij he
  have hl := allC_length W H
  have h0 : 0 < W := Nat.pos_of_ne_zero (fun h => by rw [hl, h] at hi; omega)
  have gi := allC_get W H (i / W) (i % W) (Nat.mod_lt _ h0) (by rw [Nat.div_lt_iff_lt_mul h0]; omega)
  have gj := allC_get W H (j / W) (j % W) (Nat.mod_lt _ h0) (by rw [Nat.div_lt_iff_lt_mul h0]; omega)
  have ei : i / W * W + i % W = i := by rw [Nat.mul_comm]; exact Nat.div_add_mod i W
  have ej : j / W * W + j % W = j := by rw [Nat.mul_comm]; exact Nat.div_add_mod j W
  rw [ei, List.getElem?_eq_getElem hi] at gi
  rw [ej, List.getElem?_eq_getElem hj] at gj
  have : (some ((⟨i % W, Nat.mod_lt _ h0⟩, ⟨i / W, by rw [Nat.div_lt_iff_lt_mul h0]; omega⟩) : Fin W × Fin H)) = some (⟨j % W, Nat.mod_lt _ h0⟩, ⟨j / W, by rw [Nat.div_lt_iff_lt_mul h0]; omega⟩) := by rw [← gi, ← gj, he]
  simp only [Option.some.injEq, Prod.mk.injEq, Fin.mk.injEq] at this
  rw [← ei, ← ej, this.1, this.2] at hij
  omega
end Go.Proofs.Ytaeenkjbmlgcmaa

namespace Go.Proofs.Ytaeenkjbmlgcmaa
open Go.RowKit Go.Sort
set_option linter.unusedVariables false

/-- What Cell.compare answers. -/
def cmpPt (a b : Pt) : Int := if Lib.compareInt a.2 b.2 = 0 then Lib.compareInt a.1 b.1 else Lib.compareInt a.2 b.2
def ltPt (a b : Pt) : Bool := decide (a.2 < b.2 ∨ (a.2 = b.2 ∧ a.1 < b.1))
theorem compareInt_cases (x y : Int) : (x < y ∧ Lib.compareInt x y = -1) ∨ (x = y ∧ Lib.compareInt x y = 0) ∨ (y < x ∧ Lib.compareInt x y = 1) := by
  unfold Lib.compareInt
  by_cases h : x < y
  · exact .inl ⟨h, by simp [h]⟩
  · by_cases h2 : y < x
    · exact .inr (.inr ⟨h2, by simp [h, h2]⟩)
    · exact .inr (.inl ⟨by omega, by simp [h, h2]⟩)
theorem ltOf_cmpPt (a b : Pt) : ltOf cmpPt a b = ltPt a b := by
  unfold ltOf ltPt cmpPt
  apply decide_eq_decide.2
  rcases compareInt_cases a.2 b.2 with ⟨h, e⟩ | ⟨h, e⟩ | ⟨h, e⟩
  · rw [if_neg (by rw [e]; decide), e]; omega
  · rw [if_pos e]
    rcases compareInt_cases a.1 b.1 with ⟨h2, e2⟩ | ⟨h2, e2⟩ | ⟨h2, e2⟩ <;> rw [e2] <;> omega
  · rw [if_neg (by rw [e]; decide), e]; omega
theorem swoPt : SWO (ltOf cmpPt) where
  irrefl x := by rw [ltOf_cmpPt]; simp [ltPt]
  trans x y z h1 h2 := by rw [ltOf_cmpPt] at *; simp [ltPt] at *; omega
  ntrans x y z h1 h2 := by rw [ltOf_cmpPt] at *; simp [ltPt] at *; omega
theorem totPt (x y : Pt) (h1 : ltOf cmpPt x y = false) (h2 : ltOf cmpPt y x = false) : x = y := by
  rw [ltOf_cmpPt] at *
  obtain ⟨a, b⟩ := x
  obtain ⟨c, d⟩ := y
  simp [ltPt] at *
  omega

/-- The cells of a list, sorted. -/
def sortC (l : List Pt) : List Pt := l.mergeSort fun x y => !(ltOf cmpPt) y x
theorem sortC_perm (l : List Pt) : (sortC l).Perm l := List.mergeSort_perm l _
theorem sortC_eq {l m : List Pt} (h : l.Perm m) (hs : m.Pairwise fun a b => ltPt a b = true) : sortC l = m := by
  have tr : ∀ a b c : Pt, (!(ltOf cmpPt) b a) = true → (!(ltOf cmpPt) c b) = true → (!(ltOf cmpPt) c a) = true := fun a b c h1 h2 => by
    rw [ltOf_cmpPt] at *; simp [ltPt] at *; omega
  have to : ∀ a b : Pt, ((!(ltOf cmpPt) b a) || (!(ltOf cmpPt) a b)) = true := fun a b => by
    rw [ltOf_cmpPt, ltOf_cmpPt]; simp [ltPt]; omega
  refine List.Perm.eq_of_pairwise (le := fun a b => (!(ltOf cmpPt) b a) = true) (fun a b _ _ h1 h2 => ?_) (List.pairwise_mergeSort tr to l) (hs.imp fun {a b} h => ?_) ((List.mergeSort_perm l _).trans h)
  · exact totPt a b (by simpa using h2) (by simpa using h1)
  · rw [ltOf_cmpPt]
    simp [ltPt] at *
    omega
theorem sortC_of_perm {l m : List Pt} (h : l.Perm m) : sortC l = sortC m := by
  have tr : ∀ a b c : Pt, (!(ltOf cmpPt) b a) = true → (!(ltOf cmpPt) c b) = true → (!(ltOf cmpPt) c a) = true := fun a b c h1 h2 => by
    rw [ltOf_cmpPt] at *; simp [ltPt] at *; omega
  have to : ∀ a b : Pt, ((!(ltOf cmpPt) b a) || (!(ltOf cmpPt) a b)) = true := fun a b => by
    rw [ltOf_cmpPt, ltOf_cmpPt]; simp [ltPt]; omega
  refine List.Perm.eq_of_pairwise (le := fun a b => (!(ltOf cmpPt) b a) = true) (fun a b _ _ h1 h2 => ?_) (List.pairwise_mergeSort tr to l) (List.pairwise_mergeSort tr to m) (((List.mergeSort_perm l _).trans h).trans (List.mergeSort_perm m _).symm)
  exact totPt a b (by simpa using h2) (by simpa using h1)
theorem allC_sorted (W H : Nat) : (allC W H).Pairwise fun a b => ltPt (ptOf a) (ptOf b) = true := by
  unfold allC
  rw [List.pairwise_flatMap]
  constructor
  · intro y _
    rw [List.pairwise_map]
    refine (List.pairwise_lt_finRange W).imp fun {a b} h => ?_
    simp [ltPt, ptOf]
    exact h
  · refine (List.pairwise_lt_finRange H).imp fun {a b} h => ?_
    intro p hp q hq
    simp only [List.mem_map] at hp hq
    obtain ⟨u, -, rfl⟩ := hp
    obtain ⟨v, -, rfl⟩ := hq
    simp [ltPt, ptOf]
    exact .inl h
theorem filt_sorted {W H : Nat} (p : Fin W × Fin H → Bool) : (((allC W H).filter p).map ptOf).Pairwise fun a b => ltPt a b = true := by
  rw [List.pairwise_map]
  exact (allC_sorted W H).sublist List.filter_sublist
/-- A list that has just the cells of a filtered list, each once, sorts to it. -/
theorem sortC_filt {W H : Nat} {l : List Pt} (p : Fin W × Fin H → Bool) (hn : l.Nodup) (hm : ∀ c, c ∈ l ↔ c ∈ ((allC W H).filter p).map ptOf) : sortC l = ((allC W H).filter p).map ptOf := by
  refine sortC_eq ?_ (filt_sorted p)
  refine (List.perm_ext_iff_of_nodup hn ?_).2 hm
  exact (filt_sorted p).imp fun {a b} h => fun e => by subst e; simp [ltPt] at h
end Go.Proofs.Ytaeenkjbmlgcmaa

namespace Go.Proofs.Ytaeenkjbmlgcmaa
open Go.RowKit
set_option linter.unusedVariables false

def encP (c : Pt) : List Value := [.int .i8 c.1, .int .i8 c.2]
theorem flatP_len : ∀ l : List Pt, (flatP l).length = l.length * 2
  | [] => rfl
  | c :: l => by
    have := flatP_len l
    unfold flatP at this ⊢
    simp only [List.flatMap_cons, List.length_append, List.length_cons, List.length_nil, this]
    omega
theorem flatP_at : ∀ (l : List Pt) (j r : Nat), r < 2 → (flatP l)[j * 2 + r]? = (l[j]?).bind fun c => (encP c)[r]?
  | [], j, r, _ => by simp [flatP]
  | c :: l, 0, r, hr => by
    unfold flatP
    rw [List.flatMap_cons, List.getElem?_append_left (by simp; omega)]
    simp [encP]
  | c :: l, j + 1, r, hr => by
    have := flatP_at l j r hr
    unfold flatP at this ⊢
    rw [List.flatMap_cons, List.getElem?_append_right (by simp; omega)]
    simp only [List.length_cons, List.length_nil, List.getElem?_cons_succ]
    rw [← this]
    congr 1
    omega
theorem flatK_cells (l : List Pt) : Sort.flatK encP 2 l.toArray = (flatP l).toArray := by
  apply Array.ext_getElem?
  intro t
  by_cases ht : t < l.length * 2
  · have hd : t / 2 < l.length := by omega
    have hm : t % 2 < 2 := Nat.mod_lt _ (by omega)
    have h1 := flatP_at l (t / 2) (t % 2) hm
    rw [show t / 2 * 2 + t % 2 = t by omega, List.getElem?_eq_getElem hd] at h1
    simp only [Option.bind_some] at h1
    have h2 := Sort.get_flatK encP 2 l.toArray t (by simpa using ht)
    have h3 : t < (Sort.flatK encP 2 l.toArray).size := by simpa using ht
    rw [getElem!_pos _ t h3] at h2
    rw [Array.getElem?_eq_getElem h3, h2]
    rw [List.getElem?_toArray, h1]
    obtain ⟨q, hq⟩ : ∃ q, l[t / 2] = q := ⟨_, rfl⟩
    have h4 : (l.toArray)[t / 2]! = q := by rw [getElem!_pos l.toArray (t / 2) (by simpa using hd), ← hq]; simp
    rw [h4, hq]
    have h5 : t % 2 < (encP q).length := by simp [encP]; omega
    rw [List.getElem?_eq_getElem h5, getElem!_pos (encP q) (t % 2) h5]
  · rw [Array.getElem?_eq_none (by simp; omega), Array.getElem?_eq_none (by simp [flatP_len]; omega)]

theorem own_holdsK {w : World} {base g cap : Nat} {e : TypeId} {ys : List Pt} (h : w.ownsRow base e 2 (.slice (some ⟨g, 0, none⟩) ys.length cap) ys.length (flatP ys)) : Sort.HoldsK encP 2 w g 0 ys.toArray ∧ g < w.heap.size ∧ base ≤ g := by
  rcases h.2 with ⟨h2, -⟩ | ⟨g', cap', cur, he, hb, hg, h1, h2, h3, h4⟩
  · cases h2
  · simp only [Value.slice.injEq, Option.some.injEq, Addr.mk.injEq, true_and, and_true] at he
    obtain ⟨rfl, rfl⟩ := he
    refine ⟨?_, (Array.getElem?_eq_some_iff.1 hg).1, hb⟩
    unfold Sort.HoldsK
    rw [flatK_cells]
    intro j hj
    have hj' : j < (flatP ys).length := by simpa using hj
    refine ⟨?_, by simp [World.frozen?, hg]⟩
    have h5 : (cur.toList.take (ys.length * 2))[j]? = (flatP ys)[j]? := by rw [h4]
    rw [List.getElem?_take_of_lt (by rw [← flatP_len]; exact hj')] at h5
    simp only [World.cell?, hg, Nat.zero_add]
    simp only [Option.isSome_none, Bool.false_eq_true, if_false]
    rw [← Array.getElem?_toList, h5]
    simp [hj']
theorem heap_sortedK {w : World} {g n : Nat} {os : Array Obj} {cur : Array Value} {e : TypeId} {fr : Nat × Nat} (d : Array Pt) (hb : w.heap[g]? = some (.cells cur e fr)) :
    (sortWorldK encP 2 w g 0 n d os).heap[g]? = some (.cells (Sort.putCells id 0 (Sort.flatK encP 2 d) cur) e fr) := by
  have hg : g < w.heap.size := (Array.getElem?_eq_some_iff.1 hb).1
  unfold sortWorldK Sort.putRowK
  rw [Sort.heap_grow_old _ _ (by simpa using hg)]
  simp [Sort.putRow, Sort.mapBlock, Sort.ahead, Array.getElem?_modify, hb, Sort.onCells]
theorem grownBy_sortedK {w : World} {g n : Nat} {os : Array Obj} (d : Array Pt) : w.grownBy (sortWorldK encP 2 w g 0 n d os) (some g) := by
  unfold sortWorldK Sort.putRowK
  refine ⟨rfl, rfl, rfl, by simp, fun k hk hne => ?_⟩
  rw [Sort.heap_grow_old _ _ (by simpa using hk)]
  have : g ≠ k := fun e => hne (by rw [e])
  simp [Sort.putRow, Sort.mapBlock, Sort.ahead, Array.getElem?_modify, this]
theorem own_sortedK {w : World} {base g cap n : Nat} {e : TypeId} {os : Array Obj} {ys zs : List Pt} (h : w.ownsRow base e 2 (.slice (some ⟨g, 0, none⟩) ys.length cap) ys.length (flatP ys)) (hl : zs.length = ys.length) :
    (sortWorldK encP 2 w g 0 n zs.toArray os).ownsRow base e 2 (.slice (some ⟨g, 0, none⟩) ys.length cap) ys.length (flatP zs) := by
  rcases h.2 with ⟨h2, -⟩ | ⟨g', cap', cur, he, hb, hg, h1, h2, h3, h4⟩
  · cases h2
  · simp only [Value.slice.injEq, Option.some.injEq, Addr.mk.injEq, true_and, and_true] at he
    obtain ⟨rfl, rfl⟩ := he
    refine ⟨by rw [flatP_len, hl], .inr ⟨g, cap, _, rfl, hb, heap_sortedK _ hg, h1, h2, by simp [Sort.putCells, h3], ?_⟩⟩
    rw [flatK_cells]
    apply List.ext_getElem?
    intro j
    by_cases hj : j < ys.length * 2
    · rw [List.getElem?_take_of_lt hj, Array.getElem?_toList]
      have : j < (flatP zs).length := by rw [flatP_len, hl]; exact hj
      have : j < cur.size := by rw [h3]; exact Nat.lt_of_lt_of_le hj (Nat.mul_le_mul_right 2 h1)
      simp [Sort.putCells, *]
      exact ⟨_, Array.getElem?_eq_getElem ‹j < cur.size›⟩
    · rw [List.getElem?_take_eq_none (by omega), List.getElem?_eq_none (by rw [flatP_len, hl]; omega)]
end Go.Proofs.Ytaeenkjbmlgcmaa
