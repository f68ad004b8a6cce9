/- Cells in their order, as a sort by Cell.compare lays them: the pure part. -/
import Derived.Test.YtaeenkjbmlgcmaaPtOf
import Derived.Shelf.SlSortCmp.Insertion
namespace Go.Proofs.Ytaeenkjbmlgcmaa
open Go.RowKit Go.Sort
set_option linter.unusedVariables false

/-- What Cell.compare answers. -/
def cmpPt (a b : Pt) : Int := if Lib.compareInt a.2 b.2 = 0 then Lib.compareInt a.1 b.1 else Lib.compareInt a.2 b.2
def ltPt (a b : Pt) : Bool := decide (a.2 < b.2 ∨ (a.2 = b.2 ∧ a.1 < b.1))
theorem compareInt_cases (x y : Int) : (x < y ∧ Lib.compareInt x y = -1) ∨ (x = y ∧ Lib.compareInt x y = 0) ∨ (y < x ∧ Lib.compareInt x y = 1) := by
  unfold Lib.compareInt
  by_cases h : x < y
  · exact .inl ⟨h, by simp [h]⟩
  · by_cases h2 : y < x
    · exact .inr (.inr ⟨h2, by simp [h, h2]⟩)
    · exact .inr (.inl ⟨by omega, by simp [h, h2]⟩)
theorem ltOf_cmpPt (a b : Pt) : ltOf cmpPt a b = ltPt a b := by
  unfold ltOf ltPt cmpPt
  apply decide_eq_decide.2
  rcases compareInt_cases a.2 b.2 with ⟨h, e⟩ | ⟨h, e⟩ | ⟨h, e⟩
  · rw [if_neg (by rw [e]; decide), e]; omega
  · rw [if_pos e]
    rcases compareInt_cases a.1 b.1 with ⟨h2, e2⟩ | ⟨h2, e2⟩ | ⟨h2, e2⟩ <;> rw [e2] <;> omega
  · rw [if_neg (by rw [e]; decide), e]; omega
theorem swoPt : SWO (ltOf cmpPt) where
  irrefl x := by rw [ltOf_cmpPt]; simp [ltPt]
  trans x y z h1 h2 := by rw [ltOf_cmpPt] at *; simp [ltPt] at *; omega
  ntrans x y z h1 h2 := by rw [ltOf_cmpPt] at *; simp [ltPt] at *; omega
theorem totPt (x y : Pt) (h1 : ltOf cmpPt x y = false) (h2 : ltOf cmpPt y x = false) : x = y := by
  rw [ltOf_cmpPt] at *
  obtain ⟨a, b⟩ := x
  obtain ⟨c, d⟩ := y
  simp [ltPt] at *
  omega

/-- The cells of a list, sorted. -/
def sortC (l : List Pt) : List Pt := l.mergeSort fun x y => !(ltOf cmpPt) y x
theorem sortC_perm (l : List Pt) : (sortC l).Perm l := List.mergeSort_perm l _
theorem sortC_eq {l m : List Pt} (h : l.Perm m) (hs : m.Pairwise fun a b => ltPt a b = true) : sortC l = m := by
  have tr : ∀ a b c : Pt, (!(ltOf cmpPt) b a) = true → (!(ltOf cmpPt) c b) = true → (!(ltOf cmpPt) c a) = true := fun a b c h1 h2 => by
    rw [ltOf_cmpPt] at *; simp [ltPt] at *; omega
  have to : ∀ a b : Pt, ((!(ltOf cmpPt) b a) || (!(ltOf cmpPt) a b)) = true := fun a b => by
    rw [ltOf_cmpPt, ltOf_cmpPt]; simp [ltPt]; omega
  refine List.Perm.eq_of_pairwise (le := fun a b => (!(ltOf cmpPt) b a) = true) (fun a b _ _ h1 h2 => ?_) (List.pairwise_mergeSort tr to l) (hs.imp fun {a b} h => ?_) ((List.mergeSort_perm l _).trans h)
  · exact totPt a b (by simpa using h2) (by simpa using h1)
  · rw [ltOf_cmpPt]
    simp [ltPt] at *
    omega
theorem sortC_of_perm {l m : List Pt} (h : l.Perm m) : sortC l = sortC m := by
  have tr : ∀ a b c : Pt, (!(ltOf cmpPt) b a) = true → (!(ltOf cmpPt) c b) = true → (!(ltOf cmpPt) c a) = true := fun a b c h1 h2 => by
    rw [ltOf_cmpPt] at *; simp [ltPt] at *; omega
  have to : ∀ a b : Pt, ((!(ltOf cmpPt) b a) || (!(ltOf cmpPt) a b)) = true := fun a b => by
    rw [ltOf_cmpPt, ltOf_cmpPt]; simp [ltPt]; omega
  refine List.Perm.eq_of_pairwise (le := fun a b => (!(ltOf cmpPt) b a) = true) (fun a b _ _ h1 h2 => ?_) (List.pairwise_mergeSort tr to l) (List.pairwise_mergeSort tr to m) (((List.mergeSort_perm l _).trans h).trans (List.mergeSort_perm m _).symm)
  exact totPt a b (by simpa using h2) (by simpa using h1)
theorem allC_sorted (W H : Nat) : (allC W H).Pairwise fun a b => ltPt (ptOf a) (ptOf b) = true := by
  unfold allC
  rw [List.pairwise_flatMap]
  constructor
  · intro y _
    rw [List.pairwise_map]
    refine (List.pairwise_lt_finRange W).imp fun {a b} h => ?_
    simp [ltPt, ptOf]
    exact h
  · refine (List.pairwise_lt_finRange H).imp fun {a b} h => ?_
    intro p hp q hq
    simp only [List.mem_map] at hp hq
    obtain ⟨u, -, rfl⟩ := hp
    obtain ⟨v, -, rfl⟩ := hq
    simp [ltPt, ptOf]
    exact .inl h
theorem filt_sorted {W H : Nat} (p : Fin W × Fin H → Bool) : (((allC W H).filter p).map ptOf).Pairwise fun a b => ltPt a b = true := by
  rw [List.pairwise_map]
  exact (allC_sorted W H).sublist List.filter_sublist
/-- A list that has just the cells of a filtered list, each once, sorts to it. -/
theorem sortC_filt {W H : Nat} {l : List Pt} (p : Fin W × Fin H → Bool) (hn : l.Nodup) (hm : ∀ c, c ∈ l ↔ c ∈ ((allC W H).filter p).map ptOf) : sortC l = ((allC W H).filter p).map ptOf := by
  refine sortC_eq ?_ (filt_sorted p)
  refine (List.perm_ext_iff_of_nodup hn ?_).2 hm
  exact (filt_sorted p).imp fun {a b} h => fun e => by subst e; simp [ltPt] at h
end Go.Proofs.Ytaeenkjbmlgcmaa
