/- A round of the search, side by side. -/
import Derived.Test.YtgmahakpmjfhhaaRRSearch
namespace Go.Proofs.YtgmahakpmjfhhaaRR
set_option linter.unusedVariables false

/-- The found cells, once k sides of a cell have been looked at. -/
def sideK (pass : Pt → Bool) (F : Found) (p : Pt × Int) (k : Nat) : Found := ((beside p.1).take k).foldl (visit pass p.2) F
theorem sideK_zero (pass : Pt → Bool) (F : Found) (p : Pt × Int) : sideK pass F p 0 = F := by simp [sideK]
theorem sideK_succ {pass : Pt → Bool} {F : Found} {p : Pt × Int} {k : Nat} {c : Pt} (h : (beside p.1)[k]? = some c) : sideK pass F p (k + 1) = visit pass p.2 (sideK pass F p k) c := by
  unfold sideK
  rw [List.take_add_one, h, Option.toList_some, List.foldl_append]
  rfl
theorem sideK_all {pass : Pt → Bool} {s : Pt} {i : Nat} {p : Pt × Int} (h : (found pass s i)[i]? = some p) : sideK pass (found pass s i) p 4 = found pass s (i + 1) := by
  unfold sideK
  rw [List.take_of_length_le (by simp [beside])]
  conv => rhs; unfold found
  rw [h]
  rfl
theorem sideK_grows (pass : Pt → Bool) (F : Found) (p : Pt × Int) (k : Nat) : ∃ G, sideK pass F p k = F ++ G := visits_grow pass p.2 _ F
theorem sideK_good {pass : Pt → Bool} {s : Pt} (hs : pass s = true) {i : Nat} {p : Pt × Int} (h : (found pass s i)[i]? = some p) (k : Nat) : Good pass (sideK pass (found pass s i) p k) := by
  have hg := found_good hs i
  have hv := hg.val i p h
  have hl := (List.getElem?_eq_some_iff.1 h).1
  exact visits_good _ hg hv.1 (by omega)
theorem sideK_look {pass : Pt → Bool} {s : Pt} (hs : pass s = true) {i : Nat} {p : Pt × Int} (h : (found pass s i)[i]? = some p) (k : Nat) : alLook (sideK pass (found pass s i) p k) p.1 = some p.2 := by
  refine alLook_mem (sideK_good hs h k).nodup ?_
  obtain ⟨G, hG⟩ := sideK_grows pass (found pass s i) p k
  rw [hG]
  exact List.mem_append_left _ (List.mem_of_getElem? h)
theorem visit_skip {pass : Pt → Bool} {d : Int} {F : Found} {c : Pt} (h : (alLook F c).isSome = true ∨ pass c = false) : visit pass d F c = F := by
  unfold visit
  rcases h with h | h <;> simp [h]
theorem visit_new {pass : Pt → Bool} {d : Int} {F : Found} {c : Pt} (h : alLook F c = none) (hp : pass c = true) : visit pass d F c = F ++ [(c, d + 1)] := by
  unfold visit
  simp [h, hp]
/-- Cells that don't pass may be left out. -/
theorem visits_filter {pass : Pt → Bool} {d : Int} (q : Pt → Bool) (hq : ∀ c, q c = false → pass c = false) : ∀ (cs : List Pt) (F : Found), (cs.filter q).foldl (visit pass d) F = cs.foldl (visit pass d) F
  | [], F => rfl
  | c :: cs, F => by
    cases h : q c
    · rw [List.filter_cons_of_neg (by simp [h]), List.foldl_cons, visit_skip (.inr (hq c h))]
      exact visits_filter q hq cs F
    · rw [List.filter_cons_of_pos h, List.foldl_cons, List.foldl_cons]
      exact visits_filter q hq cs _
theorem beside_far {c : Pt} (h : (0 ≤ c.1 ∧ c.1 < 10) ∧ 0 ≤ c.2 ∧ c.2 < 10) {d : Pt} (hd : d ∈ beside c) : (-1 ≤ d.1 ∧ d.1 ≤ 10) ∧ -1 ≤ d.2 ∧ d.2 ≤ 10 := by
  simp only [beside, List.mem_cons, List.not_mem_nil, or_false] at hd
  rcases hd with rfl | rfl | rfl | rfl <;> simp only <;> omega
theorem found_grows {pass : Pt → Bool} {s : Pt} (n : Nat) : ∃ G, found pass s (n + 1) = found pass s n ++ G := by
  conv => enter [1, G]; lhs; unfold found
  split
  · exact visits_grow pass _ _ _
  · exact ⟨[], by simp⟩
end Go.Proofs.YtgmahakpmjfhhaaRR
