/- The search, of the model: what is plain. -/
import Derived.Test.YtaeenkjbmlgcmaaZH
import Derived.Test.YtaeenkjbmlgcmaaZG
import Derived.Test.YtaeenkjbmlgcmaaZD
namespace Go.Proofs.Ytaeenkjbmlgcmaa
open Go.RowKit
set_option linter.unusedVariables false
attribute [local go_sem ↓] loadRow loadGrid loadLawn loadMirror storeRow storeGrid storeLawn allocRow allocGrid allocLawn buildZero buildSides loadG64 storeG64 allocG64 buildG64

/-- The steps to all places. -/
def gridF (F : Found) (y x : Nat) : Int := stepsAt F x y
def passG (L : Lawn) (grass : Bool) (c : Pt) : Bool := if grass then grassP L c else openP L c
theorem passG_near {L : Lawn} (hv : validB L = true) (grass : Bool) (c : Pt) (h : passG L grass c = true) : (0 ≤ c.1 ∧ c.1 < 10) ∧ 0 ≤ c.2 ∧ c.2 < 10 := by
  cases grass
  · exact openP_near hv c h
  · exact grassP_near hv c h
theorem passG_in {L : Lawn} (grass : Bool) (c : Pt) (h : isB L c.1 c.2 = false) : passG L grass c = false := by
  cases grass <;> simp [passG, openP, openB, grassP, grassB, h]
def fill1 (k j y x : Nat) : Int := if y < k ∨ y = k ∧ x < j then -1 else 0
theorem fill1_succ (k j : Nat) : grid64 (upd (fill1 k j) k j (-1)) = grid64 (fill1 k (j + 1)) := grid64_ext fun y x _ _ => by
  unfold upd fill1
  by_cases h : y = k ∧ x = j
  · rw [if_pos h, if_pos (by omega)]
  · rw [if_neg h]
    by_cases h2 : y < k ∨ y = k ∧ x < j
    · rw [if_pos h2, if_pos (by omega)]
    · rw [if_neg h2, if_neg (by omega)]
theorem fill1_row (k : Nat) : grid64 (fill1 k 10) = grid64 (fill1 (k + 1) 0) := grid64_ext fun y x _ _ => by
  unfold fill1
  by_cases h2 : y < k ∨ y = k ∧ x < 10
  · rw [if_pos h2, if_pos (by omega)]
  · rw [if_neg h2, if_neg (by omega)]
theorem gridF_start (sx sy : Nat) : grid64 (upd (fill1 10 0) sy sx 0) = grid64 (gridF [(((sx : Int), (sy : Int)), 0)]) := grid64_ext fun y x hy hx => by
  unfold upd fill1 gridF stepsAt
  simp only [alLook]
  by_cases h : y = sy ∧ x = sx
  · obtain ⟨rfl, rfl⟩ := h
    simp
  · rw [if_neg h, if_pos (by omega), if_neg (by simp only [Prod.mk.injEq]; omega)]
    rfl
theorem gridF_new {F : Found} {cx cy : Nat} {v : Int} (h : alLook F ((cx : Int), (cy : Int)) = none) : grid64 (upd (gridF F) cy cx v) = grid64 (gridF (F ++ [(((cx : Int), (cy : Int)), v)])) := grid64_ext fun y x hy hx => by
  have hl : ∀ (G : Found) (k : Pt), alLook (G ++ [(((cx : Int), (cy : Int)), v)]) k = (alLook G k).or (if k = ((cx : Int), (cy : Int)) then some v else none) := by
    intro G k
    induction G with
    | nil => simp [alLook]
    | cons p G ih =>
      obtain ⟨a, u⟩ := p
      simp only [List.cons_append, alLook]
      by_cases e : k = a <;> simp [e, ih]
  unfold upd gridF stepsAt
  rw [hl]
  by_cases e : y = cy ∧ x = cx
  · obtain ⟨rfl, rfl⟩ := e
    rw [if_pos ⟨rfl, rfl⟩, h]
    simp
  · rw [if_neg e, if_neg (by simp only [Prod.mk.injEq]; omega)]
    simp

/-- The found cells, once the first j cells beside one have been looked at. -/
def nextK (pass : Pt → Bool) (F : Found) (d : Int) (N : List Pt) (j : Nat) : Found := (N.take j).foldl (visit pass d) F
theorem nextK_zero (pass : Pt → Bool) (F : Found) (d : Int) (N : List Pt) : nextK pass F d N 0 = F := by simp [nextK]
theorem nextK_succ {pass : Pt → Bool} {F : Found} {d : Int} {N : List Pt} {j : Nat} {c : Pt} (h : N[j]? = some c) : nextK pass F d N (j + 1) = visit pass d (nextK pass F d N j) c := by
  unfold nextK
  rw [List.take_add_one, h, Option.toList_some, List.foldl_append]
  rfl
theorem nextK_grows (pass : Pt → Bool) (F : Found) (d : Int) (N : List Pt) (j : Nat) : ∃ G, nextK pass F d N j = F ++ G := visits_grow pass d _ F
theorem nextK_good {pass : Pt → Bool} {s : Pt} (hs : pass s = true) {i : Nat} {p : Pt × Int} (h : (found pass s i)[i]? = some p) (N : List Pt) (j : Nat) : Good pass (nextK pass (found pass s i) p.2 N j) := by
  have hg := found_good hs i
  have hv := hg.val i p h
  have hl := (List.getElem?_eq_some_iff.1 h).1
  exact visits_good _ hg hv.1 (by omega)
theorem nextK_look {pass : Pt → Bool} {s : Pt} (hs : pass s = true) {i : Nat} {p : Pt × Int} (h : (found pass s i)[i]? = some p) (N : List Pt) (j : Nat) : alLook (nextK pass (found pass s i) p.2 N j) p.1 = some p.2 := by
  refine alLook_mem (nextK_good hs h N j).nodup ?_
  obtain ⟨G, hG⟩ := nextK_grows pass (found pass s i) p.2 N j
  rw [hG]
  exact List.mem_append_left _ (List.mem_of_getElem? h)
theorem nextK_first {pass : Pt → Bool} {s : Pt} {i : Nat} {p : Pt × Int} (h : (found pass s i)[i]? = some p) (N : List Pt) (j : Nat) : (nextK pass (found pass s i) p.2 N j)[i]? = some p := by
  obtain ⟨G, hG⟩ := nextK_grows pass (found pass s i) p.2 N j
  rw [hG, List.getElem?_append_left (List.getElem?_eq_some_iff.1 h).1]
  exact h
theorem nextK_all {L : Lawn} (grass : Bool) {s : Pt} {i : Nat} {x y d : Int} (h : (found (passG L grass) s i)[i]? = some ((x, y), d)) : nextK (passG L grass) (found (passG L grass) s i) d (besideK L x y 4) (besideK L x y 4).length = found (passG L grass) s (i + 1) := by
  unfold nextK besideK
  rw [List.take_length, visits_filter (fun c => isB L c.1 c.2) (fun c hc => passG_in grass c hc), List.take_of_length_le (by simp [beside])]
  conv => rhs; unfold found
  rw [h]
  rfl
theorem besideK_in {L : Lawn} {x y : Int} {j : Nat} {c : Pt} (h : (besideK L x y 4)[j]? = some c) : isB L c.1 c.2 = true := by
  have := List.mem_of_getElem? h
  unfold besideK at this
  exact (List.mem_filter.1 this).2
theorem good_some {pass : Pt → Bool} {F : Found} (h : Good pass F) {c : Pt} {v : Int} (hc : alLook F c = some v) : 0 ≤ v := by
  have key : ∀ {G : Found} {c : Pt} {v : Int}, alLook G c = some v → (c, v) ∈ G := by
    intro G
    induction G with
    | nil => intro c v h; cases h
    | cons p G ih =>
      obtain ⟨a, u⟩ := p
      intro c v h
      unfold alLook at h
      split at h
      · rename_i e; cases h; subst e; simp
      · exact List.mem_cons_of_mem _ (ih h)
  obtain ⟨j, hj⟩ := List.getElem?_of_mem (key hc)
  exact (h.val j _ hj).1
theorem grown_put (w : World) (g i : Nat) (v : Value) : w.grownBy (w.setCell ⟨g, i, none⟩ v) (some g) := grown_set (grown_refl w _) i v
theorem flatP_fst_len (F : Found) : (flatP (F.map (·.1))).length = F.length * 2 := by rw [flatP_length]; simp

end Go.Proofs.Ytaeenkjbmlgcmaa
