/- The cells of the way home. -/
import Derived.Test.YtaeenkjbmlgcmaaSHomeF
namespace Go.Proofs.Ytaeenkjbmlgcmaa
open Go.RowKit
set_option linter.unusedVariables false
set_option linter.unusedSimpArgs false

theorem letN_letB {k : Nat} (hk : k < 4) : letN (letB k) = (k : Int) := by
  have : k = 0 ∨ k = 1 ∨ k = 2 ∨ k = 3 := by omega
  rcases this with rfl | rfl | rfl | rfl <;> decide
theorem okB_letB (k : Nat) : okB (letB k) = true := by
  unfold letB
  split
  · decide
  · split
    · decide
    · split <;> decide
theorem step_let {c : Pt} {k : Nat} (hk : k < 4) : stepL c (letB k) = stepW c k := by
  have h := letN_letB hk
  have : k = 0 ∨ k = 1 ∨ k = 2 ∨ k = 3 := by omega
  unfold stepL
  rw [h]
  rcases this with rfl | rfl | rfl | rfl <;> simp [stepW]
theorem wayS_list (v : List Nat) : (wayS v).data.toList = v.map letB := by simp [wayS]
theorem posK_cons (a : Pt) (b : UInt8) (l : List UInt8) : ∀ i, posK a (b :: l) (i + 1) = posK (stepL a b) l i
  | 0 => rfl
  | i + 1 => by
    have ih := posK_cons a b l i
    show stepL (posK a (b :: l) (i + 1)) ((b :: l).getD (i + 1) 0) = stepL (posK (stepL a b) l i) (l.getD i 0)
    rw [ih]
    rfl
theorem pos_next (a : Pt) (v : List Nat) (i : Nat) (k : Nat) (h : v[i]? = some k) (hk : k < 4) : posK a (v.map letB) (i + 1) = stepW (posK a (v.map letB) i) k := by
  show stepL (posK a (v.map letB) i) ((v.map letB).getD i 0) = _
  rw [List.getD_eq_getElem?_getD, List.getElem?_map, h]
  exact step_let hk
theorem walk_pos {pass : Pt → Bool} {h : Pt} : ∀ (v : List Nat) (a : Pt), pass a = true → WalkW pass a v h → ∀ i, i ≤ v.length → pass (posK a (v.map letB) i) = true
  | _, a, ha, _, 0, _ => ha
  | [], a, ha, _, i + 1, hi => by simp at hi
  | k :: v, a, ha, hw, i + 1, hi => by
    obtain ⟨h1, h2, h3⟩ := hw
    rw [List.map_cons, posK_cons, step_let h1]
    exact walk_pos v _ h2 h3 i (by simpa using hi)
/-- The cells of the way home, the first one included. -/
def backW (L : Lawn) (a h : Pt) : List Pt := cellsK a (homeS L a h).data.toList ((homeS L a h).size + 1)
section
variable {L : Lawn} (hv : validB L = true) {h : Pt} (hh : openP L h = true) {a : Pt} (ha : openP L a = true) (hd : 0 ≤ homeD L h a)
include hv hh ha hd
theorem home_size_le : (homeS L a h).size ≤ 100 := by
  have h1 := homeS_size hv hh ha hd
  have h2 := homeD_le hv hh (c := a)
  omega
theorem wayC_home : wayC (homeS L a h) = 0 := by
  have h1 := home_size_le hv hh ha hd
  unfold wayC
  rw [if_neg (by omega), if_pos]
  unfold homeS
  rw [wayS_list, List.all_eq_true]
  intro x hx
  obtain ⟨k, -, rfl⟩ := List.mem_map.1 hx
  exact okB_letB k
theorem home_walk : ∃ V : List Nat, homeS L a h = wayS V ∧ WalkW (openP L) a V h := by
  obtain ⟨f, hf⟩ : ∃ f : Nat, homeD L h a = (f : Int) := ⟨(homeD L h a).toNat, by omega⟩
  obtain ⟨g1, -⟩ := greedy_best hv hh f a ha hf
  refine ⟨greedyW L h f a, ?_, g1⟩
  unfold homeS
  rw [hf, Int.toNat_natCast]
theorem gone_home : GoneIs (fun j => openP L (posK a (homeS L a h).data.toList j)) (homeS L a h).size ((homeS L a h).size + 1) := by
  obtain ⟨V, e, hg⟩ := home_walk hv hh ha hd
  rw [e]
  refine ⟨Nat.le_refl _, fun j hj => ?_, fun h => by omega⟩
  rw [wayS_size] at hj
  rw [wayS_list]
  exact walk_pos V a ha hg j (by omega)
end
theorem backW_is {L : Lawn} {a h : Pt} {f : Nat} (hd : homeD L h a = (f : Int)) (hl : (greedyW L h f a).length = f) : backW L a h = cellsK a ((greedyW L h f a).map letB) (f + 1) := by
  unfold backW homeS
  rw [hd, Int.toNat_natCast]
  generalize greedyW L h f a = V at hl
  rw [wayS_list, wayS_size, hl]
def backL (L : Lawn) (a h : Pt) : List Pt := if homeC L a.1 a.2 h.1 h.2 = 0 then backW L a h else []
theorem homeC_zero {L : Lawn} {x y hx hy : Int} (h : homeC L x y hx hy = 0) : validB L = true ∧ openP L (x, y) = true ∧ openP L (hx, hy) = true ∧ 0 ≤ homeD L (hx, hy) (x, y) := by
  unfold homeC at h
  by_cases h0 : openC L x y hx hy = 0
  · rw [if_pos h0] at h
    obtain ⟨h1, -, h2, h3⟩ := openC_zero h0
    refine ⟨h1, h2, h3, ?_⟩
    by_cases hn : homeD L (hx, hy) (x, y) < 0
    · rw [if_pos hn] at h; omega
    · omega
  · rw [if_neg h0] at h; exact absurd h h0
theorem backL_len (L : Lawn) (a h : Pt) : (backL L a h).length ≤ 101 := by
  unfold backL
  split
  · rename_i h0
    obtain ⟨h1, h2, h3, h4⟩ := homeC_zero h0
    have := home_size_le h1 h3 h2 h4
    unfold backW cellsK
    simp
    omega
  · simp
/-- Of the cells beside one, the first that is nearer to home is the way's next. -/
theorem greedy_beside {L : Lawn} (hv : validB L = true) {h c : Pt} (hh : openP L h = true) {f : Nat} (hd : homeD L h c = (f : Int) + 1) : ∃ i j, j < 4 ∧ (besideK L c.1 c.2 4)[i]? = some (stepW c j) ∧ openP L (stepW c j) = true ∧ homeD L h (stepW c j) = f ∧ greedyW L h (f + 1) c = j :: greedyW L h f (stepW c j) ∧ ∀ (i' : Nat) c', i' < i → (besideK L c.1 c.2 4)[i']? = some c' → homeD L h c' ≠ f := by
  obtain ⟨j, hj, hjo, hjd, hjg, hjm⟩ := greedy_step hv hh hd
  have hopen : ∀ d : Pt, homeD L h d = (f : Int) → openP L d = true := fun d hd => by
    have hm := mem_steps (L := L) (a := h) (c := d) (by unfold homeD at hd; omega)
    exact (found_good (pass := openP L) hh 100).pass _ hm
  have hisP : ∀ d : Pt, openP L d = true → isB L d.1 d.2 = true := fun d hd => by
    unfold openP openB at hd
    simp only [Bool.and_eq_true] at hd
    exact hd.1
  have hfind : (beside c).find? (fun d => decide (homeD L h d = (f : Int))) = some (stepW c j) := by
    rw [List.find?_eq_some_iff_getElem]
    refine ⟨by simp [hjd], j, by simp [beside]; omega, ?_, fun i hi => ?_⟩
    · have h1 := side_step (c := c) hj
      rw [List.getElem?_eq_some_iff] at h1
      exact h1.2
    · have h1 := side_step (c := c) (k := i) (by omega)
      rw [List.getElem?_eq_some_iff] at h1
      have h2 := hjm i hi
      rw [h1.2]
      by_cases h3 : homeD L h (stepW c i) = (f : Int)
      · rw [hopen _ h3, h3] at h2
        simp at h2
      · simp [h3]
  have hfilt : (besideK L c.1 c.2 4).find? (fun d => decide (homeD L h d = (f : Int))) = some (stepW c j) := by
    unfold besideK
    rw [List.take_of_length_le (by simp [beside]), List.find?_filter]
    have e : (fun d : Pt => decide (isB L d.1 d.2 = true ∧ (decide (homeD L h d = (f : Int))) = true)) = fun d => decide (homeD L h d = (f : Int)) := by
      funext d
      by_cases h3 : homeD L h d = (f : Int)
      · simp [h3, hisP d (hopen d h3)]
      · simp [h3]
    rw [e]
    exact hfind
  rw [List.find?_eq_some_iff_getElem] at hfilt
  obtain ⟨-, i, hi, e, hmin⟩ := hfilt
  refine ⟨i, j, hj, by rw [List.getElem?_eq_getElem hi, e], hjo, hjd, hjg, fun i' c' h1 h2 => ?_⟩
  have h3 := hmin i' h1
  rw [List.getElem?_eq_some_iff] at h2
  obtain ⟨h4, h5⟩ := h2
  rw [h5] at h3
  simpa using h3
end Go.Proofs.Ytaeenkjbmlgcmaa
