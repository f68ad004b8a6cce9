/- How many holes there are: what both sides count. -/
import Derived.Test.YtaeenkjbmlgcmaaHoleP
import Derived.Test.YtaeenkjbmlgcmaaZK
namespace Go.Proofs.Ytaeenkjbmlgcmaa
open Go.RowKit
set_option linter.unusedVariables false
set_option linter.unusedSimpArgs false

/-- A cell at the edge of the lawn. -/
def edgeB (L : Lawn) (c : Pt) : Bool := c.1 == 0 || c.2 == 0 || c.1 == L.wide - 1 || c.2 == L.high - 1
theorem bump_four (f : Sd) (k : Nat) : bump f k 4 = f 4 + if k = 4 then 1 else 0 := by
  unfold bump sdSet
  by_cases h : k = 4
  · subst h; simp
  · rw [if_neg (by omega), if_neg h]; omega
theorem lies_four {L : Lawn} (hv : validB L = true) (d : Pt) : lies L d = 4 ↔ isB L d.1 d.2 = false := by
  cases h : isB L d.1 d.2 with
  | true =>
    obtain ⟨n, hn, e, -⟩ := kind_lies hv d h
    rw [e]
    simp
    omega
  | false => simp [lies, h]
theorem sides_four {L : Lawn} (c : Pt) : sidesL L c 4 = (if lies L (c.1, c.2 - 1) = 4 then 1 else 0) + (if lies L (c.1 - 1, c.2) = 4 then 1 else 0) + (if lies L (c.1 + 1, c.2) = 4 then 1 else 0) + (if lies L (c.1, c.2 + 1) = 4 then 1 else 0) := by
  unfold sidesL sidesTo beside
  simp only [List.take_succ_cons, List.take_zero, List.foldl_cons, List.foldl_nil, bump_four]
  omega
/-- A side where nothing lies is one at the edge. -/
theorem edge_sides {L : Lawn} (hv : validB L = true) {c : Pt} (hc : isB L c.1 c.2 = true) : decide (0 < sidesL L c 4) = edgeB L c := by
  have hin := isB_in hc
  have e : ∀ x y : Int, (lies L (x, y) = 4) ↔ ¬ (0 ≤ x ∧ x < L.wide ∧ 0 ≤ y ∧ y < L.high) := fun x y => by
    rw [lies_four hv]
    constructor
    · intro h h2
      have : isB L x y = true := by
        simp only [isB, inB, Bool.and_eq_true, decide_eq_true_eq]
        omega
      dsimp only at h
      rw [this] at h
      cases h
    · intro h
      cases h2 : isB L x y with
      | false => rfl
      | true =>
        have := isB_in h2
        exact absurd (by omega) h
  rw [sides_four]
  unfold edgeB
  rw [Bool.eq_iff_iff]
  simp only [decide_eq_true_eq, Bool.or_eq_true, beq_iff_eq, e]
  obtain ⟨x, y⟩ := c
  dsimp only at hin ⊢
  split <;> split <;> split <;> split <;> omega

section
variable (pass edge : Pt → Bool) (A : List Pt)
open Classical in
/-- A cell where a hole is counted: nothing that hangs together with it lies at the edge or came before. -/
noncomputable def newHole (pre : List Pt) (x : Pt) : Bool := decide (pass x = true ∧ (∀ e ∈ A, edge e = true → ¬ Conn8 pass e x) ∧ ∀ a ∈ pre, ¬ Conn8 pass a x)
open Classical in
theorem newHole_iff (pre : List Pt) (x : Pt) : newHole pass edge A pre x = true ↔ pass x = true ∧ (∀ e ∈ A, edge e = true → ¬ Conn8 pass e x) ∧ ∀ a ∈ pre, ¬ Conn8 pass a x := by
  unfold newHole
  exact ⟨fun h => of_decide_eq_true h, fun h => decide_eq_true h⟩
noncomputable def holeN (l : List Pt) : Nat := ((List.range l.length).filter fun i => newHole pass edge A (l.take i) (l.getD i (0, 0))).length
theorem holeN_nil : holeN pass edge A [] = 0 := rfl
theorem holeN_snoc (l : List Pt) (x : Pt) : holeN pass edge A (l ++ [x]) = holeN pass edge A l + if newHole pass edge A l x then 1 else 0 := by
  unfold holeN
  rw [List.length_append, List.length_cons, List.length_nil, Nat.zero_add, List.range_succ, List.filter_append, List.length_append]
  congr 1
  · congr 1
    apply List.filter_congr
    intro i hi
    have hi := List.mem_range.1 hi
    rw [List.take_append_of_le_length (by omega), List.getD_eq_getElem?_getD, List.getD_eq_getElem?_getD, List.getElem?_append_left hi]
  · have e1 : (l ++ [x]).take l.length = l := by simp
    have e2 : (l ++ [x]).getD l.length (0, 0) = x := by simp
    simp only [List.filter_cons, List.filter_nil, e1, e2]
    split <;> simp
theorem holeN_le (l : List Pt) : holeN pass edge A l ≤ l.length := by
  unfold holeN
  have := List.length_filter_le (fun i => newHole pass edge A (l.take i) (l.getD i (0, 0))) (List.range l.length)
  simpa using this
end
section
variable {pass edge : Pt → Bool} {A : List Pt}
/-- What the program knows before it counts, and while it does. -/
def EdgeK (pass edge : Pt → Bool) (A K : List Pt) : Prop := ∀ c, c ∈ K ↔ ∃ e ∈ A, edge e = true ∧ Conn8 pass e c
def PreK (pass edge : Pt → Bool) (A pre K : List Pt) : Prop := ∀ c, c ∈ K ↔ (∃ e ∈ A, edge e = true ∧ Conn8 pass e c) ∨ ∃ a ∈ pre, Conn8 pass a c
theorem EdgeK.pre {K : List Pt} (h : EdgeK pass edge A K) : PreK pass edge A [] K := fun c => by rw [h c]; simp
theorem EdgeK.snoc {pre K K' : List Pt} {x : Pt} (h : EdgeK pass edge pre K) (hK : ∀ c, c ∈ K' ↔ c ∈ K ∨ Conn8 pass x c) (he : edge x = true) : EdgeK pass edge (pre ++ [x]) K' := fun c => by
  rw [hK c, h c]
  constructor
  · rintro (⟨e, h1, h2⟩ | h1)
    · exact ⟨e, List.mem_append_left _ h1, h2⟩
    · exact ⟨x, by simp, he, h1⟩
  · rintro ⟨e, h1, h2, h3⟩
    rcases List.mem_append.1 h1 with h4 | h4
    · exact .inl ⟨e, h4, h2, h3⟩
    · rw [List.mem_singleton.1 h4] at h3; exact .inr h3
theorem EdgeK.skip {pre K : List Pt} {x : Pt} (h : EdgeK pass edge pre K) (he : edge x = false) : EdgeK pass edge (pre ++ [x]) K := fun c => by
  rw [h c]
  constructor
  · rintro ⟨e, h1, h2⟩
    exact ⟨e, List.mem_append_left _ h1, h2⟩
  · rintro ⟨e, h1, h2, h3⟩
    rcases List.mem_append.1 h1 with h4 | h4
    · exact ⟨e, h4, h2, h3⟩
    · rw [List.mem_singleton.1 h4, he] at h2; cases h2
theorem PreK.new {pre K K' : List Pt} {x : Pt} (h : PreK pass edge A pre K) (hK : ∀ c, c ∈ K' ↔ c ∈ K ∨ Conn8 pass x c) : PreK pass edge A (pre ++ [x]) K' := fun c => by
  rw [hK c, h c]
  constructor
  · rintro ((h1 | ⟨a, h1, h2⟩) | h1)
    · exact .inl h1
    · exact .inr ⟨a, List.mem_append_left _ h1, h2⟩
    · exact .inr ⟨x, by simp, h1⟩
  · rintro (h1 | ⟨a, h1, h2⟩)
    · exact .inl (.inl h1)
    · rcases List.mem_append.1 h1 with h4 | h4
      · exact .inl (.inr ⟨a, h4, h2⟩)
      · rw [List.mem_singleton.1 h4] at h2; exact .inr h2
/-- A cell that is known, or that has grass, adds nothing. -/
theorem PreK.old {pre K : List Pt} {x : Pt} (h : PreK pass edge A pre K) (hs : Shut8 pass K) (hx : pass x = false ∨ x ∈ K) : PreK pass edge A (pre ++ [x]) K := fun c => by
  have h0 : ∀ c, Conn8 pass x c → c ∈ K := fun c hc => by
    rcases hx with h1 | h1
    · rw [hc.start] at h1; cases h1
    · exact hs.conn h1 hc
  constructor
  · intro hc
    rcases (h c).1 hc with h1 | ⟨a, h1, h2⟩
    · exact .inl h1
    · exact .inr ⟨a, List.mem_append_left _ h1, h2⟩
  · rintro (h1 | ⟨a, h1, h2⟩)
    · exact (h c).2 (.inl h1)
    · rcases List.mem_append.1 h1 with h4 | h4
      · exact (h c).2 (.inr ⟨a, h4, h2⟩)
      · rw [List.mem_singleton.1 h4] at h2; exact h0 c h2
theorem PreK.hole {pre K : List Pt} {x : Pt} (h : PreK pass edge A pre K) : newHole pass edge A pre x = true ↔ pass x = true ∧ x ∉ K := by
  rw [newHole_iff]
  constructor
  · rintro ⟨h1, h2, h3⟩
    refine ⟨h1, fun hx => ?_⟩
    rcases (h x).1 hx with ⟨e, h4, h5, h6⟩ | ⟨a, h4, h5⟩
    · exact h2 e h4 h5 h6
    · exact h3 a h4 h5
  · rintro ⟨h1, h2⟩
    exact ⟨h1, fun e h3 h4 h5 => h2 ((h x).2 (.inl ⟨e, h3, h4, h5⟩)), fun a h3 h4 => h2 ((h x).2 (.inr ⟨a, h3, h4⟩))⟩
/-- As the model says it: of what hangs together with a cell, none lies at the edge. -/
theorem hole_inside (hA : ∀ c, pass c = true → c ∈ A) {pre : List Pt} {x : Pt} : newHole pass edge A pre x = true ↔ pass x = true ∧ (∀ c, Conn8 pass x c → edge c = false) ∧ ∀ a ∈ pre, ¬ Conn8 pass a x := by
  rw [newHole_iff]
  constructor
  · rintro ⟨h1, h2, h3⟩
    refine ⟨h1, fun c hc => ?_, h3⟩
    cases he : edge c with
    | false => rfl
    | true => exact absurd hc.symm (h2 c (hA c hc.end') he)
  · rintro ⟨h1, h2, h3⟩
    refine ⟨h1, fun e h4 h5 h6 => ?_, h3⟩
    rw [h2 e h6.symm] at h5
    cases h5
end
end Go.Proofs.Ytaeenkjbmlgcmaa
