/- How deep a cell of grass lies: pure. -/
import Derived.Test.YtaeenkjbmlgcmaaZK
import Derived.Test.YtaeenkjbmlgcmaaZG
namespace Go.Proofs.Ytaeenkjbmlgcmaa
open Go.RowKit
set_option linter.unusedVariables false

theorem alLook_in {κ ν : Type} [DecidableEq κ] : ∀ {l : List (κ × ν)} {k : κ} {v : ν}, alLook l k = some v → (k, v) ∈ l
  | [], _, _, h => by cases h
  | (a, u) :: l, k, v, h => by
    simp only [alLook] at h
    split at h
    · rename_i e; cases h; rw [e]; simp
    · exact List.mem_cons_of_mem _ (alLook_in h)
theorem alLook_app {κ ν : Type} [DecidableEq κ] : ∀ {l : List (κ × ν)} (G : List (κ × ν)) {k : κ}, (alLook l k).isSome = true → (alLook (l ++ G) k).isSome = true
  | [], _, _, h => by cases h
  | (a, u) :: l, G, k, h => by
    simp only [alLook, List.cons_append] at h ⊢
    split
    · rfl
    · rename_i e
      rw [if_neg e] at h
      exact alLook_app G h
theorem alLook_end {κ ν : Type} [DecidableEq κ] : ∀ (l : List (κ × ν)) (k : κ) (v : ν), (alLook (l ++ [(k, v)]) k).isSome = true
  | [], k, v => by simp [alLook]
  | (a, u) :: l, k, v => by
    simp only [alLook, List.cons_append]
    split
    · rfl
    · exact alLook_end l k v
theorem visit_has {pass : Pt → Bool} {d : Int} {F : Found} {c : Pt} (hc : pass c = true) : (alLook (visit pass d F c) c).isSome = true := by
  unfold visit
  cases h : (alLook F c).isSome
  · simp only [hc, Bool.not_true, Bool.or_self, Bool.false_eq_true, if_false]
    exact alLook_end _ _ _
  · simpa using h
theorem visits_has {pass : Pt → Bool} {d : Int} : ∀ (cs : List Pt) (F : Found) (c : Pt), c ∈ cs → pass c = true → (alLook (cs.foldl (visit pass d) F) c).isSome = true
  | [], _, _, h, _ => by cases h
  | a :: cs, F, c, h, hc => by
    rw [List.foldl_cons]
    rcases List.mem_cons.1 h with rfl | h
    · obtain ⟨G, hG⟩ := visits_grow pass d cs (visit pass d F c)
      rw [hG]
      exact alLook_app G (visit_has hc)
    · exact visits_has cs _ c h hc
theorem found_grow {pass : Pt → Bool} {s : Pt} (n : Nat) : ∀ m, ∃ G, found pass s (n + m) = found pass s n ++ G
  | 0 => ⟨[], by simp⟩
  | m + 1 => by
    obtain ⟨G, hG⟩ := found_grow n m
    have : ∃ G', found pass s (n + m + 1) = found pass s (n + m) ++ G' := by
      simp only [found]
      split
      · exact visits_grow pass _ _ _
      · exact ⟨[], by simp⟩
    obtain ⟨G', hG'⟩ := this
    exact ⟨G ++ G', by rw [← Nat.add_assoc, hG', hG, List.append_assoc]⟩
/-- From every found cell one has gone to all sides. -/
theorem found_closed {pass : Pt → Bool} {s : Pt} (hs : pass s = true) (hp : ∀ c, pass c = true → (0 ≤ c.1 ∧ c.1 < 10) ∧ 0 ≤ c.2 ∧ c.2 < 10) {p : Pt × Int} (h : p ∈ found pass s 100) {c : Pt} (hc : c ∈ beside p.1) (hpc : pass c = true) : ∃ v, (c, v) ∈ found pass s 100 := by
  obtain ⟨i, hi, hip⟩ := List.getElem_of_mem h
  have hlen := good_length hp (found_good hs 100)
  have hlt : i < (found pass s i).length := by
    rcases Nat.lt_or_ge i (found pass s i).length with h1 | h1
    · exact h1
    · have := found_last (show i ≤ 100 by omega) h1
      rw [this] at h1
      omega
  obtain ⟨G, hG⟩ := found_grow (pass := pass) (s := s) i (100 - i)
  rw [show i + (100 - i) = 100 by omega] at hG
  have hat : (found pass s i)[i]? = some p := by
    have h2 : (found pass s 100)[i]? = some p := by rw [List.getElem?_eq_getElem hi, hip]
    rw [hG, List.getElem?_append_left hlt] at h2
    exact h2
  have hsome : (alLook (found pass s (i + 1)) c).isSome = true := by
    simp only [found, hat]
    exact visits_has _ _ _ hc hpc
  obtain ⟨G', hG'⟩ := found_grow (pass := pass) (s := s) (i + 1) (100 - (i + 1))
  rw [show i + 1 + (100 - (i + 1)) = 100 by omega] at hG'
  have h3 := alLook_app G' hsome
  rw [← hG'] at h3
  obtain ⟨v, hv⟩ := Option.isSome_iff_exists.1 h3
  exact ⟨v, alLook_in hv⟩
theorem inner_north {L : Lawn} (hv : validB L = true) {c : Pt} (h : innerB L c = true) : grassP L (c.1, c.2 - 1) = true := by
  have h4 : sidesL L c 0 = 4 := by simpa [innerB] using h
  have e0 := sidesTo_succ L c (k := 0) rfl
  have e1 := sidesTo_succ L c (k := 1) rfl
  have e2 := sidesTo_succ L c (k := 2) rfl
  have e3 := sidesTo_succ L c (k := 3) rfl
  have hb : ∀ (f : Sd) (k : Nat), bump f k 0 = f 0 + if k = 0 then 1 else 0 := by
    intro f k
    by_cases e : k = 0
    · subst e; simp [bump, sdSet]
    · simp [bump, sdSet, e, Ne.symm e]
  unfold sidesL at h4
  rw [e3, hb, e2, hb, e1, hb, e0, hb] at h4
  have hz : sidesTo L c 0 0 = 0 := rfl
  rw [hz] at h4
  have hl : lies L (c.1, c.2 - 1) = 0 := by
    rcases Nat.eq_zero_or_pos (lies L (c.1, c.2 - 1)) with e | e
    · exact e
    · rw [if_neg (show ¬ lies L (c.1, c.2 - 1) = 0 by omega)] at h4
      have i1 : (if lies L (c.1 - 1, c.2) = 0 then (1 : Int) else 0) ≤ 1 := by split <;> omega
      have i2 : (if lies L (c.1 + 1, c.2) = 0 then (1 : Int) else 0) ≤ 1 := by split <;> omega
      have i3 : (if lies L (c.1, c.2 + 1) = 0 then (1 : Int) else 0) ≤ 1 := by split <;> omega
      omega
  unfold lies at hl
  split at hl
  · rename_i hi
    obtain ⟨h1, h2, h3⟩ := validB_true hv
    have hin := isB_in hi
    have hk := h3 (c.2 - 1).toNat c.1.toNat (by dsimp only at hin; omega) (by dsimp only at hin; omega)
    simp only [okAt, Bool.and_eq_true, inB, decide_eq_true_eq] at hk
    simp only [grassP, grassB, hi, Bool.true_and, beq_iff_eq]
    dsimp only at hl
    omega
  · omega
/-- There is a cell of the border among the found ones. -/
theorem border_found {L : Lawn} (hv : validB L = true) {s : Pt} (hs : grassP L s = true) : ∃ p ∈ found (grassP L) s 100, innerB L p.1 = false := by
  have key : ∀ (n : Nat) (p : Pt × Int), p ∈ found (grassP L) s 100 → p.1.2 = n → ∃ p ∈ found (grassP L) s 100, innerB L p.1 = false := by
    intro n
    induction n with
    | zero =>
      intro p hp hn
      refine ⟨p, hp, ?_⟩
      cases hi : innerB L p.1
      · rfl
      · have := grassP_near hv _ (inner_north hv hi)
        dsimp only at this
        omega
    | succ n ih =>
      intro p hp hn
      cases hi : innerB L p.1
      · exact ⟨p, hp, hi⟩
      · have hg := inner_north hv hi
        obtain ⟨v, hv2⟩ := found_closed hs (fun c hc => grassP_near hv c hc) hp (c := (p.1.1, p.1.2 - 1)) (by simp [beside]) hg
        exact ih _ hv2 (by dsimp only; omega)
  have h0 := found_mem (pass := grassP L) (s := s) 100
  have := grassP_near hv s hs
  exact key s.2.toNat _ h0 (by dsimp only; omega)

/-- d is the least number of those of l of which q is so. -/
def LeastIs (q : Pt → Bool) (l : Found) (d : Int) : Prop := (∀ p ∈ l, q p.1 = true → d ≤ p.2) ∧ ∃ p ∈ l, q p.1 = true ∧ p.2 = d
theorem least_one {q : Pt → Bool} {l : Found} {d e : Int} (h : LeastIs q l d) (k : LeastIs q l e) : d = e := by
  obtain ⟨p, hp, hq, rfl⟩ := h.2
  obtain ⟨p', hp', hq', rfl⟩ := k.2
  have := h.1 p' hp' hq'
  have := k.1 p hp hq
  omega
theorem least_ex {q : Pt → Bool} : ∀ (l : Found), (∃ p ∈ l, q p.1 = true) → ∃ d, LeastIs q l d
  | [], h => by obtain ⟨p, hp, -⟩ := h; cases hp
  | a :: l, h => by
    by_cases hl : ∃ p ∈ l, q p.1 = true
    · obtain ⟨d, h1, p, hp, hq, hd⟩ := least_ex l hl
      by_cases ha : q a.1 = true ∧ a.2 < d
      · refine ⟨a.2, fun p' hp' hq' => ?_, a, by simp, ha.1, rfl⟩
        rcases List.mem_cons.1 hp' with rfl | hp'
        · exact Int.le_refl _
        · have := h1 p' hp' hq'; omega
      · refine ⟨d, fun p' hp' hq' => ?_, p, by simp [hp], hq, hd⟩
        rcases List.mem_cons.1 hp' with rfl | hp'
        · rcases Int.lt_or_le p'.2 d with h2 | h2
          · exact absurd ⟨hq', h2⟩ ha
          · exact h2
        · exact h1 p' hp' hq'
    · obtain ⟨p, hp, hq⟩ := h
      rcases List.mem_cons.1 hp with rfl | hp2
      · refine ⟨p.2, fun p' hp' hq' => ?_, p, by simp, hq, rfl⟩
        rcases List.mem_cons.1 hp' with rfl | hp'
        · exact Int.le_refl _
        · exact absurd ⟨p', hp', hq'⟩ hl
      · exact absurd ⟨p, hp2, hq⟩ hl
end Go.Proofs.Ytaeenkjbmlgcmaa
