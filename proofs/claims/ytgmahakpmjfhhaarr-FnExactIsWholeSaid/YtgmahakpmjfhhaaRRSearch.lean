/- A search by steps, as both sides go: one list of found cells with their steps, in the order in which they were found. -/
import Derived.Test.YtgmahakpmjfhhaaRRMaps
namespace Go.Proofs.YtgmahakpmjfhhaaRR
set_option linter.unusedVariables false

abbrev Pt := Int × Int
abbrev Found := List (Pt × Int)
def beside (c : Pt) : List Pt := [(c.1, c.2 - 1), (c.1 - 1, c.2), (c.1 + 1, c.2), (c.1, c.2 + 1)]
def visit (pass : Pt → Bool) (d : Int) (F : Found) (c : Pt) : Found := if (alLook F c).isSome || !pass c then F else F ++ [(c, d + 1)]
def expand (pass : Pt → Bool) (F : Found) (p : Pt × Int) : Found := (beside p.1).foldl (visit pass p.2) F
def found (pass : Pt → Bool) (s : Pt) : Nat → Found
  | 0 => [(s, 0)]
  | n + 1 => match (found pass s n)[n]? with
    | some p => expand pass (found pass s n) p
    | none => found pass s n
/-- What holds of the found cells. -/
structure Good (pass : Pt → Bool) (F : Found) : Prop where
  nodup : (F.map (·.1)).Nodup
  pass : ∀ p ∈ F, pass p.1 = true
  val : ∀ (j : Nat) (p : Pt × Int), F[j]? = some p → 0 ≤ p.2 ∧ p.2 ≤ j

theorem alLook_none {κ ν : Type} [DecidableEq κ] : ∀ {l : List (κ × ν)} {k : κ}, alLook l k = none → k ∉ l.map (·.1)
  | [], _, _ => by simp
  | (a, u) :: l, k, h => by
    unfold alLook at h
    split at h
    · cases h
    · rename_i hn
      have := alLook_none h
      simp only [List.map_cons, List.mem_cons, not_or]
      exact ⟨hn, this⟩
theorem alPut_new {κ ν : Type} [DecidableEq κ] : ∀ {l : List (κ × ν)} {k : κ} (v : ν), alLook l k = none → alPut l k v = l ++ [(k, v)]
  | [], _, _, _ => rfl
  | (a, u) :: l, k, v, h => by
    unfold alLook at h
    split at h
    · cases h
    · rename_i hn
      simp only [alPut, hn, if_false, alPut_new v h, List.cons_append]
theorem alLook_mem {κ ν : Type} [DecidableEq κ] : ∀ {l : List (κ × ν)} {k : κ} {v : ν}, (l.map (·.1)).Nodup → (k, v) ∈ l → alLook l k = some v
  | [], _, _, _, h => by cases h
  | (a, u) :: l, k, v, hn, h => by
    simp only [List.map_cons, List.nodup_cons] at hn
    unfold alLook
    rcases List.mem_cons.1 h with h | h
    · cases h; rw [if_pos rfl]
    · have : k ≠ a := fun e => hn.1 (e ▸ List.mem_map.2 ⟨(k, v), h, rfl⟩)
      rw [if_neg this]
      exact alLook_mem hn.2 h

theorem visit_grows (pass : Pt → Bool) (d : Int) (F : Found) (c : Pt) : ∃ G, visit pass d F c = F ++ G := by
  unfold visit
  split
  · exact ⟨[], by simp⟩
  · exact ⟨_, rfl⟩
theorem visits_grow (pass : Pt → Bool) (d : Int) : ∀ (cs : List Pt) (F : Found), ∃ G, cs.foldl (visit pass d) F = F ++ G
  | [], F => ⟨[], by simp⟩
  | c :: cs, F => by
    obtain ⟨G, h⟩ := visit_grows pass d F c
    obtain ⟨G', h'⟩ := visits_grow pass d cs (visit pass d F c)
    exact ⟨G ++ G', by rw [List.foldl_cons, h', h, List.append_assoc]⟩
theorem visit_good {pass : Pt → Bool} {d : Int} {F : Found} (c : Pt) (h : Good pass F) (h0 : 0 ≤ d) (h1 : d + 1 ≤ F.length) : Good pass (visit pass d F c) := by
  unfold visit
  split
  · exact h
  · rename_i hn
    simp only [Bool.or_eq_true, Bool.not_eq_true', not_or, Bool.not_eq_true, Option.isSome_eq_false_iff, Option.isNone_iff_eq_none, Bool.not_eq_false] at hn
    have hk := alLook_none hn.1
    refine ⟨?_, fun p hp => ?_, fun j p hj => ?_⟩
    · rw [List.map_append]
      refine List.nodup_append.2 ⟨h.nodup, by simp, fun a ha b hb e => ?_⟩
      simp only [List.map_cons, List.map_nil, List.mem_singleton] at hb
      subst e
      rw [hb] at ha
      exact hk ha
    · rcases List.mem_append.1 hp with hp | hp
      · exact h.pass p hp
      · simp only [List.mem_singleton] at hp; subst hp; exact hn.2
    · by_cases hl : j < F.length
      · rw [List.getElem?_append_left hl] at hj; exact h.val j p hj
      · rw [List.getElem?_append_right (by omega)] at hj
        have hz : j - F.length = 0 := by
          rcases Nat.eq_zero_or_pos (j - F.length) with h | h
          · exact h
          · rw [List.getElem?_eq_none (by simp; omega)] at hj; cases hj
        rw [hz] at hj
        simp only [List.getElem?_cons_zero, Option.some.injEq] at hj
        subst hj
        simp only
        omega
theorem visits_good {pass : Pt → Bool} {d : Int} : ∀ (cs : List Pt) {F : Found}, Good pass F → 0 ≤ d → d + 1 ≤ F.length → Good pass (cs.foldl (visit pass d) F)
  | [], F, h, _, _ => h
  | c :: cs, F, h, h0, h1 => by
    obtain ⟨G, hG⟩ := visit_grows pass d F c
    refine visits_good cs (visit_good c h h0 h1) h0 ?_
    rw [hG, List.length_append]; omega
theorem found_good {pass : Pt → Bool} {s : Pt} (hs : pass s = true) : ∀ n, Good pass (found pass s n)
  | 0 => ⟨by simp [found], fun p hp => by simp [found] at hp; subst hp; exact hs, fun j p hj => by
      match j with
      | 0 => simp [found] at hj; subst hj; simp
      | j + 1 => simp [found] at hj⟩
  | n + 1 => by
    have ih := found_good hs n
    unfold found
    split
    · rename_i p hp
      have hv := ih.val n p hp
      have hl := (List.getElem?_eq_some_iff.1 hp).1
      exact visits_good _ ih hv.1 (by omega)
    · exact ih
/-- Numbers below n that are all different are no more than n. -/
theorem nodup_below : ∀ (n : Nat) (l : List Nat), l.Nodup → (∀ a ∈ l, a < n) → l.length ≤ n
  | 0, l, _, h => by
    cases l with
    | nil => simp
    | cons a l => exact absurd (h a (by simp)) (by omega)
  | n + 1, l, hd, h => by
    have hl : (l.erase n).length ≤ n := nodup_below n (l.erase n) (hd.erase n) fun a ha => by
      have h1 := h a (List.mem_of_mem_erase ha)
      have h2 : a ≠ n := (hd.mem_erase_iff.1 ha).1
      omega
    by_cases hm : n ∈ l
    · rw [List.length_erase_of_mem hm] at hl; omega
    · rw [List.erase_of_not_mem hm] at hl; omega
theorem good_length {pass : Pt → Bool} (hp : ∀ c, pass c = true → (0 ≤ c.1 ∧ c.1 < 10) ∧ 0 ≤ c.2 ∧ c.2 < 10) {F : Found} (h : Good pass F) : F.length ≤ 100 := by
  have key : ((F.map (·.1)).map fun c : Pt => c.2.toNat * 10 + c.1.toNat).Nodup := by
    have hin : ∀ c ∈ F.map (·.1), (0 ≤ c.1 ∧ c.1 < 10) ∧ 0 ≤ c.2 ∧ c.2 < 10 := fun c hc => by
      obtain ⟨p, hp1, rfl⟩ := List.mem_map.1 hc
      exact hp _ (h.pass p hp1)
    have hn := h.nodup
    generalize F.map (·.1) = K at hin hn
    induction K with
    | nil => simp
    | cons c K ih =>
      rw [List.nodup_cons] at hn
      rw [List.map_cons, List.nodup_cons]
      refine ⟨fun hm => ?_, ih (fun d hd => hin d (List.mem_cons_of_mem _ hd)) hn.2⟩
      obtain ⟨d, hd, he⟩ := List.mem_map.1 hm
      have a := hin c (by simp)
      have b := hin d (List.mem_cons_of_mem _ hd)
      have : d = c := Prod.ext (by omega) (by omega)
      exact hn.1 (this ▸ hd)
  have := nodup_below 100 _ key fun a ha => by
    obtain ⟨c, hc, rfl⟩ := List.mem_map.1 ha
    obtain ⟨p, hp1, rfl⟩ := List.mem_map.1 hc
    have := hp _ (h.pass p hp1)
    omega
  simpa using this
/-- Once all found cells are gone through, nothing is found any more. -/
theorem found_done {pass : Pt → Bool} {s : Pt} {n : Nat} (h : (found pass s n).length ≤ n) : ∀ m, found pass s (n + m) = found pass s n
  | 0 => rfl
  | m + 1 => by
    have ih := found_done h m
    rw [← Nat.add_assoc, found, ih, List.getElem?_eq_none (by omega)]
theorem found_last {pass : Pt → Bool} {s : Pt} {n : Nat} (hn : n ≤ 100) (h : (found pass s n).length ≤ n) : found pass s n = found pass s 100 := by
  have := found_done h (100 - n)
  rw [show n + (100 - n) = 100 by omega] at this
  exact this.symm
theorem found_mem {pass : Pt → Bool} {s : Pt} : ∀ n, (s, (0 : Int)) ∈ found pass s n
  | 0 => by simp [found]
  | n + 1 => by
    have ih := found_mem (pass := pass) (s := s) n
    unfold found
    split
    · obtain ⟨G, hG⟩ := visits_grow pass _ (beside _) (found pass s n)
      unfold expand
      rw [hG]
      exact List.mem_append_left _ ih
    · exact ih
end Go.Proofs.YtgmahakpmjfhhaaRR
