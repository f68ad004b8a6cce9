/- A round of the search that keeps the way to each cell: the moves from a cell, one by one. -/
import Derived.Test.YtaeenkjbmlgcmaaZZ
namespace Go.Proofs.Ytaeenkjbmlgcmaa
open Go.RowKit
set_option linter.unusedVariables false

/-- The sides of a cell that may be gone to, with their letters' numbers. -/
def opensW (L : Lawn) (c : Pt) : List (Nat × Pt) := (sidesW c).filter fun kc => openP L kc.2
def wyK (L : Lawn) (F : FoundN) (p : Pt × Nat) (k : Nat) : FoundN := ((opensW L p.1).take k).foldl (visitN (openP L) p.2) F
theorem opensW_len (L : Lawn) (c : Pt) : (opensW L c).length ≤ 4 := by
  have := List.length_filter_le (fun kc : Nat × Pt => openP L kc.2) (sidesW c)
  simpa [opensW, sidesW] using this
theorem opensW_at {L : Lawn} {c : Pt} {j : Nat} {kc : Nat × Pt} (h : (opensW L c)[j]? = some kc) : kc.1 < 4 ∧ openP L kc.2 = true := by
  have hm := List.mem_of_getElem? h
  unfold opensW at hm
  rw [List.mem_filter] at hm
  exact ⟨(sides_step.1 hm.1).1, hm.2⟩
theorem visitN_skip {pass : Pt → Bool} {d : Nat} {F : FoundN} {kc : Nat × Pt} (h : (alLook F kc.2).isSome = true ∨ pass kc.2 = false) : visitN pass d F kc = F := by
  unfold visitN
  rcases h with h | h <;> simp [h]
theorem visitN_new {pass : Pt → Bool} {d : Nat} {F : FoundN} {kc : Nat × Pt} (h : alLook F kc.2 = none) (hp : pass kc.2 = true) : visitN pass d F kc = F ++ [(kc.2, 4 * d + kc.1)] := by
  unfold visitN
  simp [h, hp]
theorem visitsN_filter {pass : Pt → Bool} {d : Nat} : ∀ (cs : List (Nat × Pt)) (F : FoundN), (cs.filter fun kc => pass kc.2).foldl (visitN pass d) F = cs.foldl (visitN pass d) F
  | [], F => rfl
  | c :: cs, F => by
    cases h : pass c.2
    · rw [List.filter_cons_of_neg (by simp [h]), List.foldl_cons, visitN_skip (.inr h)]
      exact visitsN_filter cs F
    · rw [List.filter_cons_of_pos (p := fun kc : Nat × Pt => pass kc.2) h, List.foldl_cons, List.foldl_cons]
      exact visitsN_filter cs _
theorem wyK_zero (L : Lawn) (F : FoundN) (p : Pt × Nat) : wyK L F p 0 = F := by simp [wyK]
theorem wyK_succ {L : Lawn} {F : FoundN} {p : Pt × Nat} {k : Nat} {kc : Nat × Pt} (h : (opensW L p.1)[k]? = some kc) : wyK L F p (k + 1) = visitN (openP L) p.2 (wyK L F p k) kc := by
  unfold wyK
  rw [List.take_add_one, h, Option.toList_some, List.foldl_append]
  rfl
theorem wyK_all {L : Lawn} {s : Pt} {i : Nat} {p : Pt × Nat} (h : (foundN (openP L) s i)[i]? = some p) {k : Nat} (hk : (opensW L p.1).length ≤ k) : wyK L (foundN (openP L) s i) p k = foundN (openP L) s (i + 1) := by
  unfold wyK
  rw [List.take_of_length_le hk]
  conv => rhs; unfold foundN
  rw [h]
  exact visitsN_filter _ _
theorem visitN_grows (pass : Pt → Bool) (d : Nat) (F : FoundN) (kc : Nat × Pt) : ∃ G, visitN pass d F kc = F ++ G := by
  unfold visitN
  split
  · exact ⟨[], by simp⟩
  · exact ⟨_, rfl⟩
theorem visitsN_grow (pass : Pt → Bool) (d : Nat) : ∀ (cs : List (Nat × Pt)) (F : FoundN), ∃ G, cs.foldl (visitN pass d) F = F ++ G
  | [], F => ⟨[], by simp⟩
  | c :: cs, F => by
    obtain ⟨G, h⟩ := visitN_grows pass d F c
    obtain ⟨G', h'⟩ := visitsN_grow pass d cs (visitN pass d F c)
    exact ⟨G ++ G', by rw [List.foldl_cons, h', h, List.append_assoc]⟩
theorem wyK_grows (L : Lawn) (F : FoundN) (p : Pt × Nat) (k : Nat) : ∃ G, wyK L F p k = F ++ G := visitsN_grow _ p.2 _ F
theorem foundN_grows {pass : Pt → Bool} {s : Pt} (n : Nat) : ∃ G, foundN pass s (n + 1) = foundN pass s n ++ G := by
  conv => enter [1, G]; lhs; unfold foundN
  split
  · exact visitsN_grow pass _ _ _
  · exact ⟨[], by simp⟩
theorem foundN_more {pass : Pt → Bool} {s : Pt} (n : Nat) : ∀ m, ∃ G, foundN pass s (n + m) = foundN pass s n ++ G
  | 0 => ⟨[], by simp⟩
  | m + 1 => by
    obtain ⟨G, h⟩ := foundN_more (pass := pass) (s := s) n m
    obtain ⟨G', h'⟩ := foundN_grows (pass := pass) (s := s) (n + m)
    exact ⟨G ++ G', by rw [← Nat.add_assoc, h', h, List.append_assoc]⟩
theorem foundN_stop {pass : Pt → Bool} {s : Pt} {n : Nat} (h : (foundN pass s n).length ≤ n) : ∀ m, foundN pass s (n + m) = foundN pass s n
  | 0 => rfl
  | m + 1 => by
    have ih := foundN_stop h m
    rw [← Nat.add_assoc]
    conv => lhs; unfold foundN
    rw [ih, List.getElem?_eq_none (by omega)]
theorem look_append {κ ν : Type} [DecidableEq κ] : ∀ (l : List (κ × ν)) (m : List (κ × ν)) (k : κ) {v : ν}, alLook l k = some v → alLook (l ++ m) k = some v
  | [], _, _, _, h => by cases h
  | (a, u) :: l, m, k, v, h => by
    simp only [List.cons_append, alLook] at h ⊢
    split
    · rename_i e; rw [if_pos e] at h; exact h
    · rename_i e; rw [if_neg e] at h; exact look_append l m k h
theorem foundN_in {pass : Pt → Bool} {s : Pt} (hs : pass s = true) {i : Nat} {q : Pt × Nat} (h : q ∈ foundN pass s i) : pass q.1 = true := by
  have h1 : q.1 ∈ (foundN pass s i).map (·.1) := List.mem_map.2 ⟨q, h, rfl⟩
  rw [foundN_keys] at h1
  obtain ⟨r, hr, e⟩ := List.mem_map.1 h1
  rw [← e]
  exact (found_good hs i).pass r hr
theorem nodup_visitN {pass : Pt → Bool} {d : Nat} {F : FoundN} (kc : Nat × Pt) (h : (F.map (·.1)).Nodup) : ((visitN pass d F kc).map (·.1)).Nodup := by
  unfold visitN
  split
  · exact h
  · rename_i hn
    simp only [Bool.or_eq_true, not_or, Bool.not_eq_true', Bool.not_eq_false] at hn
    have h0 : alLook F kc.2 = none := by
      cases e : alLook F kc.2 with
      | none => rfl
      | some u => rw [e] at hn; simp at hn
    rw [List.map_append, List.nodup_append]
    refine ⟨h, by simp, fun a ha b hb => ?_⟩
    rintro rfl
    simp only [List.map_cons, List.map_nil, List.mem_singleton] at hb
    subst hb
    exact alLook_none h0 ha
theorem wyK_nodup {L : Lawn} {s : Pt} (hs : openP L s = true) (i : Nat) (p : Pt × Nat) : ∀ k, ((wyK L (foundN (openP L) s i) p k).map (·.1)).Nodup := by
  intro k
  unfold wyK
  generalize (opensW L p.1).take k = cs
  have h := foundN_nodup hs i
  generalize foundN (openP L) s i = F at h
  induction cs generalizing F with
  | nil => exact h
  | cons c cs ih => exact ih _ (nodup_visitN c h)
theorem wyK_look {L : Lawn} {s : Pt} (hs : openP L s = true) {i : Nat} {p : Pt × Nat} (h : (foundN (openP L) s i)[i]? = some p) (k : Nat) : alLook (wyK L (foundN (openP L) s i) p k) p.1 = some p.2 := by
  refine alLook_mem (wyK_nodup hs i p k) ?_
  obtain ⟨G, hG⟩ := wyK_grows L (foundN (openP L) s i) p k
  rw [hG]
  exact List.mem_append_left _ (List.mem_of_getElem? h)
theorem wyK_len {L : Lawn} (hv : validB L = true) {s : Pt} (hs : openP L s = true) {i : Nat} {p : Pt × Nat} (h : (foundN (openP L) s i)[i]? = some p) (hi : i < 100) (k : Nat) : (wyK L (foundN (openP L) s i) p k).length ≤ 100 := by
  obtain ⟨G, hG⟩ : ∃ G, foundN (openP L) s (i + 1) = wyK L (foundN (openP L) s i) p k ++ G := by
    rw [← wyK_all h (Nat.le_refl _)]
    unfold wyK
    conv => enter [1, G]; lhs; arg 3; rw [List.take_length, ← List.take_append_drop k (opensW L p.1)]
    simp only [List.foldl_append]
    exact visitsN_grow _ _ _ _
  obtain ⟨G2, hG2⟩ := foundN_more (pass := openP L) (s := s) (i + 1) (100 - (i + 1))
  rw [show i + 1 + (100 - (i + 1)) = 100 by omega] at hG2
  have := foundN_len (openP_near hv) hs
  rw [hG2, hG] at this
  simp only [List.length_append] at this
  omega
/-- How long a way is at most. -/
theorem foundN_low {pass : Pt → Bool} {s : Pt} : ∀ (i j : Nat) (q : Pt × Nat), (foundN pass s i)[j]? = some q → q.2 < 4 ^ (j + 1) := by
  intro i
  induction i with
  | zero =>
    intro j q h
    match j with
    | 0 =>
      simp only [foundN, List.getElem?_cons_zero, Option.some.injEq] at h
      rw [← h]; exact (by decide : (1 : Nat) < 4 ^ 1)
    | j + 1 => simp [foundN] at h
  | succ i ih =>
    intro j q h
    cases hp : (foundN pass s i)[i]? with
    | none =>
      have e : foundN pass s (i + 1) = foundN pass s i := by simp only [foundN, hp]
      rw [e] at h
      exact ih j q h
    | some p =>
      have e : foundN pass s (i + 1) = (sidesW p.1).foldl (visitN pass p.2) (foundN pass s i) := by simp only [foundN, hp]
      have hil : i < (foundN pass s i).length := (List.getElem?_eq_some_iff.1 hp).1
      have hlo := ih i p hp
      obtain ⟨⟨G, hG, hGq⟩, -⟩ := visitsN_all (pass := pass) p.1 ((found_bfsN i).top p hp) (found_bfsN i).sorted
      rw [e, hG] at h
      rcases Nat.lt_or_ge j (foundN pass s i).length with h1 | h1
      · rw [List.getElem?_append_left h1] at h
        exact ih j q h
      · rw [List.getElem?_append_right h1] at h
        obtain ⟨kc, hkc, e2, -⟩ := hGq q (List.mem_of_getElem? h)
        have hk := (sides_step.1 hkc).1
        have : 4 ^ (i + 2) ≤ 4 ^ (j + 1) := Nat.pow_le_pow_right (by decide) (by omega)
        rw [e2]
        dsimp only
        have e3 : (4 : Nat) ^ (i + 2) = 4 * 4 ^ (i + 1) := by rw [Nat.pow_succ]; omega
        omega
theorem decW_len : ∀ (e n : Nat), n < 4 ^ (e + 1) → (decW n).length ≤ e
  | 0, n, h => by rw [decW_low (by simpa using h)]; simp
  | e + 1, n, h => by
    by_cases h4 : n < 4
    · rw [decW_low h4]; simp
    · rw [decW, dif_neg h4, List.length_append]
      have : n / 4 < 4 ^ (e + 1) := by
        have e3 : (4 : Nat) ^ (e + 1 + 1) = 4 * 4 ^ (e + 1) := by rw [Nat.pow_succ]; omega
        omega
      have := decW_len e (n / 4) this
      simp only [List.length_cons, List.length_nil]
      omega
theorem wayS_size (v : List Nat) : (wayS v).size = v.length := by
  show (v.map letB).toArray.size = _
  simp
theorem waysOf_app (F : FoundN) (c : Pt) (d k : Nat) (hd : 1 ≤ d) (hk : k < 4) : waysOf (F ++ [(c, 4 * d + k)]) = waysOf F ++ [(c, ⟨(wayS (decW d)).data ++ #[letB k]⟩)] := by
  unfold waysOf
  rw [List.map_append]
  simp only [List.map_cons, List.map_nil]
  rw [decW_snoc hd hk, wayS_snoc]
theorem waysOf_look (F : FoundN) (c : Pt) : alLook (waysOf F) c = (alLook F c).map fun u => wayS (decW u) := look_map (fun u => wayS (decW u)) F c
/-- What the search for a cell answers. -/
def srchV (F : FoundN) (h : Pt) : Value := match alLook (waysOf F) h with
  | some u => .tuple #[.string u, .bool true]
  | none => .tuple #[.string ByteArray.empty, .bool false]
end Go.Proofs.Ytaeenkjbmlgcmaa
