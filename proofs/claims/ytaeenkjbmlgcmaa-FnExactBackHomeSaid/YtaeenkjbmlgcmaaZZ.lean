/- The search's steps are the fewest ones: they keep the triangle, and are the same both ways. The first shortest way: a search that keeps the way to each cell. A way is a number to the base 4 with a 1 in front: of two ways the shorter one, and of two as long the one that comes first, has the lesser number. A way's letters out of its number; what the law on HomeFrom answers. -/
import Derived.Test.YtaeenkjbmlgcmaaZV
namespace Go.Proofs.Ytaeenkjbmlgcmaa
open Go.RowKit
set_option linter.unusedVariables false

theorem visits_all {pass : Pt → Bool} {d : Int} : ∀ (cs : List Pt) (F : Found), (∀ q ∈ F, q.2 ≤ d + 1) →
    (∃ G, cs.foldl (visit pass d) F = F ++ G ∧ ∀ q ∈ G, q.2 = d + 1 ∧ q.1 ∈ cs) ∧ ∀ c ∈ cs, pass c = true → ∃ u, (c, u) ∈ cs.foldl (visit pass d) F ∧ u ≤ d + 1
  | [], F, _ => ⟨⟨[], by simp, by simp⟩, by simp⟩
  | a :: cs, F, hF => by
    rw [List.foldl_cons]
    have hv : (∃ H, visit pass d F a = F ++ H ∧ ∀ q ∈ H, q.2 = d + 1 ∧ q.1 = a) ∧ (pass a = true → ∃ u, (a, u) ∈ visit pass d F a ∧ u ≤ d + 1) := by
      unfold visit
      split
      · rename_i h
        refine ⟨⟨[], by simp, by simp⟩, fun hp => ?_⟩
        rw [hp] at h
        simp only [Bool.not_true, Bool.or_false] at h
        obtain ⟨v, hv⟩ := Option.isSome_iff_exists.1 h
        exact ⟨v, alLook_in hv, hF _ (alLook_in hv)⟩
      · exact ⟨⟨[(a, d + 1)], rfl, by simp⟩, fun _ => ⟨d + 1, by simp, Int.le_refl _⟩⟩
    obtain ⟨⟨H, hH, hHq⟩, hva⟩ := hv
    have hF' : ∀ q ∈ visit pass d F a, q.2 ≤ d + 1 := by
      rw [hH]
      intro q hq
      rcases List.mem_append.1 hq with h | h
      · exact hF q h
      · rw [(hHq q h).1]; exact Int.le_refl _
    obtain ⟨⟨G, hG, hGq⟩, hrest⟩ := visits_all cs _ hF'
    refine ⟨⟨H ++ G, by rw [hG, hH, List.append_assoc], fun q hq => ?_⟩, fun c hc hp => ?_⟩
    · rcases List.mem_append.1 hq with h | h
      · exact ⟨(hHq q h).1, by rw [(hHq q h).2]; simp⟩
      · exact ⟨(hGq q h).1, List.mem_cons_of_mem _ (hGq q h).2⟩
    · rcases List.mem_cons.1 hc with rfl | hc
      · obtain ⟨u, hu, hle⟩ := hva hp
        exact ⟨u, by rw [hG]; exact List.mem_append_left _ hu, hle⟩
      · exact hrest c hc hp
structure Bfs (pass : Pt → Bool) (s : Pt) (F : Found) (i : Nat) : Prop where
  top : ∀ p, F[i]? = some p → ∀ q ∈ F, q.2 ≤ p.2 + 1
  sorted : F.Pairwise fun a b => a.2 ≤ b.2
  lip : ∀ j p c, j < i → F[j]? = some p → c ∈ beside p.1 → pass c = true → ∃ u, (c, u) ∈ F ∧ u ≤ p.2 + 1
  pred : ∀ q ∈ F, q = (s, 0) ∨ ∃ p ∈ F, q.1 ∈ beside p.1 ∧ q.2 = p.2 + 1
theorem found_bfs {pass : Pt → Bool} {s : Pt} : ∀ i, Bfs pass s (found pass s i) i
  | 0 => by
    refine ⟨?_, by simp [found], fun j p c h => by omega, by simp [found]⟩
    intro p hp q hq
    simp only [found, List.getElem?_cons_zero, Option.some.injEq] at hp
    simp only [found, List.mem_singleton] at hq
    rw [hq, ← hp]
    show (0 : Int) ≤ 0 + 1
    omega
  | i + 1 => by
    have ih := found_bfs (pass := pass) (s := s) i
    cases hp : (found pass s i)[i]? with
    | none =>
      have e : found pass s (i + 1) = found pass s i := by simp only [found, hp]
      rw [e]
      have hlen := List.getElem?_eq_none_iff.1 hp
      refine ⟨fun p h => ?_, ih.sorted, fun j p c hj h => ?_, ih.pred⟩
      · rw [List.getElem?_eq_none (by omega)] at h; cases h
      · rcases Nat.lt_or_ge j i with h1 | h1
        · exact ih.lip j p c h1 h
        · rw [List.getElem?_eq_none (by omega)] at h; cases h
    | some p =>
      have e : found pass s (i + 1) = expand pass (found pass s i) p := by simp only [found, hp]
      rw [e]
      unfold expand
      have hil : i < (found pass s i).length := (List.getElem?_eq_some_iff.1 hp).1
      have hpm := List.mem_of_getElem? hp
      obtain ⟨⟨G, hG, hGq⟩, hv⟩ := visits_all (pass := pass) (beside p.1) (found pass s i) (ih.top p hp)
      have hpred : ∀ q ∈ found pass s i ++ G, q = (s, 0) ∨ ∃ r ∈ found pass s i ++ G, q.1 ∈ beside r.1 ∧ q.2 = r.2 + 1 := by
        intro q hq
        rcases List.mem_append.1 hq with h | h
        · rcases ih.pred q h with h1 | ⟨r, hr, h2⟩
          · exact .inl h1
          · exact .inr ⟨r, List.mem_append_left _ hr, h2⟩
        · exact .inr ⟨p, List.mem_append_left _ hpm, (hGq q h).2, (hGq q h).1⟩
      have hsort : (found pass s i ++ G).Pairwise fun a b => a.2 ≤ b.2 := by
        rw [List.pairwise_append]
        refine ⟨ih.sorted, ?_, fun a ha b hb => ?_⟩
        · rw [List.pairwise_iff_forall_sublist]
          intro a b hab
          have h1 := hGq a (hab.subset (by simp))
          have h2 := hGq b (hab.subset (by simp))
          omega
        · have := ih.top p hp a ha
          rw [(hGq b hb).1]; exact this
      rw [hG] at hv ⊢
      refine ⟨fun r hr q hq => ?_, hsort, fun j r c hj hr hc hpc => ?_, hpred⟩
      · have hge : p.2 ≤ r.2 := by
          have h1 : (found pass s i ++ G)[i]? = some p := by rw [List.getElem?_append_left hil, hp]
          obtain ⟨a1, a2⟩ := List.getElem?_eq_some_iff.1 h1
          obtain ⟨b1, b2⟩ := List.getElem?_eq_some_iff.1 hr
          have := List.pairwise_iff_getElem.1 hsort i (i + 1) a1 b1 (by omega)
          rw [a2, b2] at this
          exact this
        rcases List.mem_append.1 hq with h | h
        · have := ih.top p hp q h; omega
        · have := (hGq q h).1; omega
      · rcases Nat.lt_or_ge j i with h1 | h1
        · rw [List.getElem?_append_left (by omega)] at hr
          obtain ⟨u, hu, hle⟩ := ih.lip j r c h1 hr hc hpc
          exact ⟨u, List.mem_append_left _ hu, hle⟩
        · have hji : j = i := by omega
          subst hji
          rw [List.getElem?_append_left hil, hp] at hr
          simp only [Option.some.injEq] at hr
          subst hr
          exact hv c hc hpc
section
variable {pass : Pt → Bool} (hn : ∀ c, pass c = true → (0 ≤ c.1 ∧ c.1 < 10) ∧ 0 ≤ c.2 ∧ c.2 < 10)
include hn
theorem lip100 {s : Pt} (hs : pass s = true) {p : Pt × Int} (hp : p ∈ found pass s 100) {c : Pt} (hc : c ∈ beside p.1) (hpc : pass c = true) : ∃ u, (c, u) ∈ found pass s 100 ∧ u ≤ p.2 + 1 := by
  obtain ⟨j, hj, e⟩ := List.getElem_of_mem hp
  have hlen := good_length hn (found_good hs 100)
  exact (found_bfs 100).lip j p c (by omega) (by rw [List.getElem?_eq_getElem hj, e]) hc hpc
theorem val100 {s : Pt} (hs : pass s = true) {p : Pt × Int} (hp : p ∈ found pass s 100) : 0 ≤ p.2 := by
  have _ := hn
  obtain ⟨j, hj, e⟩ := List.getElem_of_mem hp
  exact ((found_good hs 100).val j p (by rw [List.getElem?_eq_getElem hj, e])).1
theorem tri100 {a m : Pt} (ha : pass a = true) (hm : pass m = true) {d : Int} (hd : (m, d) ∈ found pass a 100) : ∀ (k : Nat) (c : Pt), (c, (k : Int)) ∈ found pass m 100 → ∃ u, (c, u) ∈ found pass a 100 ∧ u ≤ d + k := by
  intro k
  induction k with
  | zero =>
    intro c hc
    rcases (found_bfs 100).pred _ hc with h | ⟨p, hp, h1, h2⟩
    · simp only [Prod.mk.injEq] at h
      rw [h.1]
      exact ⟨d, hd, by simp⟩
    · have := val100 hn hm hp
      dsimp only at h2
      omega
  | succ k ih =>
    intro c hc
    have hpc := (found_good hm 100).pass _ hc
    rcases (found_bfs 100).pred _ hc with h | ⟨p, hp, h1, h2⟩
    · simp only [Prod.mk.injEq] at h
      omega
    · obtain ⟨pc, pv⟩ := p
      dsimp only at h1 h2
      have : pv = (k : Int) := by omega
      subst this
      obtain ⟨u, hu, hle⟩ := ih pc hp
      obtain ⟨u', hu', hle'⟩ := lip100 hn ha hu h1 hpc
      exact ⟨u', hu', by dsimp only at hle'; omega⟩
theorem sym100 {a b : Pt} (ha : pass a = true) (hb : pass b = true) : ∀ (k : Nat) (c : Pt) (w : Int), (c, (k : Int)) ∈ found pass b 100 → (c, w) ∈ found pass a 100 → ∃ u, (b, u) ∈ found pass a 100 ∧ u ≤ w + k := by
  intro k
  induction k with
  | zero =>
    intro c w hc hw
    rcases (found_bfs 100).pred _ hc with h | ⟨p, hp, h1, h2⟩
    · simp only [Prod.mk.injEq] at h
      rw [← h.1]
      exact ⟨w, hw, by simp⟩
    · have := val100 hn hb hp
      dsimp only at h2
      omega
  | succ k ih =>
    intro c w hc hw
    rcases (found_bfs 100).pred _ hc with h | ⟨p, hp, h1, h2⟩
    · simp only [Prod.mk.injEq] at h
      omega
    · obtain ⟨pc, pv⟩ := p
      dsimp only at h1 h2
      have : pv = (k : Int) := by omega
      subst this
      have hpp := (found_good hb 100).pass _ hp
      obtain ⟨u, hu, hle⟩ := lip100 hn ha hw (beside_symm h1) hpp
      obtain ⟨u', hu', hle'⟩ := ih pc u hp hu
      exact ⟨u', hu', by dsimp only at hle; omega⟩
end
theorem steps_mem {L : Lawn} {a c : Pt} (ha : openP L a = true) {u : Int} (h : (c, u) ∈ found (openP L) a 100) : stepsAt (found (openP L) a 100) c.1 c.2 = u := by
  unfold stepsAt
  rw [alLook_mem (found_good ha 100).nodup h]
  rfl
theorem mem_steps {L : Lawn} {a c : Pt} (h : 0 ≤ stepsAt (found (openP L) a 100) c.1 c.2) : (c, stepsAt (found (openP L) a 100) c.1 c.2) ∈ found (openP L) a 100 := by
  unfold stepsAt at h ⊢
  cases hk : alLook (found (openP L) a 100) (c.1, c.2) with
  | none => rw [hk] at h; simp at h
  | some z => exact alLook_in hk
/-- The steps between the cells of tours: the triangle, the same both ways, none from a cell to itself. -/
theorem tb_metric {L : Lawn} {l : List Pt} {h : Pt} {full : Int} (hz : goalZ L l h full = 0) :
    (∀ i j k, i ≤ l.length → j ≤ l.length → k ≤ l.length → tbT L l h i k ≤ tbT L l h i j + tbT L l h j k) ∧ (∀ i j, i ≤ l.length → j ≤ l.length → tbT L l h i j = tbT L l h j i) ∧ ∀ i, i ≤ l.length → tbT L l h i i = 0 := by
  obtain ⟨h0, -, hp⟩ := goal_pairs hz
  obtain ⟨hv, -, hop, -, -⟩ := askZ_good h0
  have hn := openP_near hv
  have ho : ∀ i, i ≤ l.length → openP L (csT l h i) = true := fun i hi => by
    rcases csT_mem (h := h) hi with e | e
    · rw [e]; exact hop h (by simp)
    · exact hop _ (by simp [e])
  have hm : ∀ i j, i ≤ l.length → j ≤ l.length → (csT l h j, tbT L l h i j) ∈ found (openP L) (csT l h i) 100 := fun i j hi hj => mem_steps (hp i j hi hj).1
  have hsym : ∀ i j, i ≤ l.length → j ≤ l.length → tbT L l h i j ≤ tbT L l h j i := fun i j hi hj => by
    obtain ⟨t, ht⟩ : ∃ t : Nat, tbT L l h j i = t := ⟨(tbT L l h j i).toNat, by have := (hp j i hj hi).1; omega⟩
    have h1 := hm j i hj hi
    rw [ht] at h1
    have h2 : (csT l h i, (0 : Int)) ∈ found (openP L) (csT l h i) 100 := by
      obtain ⟨G, hG⟩ := found_grow (pass := openP L) (s := csT l h i) 0 100
      rw [Nat.zero_add] at hG
      rw [hG]
      simp [found]
    obtain ⟨u, hu, hle⟩ := sym100 hn (ho i hi) (ho j hj) t _ _ h1 h2
    have e := steps_mem (ho i hi) hu
    have e' : tbT L l h i j = u := e
    omega
  refine ⟨fun i j k hi hj hk => ?_, fun i j hi hj => Int.le_antisymm (hsym i j hi hj) (hsym j i hj hi), fun i hi => ?_⟩
  · obtain ⟨t, ht⟩ : ∃ t : Nat, tbT L l h j k = t := ⟨(tbT L l h j k).toNat, by have := (hp j k hj hk).1; omega⟩
    have h1 := hm j k hj hk
    rw [ht] at h1
    obtain ⟨u, hu, hle⟩ := tri100 hn (ho i hi) (ho j hj) (hm i j hi hj) t _ h1
    have e : tbT L l h i k = u := steps_mem (ho i hi) hu
    omega
  · have h2 : (csT l h i, (0 : Int)) ∈ found (openP L) (csT l h i) 100 := by
      obtain ⟨G, hG⟩ := found_grow (pass := openP L) (s := csT l h i) 0 100
      rw [Nat.zero_add] at hG
      rw [hG]
      simp [found]
    exact steps_mem (ho i hi) h2
end Go.Proofs.Ytaeenkjbmlgcmaa

namespace Go.Proofs.Ytaeenkjbmlgcmaa
open Go.RowKit
set_option linter.unusedVariables false

abbrev FoundN := List (Pt × Nat)
def sidesW (c : Pt) : List (Nat × Pt) := [(0, (c.1, c.2 - 1)), (1, (c.1 - 1, c.2)), (2, (c.1 + 1, c.2)), (3, (c.1, c.2 + 1))]
def visitN (pass : Pt → Bool) (d : Nat) (F : FoundN) (kc : Nat × Pt) : FoundN := if (alLook F kc.2).isSome || !pass kc.2 then F else F ++ [(kc.2, 4 * d + kc.1)]
def foundN (pass : Pt → Bool) (s : Pt) : Nat → FoundN
  | 0 => [(s, 1)]
  | n + 1 => match (foundN pass s n)[n]? with
    | some p => (sidesW p.1).foldl (visitN pass p.2) (foundN pass s n)
    | none => foundN pass s n
theorem visitN_step {pass : Pt → Bool} {d k : Nat} {c : Pt} {F : FoundN} (hF : ∀ q ∈ F, q.2 < 4 * d + k) (hs : F.Pairwise fun a b => a.2 < b.2) :
    (∃ G, visitN pass d F (k, c) = F ++ G ∧ ∀ q ∈ G, q = (c, 4 * d + k) ∧ pass c = true) ∧ (∀ q ∈ visitN pass d F (k, c), q.2 < 4 * d + (k + 1)) ∧ ((visitN pass d F (k, c)).Pairwise fun a b => a.2 < b.2) ∧ (pass c = true → ∃ u, (c, u) ∈ visitN pass d F (k, c) ∧ u ≤ 4 * d + k) := by
  unfold visitN
  dsimp only
  split
  · rename_i h
    refine ⟨⟨[], by simp, by simp⟩, fun q hq => by have := hF q hq; omega, hs, fun hp => ?_⟩
    rw [hp] at h
    simp only [Bool.not_true, Bool.or_false] at h
    obtain ⟨v, hv⟩ := Option.isSome_iff_exists.1 h
    have := hF _ (alLook_in hv)
    exact ⟨v, alLook_in hv, by dsimp only at this; omega⟩
  · rename_i h
    simp only [Bool.or_eq_true, not_or, Bool.not_eq_true', Bool.not_eq_false] at h
    refine ⟨⟨[(c, 4 * d + k)], rfl, fun q hq => ⟨by simpa using hq, h.2⟩⟩, fun q hq => ?_, ?_, fun _ => ⟨4 * d + k, by simp, Nat.le_refl _⟩⟩
    · rcases List.mem_append.1 hq with h1 | h1
      · have := hF q h1; omega
      · rw [List.mem_singleton.1 h1]; dsimp only; omega
    · rw [List.pairwise_append]
      refine ⟨hs, by simp, fun a ha b hb => ?_⟩
      rw [List.mem_singleton.1 hb]
      exact hF a ha
theorem visitsN_all {pass : Pt → Bool} {d : Nat} (p : Pt) {F : FoundN} (hF : ∀ q ∈ F, q.2 < 4 * d) (hs : F.Pairwise fun a b => a.2 < b.2) :
    (∃ G, (sidesW p).foldl (visitN pass d) F = F ++ G ∧ ∀ q ∈ G, ∃ kc ∈ sidesW p, q = (kc.2, 4 * d + kc.1) ∧ pass kc.2 = true) ∧ (∀ q ∈ (sidesW p).foldl (visitN pass d) F, q.2 < 4 * d + 4) ∧ (((sidesW p).foldl (visitN pass d) F).Pairwise fun a b => a.2 < b.2) ∧ ∀ kc ∈ sidesW p, pass kc.2 = true → ∃ u, (kc.2, u) ∈ (sidesW p).foldl (visitN pass d) F ∧ u ≤ 4 * d + kc.1 := by
  obtain ⟨⟨G0, e0, g0⟩, t0, s0, l0⟩ := visitN_step (pass := pass) (d := d) (k := 0) (c := (p.1, p.2 - 1)) (F := F) hF hs
  obtain ⟨⟨G1, e1, g1⟩, t1, s1, l1⟩ := visitN_step (pass := pass) (d := d) (k := 1) (c := (p.1 - 1, p.2)) t0 s0
  obtain ⟨⟨G2, e2, g2⟩, t2, s2, l2⟩ := visitN_step (pass := pass) (d := d) (k := 2) (c := (p.1 + 1, p.2)) t1 s1
  obtain ⟨⟨G3, e3, g3⟩, t3, s3, l3⟩ := visitN_step (pass := pass) (d := d) (k := 3) (c := (p.1, p.2 + 1)) t2 s2
  have ef : (sidesW p).foldl (visitN pass d) F = visitN pass d (visitN pass d (visitN pass d (visitN pass d F (0, (p.1, p.2 - 1))) (1, (p.1 - 1, p.2))) (2, (p.1 + 1, p.2))) (3, (p.1, p.2 + 1)) := rfl
  rw [ef]
  have m3 : ∀ q, q ∈ visitN pass d (visitN pass d (visitN pass d F (0, (p.1, p.2 - 1))) (1, (p.1 - 1, p.2))) (2, (p.1 + 1, p.2)) → q ∈ visitN pass d (visitN pass d (visitN pass d (visitN pass d F (0, (p.1, p.2 - 1))) (1, (p.1 - 1, p.2))) (2, (p.1 + 1, p.2))) (3, (p.1, p.2 + 1)) := fun q hq => by rw [e3]; exact List.mem_append_left _ hq
  have m2 : ∀ q, q ∈ visitN pass d (visitN pass d F (0, (p.1, p.2 - 1))) (1, (p.1 - 1, p.2)) → q ∈ visitN pass d (visitN pass d (visitN pass d F (0, (p.1, p.2 - 1))) (1, (p.1 - 1, p.2))) (2, (p.1 + 1, p.2)) := fun q hq => by rw [e2]; exact List.mem_append_left _ hq
  have m1 : ∀ q, q ∈ visitN pass d F (0, (p.1, p.2 - 1)) → q ∈ visitN pass d (visitN pass d F (0, (p.1, p.2 - 1))) (1, (p.1 - 1, p.2)) := fun q hq => by rw [e1]; exact List.mem_append_left _ hq
  refine ⟨⟨G0 ++ G1 ++ G2 ++ G3, by rw [e3, e2, e1, e0]; simp [List.append_assoc], fun q hq => ?_⟩, t3, s3, fun kc hkc hp => ?_⟩
  · simp only [List.mem_append] at hq
    rcases hq with ((h | h) | h) | h
    · exact ⟨(0, (p.1, p.2 - 1)), by simp [sidesW], (g0 q h).1, (g0 q h).2⟩
    · exact ⟨(1, (p.1 - 1, p.2)), by simp [sidesW], (g1 q h).1, (g1 q h).2⟩
    · exact ⟨(2, (p.1 + 1, p.2)), by simp [sidesW], (g2 q h).1, (g2 q h).2⟩
    · exact ⟨(3, (p.1, p.2 + 1)), by simp [sidesW], (g3 q h).1, (g3 q h).2⟩
  · simp only [sidesW, List.mem_cons, List.not_mem_nil, or_false] at hkc
    rcases hkc with rfl | rfl | rfl | rfl
    · obtain ⟨u, hu, hle⟩ := l0 hp; exact ⟨u, m3 _ (m2 _ (m1 _ hu)), hle⟩
    · obtain ⟨u, hu, hle⟩ := l1 hp; exact ⟨u, m3 _ (m2 _ hu), hle⟩
    · obtain ⟨u, hu, hle⟩ := l2 hp; exact ⟨u, m3 _ hu, hle⟩
    · exact l3 hp
structure BfsN (pass : Pt → Bool) (s : Pt) (F : FoundN) (i : Nat) : Prop where
  top : ∀ p, F[i]? = some p → ∀ q ∈ F, q.2 < 4 * p.2
  sorted : F.Pairwise fun a b => a.2 < b.2
  lip : ∀ j p kc, j < i → F[j]? = some p → kc ∈ sidesW p.1 → pass kc.2 = true → ∃ u, (kc.2, u) ∈ F ∧ u ≤ 4 * p.2 + kc.1
  pos : ∀ q ∈ F, 1 ≤ q.2
  pred : ∀ q ∈ F, q = (s, 1) ∨ ∃ p ∈ F, ∃ kc ∈ sidesW p.1, q = (kc.2, 4 * p.2 + kc.1) ∧ pass kc.2 = true
theorem found_bfsN {pass : Pt → Bool} {s : Pt} : ∀ i, BfsN pass s (foundN pass s i) i
  | 0 => by
    refine ⟨?_, by simp [foundN], fun j p c h => by omega, by simp [foundN], by simp [foundN]⟩
    intro p hp q hq
    simp only [foundN, List.getElem?_cons_zero, Option.some.injEq] at hp
    simp only [foundN, List.mem_singleton] at hq
    rw [hq, ← hp]
    show 1 < 4 * 1
    omega
  | i + 1 => by
    have ih := found_bfsN (pass := pass) (s := s) i
    cases hp : (foundN pass s i)[i]? with
    | none =>
      have e : foundN pass s (i + 1) = foundN pass s i := by simp only [foundN, hp]
      rw [e]
      have hlen := List.getElem?_eq_none_iff.1 hp
      refine ⟨fun p h => ?_, ih.sorted, fun j p c hj h => ?_, ih.pos, ih.pred⟩
      · rw [List.getElem?_eq_none (by omega)] at h; cases h
      · rcases Nat.lt_or_ge j i with h1 | h1
        · exact ih.lip j p c h1 h
        · rw [List.getElem?_eq_none (by omega)] at h; cases h
    | some p =>
      have e : foundN pass s (i + 1) = (sidesW p.1).foldl (visitN pass p.2) (foundN pass s i) := by simp only [foundN, hp]
      have hil : i < (foundN pass s i).length := (List.getElem?_eq_some_iff.1 hp).1
      have hpm := List.mem_of_getElem? hp
      obtain ⟨⟨G, hG, hGq⟩, ht, hso, hv⟩ := visitsN_all (pass := pass) p.1 (ih.top p hp) ih.sorted
      rw [← e] at hG ht hso hv
      refine ⟨fun r hr q hq => ?_, hso, fun j r kc hj hr hc hpc => ?_, fun q hq => ?_, fun q hq => ?_⟩
      · have hge : p.2 < r.2 := by
          have h1 : (foundN pass s (i + 1))[i]? = some p := by rw [hG, List.getElem?_append_left hil, hp]
          obtain ⟨a1, a2⟩ := List.getElem?_eq_some_iff.1 h1
          obtain ⟨b1, b2⟩ := List.getElem?_eq_some_iff.1 hr
          have := List.pairwise_iff_getElem.1 hso i (i + 1) a1 b1 (by omega)
          rw [a2, b2] at this
          exact this
        have := ht q hq
        omega
      · rcases Nat.lt_or_ge j i with h1 | h1
        · rw [hG, List.getElem?_append_left (by omega)] at hr
          obtain ⟨u, hu, hle⟩ := ih.lip j r kc h1 hr hc hpc
          exact ⟨u, by rw [hG]; exact List.mem_append_left _ hu, hle⟩
        · have hji : j = i := by omega
          subst hji
          rw [hG, List.getElem?_append_left hil, hp] at hr
          simp only [Option.some.injEq] at hr
          subst hr
          exact hv kc hc hpc
      · rw [hG] at hq
        rcases List.mem_append.1 hq with h | h
        · exact ih.pos q h
        · obtain ⟨kc, h1, h2, -⟩ := hGq q h
          have := ih.pos p hpm
          rw [h2]; dsimp only; omega
      · rw [hG] at hq ⊢
        rcases List.mem_append.1 hq with h | h
        · rcases ih.pred q h with h1 | ⟨r, hr, h2⟩
          · exact .inl h1
          · exact .inr ⟨r, List.mem_append_left _ hr, h2⟩
        · obtain ⟨kc, h1, h2⟩ := hGq q h
          exact .inr ⟨p, List.mem_append_left _ hpm, kc, h1, h2⟩
/-- The cells that are found are those of the search that counts steps, in the same order. -/
theorem look_keys {κ ν μ : Type} [DecidableEq κ] : ∀ {l : List (κ × ν)} {m : List (κ × μ)}, l.map (·.1) = m.map (·.1) → ∀ k, (alLook l k).isSome = (alLook m k).isSome
  | [], [], _, _ => rfl
  | [], _ :: _, h, _ => by simp at h
  | _ :: _, [], h, _ => by simp at h
  | (a, u) :: l, (b, v) :: m, h, k => by
    simp only [List.map_cons, List.cons.injEq] at h
    obtain ⟨rfl, h⟩ := h
    simp only [alLook]
    split
    · rfl
    · exact look_keys h k
theorem foundN_keys {pass : Pt → Bool} {s : Pt} : ∀ n, (foundN pass s n).map (·.1) = (found pass s n).map (·.1)
  | 0 => rfl
  | n + 1 => by
    have ih := foundN_keys (pass := pass) (s := s) n
    have hn : ((foundN pass s n)[n]?).map (·.1) = ((found pass s n)[n]?).map (·.1) := by rw [← List.getElem?_map, ← List.getElem?_map, ih]
    have hstep : ∀ (d : Nat) (d' : Int) (k : Nat) (c : Pt) (F : FoundN) (F' : Found), F.map (·.1) = F'.map (·.1) → (visitN pass d F (k, c)).map (·.1) = (visit pass d' F' c).map (·.1) := by
      intro d d' k c F F' h
      unfold visitN visit
      rw [look_keys h c]
      dsimp only
      split
      · exact h
      · rw [List.map_append, List.map_append, h]; rfl
    simp only [foundN, found]
    cases h1 : (foundN pass s n)[n]? with
    | none =>
      cases h2 : (found pass s n)[n]? with
      | none => exact ih
      | some q => rw [h1, h2] at hn; cases hn
    | some p =>
      cases h2 : (found pass s n)[n]? with
      | none => rw [h1, h2] at hn; cases hn
      | some q =>
        rw [h1, h2] at hn
        simp only [Option.map_some, Option.some.injEq] at hn
        dsimp only
        unfold expand sidesW beside
        simp only [List.foldl_cons, List.foldl_nil]
        rw [hn]
        exact hstep _ _ _ _ _ _ (hstep _ _ _ _ _ _ (hstep _ _ _ _ _ _ (hstep _ _ _ _ _ _ ih)))

/-- The cell beside one, by the letter's number. -/
def stepW (c : Pt) (k : Nat) : Pt := if k = 0 then (c.1, c.2 - 1) else if k = 1 then (c.1 - 1, c.2) else if k = 2 then (c.1 + 1, c.2) else (c.1, c.2 + 1)
theorem sides_step {c : Pt} {kc : Nat × Pt} : kc ∈ sidesW c ↔ kc.1 < 4 ∧ kc.2 = stepW c kc.1 := by
  obtain ⟨k, d⟩ := kc
  unfold sidesW
  simp only [List.mem_cons, List.not_mem_nil, or_false, Prod.mk.injEq]
  constructor
  · rintro (⟨rfl, rfl⟩ | ⟨rfl, rfl⟩ | ⟨rfl, rfl⟩ | ⟨rfl, rfl⟩) <;> simp [stepW]
  · rintro ⟨h1, h2⟩
    have : k = 0 ∨ k = 1 ∨ k = 2 ∨ k = 3 := by omega
    rcases this with rfl | rfl | rfl | rfl <;> simp [stepW] at h2 <;> simp [h2]
theorem step_beside {c : Pt} {k : Nat} : stepW c k ∈ beside c := by
  unfold stepW beside
  split
  · simp
  · split
    · simp
    · split <;> simp
theorem beside_step {c d : Pt} (h : d ∈ beside c) : ∃ k, k < 4 ∧ stepW c k = d := by
  unfold beside at h
  simp only [List.mem_cons, List.not_mem_nil, or_false] at h
  rcases h with rfl | rfl | rfl | rfl
  · exact ⟨0, by omega, rfl⟩
  · exact ⟨1, by omega, rfl⟩
  · exact ⟨2, by omega, rfl⟩
  · exact ⟨3, by omega, rfl⟩
/-- A way leads from a cell to another, over cells that may be gone over. -/
def WalkW (pass : Pt → Bool) : Pt → List Nat → Pt → Prop
  | a, [], b => a = b
  | a, k :: v, b => k < 4 ∧ pass (stepW a k) = true ∧ WalkW pass (stepW a k) v b
theorem walk_snoc {pass : Pt → Bool} {k : Nat} {c : Pt} : ∀ (v : List Nat) (a : Pt), WalkW pass a (v ++ [k]) c ↔ ∃ p, WalkW pass a v p ∧ k < 4 ∧ pass (stepW p k) = true ∧ stepW p k = c
  | [], a => by simp [WalkW]
  | x :: v, a => by
    simp only [List.cons_append, WalkW, walk_snoc v]
    constructor
    · rintro ⟨h1, h2, p, h3, h4⟩; exact ⟨p, ⟨h1, h2, h3⟩, h4⟩
    · rintro ⟨p, ⟨h1, h2, h3⟩, h4⟩; exact ⟨h1, h2, p, h3, h4⟩
def numF (x : Nat) (v : List Nat) : Nat := v.foldl (fun n k => 4 * n + k) x
theorem numF_snoc (x : Nat) (v : List Nat) (k : Nat) : numF x (v ++ [k]) = 4 * numF x v + k := by simp [numF]
theorem numF_ge : ∀ (v : List Nat) (x : Nat), x ≤ numF x v
  | [], x => Nat.le_refl _
  | k :: v, x => by
    have := numF_ge v (4 * x + k)
    show x ≤ numF (4 * x + k) v
    omega
theorem numF_lt : ∀ (g v : List Nat) (x y : Nat), g.length ≤ v.length → (∀ k ∈ g, k < 4) → x < y → numF x g < numF y v
  | [], v, x, y, _, _, h => Nat.lt_of_lt_of_le h (numF_ge v y)
  | k :: g, [], x, y, hl, _, _ => by simp at hl
  | k :: g, m :: v, x, y, hl, hk, h => by
    show numF (4 * x + k) g < numF (4 * y + m) v
    have := hk k (by simp)
    exact numF_lt g v _ _ (by simpa using hl) (fun z hz => hk z (by simp [hz])) (by omega)
theorem numF_long : ∀ (g v : List Nat) (x y : Nat), g.length < v.length → (∀ k ∈ g, k < 4) → x < 4 * y → numF x g < numF y v
  | [], [], x, y, hl, _, _ => by simp at hl
  | [], k :: v, x, y, _, _, h => by
    have := numF_ge v (4 * y + k)
    show x < numF (4 * y + k) v
    omega
  | k :: g, [], x, y, hl, _, _ => by simp at hl
  | k :: g, m :: v, x, y, hl, hk, h => by
    show numF (4 * x + k) g < numF (4 * y + m) v
    have := hk k (by simp)
    exact numF_long g v _ _ (by simpa using hl) (fun z hz => hk z (by simp [hz])) (by omega)
section
variable {pass : Pt → Bool} (hn : ∀ c, pass c = true → (0 ≤ c.1 ∧ c.1 < 10) ∧ 0 ≤ c.2 ∧ c.2 < 10)
include hn
theorem foundN_len {s : Pt} (hs : pass s = true) : (foundN pass s 100).length ≤ 100 := by
  have h1 := good_length hn (found_good hs 100)
  have h2 := congrArg List.length (foundN_keys (pass := pass) (s := s) 100)
  simp only [List.length_map] at h2
  omega
theorem wayN_min {s : Pt} (hs : pass s = true) (v : List Nat) : ∀ (c : Pt), WalkW pass s v c → ∃ u, (c, u) ∈ foundN pass s 100 ∧ u ≤ numF 1 v := by
  have hlen := foundN_len hn hs
  have hst : (s, 1) ∈ foundN pass s 100 := by
    have hm : ∀ n, (s, 1) ∈ foundN pass s n := by
      intro n
      induction n with
      | zero => simp [foundN]
      | succ n ih =>
        cases hp : (foundN pass s n)[n]? with
        | none =>
          have e : foundN pass s (n + 1) = foundN pass s n := by simp only [foundN, hp]
          rw [e]; exact ih
        | some p =>
          have e : foundN pass s (n + 1) = (sidesW p.1).foldl (visitN pass p.2) (foundN pass s n) := by simp only [foundN, hp]
          obtain ⟨⟨G, hG, -⟩, -⟩ := visitsN_all (pass := pass) p.1 ((found_bfsN n).top p hp) (found_bfsN n).sorted
          rw [e, hG]; exact List.mem_append_left _ ih
    exact hm 100
  generalize hl : v.length = m
  induction m generalizing v with
  | zero =>
    intro c h
    rw [List.length_eq_zero_iff.1 hl] at h ⊢
    exact ⟨1, by rw [← (show s = c from h)]; exact hst, Nat.le_refl _⟩
  | succ m ih =>
    intro c h
    rcases List.eq_nil_or_concat v with rfl | ⟨v', k, rfl⟩
    · simp at hl
    · rw [List.concat_eq_append] at hl h ⊢
      obtain ⟨p, h1, h2, h3, h4⟩ := (walk_snoc v' s).1 h
      obtain ⟨u, hu, hle⟩ := ih v' (by simpa using hl) p h1
      obtain ⟨j, hj, e⟩ := List.getElem_of_mem hu
      obtain ⟨u', hu', hle'⟩ := (found_bfsN 100).lip j (p, u) (k, stepW p k) (by omega) (by rw [List.getElem?_eq_getElem hj, e]) (sides_step.2 ⟨h2, rfl⟩) h3
      refine ⟨u', by rw [← h4]; exact hu', ?_⟩
      rw [numF_snoc]
      dsimp only at hle'
      omega
theorem wayN_real {s : Pt} : ∀ (u : Nat) (c : Pt), (c, u) ∈ foundN pass s 100 → ∃ v, WalkW pass s v c ∧ numF 1 v = u := by
  have _ := hn
  intro u
  induction u using Nat.strongRecOn with
  | _ u ih =>
    intro c hc
    rcases (found_bfsN 100).pred _ hc with h | ⟨p, hp, kc, h1, h2, h3⟩
    · cases h; exact ⟨[], rfl, rfl⟩
    · cases h2
      have h0 := (found_bfsN 100).pos p hp
      obtain ⟨pc, pu⟩ := p
      dsimp only at h0 h1 hc ih ⊢
      obtain ⟨v, a1, a2⟩ := ih pu (by omega) pc hp
      obtain ⟨b1, b2⟩ := sides_step.1 h1
      exact ⟨v ++ [kc.1], (walk_snoc v s).2 ⟨pc, a1, b1, by rw [← b2]; exact h3, b2.symm⟩, by rw [numF_snoc, a2]⟩
end

/-- The first of four numbers of which something holds. -/
def firstK (q : Nat → Bool) : Option Nat := if q 0 then some 0 else if q 1 then some 1 else if q 2 then some 2 else if q 3 then some 3 else none
theorem firstK_some {q : Nat → Bool} {k : Nat} (hk : k < 4) (h : q k = true) : ∃ j, firstK q = some j ∧ j < 4 ∧ q j = true ∧ ∀ i, i < j → q i = false := by
  unfold firstK
  by_cases h0 : q 0 = true
  · exact ⟨0, by rw [if_pos h0], by omega, h0, fun i hi => by omega⟩
  by_cases h1 : q 1 = true
  · exact ⟨1, by rw [if_neg h0, if_pos h1], by omega, h1, fun i hi => by
      obtain rfl : i = 0 := by omega
      simpa using h0⟩
  by_cases h2 : q 2 = true
  · exact ⟨2, by rw [if_neg h0, if_neg h1, if_pos h2], by omega, h2, fun i hi => by
      have : i = 0 ∨ i = 1 := by omega
      rcases this with rfl | rfl
      · simpa using h0
      · simpa using h1⟩
  by_cases h3 : q 3 = true
  · exact ⟨3, by rw [if_neg h0, if_neg h1, if_neg h2, if_pos h3], by omega, h3, fun i hi => by
      have : i = 0 ∨ i = 1 ∨ i = 2 := by omega
      rcases this with rfl | rfl | rfl
      · simpa using h0
      · simpa using h1
      · simpa using h2⟩
  · have : k = 0 ∨ k = 1 ∨ k = 2 ∨ k = 3 := by omega
    rcases this with rfl | rfl | rfl | rfl
    · exact absurd h h0
    · exact absurd h h1
    · exact absurd h h2
    · exact absurd h h3
/-- How far it is home. -/
def homeD (L : Lawn) (h c : Pt) : Int := stepsAt (found (openP L) h 100) c.1 c.2
/-- The model's way home: always the first letter that leads nearer. -/
def greedyW (L : Lawn) (h : Pt) : Nat → Pt → List Nat
  | 0, _ => []
  | f + 1, a => match firstK (fun k => openP L (stepW a k) && decide (homeD L h (stepW a k) = homeD L h a - 1)) with
    | some k => k :: greedyW L h f (stepW a k)
    | none => []
section
variable {L : Lawn} (hv : validB L = true) {h : Pt} (hh : openP L h = true)
include hv hh
theorem homeD_home : homeD L h h = 0 := by
  have _ := hv
  have hm : ∀ n, (h, (0 : Int)) ∈ found (openP L) h n := fun n => found_mem n
  obtain ⟨m, e⟩ : ∃ m, m = 100 := ⟨_, rfl⟩
  have := hm m
  rw [e] at this
  exact steps_mem hh this
theorem homeD_zero {a : Pt} (h0 : homeD L h a = 0) : a = h := by
  have hm := mem_steps (L := L) (a := h) (c := a) (by unfold homeD at h0; omega)
  unfold homeD at h0
  rw [h0] at hm
  rcases (found_bfs 100).pred _ hm with e | ⟨p, hp, h1, h2⟩
  · simp only [Prod.mk.injEq] at e; exact e.1
  · have := val100 (openP_near hv) hh hp
    dsimp only at h2
    omega
theorem homeD_next {a : Pt} {f : Nat} (h0 : homeD L h a = (f : Int) + 1) : ∃ k, k < 4 ∧ openP L (stepW a k) = true ∧ homeD L h (stepW a k) = f := by
  have _ := hv
  have hm := mem_steps (L := L) (a := h) (c := a) (by unfold homeD at h0; omega)
  unfold homeD at h0
  rw [h0] at hm
  rcases (found_bfs 100).pred _ hm with e | ⟨p, hp, h1, h2⟩
  · simp only [Prod.mk.injEq] at e; omega
  · obtain ⟨k, hk, e⟩ := beside_step (beside_symm h1)
    refine ⟨k, hk, ?_, ?_⟩
    · rw [e]; exact (found_good hh 100).pass _ hp
    · unfold homeD
      rw [e, steps_mem hh hp]
      dsimp only at h2
      omega
theorem home_len : ∀ (v : List Nat) (a : Pt), openP L a = true → WalkW (openP L) a v h → 0 ≤ homeD L h a ∧ homeD L h a ≤ v.length
  | [], a, _, hw => by
    rw [show a = h from hw, homeD_home hv hh]
    exact ⟨Int.le_refl _, by simp⟩
  | k :: v, a, ha, hw => by
    obtain ⟨h1, h2, h3⟩ := hw
    obtain ⟨i1, i2⟩ := home_len v _ h2 h3
    have hm := mem_steps (L := L) (a := h) (c := stepW a k) (by unfold homeD at i1; exact i1)
    obtain ⟨u, hu, hle⟩ := lip100 (openP_near hv) hh hm (beside_symm step_beside) ha
    have e := steps_mem hh hu
    have h0 := val100 (openP_near hv) hh hu
    unfold homeD at i2 ⊢
    rw [e]
    dsimp only at hle h0
    simp only [List.length_cons]
    omega
theorem greedy_best : ∀ (f : Nat) (a : Pt), openP L a = true → homeD L h a = f → WalkW (openP L) a (greedyW L h f a) h ∧ (greedyW L h f a).length = f ∧ (∀ k ∈ greedyW L h f a, k < 4) ∧ ∀ (v : List Nat) (x : Nat), 1 ≤ x → WalkW (openP L) a v h → numF x (greedyW L h f a) ≤ numF x v := by
  intro f
  induction f with
  | zero =>
    intro a ha hd
    exact ⟨homeD_zero hv hh (by rw [hd]; rfl), rfl, fun k hk => (List.not_mem_nil hk).elim, fun v x _ _ => numF_ge v x⟩
  | succ f ih =>
    intro a ha hd
    obtain ⟨k0, hk0, hp0, hd0⟩ := homeD_next hv hh (a := a) (f := f) (by rw [hd]; simp)
    obtain ⟨k, e, hk, hq, hmin⟩ := firstK_some (q := fun k => openP L (stepW a k) && decide (homeD L h (stepW a k) = homeD L h a - 1)) hk0 (by
      simp only [Bool.and_eq_true, decide_eq_true_eq]
      exact ⟨hp0, by rw [hd0, hd]; simp⟩)
    simp only [Bool.and_eq_true, decide_eq_true_eq] at hq
    obtain ⟨hp, hdk⟩ := hq
    have hdk2 : homeD L h (stepW a k) = (f : Int) := by rw [hdk, hd]; simp
    have eg : greedyW L h (f + 1) a = k :: greedyW L h f (stepW a k) := by simp only [greedyW, e]
    obtain ⟨g1, g2, g3, g4⟩ := ih (stepW a k) hp hdk2
    rw [eg]
    refine ⟨⟨hk, hp, g1⟩, by simp [g2], fun z hz => ?_, fun v x hx hw => ?_⟩
    · rcases List.mem_cons.1 hz with rfl | hz
      · exact hk
      · exact g3 z hz
    · cases v with
      | nil =>
        have : a = h := hw
        rw [this, homeD_home hv hh] at hd
        simp at hd
        omega
      | cons m v =>
        obtain ⟨w1, w2, w3⟩ := hw
        obtain ⟨d1, d2⟩ := home_len hv hh v _ w2 w3
        show numF (4 * x + k) (greedyW L h f (stepW a k)) ≤ numF (4 * x + m) v
        by_cases hm : homeD L h (stepW a m) = f
        · rcases Nat.lt_trichotomy k m with h1 | h1 | h1
          · refine Nat.le_of_lt (numF_lt _ _ _ _ ?_ g3 (by omega))
            rw [g2]; omega
          · subst h1
            exact g4 v _ (by omega) w3
          · have := hmin m h1
            simp only [Bool.and_eq_false_iff, decide_eq_false_iff_not] at this
            rcases this with h2 | h2
            · rw [w2] at h2; cases h2
            · exact absurd (by rw [hm, hd]; simp) h2
        · have hfar : (f : Int) + 1 ≤ v.length := by
            rcases Nat.lt_or_ge f v.length with h1 | h1
            · omega
            · exfalso
              have hlow := home_len hv hh (m :: v) a ha ⟨w1, w2, w3⟩
              rw [hd] at hlow
              simp only [List.length_cons] at hlow
              have h3 := hlow.2
              have hm2 := mem_steps (L := L) (a := h) (c := stepW a m) (by unfold homeD at d1; exact d1)
              obtain ⟨u, hu, hle⟩ := lip100 (openP_near hv) hh hm2 (beside_symm step_beside) ha
              have e5 := steps_mem hh hu
              unfold homeD at hd hm d2
              rw [e5] at hd
              dsimp only at hle
              simp at hd
              omega
          exact Nat.le_of_lt (numF_long _ _ _ _ (by rw [g2]; omega) g3 (by omega))
/-- What the program's search finds for home is the model's way. -/
theorem way_home {a : Pt} (ha : openP L a = true) {f : Nat} (hd : homeD L h a = f) : (h, numF 1 (greedyW L h f a)) ∈ foundN (openP L) a 100 := by
  obtain ⟨g1, g2, g3, g4⟩ := greedy_best hv hh f a ha hd
  obtain ⟨u, hu, hle⟩ := wayN_min (openP_near hv) ha _ _ g1
  obtain ⟨v, v1, v2⟩ := wayN_real (openP_near hv) u h hu
  have := g4 v 1 (Nat.le_refl _) v1
  have : u = numF 1 (greedyW L h f a) := by omega
  rw [← this]
  exact hu
end
end Go.Proofs.Ytaeenkjbmlgcmaa

namespace Go.Proofs.Ytaeenkjbmlgcmaa
open Go.RowKit
set_option linter.unusedVariables false

def decW (n : Nat) : List Nat := if h : n < 4 then [] else decW (n / 4) ++ [n % 4]
termination_by n
decreasing_by omega
theorem decW_low {n : Nat} (h : n < 4) : decW n = [] := by rw [decW, dif_pos h]
theorem decW_snoc {d k : Nat} (hd : 1 ≤ d) (hk : k < 4) : decW (4 * d + k) = decW d ++ [k] := by
  rw [decW, dif_neg (by omega), show (4 * d + k) / 4 = d by omega, show (4 * d + k) % 4 = k by omega]
theorem decW_num (v : List Nat) (h : ∀ k ∈ v, k < 4) : decW (numF 1 v) = v := by
  generalize hl : v.length = m
  induction m generalizing v with
  | zero =>
    rw [List.length_eq_zero_iff.1 hl]
    exact decW_low (by simp [numF])
  | succ m ih =>
    rcases List.eq_nil_or_concat v with rfl | ⟨v', k, rfl⟩
    · simp at hl
    · rw [List.concat_eq_append] at hl h ⊢
      rw [numF_snoc, decW_snoc (numF_ge v' 1) (h k (by simp)), ih v' (fun z hz => h z (by simp [hz])) (by simpa using hl)]
/-- The letters: N, W, E, S. -/
def letB (k : Nat) : UInt8 := if k = 0 then 78 else if k = 1 then 87 else if k = 2 then 69 else 83
def wayS (v : List Nat) : ByteArray := ⟨(v.map letB).toArray⟩
theorem wayS_snoc (v : List Nat) (k : Nat) : wayS (v ++ [k]) = ⟨(wayS v).data ++ #[letB k]⟩ := by
  unfold wayS
  rw [List.map_append]
  simp
/-- What the search knows of a cell is its way. -/
def waysOf (F : FoundN) : List (Pt × ByteArray) := F.map fun q => (q.1, wayS (decW q.2))
theorem look_map {κ ν μ : Type} [DecidableEq κ] (g : ν → μ) : ∀ (l : List (κ × ν)) (k : κ), alLook (l.map fun q => (q.1, g q.2)) k = (alLook l k).map g
  | [], _ => rfl
  | (a, u) :: l, k => by
    simp only [List.map_cons, alLook]
    split
    · rfl
    · exact look_map g l k
theorem foundN_nodup {L : Lawn} {s : Pt} (hs : openP L s = true) (n : Nat) : ((foundN (openP L) s n).map (·.1)).Nodup := by rw [foundN_keys]; exact (found_good hs n).nodup
/-- The way home that the search finds. -/
theorem waysOf_home {L : Lawn} (hv : validB L = true) {h : Pt} (hh : openP L h = true) {a : Pt} (ha : openP L a = true) {f : Nat} (hd : homeD L h a = f) : alLook (waysOf (foundN (openP L) a 100)) h = some (wayS (greedyW L h f a)) := by
  unfold waysOf
  rw [look_map (fun u => wayS (decW u)), alLook_mem (foundN_nodup ha 100) (way_home hv hh ha hd)]
  rw [Option.map_some, decW_num _ (greedy_best hv hh f a ha hd).2.2.1]
/-- Where one does not come home, the search finds no way. -/
theorem waysOf_none {L : Lawn} (hv : validB L = true) {h : Pt} (hh : openP L h = true) {a : Pt} (ha : openP L a = true) (hd : homeD L h a < 0) : alLook (waysOf (foundN (openP L) a 100)) h = none := by
  unfold waysOf
  rw [look_map (fun u => wayS (decW u))]
  cases hl : alLook (foundN (openP L) a 100) h with
  | none => rfl
  | some u =>
    exfalso
    have h1 := look_keys (foundN_keys (pass := openP L) (s := a) 100) h
    rw [hl] at h1
    obtain ⟨v, hv2⟩ := Option.isSome_iff_exists.1 h1.symm
    have hr : R100 (openP L) a h := ⟨v, alLook_in hv2⟩
    have h2 := (reachQ4_is hv hh a).2 (r100_symm (openP_near hv) ha hr)
    unfold reachQ4 at h2
    have := of_decide_eq_true h2
    unfold homeD at hd
    omega
/-- The way home that both sides answer. -/
def homeS (L : Lawn) (a h : Pt) : ByteArray := wayS (greedyW L h (homeD L h a).toNat a)
theorem homeS_size {L : Lawn} (hv : validB L = true) {h : Pt} (hh : openP L h = true) {a : Pt} (ha : openP L a = true) (hd : 0 ≤ homeD L h a) : ((homeS L a h).size : Int) = homeD L h a := by
  have := (greedy_best hv hh (homeD L h a).toNat a ha (by omega)).2.1
  have e : (homeS L a h).size = (greedyW L h (homeD L h a).toNat a).length := by
    unfold homeS wayS
    show ((greedyW L h (homeD L h a).toNat a).map letB).toArray.size = _
    simp
  rw [e, this]
  omega
end Go.Proofs.Ytaeenkjbmlgcmaa
