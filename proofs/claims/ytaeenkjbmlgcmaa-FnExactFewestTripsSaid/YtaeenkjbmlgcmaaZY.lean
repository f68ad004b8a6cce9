/- The search's steps are the fewest ones: they keep the triangle, and are the same both ways. FewestTrips: the pure part. The program goes through all lists of trips; the model leaves out what cannot be within. FewestTrips: all lists of trips in order; the model's search that leaves out is a fold over them, as the program's. countTrips and nextTrips, of the program. fewestTrips, of the program. FewestTrips, of the program. l04Best over a table that is the head of a struct. The model's search for the fewest trips. FewestTrips, of the model. -/
import Derived.Test.YtaeenkjbmlgcmaaZV
import Derived.Test.YtaeenkjbmlgcmaaZW
import Derived.Test.YtaeenkjbmlgcmaaZS
import Derived.Lib.SliceRun
import Derived.Test.YtaeenkjbmlgcmaaZU
namespace Go.Proofs.Ytaeenkjbmlgcmaa
open Go.RowKit
set_option linter.unusedVariables false

theorem visits_all {pass : Pt → Bool} {d : Int} : ∀ (cs : List Pt) (F : Found), (∀ q ∈ F, q.2 ≤ d + 1) →
    (∃ G, cs.foldl (visit pass d) F = F ++ G ∧ ∀ q ∈ G, q.2 = d + 1 ∧ q.1 ∈ cs) ∧ ∀ c ∈ cs, pass c = true → ∃ u, (c, u) ∈ cs.foldl (visit pass d) F ∧ u ≤ d + 1
  | [], F, _ => ⟨⟨[], by simp, by simp⟩, by simp⟩
  | a :: cs, F, hF => by
    rw [List.foldl_cons]
    have hv : (∃ H, visit pass d F a = F ++ H ∧ ∀ q ∈ H, q.2 = d + 1 ∧ q.1 = a) ∧ (pass a = true → ∃ u, (a, u) ∈ visit pass d F a ∧ u ≤ d + 1) := by
      unfold visit
      split
      · rename_i h
        refine ⟨⟨[], by simp, by simp⟩, fun hp => ?_⟩
        rw [hp] at h
        simp only [Bool.not_true, Bool.or_false] at h
        obtain ⟨v, hv⟩ := Option.isSome_iff_exists.1 h
        exact ⟨v, alLook_in hv, hF _ (alLook_in hv)⟩
      · exact ⟨⟨[(a, d + 1)], rfl, by simp⟩, fun _ => ⟨d + 1, by simp, Int.le_refl _⟩⟩
    obtain ⟨⟨H, hH, hHq⟩, hva⟩ := hv
    have hF' : ∀ q ∈ visit pass d F a, q.2 ≤ d + 1 := by
      rw [hH]
      intro q hq
      rcases List.mem_append.1 hq with h | h
      · exact hF q h
      · rw [(hHq q h).1]; exact Int.le_refl _
    obtain ⟨⟨G, hG, hGq⟩, hrest⟩ := visits_all cs _ hF'
    refine ⟨⟨H ++ G, by rw [hG, hH, List.append_assoc], fun q hq => ?_⟩, fun c hc hp => ?_⟩
    · rcases List.mem_append.1 hq with h | h
      · exact ⟨(hHq q h).1, by rw [(hHq q h).2]; simp⟩
      · exact ⟨(hGq q h).1, List.mem_cons_of_mem _ (hGq q h).2⟩
    · rcases List.mem_cons.1 hc with rfl | hc
      · obtain ⟨u, hu, hle⟩ := hva hp
        exact ⟨u, by rw [hG]; exact List.mem_append_left _ hu, hle⟩
      · exact hrest c hc hp
structure Bfs (pass : Pt → Bool) (s : Pt) (F : Found) (i : Nat) : Prop where
  top : ∀ p, F[i]? = some p → ∀ q ∈ F, q.2 ≤ p.2 + 1
  sorted : F.Pairwise fun a b => a.2 ≤ b.2
  lip : ∀ j p c, j < i → F[j]? = some p → c ∈ beside p.1 → pass c = true → ∃ u, (c, u) ∈ F ∧ u ≤ p.2 + 1
  pred : ∀ q ∈ F, q = (s, 0) ∨ ∃ p ∈ F, q.1 ∈ beside p.1 ∧ q.2 = p.2 + 1
theorem found_bfs {pass : Pt → Bool} {s : Pt} : ∀ i, Bfs pass s (found pass s i) i
  | 0 => by
    refine ⟨?_, by simp [found], fun j p c h => by omega, by simp [found]⟩
    intro p hp q hq
    simp only [found, List.getElem?_cons_zero, Option.some.injEq] at hp
    simp only [found, List.mem_singleton] at hq
    rw [hq, ← hp]
    show (0 : Int) ≤ 0 + 1
    omega
  | i + 1 => by
    have ih := found_bfs (pass := pass) (s := s) i
    cases hp : (found pass s i)[i]? with
    | none =>
      have e : found pass s (i + 1) = found pass s i := by simp only [found, hp]
      rw [e]
      have hlen := List.getElem?_eq_none_iff.1 hp
      refine ⟨fun p h => ?_, ih.sorted, fun j p c hj h => ?_, ih.pred⟩
      · rw [List.getElem?_eq_none (by omega)] at h; cases h
      · rcases Nat.lt_or_ge j i with h1 | h1
        · exact ih.lip j p c h1 h
        · rw [List.getElem?_eq_none (by omega)] at h; cases h
    | some p =>
      have e : found pass s (i + 1) = expand pass (found pass s i) p := by simp only [found, hp]
      rw [e]
      unfold expand
      have hil : i < (found pass s i).length := (List.getElem?_eq_some_iff.1 hp).1
      have hpm := List.mem_of_getElem? hp
      obtain ⟨⟨G, hG, hGq⟩, hv⟩ := visits_all (pass := pass) (beside p.1) (found pass s i) (ih.top p hp)
      have hpred : ∀ q ∈ found pass s i ++ G, q = (s, 0) ∨ ∃ r ∈ found pass s i ++ G, q.1 ∈ beside r.1 ∧ q.2 = r.2 + 1 := by
        intro q hq
        rcases List.mem_append.1 hq with h | h
        · rcases ih.pred q h with h1 | ⟨r, hr, h2⟩
          · exact .inl h1
          · exact .inr ⟨r, List.mem_append_left _ hr, h2⟩
        · exact .inr ⟨p, List.mem_append_left _ hpm, (hGq q h).2, (hGq q h).1⟩
      have hsort : (found pass s i ++ G).Pairwise fun a b => a.2 ≤ b.2 := by
        rw [List.pairwise_append]
        refine ⟨ih.sorted, ?_, fun a ha b hb => ?_⟩
        · rw [List.pairwise_iff_forall_sublist]
          intro a b hab
          have h1 := hGq a (hab.subset (by simp))
          have h2 := hGq b (hab.subset (by simp))
          omega
        · have := ih.top p hp a ha
          rw [(hGq b hb).1]; exact this
      rw [hG] at hv ⊢
      refine ⟨fun r hr q hq => ?_, hsort, fun j r c hj hr hc hpc => ?_, hpred⟩
      · have hge : p.2 ≤ r.2 := by
          have h1 : (found pass s i ++ G)[i]? = some p := by rw [List.getElem?_append_left hil, hp]
          obtain ⟨a1, a2⟩ := List.getElem?_eq_some_iff.1 h1
          obtain ⟨b1, b2⟩ := List.getElem?_eq_some_iff.1 hr
          have := List.pairwise_iff_getElem.1 hsort i (i + 1) a1 b1 (by omega)
          rw [a2, b2] at this
          exact this
        rcases List.mem_append.1 hq with h | h
        · have := ih.top p hp q h; omega
        · have := (hGq q h).1; omega
      · rcases Nat.lt_or_ge j i with h1 | h1
        · rw [List.getElem?_append_left (by omega)] at hr
          obtain ⟨u, hu, hle⟩ := ih.lip j r c h1 hr hc hpc
          exact ⟨u, List.mem_append_left _ hu, hle⟩
        · have hji : j = i := by omega
          subst hji
          rw [List.getElem?_append_left hil, hp] at hr
          simp only [Option.some.injEq] at hr
          subst hr
          exact hv c hc hpc
section
variable {pass : Pt → Bool} (hn : ∀ c, pass c = true → (0 ≤ c.1 ∧ c.1 < 10) ∧ 0 ≤ c.2 ∧ c.2 < 10)
include hn
theorem lip100 {s : Pt} (hs : pass s = true) {p : Pt × Int} (hp : p ∈ found pass s 100) {c : Pt} (hc : c ∈ beside p.1) (hpc : pass c = true) : ∃ u, (c, u) ∈ found pass s 100 ∧ u ≤ p.2 + 1 := by
  obtain ⟨j, hj, e⟩ := List.getElem_of_mem hp
  have hlen := good_length hn (found_good hs 100)
  exact (found_bfs 100).lip j p c (by omega) (by rw [List.getElem?_eq_getElem hj, e]) hc hpc
theorem val100 {s : Pt} (hs : pass s = true) {p : Pt × Int} (hp : p ∈ found pass s 100) : 0 ≤ p.2 := by
  have _ := hn
  obtain ⟨j, hj, e⟩ := List.getElem_of_mem hp
  exact ((found_good hs 100).val j p (by rw [List.getElem?_eq_getElem hj, e])).1
theorem tri100 {a m : Pt} (ha : pass a = true) (hm : pass m = true) {d : Int} (hd : (m, d) ∈ found pass a 100) : ∀ (k : Nat) (c : Pt), (c, (k : Int)) ∈ found pass m 100 → ∃ u, (c, u) ∈ found pass a 100 ∧ u ≤ d + k := by
  intro k
  induction k with
  | zero =>
    intro c hc
    rcases (found_bfs 100).pred _ hc with h | ⟨p, hp, h1, h2⟩
    · simp only [Prod.mk.injEq] at h
      rw [h.1]
      exact ⟨d, hd, by simp⟩
    · have := val100 hn hm hp
      dsimp only at h2
      omega
  | succ k ih =>
    intro c hc
    have hpc := (found_good hm 100).pass _ hc
    rcases (found_bfs 100).pred _ hc with h | ⟨p, hp, h1, h2⟩
    · simp only [Prod.mk.injEq] at h
      omega
    · obtain ⟨pc, pv⟩ := p
      dsimp only at h1 h2
      have : pv = (k : Int) := by omega
      subst this
      obtain ⟨u, hu, hle⟩ := ih pc hp
      obtain ⟨u', hu', hle'⟩ := lip100 hn ha hu h1 hpc
      exact ⟨u', hu', by dsimp only at hle'; omega⟩
theorem sym100 {a b : Pt} (ha : pass a = true) (hb : pass b = true) : ∀ (k : Nat) (c : Pt) (w : Int), (c, (k : Int)) ∈ found pass b 100 → (c, w) ∈ found pass a 100 → ∃ u, (b, u) ∈ found pass a 100 ∧ u ≤ w + k := by
  intro k
  induction k with
  | zero =>
    intro c w hc hw
    rcases (found_bfs 100).pred _ hc with h | ⟨p, hp, h1, h2⟩
    · simp only [Prod.mk.injEq] at h
      rw [← h.1]
      exact ⟨w, hw, by simp⟩
    · have := val100 hn hb hp
      dsimp only at h2
      omega
  | succ k ih =>
    intro c w hc hw
    rcases (found_bfs 100).pred _ hc with h | ⟨p, hp, h1, h2⟩
    · simp only [Prod.mk.injEq] at h
      omega
    · obtain ⟨pc, pv⟩ := p
      dsimp only at h1 h2
      have : pv = (k : Int) := by omega
      subst this
      have hpp := (found_good hb 100).pass _ hp
      obtain ⟨u, hu, hle⟩ := lip100 hn ha hw (beside_symm h1) hpp
      obtain ⟨u', hu', hle'⟩ := ih pc u hp hu
      exact ⟨u', hu', by dsimp only at hle; omega⟩
end
theorem steps_mem {L : Lawn} {a c : Pt} (ha : openP L a = true) {u : Int} (h : (c, u) ∈ found (openP L) a 100) : stepsAt (found (openP L) a 100) c.1 c.2 = u := by
  unfold stepsAt
  rw [alLook_mem (found_good ha 100).nodup h]
  rfl
theorem mem_steps {L : Lawn} {a c : Pt} (h : 0 ≤ stepsAt (found (openP L) a 100) c.1 c.2) : (c, stepsAt (found (openP L) a 100) c.1 c.2) ∈ found (openP L) a 100 := by
  unfold stepsAt at h ⊢
  cases hk : alLook (found (openP L) a 100) (c.1, c.2) with
  | none => rw [hk] at h; simp at h
  | some z => exact alLook_in hk
/-- The steps between the cells of tours: the triangle, the same both ways, none from a cell to itself. -/
theorem tb_metric {L : Lawn} {l : List Pt} {h : Pt} {full : Int} (hz : goalZ L l h full = 0) :
    (∀ i j k, i ≤ l.length → j ≤ l.length → k ≤ l.length → tbT L l h i k ≤ tbT L l h i j + tbT L l h j k) ∧ (∀ i j, i ≤ l.length → j ≤ l.length → tbT L l h i j = tbT L l h j i) ∧ ∀ i, i ≤ l.length → tbT L l h i i = 0 := by
  obtain ⟨h0, -, hp⟩ := goal_pairs hz
  obtain ⟨hv, -, hop, -, -⟩ := askZ_good h0
  have hn := openP_near hv
  have ho : ∀ i, i ≤ l.length → openP L (csT l h i) = true := fun i hi => by
    rcases csT_mem (h := h) hi with e | e
    · rw [e]; exact hop h (by simp)
    · exact hop _ (by simp [e])
  have hm : ∀ i j, i ≤ l.length → j ≤ l.length → (csT l h j, tbT L l h i j) ∈ found (openP L) (csT l h i) 100 := fun i j hi hj => mem_steps (hp i j hi hj).1
  have hsym : ∀ i j, i ≤ l.length → j ≤ l.length → tbT L l h i j ≤ tbT L l h j i := fun i j hi hj => by
    obtain ⟨t, ht⟩ : ∃ t : Nat, tbT L l h j i = t := ⟨(tbT L l h j i).toNat, by have := (hp j i hj hi).1; omega⟩
    have h1 := hm j i hj hi
    rw [ht] at h1
    have h2 : (csT l h i, (0 : Int)) ∈ found (openP L) (csT l h i) 100 := by
      obtain ⟨G, hG⟩ := found_grow (pass := openP L) (s := csT l h i) 0 100
      rw [Nat.zero_add] at hG
      rw [hG]
      simp [found]
    obtain ⟨u, hu, hle⟩ := sym100 hn (ho i hi) (ho j hj) t _ _ h1 h2
    have e := steps_mem (ho i hi) hu
    have e' : tbT L l h i j = u := e
    omega
  refine ⟨fun i j k hi hj hk => ?_, fun i j hi hj => Int.le_antisymm (hsym i j hi hj) (hsym j i hj hi), fun i hi => ?_⟩
  · obtain ⟨t, ht⟩ : ∃ t : Nat, tbT L l h j k = t := ⟨(tbT L l h j k).toNat, by have := (hp j k hj hk).1; omega⟩
    have h1 := hm j k hj hk
    rw [ht] at h1
    obtain ⟨u, hu, hle⟩ := tri100 hn (ho i hi) (ho j hj) (hm i j hi hj) t _ h1
    have e : tbT L l h i k = u := steps_mem (ho i hi) hu
    omega
  · have h2 : (csT l h i, (0 : Int)) ∈ found (openP L) (csT l h i) 100 := by
      obtain ⟨G, hG⟩ := found_grow (pass := openP L) (s := csT l h i) 0 100
      rw [Nat.zero_add] at hG
      rw [hG]
      simp [found]
    exact steps_mem (ho i hi) h2
end Go.Proofs.Ytaeenkjbmlgcmaa

namespace Go.Proofs.Ytaeenkjbmlgcmaa
open Go.RowKit
set_option linter.unusedVariables false

/-- A trip's steps, from a cell on. -/
def pathT (tb : Nat → Nat → Int) (h : Nat) : Nat → List Nat → Int
  | a, [] => tb a h
  | a, k :: r => tb a k + pathT tb h k r
theorem goT_path (tb : Nat → Nat → Int) (h : Nat) : ∀ (o : List Nat) (s : Int × Nat), (o.foldl (fun s k => (s.1 + tb s.2 k, k)) s).1 + tb (o.foldl (fun s k => (s.1 + tb s.2 k, k)) s).2 h = s.1 + pathT tb h s.2 o
  | [], s => rfl
  | k :: o, s => by
    rw [List.foldl_cons, goT_path tb h o]
    show s.1 + tb s.2 k + pathT tb h k o = s.1 + (tb s.2 k + pathT tb h k o)
    omega
theorem tripT_path (tb : Nat → Nat → Int) (h : Nat) (o : List Nat) : tripT tb h o = pathT tb h h o := by
  have := goT_path tb h o (0, h)
  unfold tripT goT
  rw [this]
  simp
section
variable {tb : Nat → Nat → Int} {n : Nat} (htri : ∀ i j k, i ≤ n → j ≤ n → k ≤ n → tb i k ≤ tb i j + tb j k)
include htri
theorem path_skip {a x : Nat} (ha : a ≤ n) (hx : x ≤ n) : ∀ (r : List Nat), (∀ k ∈ r, k ≤ n) → pathT tb n a r ≤ tb a x + pathT tb n x r
  | [], _ => htri a x n ha hx (Nat.le_refl n)
  | k :: r, h => by
    have := htri a x k ha hx (h k (by simp))
    show tb a k + pathT tb n k r ≤ tb a x + (tb x k + pathT tb n k r)
    omega
theorem path_erase (x : Nat) : ∀ (r : List Nat) (a : Nat), a ≤ n → (∀ k ∈ r, k ≤ n) → pathT tb n a (r.erase x) ≤ pathT tb n a r
  | [], a, _, _ => Int.le_refl _
  | k :: r, a, ha, h => by
    by_cases e : k = x
    · subst e
      rw [List.erase_cons_head]
      exact path_skip htri ha (h k (by simp)) r fun y hy => h y (by simp [hy])
    · rw [List.erase_cons_tail (by simpa using e)]
      have := path_erase x r k (h k (by simp)) fun y hy => h y (by simp [hy])
      show tb a k + _ ≤ tb a k + _
      omega
theorem path_home : ∀ (r : List Nat) (a : Nat), a ≤ n → (∀ k ∈ r, k ≤ n) → tb a n ≤ pathT tb n a r
  | [], a, _, _ => Int.le_refl _
  | k :: r, a, ha, h => by
    have h1 := path_home r k (h k (by simp)) fun y hy => h y (by simp [hy])
    have h2 := htri a k n ha (h k (by simp)) (Nat.le_refl n)
    show tb a n ≤ tb a k + pathT tb n k r
    omega
theorem path_two {t : Nat} : ∀ (r : List Nat) (a : Nat), a ≤ n → (∀ k ∈ r, k ≤ n) → t ∈ r → tb a t + tb t n ≤ pathT tb n a r
  | k :: r, a, ha, h, ht => by
    have hk := h k (by simp)
    have hr : ∀ y ∈ r, y ≤ n := fun y hy => h y (by simp [hy])
    rcases List.mem_cons.1 ht with rfl | ht
    · have := path_home htri r t hk hr
      show _ ≤ tb a t + pathT tb n t r
      omega
    · have h1 := path_two r k hk hr ht
      have h2 := htri a k t ha hk (hr t ht)
      show _ ≤ tb a k + pathT tb n k r
      omega
end
theorem bestT_min (tb : Nat → Nat → Int) (n : Nat) : ∀ (l : List (List Nat)) (b : Option (List Nat × Int)) (c : List Nat × Int), l.foldl (bestT tb n) b = some c → (∀ p ∈ l, c.2 ≤ tripT tb n p) ∧ ∀ q, b = some q → c.2 ≤ q.2
  | [], b, c, h => ⟨by simp, fun q hq => by rw [List.foldl_nil, hq] at h; cases h; exact Int.le_refl _⟩
  | o :: l, b, c, h => by
    rw [List.foldl_cons] at h
    obtain ⟨h1, h2⟩ := bestT_min tb n l _ c h
    have key : c.2 ≤ tripT tb n o ∧ ∀ q, b = some q → c.2 ≤ q.2 := by
      cases b with
      | none =>
        have := h2 _ rfl
        exact ⟨this, by simp⟩
      | some q =>
        unfold bestT at h2
        dsimp only at h2
        split at h2
        · rename_i hlt
          have := h2 _ rfl
          exact ⟨this, fun q' hq => by cases hq; dsimp only at this; omega⟩
        · rename_i hlt
          have := h2 _ rfl
          exact ⟨by dsimp only at this; omega, fun q' hq => by cases hq; exact this⟩
    exact ⟨fun p hp => by
      rcases List.mem_cons.1 hp with rfl | hp
      · exact key.1
      · exact h1 p hp, key.2⟩
theorem best_min {tb : Nat → Nat → Int} {n : Nat} {o p : List Nat} (h : o ∈ subs5) (hp : p ∈ permsL o) : (bestOf5 tb n o).2 ≤ tripT tb n p := (bestT_min tb n _ _ _ (best_is h)).1 p hp
theorem best_in {tb : Nat → Nat → Int} {n : Nat} {o : List Nat} (h : o ∈ subs5) : (bestOf5 tb n o).1 ∈ permsL o := by
  rcases bestT_mem tb n _ _ _ (best_is h) with h1 | ⟨h1, -⟩
  · cases h1
  · exact h1
set_option maxRecDepth 100000 in
theorem perms_erase : ∀ l ∈ subs5, ∀ x ∈ l, ∀ o ∈ permsL l, o.erase x ∈ permsL (l.erase x) := by decide +kernel
set_option maxRecDepth 100000 in
theorem perms_has : ∀ l ∈ subs5, ∀ o ∈ permsL l, ∀ x ∈ l, x ∈ o := by decide +kernel
set_option maxRecDepth 100000 in
theorem subs_erase : ∀ l ∈ subs5, ∀ x ∈ l, l.erase x ∈ subs5 := by decide +kernel
/-- Fewer targets need no more steps. -/
theorem cost_erase {tb : Nat → Nat → Int} {n : Nat} (htri : ∀ i j k, i ≤ n → j ≤ n → k ≤ n → tb i k ≤ tb i j + tb j k) {l : List Nat} (hl : l ∈ subs5) (hn : ∀ x ∈ l, x ≤ n) {x : Nat} (hx : x ∈ l) : (bestOf5 tb n (l.erase x)).2 ≤ (bestOf5 tb n l).2 := by
  have h1 := best_in (tb := tb) (n := n) hl
  have h2 := best_min (tb := tb) (n := n) (subs_erase l hl x hx) (perms_erase l hl x hx _ h1)
  have h3 := (best_mem (tb := tb) (n := n) hl)
  rw [h3.2.2]
  refine Int.le_trans h2 ?_
  rw [tripT_path, tripT_path]
  exact path_erase htri x _ n (Nat.le_refl n) fun k hk => hn k (h3.2.1 k hk)
theorem cost_two {tb : Nat → Nat → Int} {n : Nat} (htri : ∀ i j k, i ≤ n → j ≤ n → k ≤ n → tb i k ≤ tb i j + tb j k) {l : List Nat} (hl : l ∈ subs5) (hn : ∀ x ∈ l, x ≤ n) {t : Nat} (ht : t ∈ l) : tb n t + tb t n ≤ (bestOf5 tb n l).2 := by
  have h1 := best_in (tb := tb) (n := n) hl
  have h3 := (best_mem (tb := tb) (n := n) hl)
  rw [h3.2.2, tripT_path]
  exact path_two htri _ n (Nat.le_refl n) (fun k hk => hn k (h3.2.1 k hk)) (perms_has l hl _ h1 t ht)
theorem cost_none (tb : Nat → Nat → Int) (n : Nat) : (bestOf5 tb n []).2 = tb n n := by
  have : (bestOf5 tb n []) = ([], tripT tb n []) := rfl
  rw [this]
  show (goT tb n []).1 + tb (goT tb n []).2 n = tb n n
  simp [goT]
theorem cost_one (tb : Nat → Nat → Int) (n t : Nat) : (bestOf5 tb n [t]).2 = tb n t + tb t n := by
  have : (bestOf5 tb n [t]) = ([t], tripT tb n [t]) := rfl
  rw [this]
  show tripT tb n [t] = _
  rw [tripT_path]
  rfl

/-- Trips as numbers of the program. -/
def tsI (t : List Nat) : List Int := t.map fun (x : Nat) => (x : Int)
def withN (t : List Nat) (k : Nat) : List Nat := withL (tsI t) k
theorem withN_snoc (t : List Nat) (a k : Nat) : withN (t ++ [a]) k = if a = k then withN t k ++ [t.length] else withN t k := by
  unfold withN withL
  have e1 : (tsI (t ++ [a])).length = (tsI t).length + 1 := by simp [tsI]
  have e2 : (tsI t).length = t.length := by simp [tsI]
  rw [e1, List.range_succ, List.filter_append]
  have h1 : (List.range (tsI t).length).filter (fun i => (tsI (t ++ [a])).getD i 0 == (k : Int)) = (List.range (tsI t).length).filter (fun i => (tsI t).getD i 0 == (k : Int)) := by
    apply List.filter_congr
    intro i hi
    have hi' := List.mem_range.1 hi
    have : (tsI (t ++ [a])).getD i 0 = (tsI t).getD i 0 := by
      have : tsI (t ++ [a]) = tsI t ++ [(a : Int)] := by simp [tsI]
      rw [this, List.getD_eq_getElem?_getD, List.getD_eq_getElem?_getD, List.getElem?_append_left hi']
    rw [this]
  have h2 : (tsI (t ++ [a])).getD (tsI t).length 0 = (a : Int) := by
    have : tsI (t ++ [a]) = tsI t ++ [(a : Int)] := by simp [tsI]
    rw [this, List.getD_eq_getElem?_getD, List.getElem?_append_right (Nat.le_refl _)]
    simp
  rw [h1, List.filter_cons, h2, List.filter_nil, e2]
  by_cases h : a = k
  · subst h; simp
  · have : ((a : Int) == (k : Int)) = false := by simp; omega
    rw [this, if_neg h]
    simp
theorem withN_lt {t : List Nat} {k x : Nat} (h : x ∈ withN t k) : x < t.length := by
  unfold withN withL at h
  have := List.mem_range.1 (List.mem_filter.1 h).1
  simpa [tsI] using this
theorem withN_sub {t : List Nat} (h : t.length ≤ 5) (k : Nat) : withN t k ∈ subs5 := with_sub (by simpa [tsI] using h) _
theorem withN_mem {t : List Nat} {i : Nat} (hi : i < t.length) : i ∈ withN t (t.getD i 0) := by
  unfold withN withL
  rw [List.mem_filter]
  refine ⟨List.mem_range.2 (by simpa [tsI] using hi), ?_⟩
  have : (tsI t).getD i 0 = ((t.getD i 0 : Nat) : Int) := by
    unfold tsI
    rw [List.getD_eq_getElem?_getD, List.getD_eq_getElem?_getD, List.getElem?_map, List.getElem?_eq_getElem hi]
    rfl
  rw [this]
  simp
end Go.Proofs.Ytaeenkjbmlgcmaa

namespace Go.Proofs.Ytaeenkjbmlgcmaa
open Go.RowKit
set_option linter.unusedVariables false

/-- All lists of trips from some on. -/
def genG : Nat → List Nat → Nat → List (List Nat)
  | 0, t, c => [t]
  | f + 1, t, c => (List.range (c + 1)).flatMap fun k => genG f (t ++ [k]) (max c (k + 1))
def allG (n : Nat) : List (List Nat) := genG n [] 0
def cntG (t : List Nat) : Nat := t.foldl (fun c x => max c (x + 1)) 0
theorem cntG_snoc (t : List Nat) (k : Nat) : cntG (t ++ [k]) = max (cntG t) (k + 1) := by simp [cntG]
/-- The program's search for the place that is changed: from i down. -/
def pivG (t : List Nat) : Nat → Option Nat
  | 0 => none
  | i + 1 => if t.getD (i + 1) 0 ≤ (t.take (i + 1)).foldl max 0 then some (i + 1) else pivG t i
def nextG (t : List Nat) : Option (List Nat) := match pivG t (t.length - 1) with
  | none => none
  | some i => some (t.take i ++ [t.getD i 0 + 1] ++ List.replicate (t.length - (i + 1)) 0)
def chainG (ps : List (List Nat)) : Bool := match ps with
  | [] => true
  | o :: r => (nextG o == r.head?) && chainG r
theorem chainG_at : ∀ (ps : List (List Nat)), chainG ps = true → ∀ (i : Nat) (o : List Nat), ps[i]? = some o → nextG o = ps[i + 1]?
  | [], _, i, o, h => by simp at h
  | p :: r, hb, 0, o, h => by
    simp only [chainG, Bool.and_eq_true, beq_iff_eq] at hb
    simp only [List.getElem?_cons_zero, Option.some.injEq] at h
    subst h
    rw [hb.1, List.getElem?_cons_succ]
    cases r <;> rfl
  | p :: r, hb, i + 1, o, h => by
    simp only [chainG, Bool.and_eq_true] at hb
    rw [List.getElem?_cons_succ] at h ⊢
    exact chainG_at r hb.2 i o h
set_option maxRecDepth 100000 in
theorem allG_facts : ∀ n, n < 6 → chainG (allG n) = true ∧ (allG n)[0]? = some (List.replicate n 0) ∧ (allG n).length ≤ 52 ∧ (allG n).all (fun t => t.length == n && t.all (fun x => decide (x < 5)) && decide (cntG t ≤ 5)) = true ∧ (allG n).contains (List.range n) = true := by decide +kernel
theorem allG_next {n : Nat} (h : n ≤ 5) (i : Nat) (t : List Nat) (ht : (allG n)[i]? = some t) : nextG t = (allG n)[i + 1]? := chainG_at _ (allG_facts n (by omega)).1 i t ht
theorem allG_mem {n : Nat} (h : n ≤ 5) {t : List Nat} (ht : t ∈ allG n) : t.length = n ∧ (∀ x ∈ t, x < 5) ∧ cntG t ≤ 5 := by
  have := List.all_eq_true.1 (allG_facts n (by omega)).2.2.2.1 t ht
  simp only [Bool.and_eq_true, beq_iff_eq, List.all_eq_true, decide_eq_true_eq] at this
  exact ⟨this.1.1, this.1.2, this.2⟩

/-- Better than what has been found. -/
def betterG (b : Option (List Nat × Nat)) (c : Nat) : Bool := match b with
  | none => true
  | some q => decide (c < q.2)
def stepG (feas : List Nat → Bool) (b : Option (List Nat × Nat)) (t : List Nat) : Option (List Nat × Nat) := if betterG b (cntG t) && feas t then some (t, cntG t) else b
section
variable (ok : List Nat → Bool)
/-- What the model's search comes to. -/
def fromG : Nat → List Nat → Nat → Option (List Nat × Nat) → Option (List Nat × Nat)
  | 0, t, c, b => if betterG b c then some (t, c) else b
  | f + 1, t, c, b => if betterG b c then (List.range (c + 1)).foldl (fun b k => if ok (withN (t ++ [k]) k) then fromG f (t ++ [k]) (max c (k + 1)) b else b) b else b
def okAfter (m : Nat) (u : List Nat) : Bool := (List.range u.length).all fun j => decide (j < m) || ok (withN (u.take (j + 1)) (u.getD j 0))
theorem genG_grow : ∀ (f : Nat) (t : List Nat) (c : Nat), ∀ u ∈ genG f t c, ∃ r, u = t ++ r ∧ r.length = f
  | 0, t, c, u, hu => ⟨[], by simpa [genG] using hu, rfl⟩
  | f + 1, t, c, u, hu => by
    simp only [genG, List.mem_flatMap] at hu
    obtain ⟨k, -, hu⟩ := hu
    obtain ⟨r, rfl, hr⟩ := genG_grow f _ _ u hu
    exact ⟨k :: r, by simp, by simp [hr]⟩
theorem foldMax_ge : ∀ (r : List Nat) (c : Nat), c ≤ r.foldl (fun c x => max c (x + 1)) c
  | [], c => Nat.le_refl _
  | x :: r, c => by
    rw [List.foldl_cons]
    exact Nat.le_trans (Nat.le_max_left _ _) (foldMax_ge r _)
theorem cntG_ge (t r : List Nat) : cntG t ≤ cntG (t ++ r) := by
  unfold cntG
  rw [List.foldl_append]
  exact foldMax_ge r _
theorem okAfter_step {f : Nat} {t : List Nat} {k : Nat} {u : List Nat} (hu : ∃ r, u = t ++ [k] ++ r) : okAfter ok t.length u = (ok (withN (t ++ [k]) k) && okAfter ok (t.length + 1) u) := by
  obtain ⟨r, rfl⟩ := hu
  unfold okAfter
  have hlen : t.length < (t ++ [k] ++ r).length := by simp
  have htk : (t ++ [k] ++ r).take (t.length + 1) = t ++ [k] := by
    rw [List.take_append_of_le_length (by simp), List.take_of_length_le (by simp)]
  have hgd : (t ++ [k] ++ r).getD t.length 0 = k := by
    rw [List.getD_eq_getElem?_getD, List.append_assoc, List.getElem?_append_right (Nat.le_refl _)]
    simp
  rw [Bool.eq_iff_iff]
  simp only [Bool.and_eq_true, List.all_eq_true, List.mem_range, Bool.or_eq_true, decide_eq_true_eq]
  constructor
  · intro h
    refine ⟨?_, fun j hj => ?_⟩
    · rcases h t.length hlen with h1 | h1
      · omega
      · rw [htk, hgd] at h1; exact h1
    · rcases h j hj with h1 | h1
      · exact .inl (by omega)
      · exact .inr h1
  · rintro ⟨h1, h2⟩ j hj
    rcases h2 j hj with h3 | h3
    · rcases Nat.lt_or_ge j t.length with h4 | h4
      · exact .inl h4
      · have : j = t.length := by omega
        subst this
        right
        rw [htk, hgd]; exact h1
    · exact .inr h3
theorem fold_same {α β : Type} (g : β → α → β) (b : β) : ∀ (l : List α), (∀ x ∈ l, g b x = b) → l.foldl g b = b
  | [], _ => rfl
  | x :: l, h => by
    rw [List.foldl_cons, h x (by simp)]
    exact fold_same g b l fun y hy => h y (by simp [hy])
theorem fold_congr {α β : Type} {g g' : β → α → β} : ∀ (l : List α) (b : β), (∀ x ∈ l, ∀ b, g b x = g' b x) → l.foldl g b = l.foldl g' b
  | [], b, _ => rfl
  | x :: l, b, h => by
    rw [List.foldl_cons, List.foldl_cons, h x (by simp)]
    exact fold_congr l _ fun y hy => h y (by simp [hy])
theorem betterG_mono {b : Option (List Nat × Nat)} {c d : Nat} (h : betterG b c = false) (hcd : c ≤ d) : betterG b d = false := by
  cases b with
  | none => cases h
  | some q =>
    simp only [betterG, decide_eq_false_iff_not] at h ⊢
    omega
theorem fromG_is : ∀ (f : Nat) (t : List Nat) (c : Nat) (b : Option (List Nat × Nat)), c = cntG t → fromG ok f t c b = (genG f t c).foldl (stepG (okAfter ok t.length)) b
  | 0, t, c, b, hc => by
    have : okAfter ok t.length t = true := by
      unfold okAfter
      rw [List.all_eq_true]
      intro j hj
      have := List.mem_range.1 hj
      simp [this]
    simp only [fromG, genG, List.foldl_cons, List.foldl_nil, stepG, this, Bool.and_true, ← hc]
  | f + 1, t, c, b, hc => by
    simp only [fromG]
    by_cases hb : betterG b c = true
    · rw [if_pos hb]
      simp only [genG, List.foldl_flatMap]
      refine fold_congr _ _ fun k hk b' => ?_
      have hgrow := genG_grow f (t ++ [k]) (max c (k + 1))
      by_cases hok : ok (withN (t ++ [k]) k) = true
      · rw [if_pos hok, fromG_is f (t ++ [k]) (max c (k + 1)) b' (by rw [cntG_snoc, hc])]
        refine fold_congr _ _ fun u hu b2 => ?_
        obtain ⟨r, hr, -⟩ := hgrow u hu
        unfold stepG
        rw [okAfter_step (f := f) ok ⟨r, hr⟩, hok, Bool.true_and, List.length_append]
        rfl
      · rw [if_neg hok]
        symm
        refine fold_same _ _ _ fun u hu => ?_
        obtain ⟨r, hr, -⟩ := hgrow u hu
        unfold stepG
        rw [okAfter_step (f := f) ok ⟨r, hr⟩]
        simp [hok]
    · rw [if_neg hb]
      symm
      refine fold_same _ _ _ fun u hu => ?_
      obtain ⟨r, rfl, -⟩ := genG_grow (f + 1) t c u hu
      unfold stepG
      have : betterG b (cntG (t ++ r)) = false := betterG_mono (by simpa using hb) (by rw [hc]; exact cntG_ge t r)
      simp [this]
end

/-- What the trips of tours cost is within. -/
def okT (tb : Nat → Nat → Int) (n : Nat) (full : Int) (l : List Nat) : Bool := decide ((bestOf5 tb n l).2 ≤ full)
def feasT (tb : Nat → Nat → Int) (n : Nat) (full : Int) (t : List Nat) : Bool := withinB tb n (tsI t) full 5
theorem feasT_is (tb : Nat → Nat → Int) (n : Nat) (full : Int) (t : List Nat) : feasT tb n full t = true ↔ ∀ k, k < 5 → okT tb n full (withN t k) = true := by
  unfold feasT withinB
  rw [List.all_eq_true]
  exact ⟨fun h k hk => h k (List.mem_range.2 hk), fun h k hk => h k (List.mem_range.1 hk)⟩
section
variable {tb : Nat → Nat → Int} {n : Nat} {full : Int} (htri : ∀ i j k, i ≤ n → j ≤ n → k ≤ n → tb i k ≤ tb i j + tb j k)
include htri
theorem okT_snoc {t : List Nat} {a k : Nat} (hl : (t ++ [a]).length ≤ 5) (hn : (t ++ [a]).length ≤ n) (h : okT tb n full (withN (t ++ [a]) k) = true) : okT tb n full (withN t k) = true := by
  rw [withN_snoc] at h
  split at h
  · rename_i e
    have hs : withN t k ++ [t.length] ∈ subs5 := by
      have := withN_sub hl k
      rw [withN_snoc, if_pos e] at this
      exact this
    have hm : ∀ x ∈ withN t k ++ [t.length], x ≤ n := fun x hx => by
      simp only [List.length_append, List.length_singleton] at hn
      rcases List.mem_append.1 hx with hx | hx
      · have := withN_lt hx; omega
      · rw [List.mem_singleton.1 hx]; omega
    have hc := cost_erase htri hs hm (x := t.length) (by simp)
    have he : (withN t k ++ [t.length]).erase t.length = withN t k := by
      rw [List.erase_append_right _ (fun hx => by have := withN_lt hx; omega)]
      simp
    rw [he] at hc
    unfold okT at h ⊢
    have := of_decide_eq_true h
    exact decide_eq_true (by omega)
  · exact h
theorem okT_prefix {k : Nat} : ∀ (r t : List Nat), (t ++ r).length ≤ 5 → (t ++ r).length ≤ n → okT tb n full (withN (t ++ r) k) = true → okT tb n full (withN t k) = true
  | [], t, _, _, h => by simpa using h
  | a :: r, t, h5, hn, h => by
    have e : t ++ a :: r = (t ++ [a]) ++ r := by simp
    rw [e] at h h5 hn
    have h1 := okT_prefix r (t ++ [a]) h5 hn h
    refine okT_snoc htri ?_ ?_ h1
    · simp only [List.length_append, List.length_singleton] at h5 ⊢; omega
    · simp only [List.length_append, List.length_singleton] at hn ⊢; omega
theorem feas_ok (h0 : okT tb n full [] = true) {u : List Nat} (h5 : u.length ≤ 5) (hn : u.length ≤ n) (hx : ∀ x ∈ u, x < 5) : okAfter (okT tb n full) 0 u = feasT tb n full u := by
  rw [Bool.eq_iff_iff, feasT_is]
  unfold okAfter
  simp only [List.all_eq_true, List.mem_range, Bool.or_eq_true, decide_eq_true_eq, Nat.not_lt_zero, false_or]
  constructor
  · intro h k hk
    have key : ∀ (m : Nat), m ≤ u.length → okT tb n full (withN (u.take m) k) = true := by
      intro m
      induction m with
      | zero => intro _; rw [List.take_zero]; exact h0
      | succ m ih =>
        intro hm
        have hum : u[m]? = some (u[m]'(by omega)) := List.getElem?_eq_getElem (by omega)
        have ht : u.take (m + 1) = u.take m ++ [u[m]'(by omega)] := by rw [List.take_add_one, hum]; rfl
        by_cases e : u[m]'(by omega) = k
        · have := h m (by omega)
          have hg : u.getD m 0 = k := by rw [List.getD_eq_getElem?_getD, hum]; exact e
          rw [hg] at this
          exact this
        · rw [ht, withN_snoc, if_neg e]
          exact ih (by omega)
    have := key u.length (Nat.le_refl _)
    rw [List.take_length] at this
    exact this
  · intro h j hj
    have hu : u.take (j + 1) ++ u.drop (j + 1) = u := List.take_append_drop _ _
    have hk : u.getD j 0 < 5 := by
      rw [List.getD_eq_getElem?_getD, List.getElem?_eq_getElem hj]
      exact hx _ (List.getElem_mem hj)
    refine okT_prefix htri (u.drop (j + 1)) (u.take (j + 1)) (by rw [hu]; exact h5) (by rw [hu]; exact hn) ?_
    rw [hu]
    exact h _ hk
end
/-- The fewest trips: what the fold over all lists comes to. -/
def fewG (tb : Nat → Nat → Int) (n : Nat) (full : Int) : Option (List Nat × Nat) := (allG n).foldl (stepG (feasT tb n full)) none
theorem fewG_is {tb : Nat → Nat → Int} {n : Nat} {full : Int} (htri : ∀ i j k, i ≤ n → j ≤ n → k ≤ n → tb i k ≤ tb i j + tb j k) (h5 : n ≤ 5) (h0 : tb n n = 0) (hf : 0 ≤ full) : fromG (okT tb n full) n [] 0 none = fewG tb n full := by
  rw [fromG_is (okT tb n full) n [] 0 none rfl]
  unfold fewG allG
  refine fold_congr _ _ fun u hu b => ?_
  obtain ⟨h1, h2, h3⟩ := allG_mem h5 hu
  unfold stepG
  rw [show ([] : List Nat).length = 0 from rfl, feas_ok htri (by unfold okT; rw [cost_none, h0]; exact decide_eq_true hf) (by omega) (by omega) h2]
/-- None is found where a target is too far away; else one is. -/
theorem fewG_none {tb : Nat → Nat → Int} {n : Nat} {full : Int} (htri : ∀ i j k, i ≤ n → j ≤ n → k ≤ n → tb i k ≤ tb i j + tb j k) (h5 : n ≤ 5) {t : Nat} (ht : t < n) (hfar : full < tb n t + tb t n) : fewG tb n full = none := by
  unfold fewG
  refine fold_same _ _ _ fun u hu => ?_
  obtain ⟨h1, h2, h3⟩ := allG_mem h5 hu
  have : feasT tb n full u = false := by
    cases hh : feasT tb n full u with
    | false => rfl
    | true =>
      rw [feasT_is] at hh
      have hk : u.getD t 0 < 5 := by
        rw [List.getD_eq_getElem?_getD, List.getElem?_eq_getElem (by omega)]
        exact h2 _ (List.getElem_mem _)
      have := of_decide_eq_true (hh _ hk)
      have h4 := cost_two htri (withN_sub (by omega) (u.getD t 0)) (fun x hx => by have := withN_lt hx; omega) (withN_mem (t := u) (i := t) (by omega))
      omega
  unfold stepG
  simp [this]
theorem fold_some {feas : List Nat → Bool} : ∀ (l : List (List Nat)) (b : Option (List Nat × Nat)), (b.isSome = true ∨ ∃ u ∈ l, feas u = true) → (l.foldl (stepG feas) b).isSome = true
  | [], b, h => by
    rcases h with h | ⟨u, hu, -⟩
    · exact h
    · cases hu
  | t :: l, b, h => by
    rw [List.foldl_cons]
    refine fold_some l _ ?_
    unfold stepG
    split
    · exact .inl rfl
    · rename_i hs
      cases b with
      | some q => exact .inl rfl
      | none =>
        rcases h with h | ⟨u, hu, hf⟩
        · cases h
        · rcases List.mem_cons.1 hu with rfl | hu
          · simp [betterG, hf] at hs
          · exact .inr ⟨u, hu, hf⟩
theorem fewG_some {tb : Nat → Nat → Int} {n : Nat} {full : Int} (h5 : n ≤ 5) (h0 : tb n n = 0) (hf : 0 ≤ full) (hnear : ∀ t, t < n → tb n t + tb t n ≤ full) : (fewG tb n full).isSome = true := by
  unfold fewG
  refine fold_some _ _ (.inr ⟨List.range n, by simpa using (allG_facts n (by omega)).2.2.2.2, ?_⟩)
  rw [feasT_is]
  intro k hk
  have hw : withN (List.range n) k = if k < n then [k] else [] := by
    unfold withN withL
    have e1 : (tsI (List.range n)).length = n := by simp [tsI]
    rw [e1]
    have e2 : (List.range n).filter (fun i => (tsI (List.range n)).getD i 0 == (k : Int)) = (List.range n).filter (fun i => i == k) := by
      apply List.filter_congr
      intro i hi
      have := List.mem_range.1 hi
      have : (tsI (List.range n)).getD i 0 = (i : Int) := by
        unfold tsI
        rw [List.getD_eq_getElem?_getD, List.getElem?_map, List.getElem?_range this]
        rfl
      rw [this]
      rw [Bool.eq_iff_iff]; simp; omega
    rw [e2]
    have key : ∀ n, n ≤ 5 → ∀ k, k < 5 → (List.range n).filter (fun i => i == k) = if k < n then [k] else [] := by decide
    exact key n h5 k hk
  rw [hw]
  unfold okT
  split
  · rename_i h
    rw [cost_one]
    exact decide_eq_true (hnear k h)
  · rw [cost_none, h0]
    exact decide_eq_true hf
end Go.Proofs.Ytaeenkjbmlgcmaa

namespace Go.Proofs.Ytaeenkjbmlgcmaa
open Go.RowKit
set_option linter.unusedVariables false
set_option linter.unusedSimpArgs false

theorem cntG_take {t : List Nat} {i x : Nat} (h : t[i]? = some x) : cntG (t.take (i + 1)) = max (cntG (t.take i)) (x + 1) := by
  rw [List.take_add_one, h]
  exact cntG_snoc _ _
theorem tsI_get {t : List Nat} {i x : Nat} (h : t[i]? = some x) : (tsI t)[i]? = some (x : Int) := by
  unfold tsI
  rw [List.getElem?_map, h]
  rfl
theorem tsI_length (t : List Nat) : (tsI t).length = t.length := by simp [tsI]
theorem foldMax_mem : ∀ (l : List Nat) (c m : Nat), c ≤ m → (∀ x ∈ l, x + 1 ≤ m) → l.foldl (fun c x => max c (x + 1)) c ≤ m
  | [], c, m, h, _ => h
  | x :: l, c, m, h, hx => by
    rw [List.foldl_cons]
    exact foldMax_mem l _ m (Nat.max_le.2 ⟨h, hx x (by simp)⟩) fun y hy => hx y (by simp [hy])
theorem cntG_le {t : List Nat} (h : ∀ x ∈ t, x ≤ 100) (i : Nat) : cntG (t.take i) ≤ 101 := foldMax_mem _ 0 101 (by omega) fun x hx => by have := h x (List.mem_of_mem_take hx); omega
set_option maxRecDepth 100000 in
set_option maxHeartbeats 1000000 in
theorem countT_any (t : List Nat) (n : Nat) (hn : t.length = n) (hn2 : n ≤ 2000000) (h9 : ∀ x ∈ t, x ≤ 100) (v : Value) (w : World) (hv : RowN w v (tsI t)) :
    Calls Try.prog 88 #[v] w fun e w' => e = .returned (.int .i64 (cntG t)) ∧ w' = w := by
  obtain ⟨a, c, rfl, hcell⟩ := hv
  rw [tsI_length, hn]
  have HC := Lib.hid hcell
  have HN := Lib.hid hn
  have HQ := Lib.hid (fun i x (h : t[i]? = some x) => cntG_take h)
  have HT := Lib.hid (fun i x (h : t[i]? = some x) => tsI_get h)
  have H9 := Lib.hid (fun i => cntG_le h9 i)
  have HX := Lib.hid h9
  have H0 := Lib.hid (show cntG (t.take 0) = 0 from rfl)
  have HL := Lib.hid (show cntG (t.take n) = cntG t by rw [← hn, List.take_length])
  clear hcell hn h9
  go_enter Try.func88, Try.ntmps88
  go_wp2_with fail
  go_loopw [3, 8] (fun u j wr => ∃ i : Nat, i ≤ n ∧ j = .int .i64 i ∧ u = .int .i64 (cntG (t.take i)) ∧ wr = w) (fun _ j _ => n - (intOf j).toNat)
  case atStart => exact ⟨0, by omega, rfl, by rw [H0.out]; rfl, rfl⟩
  case round =>
    obtain ⟨i, hi, rfl, rfl, rfl⟩ := hrel
    by_cases hlt : i < n
    · have hd : decide ((i : Int) < (n : Int)) = true := by simp; omega
      obtain ⟨x, hx⟩ : ∃ x, t[i]? = some x := ⟨_, List.getElem?_eq_getElem (by rw [HN.out]; exact hlt)⟩
      obtain ⟨g, rfl, hcc⟩ := HC.out i x (HT.out i x hx)
      have c0 := hcc wr (Below.refl _ _)
      have HQ2 := Lib.hid (HQ.out i x hx)
      have hx9 := HX.out x (List.mem_of_getElem? hx)
      have hc9 := H9.out i
      obtain ⟨q, hq⟩ : ∃ q, cntG (t.take i) = q := ⟨_, rfl⟩
      rw [hq] at hc9 HQ2
      clear hx hcc
      go_wp2_with fail
      go_roundw
      case rel => exact ⟨i + 1, by omega, by go_num, by rw [HQ2.out]; congr 1; omega, trivial⟩
      case measure => simp [intOf]; omega
    · have hin : i = n := by omega
      subst hin
      have hd : decide ((i : Int) < (i : Int)) = false := by simp
      go_wp2_with fail
      go_ret
      exact ⟨by rw [← HL.out]; rfl, rfl⟩

/-- The greatest of the numbers up to one's index. -/
def maxT (zs : List Nat) : Nat → Nat
  | 0 => zs.getD 0 0
  | k + 1 => max (maxT zs k) (zs.getD (k + 1) 0)
theorem maxT_is (zs : List Nat) : ∀ k, k < zs.length → maxT zs k = (zs.take (k + 1)).foldl max 0
  | 0, h => by
    obtain ⟨x, hx⟩ : ∃ x, zs[0]? = some x := ⟨_, List.getElem?_eq_getElem h⟩
    rw [List.take_add_one, hx]
    simp [maxT, List.getD_eq_getElem?_getD, hx]
  | k + 1, h => by
    obtain ⟨x, hx⟩ : ∃ x, zs[k + 1]? = some x := ⟨_, List.getElem?_eq_getElem h⟩
    rw [List.take_add_one, hx, List.foldl_append, ← maxT_is zs k (by omega)]
    simp only [maxT, List.getD_eq_getElem?_getD, hx, Option.getD_some, Option.toList_some, List.foldl_cons, List.foldl_nil]
theorem ordF_row {t : List Nat} {n j x : Nat} (hn : t.length = n) (h : t[j]? = some x) : (rowF (ordF t) n)[j]? = some (.int .i64 x) := by
  obtain ⟨h1, -⟩ := List.getElem?_eq_some_iff.1 h
  rw [rowF_get _ (by omega)]
  unfold ordF
  rw [List.getD_eq_getElem?_getD, h]
  rfl
set_option maxRecDepth 100000 in
set_option maxHeartbeats 1000000 in
theorem maxT_any (B N : Nat) (v : Value) (hN : N ≤ 2000000) (zs : List Nat) (hl : zs.length = N + 1) (w : World) (ho : w.ownsRow B 2 1 v (N + 1) (rowF (ordF zs) (N + 1))) :
    Calls Try.prog 153 #[v] w fun e w' => e = .returned (.int .i64 (maxT zs N)) ∧ w' = w := by
  obtain ⟨ga, cap, rfl, hBg, hg⟩ := own_form ho (by omega)
  have HO := Lib.hid ho
  obtain ⟨z0, hz0⟩ : ∃ z, zs[0]? = some z := ⟨_, List.getElem?_eq_getElem (by omega)⟩
  have c0 := own_cell ho _ _ (ordF_row hl hz0)
  have hd1 : decide (((N + 1 : Nat) : Int) < 1) = false := by simp; omega
  have HZ0 := Lib.hid (show maxT zs 0 = z0 by simp [maxT, hz0])
  have hw0 : ga < w.heap.size := hg
  have HL := Lib.hid hl
  clear ho hz0 hl
  go_enter Try.func153, Try.ntmps153
  go_wp2_with fail
  clear c0
  go_loopw [3, 4] (fun m i wr => ∃ k : Nat, k ≤ N ∧ i = .int .i64 ((k + 1 : Nat) : Int) ∧ m = .int .i64 (maxT zs k) ∧ wr = w) (fun _ i _ => N + 1 - (intOf i).toNat)
  case atStart => exact ⟨0, by omega, rfl, by rw [HZ0.out], rfl⟩
  case round =>
    obtain ⟨k, hk, rfl, rfl, rfl⟩ := hrel
    by_cases hlt : k < N
    · have hd : decide (((k + 1 : Nat) : Int) < ((N + 1 : Nat) : Int)) = true := by simp; omega
      obtain ⟨z, hz⟩ : ∃ z, zs[k + 1]? = some z := ⟨_, List.getElem?_eq_getElem (by rw [HL.out]; omega)⟩
      have ck := own_cell HO.out _ _ (ordF_row HL.out hz)
      have HM := Lib.hid (show maxT zs (k + 1) = max (maxT zs k) z by simp [maxT, hz])
      obtain ⟨m, hm⟩ : ∃ m, maxT zs k = m := ⟨_, rfl⟩
      rw [hm] at HM
      clear hz
      go_wp2_with fail
      go_roundw
      case rel => exact ⟨k + 1, by omega, by go_num, by rw [HM.out]; congr 1; omega, trivial⟩
      case measure => simp [intOf]; omega
    · have hd : decide (k < N) = false := by simp; omega
      have HK := Lib.hid (show k = N by omega)
      clear hlt
      go_wp2_with fail
      go_ret
      exact ⟨by rw [← HK.out]; rfl, rfl⟩
theorem pivG_lt {t : List Nat} {p : Nat} : ∀ i, pivG t i = some p → 1 ≤ p ∧ p ≤ i
  | 0, h => by simp [pivG] at h
  | i + 1, h => by
    simp only [pivG] at h
    split at h
    · simp at h; omega
    · have := pivG_lt i h; omega
theorem own_cutT {w : World} {B : Nat} {e : TypeId} {size n m g cap : Nat} {xs : List Value} (h : w.ownsRow B e size (.slice (some ⟨g, 0, none⟩) n cap) n xs) (hm : m ≤ n) :
    w.ownsRow B e size (.slice (some ⟨g, 0, none⟩) m cap) m (xs.take (m * size)) := by
  obtain ⟨hl, h | ⟨g', cap', cur, he, hb, hg, hn, hc, hs, hx⟩⟩ := h
  · simp at h
  · simp only [Value.slice.injEq, Option.some.injEq, Addr.mk.injEq, and_true, true_and] at he
    obtain ⟨rfl, rfl⟩ := he
    have hms : m * size ≤ n * size := Nat.mul_le_mul_right _ hm
    refine ⟨by rw [List.length_take]; omega, .inr ⟨g, cap, cur, rfl, hb, hg, by omega, hc, hs, ?_⟩⟩
    rw [← hx, List.take_take, Nat.min_eq_left hms]
theorem run_clear_none {P : Program} (w : World) (t e ty : TypeId) (ht : P.underlying t = some (.slice e)) (a : Option Addr) (c : Nat) : (Builtin.clear_ #[t] ty #[.slice a 0 c]).run P w = .ok (.tuple #[]) w := by
  cases a <;> simp [Builtin.clear_, run_underlying ht]
def setsL : Nat → List Value → List Value → List Value
  | _, [], xs => xs
  | i, u :: r, xs => setsL (i + 1) r (xs.set i u)
theorem setsL_rep (z : Value) : ∀ (m i : Nat) (xs : List Value) (j : Nat), (setsL i (List.replicate m z) xs)[j]? = if i ≤ j ∧ j < i + m ∧ j < xs.length then some z else xs[j]?
  | 0, i, xs, j => by
    rw [if_neg (by omega)]
    rfl
  | m + 1, i, xs, j => by
    rw [List.replicate_succ]
    show (setsL (i + 1) (List.replicate m z) (xs.set i z))[j]? = _
    rw [setsL_rep z m (i + 1) (xs.set i z) j, List.length_set, List.getElem?_set]
    by_cases h1 : i = j
    · subst h1
      rw [if_neg (by omega), if_pos rfl]
      by_cases h2 : i < xs.length
      · rw [if_pos h2, if_pos (by omega)]
      · rw [if_neg h2, if_neg (by omega), List.getElem?_eq_none (by omega)]
    · rw [if_neg h1]
      by_cases h2 : i + 1 ≤ j ∧ j < i + 1 + m ∧ j < xs.length
      · rw [if_pos h2, if_pos (by omega)]
      · rw [if_neg h2, if_neg (by omega)]
theorem only_sets {b : Nat} {w : World} : ∀ (news : List Value) (i : Nat) (w' : World), Only [b] w w' → Only [b] w (w'.setCells b i news)
  | [], _, _, h => h
  | u :: news, i, w', h => only_sets news (i + 1) _ (h.setCell (a := ⟨b, i, none⟩) (.inl (by simp)) u)
theorem own_sets {B : Nat} {e : TypeId} {size n b cap : Nat} : ∀ (news : List Value) (i : Nat) (w : World) (xs : List Value), w.ownsRow B e size (.slice (some ⟨b, 0, none⟩) n cap) n xs → i + news.length ≤ xs.length → (w.setCells b i news).ownsRow B e size (.slice (some ⟨b, 0, none⟩) n cap) n (setsL i news xs)
  | [], _, _, _, h, _ => h
  | u :: news, i, w, xs, h, hl => own_sets news (i + 1) _ _ (own_set h i u (by simp at hl; omega)) (by rw [List.length_set]; simp at hl; omega)
theorem nextG_row {t : List Nat} {n i x : Nat} (hn : t.length = n) (hi : i + 1 < n) (hx : t[i + 1]? = some x) (hp : pivG t (n - 1) = some (i + 1)) :
    ∃ t', nextG t = some t' ∧ t'.length = n ∧ setsL (i + 2) (List.replicate (n - (i + 2)) (.int .i64 0)) ((rowF (ordF t) n).set (i + 1) (.int .i64 ((x : Int) + 1))) = rowF (ordF t') n := by
  refine ⟨_, by unfold nextG; rw [hn, hp], by simp [hn]; omega, ?_⟩
  apply List.ext_getElem?
  intro j
  rw [setsL_rep, List.length_set, rowF_length, List.getElem?_set, rowF_length]
  have hgx : t.getD (i + 1) 0 = x := by rw [List.getD_eq_getElem?_getD, hx]; rfl
  rw [hgx]
  by_cases hj : j < n
  · rw [rowF_get _ hj, rowF_get _ hj]
    unfold ordF
    simp only [List.getD_eq_getElem?_getD]
    by_cases h1 : i + 2 ≤ j
    · rw [if_pos ⟨h1, by omega, hj⟩, List.getElem?_append_right (by simp; omega), List.getElem?_replicate, if_pos (by simp [hn]; omega)]
      rfl
    · rw [if_neg (by omega)]
      by_cases h2 : i + 1 = j
      · subst h2
        rw [if_pos rfl, if_pos hj, List.getElem?_append_left (by simp; omega), List.getElem?_append_right (by rw [List.length_take]; omega)]
        have : (i + 1) - (t.take (i + 1)).length = 0 := by rw [List.length_take, hn]; omega
        rw [this]
        simp
      · rw [if_neg h2, List.getElem?_append_left (by simp; omega), List.getElem?_append_left (by simp; omega), List.getElem?_take, if_pos (by omega)]
  · rw [if_neg (by omega), List.getElem?_eq_none (l := rowF _ n) (by rw [rowF_length]; omega)]
    split
    · omega
    · rw [List.getElem?_eq_none (by rw [rowF_length]; omega)]
set_option maxRecDepth 100000 in
set_option maxHeartbeats 4000000 in
theorem nextT_any (t : List Nat) (n : Nat) (hn : t.length = n) (hn5 : n ≤ 5) (h9 : ∀ x ∈ t, x ≤ 9) (B b cap : Nat) (hcap : n ≤ cap) (w : World) (h : w.ownsRow B 2 1 (.slice (some ⟨b, 0, none⟩) n cap) n (rowF (ordF t) n)) :
    Calls Try.prog 129 #[.slice (some ⟨b, 0, none⟩) n cap] w fun e w' => e = .returned (.bool (nextG t).isSome) ∧ Only [b] w w' ∧ w'.ownsRow B 2 1 (.slice (some ⟨b, 0, none⟩) n cap) n (rowF (ordF ((nextG t).getD t)) n) := by
  have HH := Lib.hid h
  have HN := Lib.hid hn
  have H9 := Lib.hid h9
  clear h hn h9
  go_enter Try.func129, Try.ntmps129
  go_wp2_with fail
  go_loopw [3] (fun u wr => ∃ (i : Nat) (z : Int), u = .int .i64 z ∧ (z = (i : Int) ∨ (i = 0 ∧ z < 0)) ∧ -1 ≤ z ∧ i + 1 ≤ n + (if i = 0 then 1 else 0) ∧ pivG t (n - 1) = pivG t i ∧ Only [b] w wr ∧ wr.ownsRow B 2 1 (.slice (some ⟨b, 0, none⟩) n cap) n (rowF (ordF t) n)) (fun u _ => (intOf u + 3).toNat)
  case atStart =>
    refine ⟨n - 1, (n : Int) - 1, rfl, by omega, by omega, ?_, rfl, Only.refl _ _, HH.out⟩
    split <;> omega
  case round =>
    obtain ⟨i, z, rfl, hz, hz2, hi, hpv, hO, ho⟩ := hrel
    rcases i with _ | i
    · have hd : decide (0 < z) = false := by simp; omega
      have HR := Lib.hid (show nextG t = none by unfold nextG; rw [HN.out, hpv]; rfl)
      go_wp2_with fail
      go_ret
      exact ⟨by rw [HR.out]; rfl, hO, by rw [HR.out]; exact ho⟩
    · have hz3 : z = ((i + 1 : Nat) : Int) := by omega
      subst hz3
      have hin : i + 1 < n := by rw [if_neg (by omega)] at hi; omega
      have hd : decide ((0 : Int) < ((i + 1 : Nat) : Int)) = true := by simp
      have HO := Lib.hid ho
      obtain ⟨x, hx⟩ : ∃ x, t[i + 1]? = some x := ⟨_, List.getElem?_eq_getElem (by rw [HN.out]; exact hin)⟩
      have hx9 := H9.out x (List.mem_of_getElem? hx)
      have FX := Lib.hid (show ∀ w', Below wr.heap.size wr w' → w'.cell? ⟨b, i + 1, none⟩ = some (.int .i64 x) from fun w' hw' =>
        own_cell (own_below HO.out hw') _ _ (ordF_row HN.out hx))
      obtain ⟨M, hM⟩ : ∃ M, (t.take (i + 1)).foldl max 0 = M := ⟨_, rfl⟩
      have FM := Lib.hid (show ∀ w', Below wr.heap.size wr w' → Calls Try.prog 153 #[.slice (some ⟨b, 0, none⟩) ((i + 1 : Nat) : Int).toNat cap] w' fun e w2 => e = .returned (.int .i64 M) ∧ w2 = w' from fun w' hw' => by
        have hlt : (t.take (i + 1)).length = i + 1 := by rw [List.length_take, HN.out]; omega
        have := maxT_any B i (.slice (some ⟨b, 0, none⟩) (i + 1) cap) (by omega) (t.take (i + 1)) hlt w' (by
          have hc := own_cutT (own_below HO.out hw') (m := i + 1) (by omega)
          have e : (rowF (ordF t) n).take ((i + 1) * 1) = rowF (ordF (t.take (i + 1))) (i + 1) := by
            apply List.ext_getElem?
            intro j
            rw [List.getElem?_take, Nat.mul_one]
            by_cases hj : j < i + 1
            · rw [if_pos hj, rowF_get _ hj, rowF_get _ (by omega)]
              unfold ordF
              rw [List.getD_eq_getElem?_getD, List.getD_eq_getElem?_getD, List.getElem?_take, if_pos hj]
            · rw [if_neg hj, List.getElem?_eq_none (by rw [rowF_length]; omega)]
          rw [e] at hc
          exact hc)
        rw [maxT_is _ i (by omega), List.take_take, Nat.min_self, hM] at this
        exact this)
      have hpv2 : pivG t (i + 1) = if x ≤ M then some (i + 1) else pivG t i := by simp only [pivG, List.getD_eq_getElem?_getD, hx, Option.getD_some, hM]
      rw [hpv2] at hpv
      have HPV := Lib.hid hpv
      have HOn := Lib.hid hO
      have HXX := Lib.hid hx
      clear hpv hpv2 ho hO hz hi hx hM
      go_wp2_with fail
      refine wp_region_grow 8 (by kernel_rfl) (by kernel_rfl) ?_
      simp only [List.take_succ_cons, List.take_zero, List.drop_succ_cons, List.drop_zero]
      iterate 7
        apply wpGrow_plain rfl
        · intro w' hw' K hK
          have f1 := FX.out _ hw'
          go_wp2_with fail
          exact hK _ _ rfl hw'
        simp only [Act.put, List.setIfInBounds_toArray, List.set_cons_succ, List.set_cons_zero]
      apply wpGrow_plain rfl
      · intro w' hw' K hK
        go_wp2_with fail
        refine (FM.out _ hw').mono ?_
        rintro e w4 ⟨rfl, rfl⟩
        exact hK _ _ rfl hw'
      simp only [Act.put, List.setIfInBounds_toArray, List.set_cons_succ, List.set_cons_zero]
      refine wpGrow_nil ?_
      intro W3 hW3
      have hO3 := Lib.hid (HOn.out.onto hW3)
      have HO3 := Lib.hid (own_below HO.out hW3)
      have f1 := FX.out _ hW3
      clear hW3 FX HO HOn FM
      by_cases hc : x ≤ M
      · have hdc : decide ((x : Int) ≤ (M : Int)) = true := by simp; omega
        have HP2 := Lib.hid (show pivG t (n - 1) = some (i + 1) by rw [HPV.out, if_pos hc])
        have ff := own_free HO3.out
        have ll := (own_lt HO3.out).2
        have HNR := Lib.hid (nextG_row HN.out hin HXX.out HP2.out)
        have h1 := own_set HO3.out (i + 1) (.int .i64 ((x : Int) + 1)) (by rw [rowF_length]; omega)
        have HO4 := Lib.hid (hO3.out.setCell (a := ⟨b, i + 1, none⟩) (.inl (by simp)) (.int .i64 ((x : Int) + 1)))
        have HH1 := Lib.hid h1
        have hcl0 := fun ty a c => run_clear_none (P := Try.prog) (W3.setCell ⟨b, i + 1, none⟩ (.int .i64 ((x : Int) + 1))) 56 2 ty Try.underlying56 a c
        clear h1
        by_cases hlast : i + 2 = n
        · subst hlast
          obtain ⟨t', ht', -, hrow⟩ := HNR.out
          rw [Nat.sub_self] at hrow
          have HT' := Lib.hid (And.intro ht' hrow)
          clear ht' hrow HNR
          by_cases hcp : cap = i + 2
          · subst hcp
            go_wp2_with fail
            go_ret
            rw [HT'.out.1]
            exact ⟨rfl, HO4.out, by rw [Option.getD_some, ← HT'.out.2]; exact HH1.out⟩
          · have hcp : ¬ cap = i + 1 + 1 := by omega
            have hz0 : i + 2 - (i + 1 + 1) = 0 := by omega
            go_wp2_with fail
            go_ret
            rw [HT'.out.1]
            exact ⟨rfl, HO4.out, by rw [Option.getD_some, ← HT'.out.2]; exact HH1.out⟩
        · have hcp : ¬ cap = i + 1 + 1 := by omega
          have hcl := fun ty => Lib.run_clear_slice (P := Try.prog) (W3.setCell ⟨b, i + 1, none⟩ (.int .i64 ((x : Int) + 1))) 56 2 ty (.int .i64 0) Try.underlying56 (by intro w; rfl) rfl rfl b (i + 1 + 1) (n - (i + 1 + 1)) (cap - (i + 1 + 1)) (by omega) (by
            intro j hj
            have := own_cell HH1.out (i + 1 + 1 + j) (.int .i64 (ordF t (i + 1 + 1 + j))) (by rw [List.getElem?_set, if_neg (by omega), rowF_get _ (by omega)])
            rw [this]; rfl) (fun j hj => own_free HH1.out _)
          clear hcl0
          go_wp2_with fail
          go_ret
          obtain ⟨t', ht', -, hrow⟩ := HNR.out
          have o1 := own_sets (List.replicate (n - (i + 2)) (.int .i64 0)) (i + 2) _ _ HH1.out (by rw [List.length_replicate, List.length_set, rowF_length]; omega)
          rw [hrow] at o1
          rw [ht']
          exact ⟨rfl, only_sets _ _ _ HO4.out, by rw [Option.getD_some]; exact o1⟩
      · have hdc : decide ((x : Int) ≤ (M : Int)) = false := by simp; omega
        have HP2 := Lib.hid (show pivG t (n - 1) = pivG t i by rw [HPV.out, if_neg hc])
        go_wp2_with fail
        go_roundw
        case rel => exact ⟨i, (i : Int), rfl, .inl rfl, by omega, by split <;> omega, HP2.out, hO3.out, HO3.out⟩
        case measure => simp [intOf]; omega
end Go.Proofs.Ytaeenkjbmlgcmaa

namespace Go.Proofs.Ytaeenkjbmlgcmaa
open Go.RowKit
set_option linter.unusedVariables false
set_option linter.unusedSimpArgs false
attribute [local go_sem ↓] loadRow loadGrid loadLawn loadMirror storeRow storeGrid storeLawn allocRow allocGrid allocLawn buildZero buildSides

/-- What the program has found. -/
def fewV (b : Option (List Nat × Nat)) : List Nat × Nat := b.getD ([], 6)
theorem better_few {b : Option (List Nat × Nat)} {c : Nat} (h : c ≤ 5) : betterG b c = decide (c < (fewV b).2) := by
  cases b with
  | none =>
    show true = decide (c < 6)
    symm
    rw [decide_eq_true_eq]
    omega
  | some q => rfl
theorem step_few {feas : List Nat → Bool} {b : Option (List Nat × Nat)} {t : List Nat} (h : cntG t ≤ 5) : fewV (stepG feas b t) = if cntG t < (fewV b).2 ∧ feas t = true then (t, cntG t) else fewV b := by
  unfold stepG
  rw [better_few h]
  by_cases h1 : cntG t < (fewV b).2 <;> by_cases h2 : feas t = true
  · rw [if_pos (by simp [h1, h2]), if_pos ⟨h1, h2⟩]; rfl
  · rw [if_neg (by simp [h2]), if_neg (fun h => h2 h.2)]
  · rw [if_neg (by simp [h1]), if_neg (fun h => h1 h.1)]
  · rw [if_neg (by simp [h1]), if_neg (fun h => h1 h.1)]
theorem tsI_row {t : List Nat} {n : Nat} (hn : t.length = n) : rowF (ordF t) n = (tsI t).map fun z => .int .i64 z := by
  apply List.ext_getElem?
  intro j
  rw [List.getElem?_map]
  by_cases hj : j < n
  · rw [rowF_get _ hj]
    obtain ⟨x, hx⟩ : ∃ x, t[j]? = some x := ⟨_, List.getElem?_eq_getElem (by omega)⟩
    rw [tsI_get hx]
    unfold ordF
    rw [List.getD_eq_getElem?_getD, hx]
    rfl
  · rw [List.getElem?_eq_none (by rw [rowF_length]; omega), List.getElem?_eq_none (by rw [tsI_length]; omega)]
    rfl
theorem RowN.rowF {w : World} {B n : Nat} {e : TypeId} {v : Value} {t : List Nat} (hn : t.length = n) (h : w.ownsRow B e 1 v n (rowF (ordF t) n)) : RowN w v (tsI t) := RowN.own ((tsI_length t).trans hn) (by rw [← tsI_row hn]; exact h)
theorem own_full {base : Nat} {e : TypeId} (w : World) (cur : Array Value) (n : Nat) (hb : base ≤ w.heap.size) (hm : n ≤ maxLen) (hs : cur.size = n) : (w.alloc (.cells cur e)).ownsRow base e 1 (.slice (some ⟨w.heap.size, 0, none⟩) n n) n cur.toList :=
  ⟨by rw [Array.length_toList]; omega, .inr ⟨w.heap.size, n, cur, rfl, hb, heap_alloc_new w _, Nat.le_refl _, hm, by omega, by rw [List.take_of_length_le (by rw [Array.length_toList]; omega)]⟩⟩
set_option maxRecDepth 100000 in
set_option maxHeartbeats 1000000 in
theorem cloneRow_any (B N g cv : Nat) (hN : N ≤ 2000000) (f : Nat → Int) (w : World) (ho : w.ownsRow B 2 1 (.slice (some ⟨g, 0, none⟩) N cv) N (rowF f N)) :
    Calls Try.prog 125 #[.slice (some ⟨g, 0, none⟩) N cv] w fun e w' => (∃ b c, e = .returned (.slice (some ⟨b, 0, none⟩) N c) ∧ w.heap.size ≤ b ∧ w'.ownsRow w.heap.size 2 1 (.slice (some ⟨b, 0, none⟩) N c) N (rowF f N)) ∧ Below w.heap.size w w' := by
  rcases Nat.eq_zero_or_pos N with h0 | h0
  case inr =>
    refine (clone64_any B N _ hN h0 f w ho).mono ?_
    rintro e w' ⟨⟨u, rfl, h1⟩, h2⟩
    obtain ⟨b, c, rfl, h3, -⟩ := own_form h1 h0
    exact ⟨⟨b, c, rfl, h3, h1⟩, h2⟩
  subst h0
  have HM1 := Lib.hid (World.ownsRow_made (e := 2) (size := 1) w #[] 0 (Nat.le_refl w.heap.size) (by simp [maxLen]) rfl)
  have e0 : rowF f 0 = [] := rfl
  rw [e0]
  clear ho e0
  obtain ⟨i0, hi, hq0, hq1, hq2⟩ := info_parts i64I
  have q22 : (binOp .eql 56 (.slice (some ⟨g, 0, none⟩) 0 cv) (.slice none 0 0)).run Try.prog w = .ok (.bool false) w := by have := Lib.run_eql_slice_nil w _ _ (some ⟨g, 0, none⟩) 0 cv 0 0 Try.underlying56; exact this
  go_enter Try.func125, Try.ntmps125
  go_wp2_with fail
  go_ret
  exact ⟨⟨_, _, rfl, Nat.le_refl _, HM1.out⟩, (Below.refl w.heap.size w).alloc (Nat.le_refl _) _⟩
set_option maxRecDepth 100000 in
set_option maxHeartbeats 4000000 in
theorem fewT_any (cs : Nat → Pt) (n : Nat) (tb : Nat → Nat → Int) (hn : n ≤ 5) (hb : ∀ i j, i ≤ n → j ≤ n → 0 ≤ tb i j ∧ tb i j < 100) (l : List Pt) (hl : l.length = n) (hlc : ∀ i c, l[i]? = some c → cs i = c) (a : Option Addr) (vc : Nat) (mb : Nat) (full : Int) (w : World)
    (hm : TourIs w mb cs n tb) (hv : RowP w (.slice a n vc) l) :
    Calls Try.prog 87 #[.agg (tourA (cs n) (.slice a n vc) mb), .int .i64 full] w fun e w' => (∃ u, e = .returned u ∧ w'.ownsRow w.heap.size 2 1 u (fewV (fewG tb n full)).1.length (ordV (fewV (fewG tb n full)).1)) ∧ Below w.heap.size w w' := by
  have HCT := Lib.hid (fun (t : List Nat) (ht : t ∈ allG n) (v : Value) (w : World) (hv : RowN w v (tsI t)) => countT_any t n (allG_mem hn ht).1 (by omega) (fun x hx => by have := (allG_mem hn ht).2.1 x hx; omega) v w hv)
  have HWI := Lib.hid (fun (t : List Nat) (ht : t ∈ allG n) (u : Value) (w : World) (hm : TourIs w mb cs n tb) (hv : RowP w (.slice a n vc) l) (hu : RowN w u (tsI t)) => (by exact areWithin_any cs n tb hn hb l hl hlc (.slice a n vc) mb (tsI t) ((tsI_length t).trans (allG_mem hn ht).1) full u w hm hv hu : Calls Try.prog 94 #[.agg (tourA (cs n) (.slice a n vc) mb), u, .int .i64 full] w fun e w' => e = .returned (.bool (feasT tb n full t)) ∧ Below w.heap.size w w'))
  have HNX := Lib.hid (fun (t : List Nat) (ht : t ∈ allG n) (B b cap : Nat) (hcap : n ≤ cap) (w : World) (h : w.ownsRow B 2 1 (.slice (some ⟨b, 0, none⟩) n cap) n (rowF (ordF t) n)) => nextT_any t n (allG_mem hn ht).1 hn (fun x hx => by have := (allG_mem hn ht).2.1 x hx; omega) B b cap hcap w h)
  have HCL := Lib.hid (fun (t : List Nat) (B g cv : Nat) (w : World) (ho : w.ownsRow B 2 1 (.slice (some ⟨g, 0, none⟩) n cv) n (rowF (ordF t) n)) => cloneRow_any B n g cv (by omega) (ordF t) w ho)
  have HAM := Lib.hid (fun (t : List Nat) (ht : t ∈ allG n) => allG_mem hn ht)
  have HAN := Lib.hid (fun i t (h : (allG n)[i]? = some t) => allG_next hn i t h)
  have HA0 := Lib.hid (show (allG n)[0]? = some (List.replicate n 0) from (allG_facts n (by omega)).2.1)
  have HAL := Lib.hid (show (allG n).length ≤ 52 from (allG_facts n (by omega)).2.2.1)
  have HFG := Lib.hid (show fewG tb n full = (allG n).foldl (stepG (feasT tb n full)) none from rfl)
  have HSF := Lib.hid (fun (b : Option (List Nat × Nat)) (t : List Nat) (ht : t ∈ allG n) => step_few (feas := feasT tb n full) (b := b) (allG_mem hn ht).2.2)
  have HM := Lib.hid hm
  have HV := Lib.hid hv
  obtain ⟨fs, hfs⟩ : ∃ fs, feasT tb n full = fs := ⟨_, rfl⟩
  rw [hfs] at HWI HFG HSF
  obtain ⟨FG, hFG⟩ : ∃ FG, fewG tb n full = FG := ⟨_, rfl⟩
  rw [hFG] at HFG ⊢
  obtain ⟨⟨hx, hy⟩, hh⟩ : ∃ c, cs n = c := ⟨_, rfl⟩
  rw [hh] at HWI ⊢
  unfold tourA at HWI ⊢
  dsimp only at HWI ⊢
  clear hh hb hl hlc hm hv hfs hFG
  obtain ⟨s, hs⟩ : ∃ s, w.heap.size = s := ⟨_, rfl⟩
  rw [hs]
  have HS := Lib.hid hs
  have g0 : Holds (w.alloc (.cells #[.int .i8 hx, .int .i8 hy, .slice a n vc, .map (some mb)] 131)) s #[.int .i8 hx, .int .i8 hy, .slice a n vc, .map (some mb)] := by rw [← hs]; exact Holds.new _ _ _
  have hb0 : Below s w (w.alloc (.cells #[.int .i8 hx, .int .i8 hy, .slice a n vc, .map (some mb)] 131)) := by rw [← hs]; exact (Below.refl w.heap.size w).alloc (Nat.le_refl _) _
  have hsz0 : (w.alloc (.cells #[.int .i8 hx, .int .i8 hy, .slice a n vc, .map (some mb)] 131)).heap.size = s + 1 := by simp [hs]
  have f2 := g0.cell 2
  simp only [List.getElem?_toArray, List.getElem?_cons_zero, List.getElem?_cons_succ] at f2
  have hmk := run_make_row' (P := Try.prog) 56 2 (.int .i64 0) 8 Try.underlying56 i64I rfl .i64 .i64 n (by omega) (by omega)
  go_enter Try.func87, Try.ntmps87
  go_wp2_with fail
  try simp only [hs]
  refine wp_scope_falls2 0 (fun m a' w' => ∃ (i ob oc B' : Nat) (ub : Value) (t : List Nat) (b : Option (List Nat × Nat)) (u8 u9 u10 u11 u12 u13 u14 u15 u16 u17 u18 u19 u20 u21 u22 u23 u24 u25 u26 u27 u28 u29 : Value),
    a' = { tmps := #[.agg #[.int .i8 hx, .int .i8 hy, .slice a n vc, .map (some mb)], .int .i64 full, .pointer (some ⟨s, 0, none⟩), undef, .slice none 0 0, .slice (some ⟨ob, 0, none⟩) n oc, ub, .int .i64 ((fewV b).2 : Nat), u8, u9, u10, u11, u12, u13, u14, u15, u16, u17, u18, u19, u20, u21, u22, u23, u24, u25, u26, u27, u28, u29], defers := [] } ∧
    i + m = 60 ∧ (allG n)[i]? = some t ∧ ((allG n).take i).foldl (stepG fs) none = b ∧ s + 1 ≤ B' ∧ n ≤ oc ∧ (∀ z, ub.ownBlock = some z → z ≠ ob) ∧ w'.ownsRow B' 2 1 (.slice (some ⟨ob, 0, none⟩) n oc) n (rowF (ordF t) n) ∧ w'.ownsRow (s + 1) 2 1 ub (fewV b).1.length (ordV (fewV b).1) ∧ Holds w' s #[.int .i8 hx, .int .i8 hy, .slice a n vc, .map (some mb)] ∧ Below s w w') rfl ?_ ?_
  · intro HPASS
    have HPS := Lib.hid HPASS
    clear HPASS
    have HB0 := Lib.hid hb0
    clear hb0
    obtain ⟨W0, hW0⟩ : ∃ W0, w.alloc (.cells #[.int .i8 hx, .int .i8 hy, .slice a n vc, .map (some mb)] 131) = W0 := ⟨_, rfl⟩
    rw [hW0] at g0 hsz0 HB0 f2 ⊢
    clear hW0
    have hm2 := hmk W0
    have ho : (W0.alloc (.cells (madeCells #[Value.int .i64 0] n) 2)).ownsRow (s + 1) 2 1 (.slice (some ⟨s + 1, 0, none⟩) n n) n (rowF (ordF (List.replicate n 0)) n) := by
      have e : rowF (ordF (List.replicate n 0)) n = (madeCells #[Value.int .i64 0] n).toList := by
        apply List.ext_getElem?
        intro j
        rw [toList_madeCells_one, List.getElem?_replicate]
        by_cases hj : j < n
        · rw [rowF_get _ hj, if_pos hj]
          unfold ordF
          rw [List.getD_eq_getElem?_getD, List.getElem?_replicate, if_pos hj]
          rfl
        · rw [if_neg hj, List.getElem?_eq_none (by rw [rowF_length]; omega)]
      rw [e]
      rw [← hsz0]
      exact own_full W0 _ n (by omega) (by unfold maxLen; omega) (by rw [← Array.length_toList, toList_madeCells_one, List.length_replicate])
    have hb2 := (Below.refl W0.heap.size W0).alloc (Nat.le_refl _) (.cells (madeCells #[Value.int .i64 0] n) 2)
    have HU := Lib.hid (And.intro ho (And.intro (g0.below hb2 (by omega)) (HB0.out.trans (hb2.mono (by omega)))))
    have hsz : s + 1 ≤ W0.heap.size := by omega
    clear hmk ho hb2 HB0 HCT HWI HCL HNX HAM HAN HM HV
    go_wp2_with fail
    go_step3
    refine (‹∀ (a : Act) (w : World), Code.wp Try.prog _ _ a w → _›) _ _ ?_
    exact HPS.out 60 _ _ ⟨0, s + 1, n, s + 1, _, _, none, _, _, _, _, _, _, _, _, _, _, _, _, _, _, _, _, _, _, _, _, _, _, rfl, rfl, HA0.out, rfl, by omega, Nat.le_refl _, fun z hz => by simp [Value.ownBlock] at hz, HU.out.1, World.ownsRow_nil _ _ _ _, HU.out.2.1, HU.out.2.2⟩
  · rintro m a' W ⟨i, ob, oc, B', ub, t, b, u8, u9, u10, u11, u12, u13, u14, u15, u16, u17, u18, u19, u20, u21, u22, u23, u24, u25, u26, u27, u28, u29, rfl, him, hpi, hfold, hB', hoc, hfar, hou, hobb, h0, hb⟩
    clear HA0 hb0 g0 f2 hmk hsz0
    obtain ⟨ua, uc, rfl⟩ := own_slice hobb
    have hmem := List.mem_of_getElem? hpi
    have HMEM := Lib.hid hmem
    have HNL := Lib.hid (HAN.out i t hpi)
    have HTL := Lib.hid (fun t ht => (HAM.out t ht).1)
    have HF2 := Lib.hid (show ((allG n).take (i + 1)).foldl (stepG fs) none = stepG fs b t by rw [List.take_add_one, hpi, List.foldl_append, hfold]; rfl)
    have HSE := Lib.hid (HSF.out b t hmem)
    have htl := (HAM.out t hmem).1
    have hc5 := (HAM.out t hmem).2.2
    have hob1 := (own_lt hou).1
    have hob2 := (own_lt hou).2
    have hil : i < 52 := by
      obtain ⟨h1, -⟩ := List.getElem?_eq_some_iff.1 hpi
      have := HAL.out
      omega
    have hbW : Below w.heap.size w W := by rw [HS.out]; exact hb
    have HTM := Lib.hid (HM.out.below hbW)
    have HTV := Lib.hid (HV.out.below hbW)
    have HRN := Lib.hid (RowN.rowF htl hou)
    have HCW := Lib.hid (HCT.out t hmem _ W HRN.out)
    have HWW := Lib.hid (HWI.out t hmem _ W HTM.out HTV.out HRN.out)
    have HU := Lib.hid (And.intro hou (And.intro hobb (And.intro h0 hb)))
    have HFAR := Lib.hid hfar
    have q0 := h0.cell 0
    have q1 := h0.cell 1
    have q2 := h0.cell 2
    have q3 := h0.cell 3
    simp only [List.getElem?_toArray, List.getElem?_cons_zero, List.getElem?_cons_succ] at q0 q1 q2 q3
    obtain ⟨C, hC⟩ : ∃ C, cntG t = C := ⟨_, rfl⟩
    obtain ⟨F, hF⟩ : ∃ F, (fewV b).2 = F := ⟨_, rfl⟩
    obtain ⟨L, hL⟩ : ∃ L, fewV b = L := ⟨_, rfl⟩
    obtain ⟨FT, hFT⟩ : ∃ FT, fs t = FT := ⟨_, rfl⟩
    rw [hF, hC, hFT] at HSE
    rw [hL] at HSE hF HU HFAR
    rw [hFT] at HWW
    rw [hC] at HCW hc5
    have HFL := Lib.hid hF
    rw [hL, hF]
    obtain ⟨lk, hlk⟩ : ∃ lk, L.1.length = lk := ⟨_, rfl⟩
    rw [hlk] at HU HFAR ⊢
    have HLK := Lib.hid hlk
    clear hmem hpi hfold hfar hou hobb h0 hb htl hbW hC hF hL hFT HAM HAN HSF hlk
    go_wp2_with fail
    refine HCW.out.mono ?_
    rintro e w1 ⟨rfl, rfl⟩
    by_cases hlt : C < F
    case neg =>
      have hd : decide ((C : Int) < (F : Int)) = false := by simp; omega
      have HE := Lib.hid (show fewV (stepG fs b t) = L by rw [HSE.out, if_neg (fun h => hlt h.1)])
      have HE2 := Lib.hid (show (fewV (stepG fs b t)).2 = F by rw [HE.out, HFL.out])
      have HU2 := Lib.hid (show w1.ownsRow B' 2 1 (.slice (some ⟨ob, 0, none⟩) n oc) n (rowF (ordF t) n) ∧ w1.ownsRow (s + 1) 2 1 (.slice ua lk uc) L.1.length (ordV L.1) ∧ Holds w1 s #[.int .i8 hx, .int .i8 hy, .slice a n vc, .map (some mb)] ∧ Below s w w1 by rw [HLK.out]; exact HU.out)
      clear HSE HU HTM HTV HRN HCW HWW q0 q1 q2 q3
      clear HCT HWI HCL
      go_wp2_with fail
      refine (HNX.out t HMEM.out _ _ _ hoc _ HU2.out.1).mono ?_
      rintro e w3 ⟨rfl, hO, hou⟩
      have k0 := hO.holds HU2.out.2.2.1 (by simp; omega)
      have kb := HU2.out.2.2.2.trans (hO.toBelow (B := s) (fun k hk => by simp at hk; omega) (by omega))
      have kob := hO.own HU2.out.2.1 (fun z hz => by have := HFAR.out z hz; simpa using this)
      have HU3 := Lib.hid (And.intro hou (And.intro kob (And.intro k0 kb)))
      clear hO hou k0 kb kob HU2
      cases hno : nextG t with
      | none =>
        have hnx := HNL.out
        rw [hno] at hnx
        have hlen : (allG n).length ≤ i + 1 := List.getElem?_eq_none_iff.1 hnx.symm
        have hf := HF2.out
        rw [List.take_of_length_le hlen] at hf
        have HEND := Lib.hid hf
        clear hno hnx hlen hf
        simp only [Option.isSome_none]
        go_wp2_with fail
        simp only [Exit.jump]
        go_ret
        exact ⟨⟨_, rfl, by rw [HFG.out, HEND.out, HE.out]; exact ownsRow_low HU3.out.2.1 (by omega)⟩, HU3.out.2.2.2⟩
      | some t2 =>
        have hnx := HNL.out
        rw [hno] at hnx
        have HN2 := Lib.hid hnx.symm
        have hou2 := HU3.out.1
        rw [hno] at hou2
        have HOU2 := Lib.hid (show w3.ownsRow B' 2 1 (.slice (some ⟨ob, 0, none⟩) n oc) n (rowF (ordF t2) n) from hou2)
        have hi2 : i + 1 < 52 := by
          obtain ⟨h1, -⟩ := List.getElem?_eq_some_iff.1 hnx.symm
          have := HAL.out
          omega
        clear hno hnx hou2
        simp only [Option.isSome_some]
        go_wp2_with fail
        go_step3
        rw [← HE2.out]
        exact ⟨rfl, m - 1, by omega, i + 1, ob, oc, B', _, t2, stepG fs b t, _, _, _, _, _, _, _, _, _, _, _, _, _, _, _, _, _, _, _, _, _, _, rfl, by omega, HN2.out, HF2.out, hB', hoc, HFAR.out, HOU2.out, by rw [HE.out]; exact HU3.out.2.1, HU3.out.2.2.1, HU3.out.2.2.2⟩
    case pos =>
      have hd : decide ((C : Int) < (F : Int)) = true := by simp; omega
      go_wp2_with fail
      refine HWW.out.mono ?_
      rintro e w2 ⟨rfl, hb2⟩
      have HU4 := Lib.hid (show w2.ownsRow B' 2 1 (.slice (some ⟨ob, 0, none⟩) n oc) n (rowF (ordF t) n) ∧ w2.ownsRow (s + 1) 2 1 (.slice ua lk uc) L.1.length (ordV L.1) ∧ Holds w2 s #[.int .i8 hx, .int .i8 hy, .slice a n vc, .map (some mb)] ∧ Below s w w2 from
        ⟨own_below HU.out.1 hb2, by rw [HLK.out]; exact own_below HU.out.2.1 hb2, HU.out.2.2.1.below hb2 HU.out.2.2.1.lt, HU.out.2.2.2.trans (hb2.mono (by have := HU.out.2.2.1.lt; omega))⟩)
      have hsz2 : s + 1 ≤ w2.heap.size := HU4.out.2.2.1.lt
      have hob3 := (own_lt HU4.out.1).2
      clear HU HTM HTV HRN HCW HWW q0 q1 q2 q3 hb2
      cases FT with
      | false =>
        have HE := Lib.hid (show fewV (stepG fs b t) = L by rw [HSE.out, if_neg (fun h => by cases h.2)])
        have HE2 := Lib.hid (show (fewV (stepG fs b t)).2 = F by rw [HE.out, HFL.out])
        have HU2 := Lib.hid HU4.out
        clear HSE HU4
        clear HCT HWI HCL
        go_wp2_with fail
        refine (HNX.out t HMEM.out _ _ _ hoc _ HU2.out.1).mono ?_
        rintro e w3 ⟨rfl, hO, hou⟩
        have k0 := hO.holds HU2.out.2.2.1 (by simp; omega)
        have kb := HU2.out.2.2.2.trans (hO.toBelow (B := s) (fun k hk => by simp at hk; omega) (by omega))
        have kob := hO.own HU2.out.2.1 (fun z hz => by have := HFAR.out z hz; simpa using this)
        have HU3 := Lib.hid (And.intro hou (And.intro kob (And.intro k0 kb)))
        clear hO hou k0 kb kob HU2
        cases hno : nextG t with
        | none =>
          have hnx := HNL.out
          rw [hno] at hnx
          have hlen : (allG n).length ≤ i + 1 := List.getElem?_eq_none_iff.1 hnx.symm
          have hf := HF2.out
          rw [List.take_of_length_le hlen] at hf
          have HEND := Lib.hid hf
          clear hno hnx hlen hf
          simp only [Option.isSome_none]
          go_wp2_with fail
          simp only [Exit.jump]
          go_ret
          exact ⟨⟨_, rfl, by rw [HFG.out, HEND.out, HE.out]; exact ownsRow_low HU3.out.2.1 (by omega)⟩, HU3.out.2.2.2⟩
        | some t2 =>
          have hnx := HNL.out
          rw [hno] at hnx
          have HN2 := Lib.hid hnx.symm
          have hou2 := HU3.out.1
          rw [hno] at hou2
          have HOU2 := Lib.hid (show w3.ownsRow B' 2 1 (.slice (some ⟨ob, 0, none⟩) n oc) n (rowF (ordF t2) n) from hou2)
          have hi2 : i + 1 < 52 := by
            obtain ⟨h1, -⟩ := List.getElem?_eq_some_iff.1 hnx.symm
            have := HAL.out
            omega
          clear hno hnx hou2
          simp only [Option.isSome_some]
          go_wp2_with fail
          go_step3
          rw [← HE2.out]
          exact ⟨rfl, m - 1, by omega, i + 1, ob, oc, B', _, t2, stepG fs b t, _, _, _, _, _, _, _, _, _, _, _, _, _, _, _, _, _, _, _, _, _, _, rfl, by omega, HN2.out, HF2.out, hB', hoc, HFAR.out, HOU2.out, by rw [HE.out]; exact HU3.out.2.1, HU3.out.2.2.1, HU3.out.2.2.2⟩
      | true =>
        have HE := Lib.hid (show fewV (stepG fs b t) = (t, C) by rw [HSE.out, if_pos ⟨hlt, rfl⟩])
        have HE2 := Lib.hid (show (fewV (stepG fs b t)).2 = C by rw [HE.out])
        go_wp2_with fail
        refine (HCL.out t _ _ _ _ HU4.out.1).mono ?_
        rintro e w4 ⟨⟨b2, c2, rfl, hb21, hcl⟩, hb4⟩
        have HTLN := Lib.hid (HTL.out t HMEM.out)
        have hsz4 := hb4.size
        have HU2 := Lib.hid (show w4.ownsRow B' 2 1 (.slice (some ⟨ob, 0, none⟩) n oc) n (rowF (ordF t) n) ∧ w4.ownsRow (s + 1) 2 1 (.slice (some ⟨b2, 0, none⟩) n c2) t.length (ordV t) ∧ Holds w4 s #[.int .i8 hx, .int .i8 hy, .slice a n vc, .map (some mb)] ∧ Below s w w4 from
          ⟨own_below HU4.out.1 hb4, by have := ordV_row t; rw [HTLN.out] at this ⊢; rw [← this]; exact ownsRow_low hcl hsz2, HU4.out.2.2.1.below hb4 HU4.out.2.2.1.lt, HU4.out.2.2.2.trans (hb4.mono (by omega))⟩)
        have HFAR := Lib.hid (show ∀ z, (Value.slice (some ⟨b2, 0, none⟩) n c2).ownBlock = some z → z ≠ ob from fun z hz => by simp [Value.ownBlock] at hz; omega)
        clear HSE HU4 hcl hb4
        clear HCT HWI HCL
        go_wp2_with fail
        refine (HNX.out t HMEM.out _ _ _ hoc _ HU2.out.1).mono ?_
        rintro e w3 ⟨rfl, hO, hou⟩
        have k0 := hO.holds HU2.out.2.2.1 (by simp; omega)
        have kb := HU2.out.2.2.2.trans (hO.toBelow (B := s) (fun k hk => by simp at hk; omega) (by omega))
        have kob := hO.own HU2.out.2.1 (fun z hz => by have := HFAR.out z hz; simpa using this)
        have HU3 := Lib.hid (And.intro hou (And.intro kob (And.intro k0 kb)))
        clear hO hou k0 kb kob HU2
        cases hno : nextG t with
        | none =>
          have hnx := HNL.out
          rw [hno] at hnx
          have hlen : (allG n).length ≤ i + 1 := List.getElem?_eq_none_iff.1 hnx.symm
          have hf := HF2.out
          rw [List.take_of_length_le hlen] at hf
          have HEND := Lib.hid hf
          clear hno hnx hlen hf
          simp only [Option.isSome_none]
          go_wp2_with fail
          simp only [Exit.jump]
          go_ret
          exact ⟨⟨_, rfl, by rw [HFG.out, HEND.out, HE.out]; exact ownsRow_low HU3.out.2.1 (by omega)⟩, HU3.out.2.2.2⟩
        | some t2 =>
          have hnx := HNL.out
          rw [hno] at hnx
          have HN2 := Lib.hid hnx.symm
          have hou2 := HU3.out.1
          rw [hno] at hou2
          have HOU2 := Lib.hid (show w3.ownsRow B' 2 1 (.slice (some ⟨ob, 0, none⟩) n oc) n (rowF (ordF t2) n) from hou2)
          have hi2 : i + 1 < 52 := by
            obtain ⟨h1, -⟩ := List.getElem?_eq_some_iff.1 hnx.symm
            have := HAL.out
            omega
          clear hno hnx hou2
          simp only [Option.isSome_some]
          go_wp2_with fail
          go_step3
          rw [← HE2.out]
          exact ⟨rfl, m - 1, by omega, i + 1, ob, oc, B', _, t2, stepG fs b t, _, _, _, _, _, _, _, _, _, _, _, _, _, _, _, _, _, _, _, _, _, _, rfl, by omega, HN2.out, HF2.out, hB', hoc, HFAR.out, HOU2.out, by rw [HE.out]; exact HU3.out.2.1, HU3.out.2.2.1, HU3.out.2.2.2⟩
end Go.Proofs.Ytaeenkjbmlgcmaa

namespace Go.Proofs.Ytaeenkjbmlgcmaa
open Go.RowKit
set_option linter.unusedVariables false
set_option linter.unusedSimpArgs false
attribute [local go_sem ↓] loadRow loadGrid loadLawn loadMirror storeRow storeGrid storeLawn allocRow allocGrid allocLawn buildZero buildSides

/-- What FewestTrips answers. -/
def fewZ (L : Lawn) (l : List Pt) (h : Pt) (full : Int) : List Nat × Nat × Int := if goalZ L l h full = 0 then (match fewG (tbT L l h) l.length full with | none => ([], 0, 6) | some q => (q.1, q.2, 0)) else ([], 0, goalZ L l h full)
theorem fold_mem {n : Nat} {feas : List Nat → Bool} : ∀ (l : List (List Nat)) (b : Option (List Nat × Nat)) (q : List Nat × Nat), (∀ t ∈ l, t ∈ allG n) → (∀ q, b = some q → q.1 ∈ allG n ∧ q.2 = cntG q.1) → l.foldl (stepG feas) b = some q → q.1 ∈ allG n ∧ q.2 = cntG q.1
  | [], b, q, _, hb, h => hb q h
  | t :: l, b, q, hl, hb, h => by
    rw [List.foldl_cons] at h
    refine fold_mem l _ q (fun x hx => hl x (by simp [hx])) (fun q' hq' => ?_) h
    unfold stepG at hq'
    split at hq'
    · cases hq'; exact ⟨hl t (by simp), rfl⟩
    · exact hb q' hq'
theorem fewG_mem {tb : Nat → Nat → Int} {n : Nat} {full : Int} {q : List Nat × Nat} (h : fewG tb n full = some q) : q.1 ∈ allG n ∧ q.2 = cntG q.1 := fold_mem _ none q (fun t ht => ht) (by simp) h
theorem few_far {L : Lawn} {l : List Pt} {h : Pt} {full : Int} (hz : goalZ L l h full = 0) {t : Nat} (ht : t < l.length) (hf : full < 2 * tbT L l h l.length t) : fewZ L l h full = ([], 0, 6) := by
  obtain ⟨h1, h2, h3⟩ := tb_metric hz
  have hs := h2 t l.length (by omega) (Nat.le_refl _)
  unfold fewZ
  rw [if_pos hz, fewG_none h1 (goal_five hz) ht (by rw [hs]; omega)]
theorem few_near {L : Lawn} {l : List Pt} {h : Pt} {full : Int} (hz : goalZ L l h full = 0) (hf : ∀ t, t < l.length → 2 * tbT L l h l.length t ≤ full) : ∃ p, fewG (tbT L l h) l.length full = some (p, cntG p) ∧ fewZ L l h full = (p, cntG p, 0) ∧ p ∈ allG l.length := by
  obtain ⟨h1, h2, h3⟩ := tb_metric hz
  have hup : 0 ≤ full := by
    have := (askZ_good (goal_pairs hz).1).2.2.2.1
    unfold upZ at this
    simp only [Bool.and_eq_true, decide_eq_true_eq] at this
    exact this.1
  have := fewG_some (full := full) (goal_five hz) (h3 l.length (Nat.le_refl _)) hup fun t ht => by
    have hs := h2 t l.length (by omega) (Nat.le_refl _)
    have := hf t ht
    omega
  obtain ⟨q, hq⟩ := Option.isSome_iff_exists.1 this
  have hm := fewG_mem hq
  refine ⟨q.1, by rw [hq, ← hm.2], ?_, hm.1⟩
  unfold fewZ
  rw [if_pos hz, hq]
  dsimp only
  rw [hm.2]

set_option maxRecDepth 100000 in
set_option maxHeartbeats 4000000 in
theorem implFew_any (L : Lawn) (hL : L.Fits) (hx hy full : Int) (l : List Pt) (n : Nat) (hl : l.length = n) (hn2 : n ≤ 1048576) (v : Value) (w : World) (hv : RowP w v l) :
    Calls Try.prog 41 #[.agg L.cells, .agg #[.int .i8 hx, .int .i8 hy], .int .i64 full, v] w fun e w' => (∃ u, e = .returned (.tuple #[u, .int .i64 ((fewZ L l (hx, hy) full).2.1 : Nat), .int .i64 (fewZ L l (hx, hy) full).2.2]) ∧ w'.ownsRow w.heap.size 2 1 u (fewZ L l (hx, hy) full).1.length (ordV (fewZ L l (hx, hy) full).1)) ∧ Below w.heap.size w w' := by
  have HTO := Lib.hid (fun (w : World) (hv : RowP w v l) => toursOn_any L hL hx hy full l n hl hn2 v w hv)
  obtain ⟨av, cv, rfl⟩ : ∃ a c, v = .slice a n c := by
    obtain ⟨a, c, e⟩ := hv.slice
    exact ⟨a, c, by rw [e, hl]⟩
  have HFT := Lib.hid (fun (hz : goalZ L l (hx, hy) full = 0) (mb : Nat) (w : World) (hm : TourIs w mb (csT l (hx, hy)) n (tbT L l (hx, hy))) (hv : RowP w (.slice av n cv) l) => (by
    have hn5 : n ≤ 5 := hl ▸ goal_five hz
    have hb := (goal_pairs hz).2.2
    rw [hl] at hb
    have := fewT_any (csT l (hx, hy)) n (tbT L l (hx, hy)) hn5 hb l hl (fun i c hc => csT_at hc) av cv mb full w hm hv
    rw [← hl, csT_home] at this
    rw [hl] at this
    exact this : Calls Try.prog 87 #[.agg (tourA (hx, hy) (.slice av n cv) mb), .int .i64 full] w fun e w' => (∃ u, e = .returned u ∧ w'.ownsRow w.heap.size 2 1 u (fewV (fewG (tbT L l (hx, hy)) n full)).1.length (ordV (fewV (fewG (tbT L l (hx, hy)) n full)).1)) ∧ Below w.heap.size w w'))
  have HNG : Hid (goalZ L l (hx, hy) full ≠ 0 → fewZ L l (hx, hy) full = ([], 0, goalZ L l (hx, hy) full)) := Lib.hid (fun h => by unfold fewZ; rw [if_neg h])
  have HFA : Hid (goalZ L l (hx, hy) full = 0 → ∀ t, t < n → full < 2 * tbT L l (hx, hy) n t → fewZ L l (hx, hy) full = ([], 0, 6)) := Lib.hid (fun hz t ht hf => few_far hz (t := t) (by omega) (by rw [hl]; exact hf))
  have HNE : Hid (goalZ L l (hx, hy) full = 0 → (∀ t, t < n → 2 * tbT L l (hx, hy) n t ≤ full) → ∃ p, fewG (tbT L l (hx, hy)) n full = some (p, cntG p) ∧ fewZ L l (hx, hy) full = (p, cntG p, 0) ∧ p ∈ allG n) := Lib.hid (fun hz hf => by
    have := few_near hz (by rw [hl]; exact hf)
    rw [hl] at this
    exact this)
  have H5 := Lib.hid (fun (hz : goalZ L l (hx, hy) full = 0) => (hl ▸ goal_five hz : n ≤ 5))
  have HBD := Lib.hid (fun (hz : goalZ L l (hx, hy) full = 0) => (by
    have hb := (goal_pairs hz).2.2
    rw [hl] at hb
    exact hb : ∀ i j, i ≤ n → j ≤ n → 0 ≤ tbT L l (hx, hy) i j ∧ tbT L l (hx, hy) i j < 100))
  have HCH := Lib.hid (show csT l (hx, hy) n = (hx, hy) by rw [← hl, csT_home])
  have HCA := Lib.hid (fun i c (h : l[i]? = some c) => (csT_at h : csT l (hx, hy) i = c))
  obtain ⟨G, hG⟩ : ∃ G, goalZ L l (hx, hy) full = G := ⟨_, rfl⟩
  obtain ⟨cs, hcs⟩ : ∃ f, csT l (hx, hy) = f := ⟨_, rfl⟩
  obtain ⟨tb, htb⟩ : ∃ f, tbT L l (hx, hy) = f := ⟨_, rfl⟩
  obtain ⟨TZ, hTZ⟩ : ∃ f, fewZ L l (hx, hy) full = f := ⟨_, rfl⟩
  rw [hG, hcs, htb] at HTO HFT
  rw [hG, hTZ] at HNG
  rw [hG, htb, hTZ] at HFA HNE
  rw [hG, htb] at HBD
  rw [hG] at H5
  rw [hcs] at HCH HCA
  rw [hTZ]
  have HV := Lib.hid hv
  have HL := Lib.hid hl
  obtain ⟨s, hs⟩ : ∃ s, w.heap.size = s := ⟨_, rfl⟩
  obtain ⟨W0, hW0⟩ : ∃ W0, (w.alloc (.cells L.cells 29)).alloc (.cells #[.int .i8 hx, .int .i8 hy] 37) = W0 := ⟨_, rfl⟩
  have g0 : Holds W0 s L.cells := by rw [← hW0, ← hs]; exact (Holds.new _ _ _).alloc _
  have g1 : Holds W0 (s + 1) #[.int .i8 hx, .int .i8 hy] := by rw [← hW0, ← hs]; exact Holds.new' _ _ _ _ (by simp)
  have hb0 : Below s w W0 := by rw [← hW0, ← hs]; exact ((Below.refl w.heap.size w).alloc (Nat.le_refl _) _).alloc (by simp) _
  have rr := g0.row
  have d0 : W0.cell? ⟨s + 1, 0, none⟩ = some (.int .i8 hx) := g1.cell 0
  have d1 : W0.cell? ⟨s + 1, 1, none⟩ = some (.int .i8 hy) := g1.cell 1
  have HS := Lib.hid hs
  have HTW := Lib.hid (HTO.out W0 (HV.out.below (show Below w.heap.size w W0 by rw [hs]; exact hb0)))
  rw [hs]
  clear hG hcs htb hTZ hv hl hL HTO
  go_enter Try.func41, Try.ntmps41
  go_wp2_with fail
  try rw [hW0]
  try simp only [hs]
  refine HTW.out.mono ?_
  rintro e w1 ⟨⟨x0, x1, ta, tn, tc, tm, rfl, hT⟩, hb1⟩
  have hb2 := hb0.trans (hb1.mono (by have := g1.lt; omega))
  have j3 := (g1.below hb1 g1.lt).alloc (.cells #[.int .i8 x0, .int .i8 x1, .slice ta tn tc, .map tm] 131)
  have k3 := Holds.new w1 #[.int .i8 x0, .int .i8 x1, .slice ta tn tc, .map tm] 131
  have hb3 := hb2.alloc (by have := hb1.size; have := g1.lt; omega) (.cells #[.int .i8 x0, .int .i8 x1, .slice ta tn tc, .map tm] 131)
  have hsz1 : s + 2 ≤ w1.heap.size := by have := hb1.size; have := g1.lt; omega
  have HTT := Lib.hid hT
  have HB3 := Lib.hid hb3
  have HBW := Lib.hid hb2
  have HK3 := Lib.hid k3
  have HJ3 := Lib.hid j3
  clear hW0 rr d0 d1 hs g0 g1 hb0 hb1 hb2 hb3 k3 j3 hT HTW
  by_cases hz : G = 0
  case neg =>
    have hgd : (G != 0) = true := by simpa using hz
    have HTE := Lib.hid (HNG.out hz)
    clear hz
    go_wp2_with fail
    go_ret3
    exact ⟨⟨_, by rw [HTE.out]; rfl, by rw [HTE.out]; exact World.ownsRow_nil _ _ _ _⟩, HB3.out⟩
  case pos =>
    have h5 := H5.out hz
    have hbd := HBD.out hz
    have HZ := Lib.hid hz
    have hgf : (G != 0) = false := by rw [hz]; rfl
    obtain ⟨mb, heq, hTI⟩ := HTT.out hz
    simp only [tourA, Array.mk.injEq, List.cons.injEq, Value.int.injEq, true_and, and_true, Value.slice.injEq, Value.map.injEq] at heq
    have HFT2 := Lib.hid (HFT.out hz mb)
    have HFA2 := Lib.hid (HFA.out hz)
    have HNE2 := Lib.hid (HNE.out hz)
    have HBD2 := Lib.hid hbd
    obtain ⟨rfl, rfl, ⟨rfl, rfl, rfl⟩, rfl⟩ := heq
    have HTI := Lib.hid (hTI.alloc (.cells #[.int .i8 x0, .int .i8 x1, .slice ta tn tc, .map (some mb)] 131))
    obtain ⟨q, hq⟩ : ∃ q, w1.heap.size = q := ⟨_, rfl⟩
    obtain ⟨W2, hW2⟩ : ∃ W2, w1.alloc (.cells #[.int .i8 x0, .int .i8 x1, .slice ta tn tc, .map (some mb)] 131) = W2 := ⟨_, rfl⟩
    rw [hW2] at HTI HB3 HK3 HJ3
    rw [hq] at HK3 hsz1
    clear hTI HTT HFT HFA HNE HNG HBD H5 HBW hbd hz
    go_wp2_with fail
    try rw [hW2]
    try simp only [hq]
    clear hW2 hq
    go_loopw [29] (fun j wr => ∃ i : Nat, i ≤ tn ∧ j = .int .i64 i ∧ (∀ t, t < i → 2 * tb tn t ≤ full) ∧ Below W2.heap.size W2 wr) (fun j _ => tn - (intOf j).toNat)
    case atStart => exact ⟨0, by omega, rfl, fun t ht => by omega, Below.refl _ _⟩
    case round =>
      obtain ⟨i, hi, rfl, hall, hbW⟩ := hrel
      have HALL := Lib.hid hall
      have HBR := Lib.hid hbW
      have h0 := HK3.out.below hbW HK3.out.lt
      have h1 := HJ3.out.below hbW HJ3.out.lt
      have hb := HB3.out.trans (hbW.mono (by have := HK3.out.lt; omega))
      have HTM := Lib.hid (HTI.out.below hbW)
      have HTV := Lib.hid (HV.out.below (w' := wr) (by rw [HS.out]; exact hb))
      clear hall hbW
      by_cases hlt : i < tn
      · have hd : decide ((i : Int) < (tn : Int)) = true := by simp; omega
        obtain ⟨⟨ex, ey⟩, hlx⟩ : ∃ c, l[i]? = some c := ⟨_, List.getElem?_eq_getElem (by rw [HL.out]; exact hlt)⟩
        have HCX := Lib.hid (HCA.out _ _ hlx)
        rcases HTV.out with ⟨hnil, -⟩ | ⟨gv, cv2, he, hgv, hcell⟩
        · rw [hnil] at hlx; simp at hlx
        simp only [Value.slice.injEq] at he
        obtain ⟨rfl, -, rfl⟩ := he
        have e1 : wr.cell? ⟨gv, i * 2, none⟩ = some (.int .i8 ex) := by
          have := flatP_at l i 0 (by omega)
          rw [hlx] at this
          exact hcell wr (Below.refl _ _) _ _ this
        have e2 : wr.cell? ⟨gv, i * 2 + 1, none⟩ = some (.int .i8 ey) := by
          have := flatP_at l i 1 (by omega)
          rw [hlx] at this
          exact hcell wr (Below.refl _ _) _ _ this
        have m1 := h1.alloc (.cells #[.int .i8 ex, .int .i8 ey] 37)
        have m0 := h0.alloc (.cells #[.int .i8 ex, .int .i8 ey] 37)
        have m2 := Holds.new wr #[.int .i8 ex, .int .i8 ey] 37
        have mr := HBR.out.alloc (HBR.out.size) (.cells #[.int .i8 ex, .int .i8 ey] 37)
        have mT := HTM.out.below ((Below.refl wr.heap.size wr).alloc (Nat.le_refl _) (.cells #[.int .i8 ex, .int .i8 ey] 37))
        obtain ⟨u, hu⟩ : ∃ u, wr.heap.size = u := ⟨_, rfl⟩
        obtain ⟨W4, hW4⟩ : ∃ W4, wr.alloc (.cells #[.int .i8 ex, .int .i8 ey] 37) = W4 := ⟨_, rfl⟩
        rw [hW4] at m1 m0 m2 mr mT
        rw [hu] at m2
        obtain ⟨mbb, hlk⟩ := mT.at (Nat.le_refl tn) (by omega : i ≤ tn)
        rw [HCH.out, HCX.out] at hlk
        have htb := HBD2.out tn i (Nat.le_refl tn) (by omega)
        have HFX := Lib.hid (HFA2.out i hlt)
        obtain ⟨D, hD⟩ : ∃ D, tb tn i = D := ⟨_, rfl⟩
        rw [hD] at hlk htb HFX
        have HD := Lib.hid hD
        have FX := Lib.hid (show ∀ w', Below W4.heap.size W4 w' → w'.cell? ⟨q, 3, none⟩ = some (.map (some mb)) ∧ (w'.cell? ⟨s + 1, 0, none⟩ = some (.int .i8 x0) ∧ w'.cell? ⟨s + 1, 1, none⟩ = some (.int .i8 x1)) ∧ (w'.cell? ⟨u, 0, none⟩ = some (.int .i8 ex) ∧ w'.cell? ⟨u, 1, none⟩ = some (.int .i8 ey)) from fun w' hw' =>
          ⟨(m0.below hw' m0.lt).cell 3, ⟨(m1.below hw' m1.lt).cell 0, (m1.below hw' m1.lt).cell 1⟩, (m2.below hw' m2.lt).cell 0, (m2.below hw' m2.lt).cell 1⟩)
        have HLK := Lib.hid hlk
        have HMR := Lib.hid mr
        have HMB := Lib.hid (hb.alloc (by have := HB3.out.size; have := HBR.out.size; have := HK3.out.lt; omega) (.cells #[.int .i8 ex, .int .i8 ey] 37))
        rw [hW4] at HMB
        have hsz4 : s ≤ W4.heap.size := by have := m1.lt; omega
        have hszr : W2.heap.size ≤ W4.heap.size := HMR.out.size
        clear hlk hlx hcell hD h0 h1 hb mT HTM HTV HBR m0 m1 m2 mr
        go_wp2_with fail
        try rw [hW4]
        try simp only [hu]
        clear hW4 hu e1 e2
        refine wp_region_grow 8 (by kernel_rfl) (by kernel_rfl) ?_
        simp only [List.take_succ_cons, List.take_zero, List.drop_succ_cons, List.drop_zero]
        iterate 8
          apply wpGrow_plain rfl
          · intro w' hw' K hK
            obtain ⟨f1, ⟨f2, f3⟩, f4, f5⟩ := FX.out _ hw'
            obtain ⟨k1, k2⟩ := HLK.out _ hw'
            go_wp2_with fail
            exact hK _ _ rfl hw'
          simp only [Act.put, List.setIfInBounds_toArray, List.set_cons_succ, List.set_cons_zero]
        refine wpGrow_nil ?_
        intro W5 hW5
        have HN := Lib.hid (And.intro (HMR.out.trans (hW5.mono hszr)) (HMB.out.trans (hW5.mono hsz4)))
        clear hW5 FX HLK HMR HMB
        by_cases hfar : full < 2 * D
        · have hd2 : decide (full < 2 * D) = true := decide_eq_true hfar
          have HTE := Lib.hid (HFX.out hfar)
          go_wp2_with fail
          go_ret3
          exact ⟨⟨_, by rw [HTE.out]; rfl, by rw [HTE.out]; exact World.ownsRow_nil _ _ _ _⟩, HN.out.2⟩
        · have hd2 : decide (full < 2 * D) = false := decide_eq_false hfar
          go_wp2_with fail
          go_roundw
          case rel => exact ⟨i + 1, by omega, by go_num, fun t ht => by
            by_cases e : t = i
            · subst e; rw [HD.out]; omega
            · exact HALL.out t (by omega), HN.out.1⟩
          case measure => simp [intOf]; omega
      · have hin : i = tn := by omega
        subst hin
        have hd : decide ((i : Int) < (i : Int)) = false := by simp
        obtain ⟨p, hfg, htz, hpa⟩ := HNE2.out HALL.out
        have HFW := Lib.hid (HFT2.out wr HTM.out HTV.out)
        have hpl := allG_mem h5 hpa
        rw [hfg] at HFW
        have HFW2 : Hid (Calls Try.prog 87 #[.agg #[.int .i8 x0, .int .i8 x1, .slice ta i tc, .map (some mb)], .int .i64 full] wr fun e w' => (∃ u, e = .returned u ∧ w'.ownsRow wr.heap.size 2 1 u p.length (ordV p)) ∧ Below wr.heap.size wr w') := Lib.hid HFW.out
        have HCT := Lib.hid (fun (v : Value) (w : World) (hv : RowN w v (tsI p)) => countT_any p i hpl.1 (by omega) (fun x hx => by have := hpl.2.1 x hx; omega) v w hv)
        have HTE := Lib.hid htz
        have HPL := Lib.hid hpl.1
        have q0 := h0.cell 0
        have q1 := h0.cell 1
        have q2 := h0.cell 2
        have q3 := h0.cell 3
        simp only [List.getElem?_toArray, List.getElem?_cons_zero, List.getElem?_cons_succ] at q0 q1 q2 q3
        have HBE := Lib.hid hb
        have hszr : s ≤ wr.heap.size := by have := h1.lt; omega
        clear hfg htz hpa hpl HFW hb h0 h1 HALL HBR HTM HTV HNE2 HFT2
        go_wp2_with fail
        refine HFW2.out.mono ?_
        rintro e w6 ⟨⟨u, rfl, hou⟩, hb6⟩
        have HRN := Lib.hid (RowN.rowF HPL.out (by have := hou; rw [← ordV_row p, HPL.out] at this; exact this))
        have HFIN := Lib.hid (And.intro (ownsRow_low hou hszr) (HBE.out.trans (hb6.mono hszr)))
        clear hou hb6 HBE HFW2 q0 q1 q2 q3
        go_wp2_with fail
        refine (HCT.out _ _ HRN.out).mono ?_
        rintro e w7 ⟨rfl, rfl⟩
        go_wp2_with fail
        go_ret3
        exact ⟨⟨_, by rw [HTE.out]; rfl, by rw [HTE.out]; exact HFIN.out.1⟩, HFIN.out.2⟩
end Go.Proofs.Ytaeenkjbmlgcmaa

namespace Go.Proofs.Ytaeenkjbmlgcmaa
open Go.RowKit
set_option linter.unusedVariables false
set_option linter.unusedSimpArgs false
attribute [local go_sem ↓] loadT36 storeT36 allocT36 buildT36 buildTrip
attribute [local go_sem] buildTrip_at tripA_size

theorem tripA_ext (f : Nat → Nat → Int) (h : Nat) (sv bv : Value) (L : Int) (F : Bool) : (tripA f h sv bv L F).extract 0 36 = tab36 f := by
  unfold tripA tab36
  rw [List.extract_toArray]
  congr 1
set_option maxRecDepth 100000 in
set_option maxHeartbeats 4000000 in
theorem lBestC_any (f : Nat → Nat → Int) (h : Nat) (hh : h ≤ 5) (hf : ∀ i j, i < 6 → j < 6 → 0 ≤ f i j ∧ f i j < 100) (sm : List Nat) (n : Nat) (hn : sm.length = n) (hn5 : n ≤ 5) (hsm : ∀ x ∈ sm, x ≤ 5) (hsub : sm ∈ subs5) (g : Nat) (sv : Value) (Bs : Nat) (w : World) (cs : Array Value) (hcs : cs.extract 0 36 = tab36 f) (hg : Holds w g cs) (hsv : w.ownsRow Bs 2 1 sv n (ordV sm)) :
    Calls Try.prog 80 #[.pointer (some ⟨g, 0, none⟩), .int .i64 h, sv] w fun e w' => (∃ u, e = .returned (.tuple #[u, .int .i64 (bestOf5 f h sm).2]) ∧ w'.ownsRow w.heap.size 2 1 u n (ordV (bestOf5 f h sm).1)) ∧ Below w.heap.size w w' := by
  obtain ⟨asv, csv, rfl⟩ := own_slice hsv
  have HFR := Lib.hid (fun (p gv cv Bo : Nat) (w : World) (hst : TripSt w p f h (.slice asv n csv) none) (hsv : w.ownsRow Bs 2 1 (.slice asv n csv) n (ordV sm)) (hsp : ∀ k, (Value.slice asv n csv).ownBlock = some k → k ≠ p) (hv : w.ownsRow Bo 2 1 (.slice (some ⟨gv, 0, none⟩) 0 cv) 0 []) (hvp : gv ≠ p) => from_any f h hh hf sm n hn hn5 hsm p (.slice asv n csv) Bs n [] (by simp) (by simp) none gv cv Bo w hst hsv hsp hv hvp)
  have hfb : fromT f h sm n [] none = some (bestOf5 f h sm) := by rw [fromT_is, ← best_is hsub]; unfold permsL; rw [hn]
  rw [hfb] at HFR
  have hgo : (goT f h []).1 = 0 := rfl
  simp only [List.length_nil, hgo] at HFR
  have hlen := (best_mem (tb := f) (n := h) hsub).1
  rw [hn] at hlen
  obtain ⟨⟨q, S⟩, hqS⟩ : ∃ q, bestOf5 f h sm = q := ⟨_, rfl⟩
  rw [hqS] at HFR hlen ⊢
  dsimp only at hlen ⊢
  have HLEN := Lib.hid hlen
  have HSV := Lib.hid hsv
  have hsl : ∀ k, (Value.slice asv n csv).ownBlock = some k → k < w.heap.size := fun k hk => (hsv.lt k hk).2
  have HSL := Lib.hid hsl
  have hrow := hg.row
  have hcs36 : 0 + 36 ≤ cs.size := by
    have := congrArg Array.size hcs
    rw [Array.size_extract, tab36_size] at this
    omega
  have hld : ∀ w, opLoadRow Try.prog 123 36 g 0 cs w = .ok (.value (.agg (tab36 f))) w := fun w => by rw [opLoadRow_at _ _ _ _ _ _ _ wideT36 hcs36, Nat.zero_add, hcs]
  clear hcs hcs36
  have HG := Lib.hid hg
  obtain ⟨s, hs⟩ : ∃ s, w.heap.size = s := ⟨_, rfl⟩
  obtain ⟨W0, hW0⟩ : ∃ W0, w.alloc (.cells (tripA f h (.slice asv n csv) (.slice none 0 0) 0 false) 193) = W0 := ⟨_, rfl⟩
  have hw : Below s w W0 := by rw [← hW0, ← hs]; exact (Below.refl _ _).alloc (Nat.le_refl _) _
  have h0 : Holds W0 s (tripA f h (.slice asv n csv) (.slice none 0 0) 0 false) := by rw [← hW0, ← hs]; exact Holds.new _ _ _
  have hsz : W0.heap.size = s + 1 := by rw [← hW0, ← hs]; simp
  have HB := Lib.hid hw
  have HH := Lib.hid h0
  have HZ := Lib.hid hsz
  have HS := Lib.hid hs
  rw [hs]
  clear hfb hqS hsv hg hsl hlen hw h0 hsz
  go_enter Try.func80, Try.ntmps80
  go_wp2_with fail
  have hpl := HH.out.lt
  have hne0 : s + 1 ≠ s := by omega
  have HM1 := Lib.hid (World.ownsRow_made (e := 2) (size := 1) W0 #[] 0 (Nat.le_refl W0.heap.size) (by simp [maxLen]) rfl)
  have hst : TripSt (W0.alloc (.cells #[] 2)) s f h (.slice asv n csv) none := ⟨_, _, _, HH.out.alloc _, rfl⟩
  have hso : (W0.alloc (.cells #[] 2)).ownsRow Bs 2 1 (.slice asv n csv) n (ordV sm) := own_below (own_below HSV.out (by rw [HS.out]; exact HB.out)) ((Below.refl _ _).alloc (Nat.le_refl _) _)
  refine (HFR.out s W0.heap.size 0 W0.heap.size _ hst hso (fun k hk => by have := HSL.out k hk; have := HS.out; omega) HM1.out (by have := HZ.out; omega)).mono ?_
  rintro e w2 ⟨⟨u, rfl⟩, hO, hst2⟩
  obtain ⟨bv, L, F, hH, hF, hL, hown⟩ := hst2
  rw [hF, hL] at hH
  clear hF hL
  have hb2 : Below s w w2 := (HB.out.alloc (by omega) _).trans (hO.toBelow (B := s) (fun k hk => by simp at hk; omega) (by simp; omega))
  rw [HLEN.out] at hown
  obtain ⟨ab, cb, rfl⟩ := own_slice hown
  have HFIN := Lib.hid (And.intro (ownsRow_low hown (show s ≤ s + 1 by omega)) hb2)
  have HX := Lib.hid (show ∀ w', Below w2.heap.size w2 w' → w'.cell? ⟨s, 38, none⟩ = some (.slice ab n cb) ∧ w'.cell? ⟨s, 39, none⟩ = some (.int .i64 S) from fun w' hw' =>
    have hk := hH.below hw' hH.lt
    ⟨(hk.cell 38).trans (tripA_at _ _ _ _ _ _).2.2.1, (hk.cell 39).trans (tripA_at _ _ _ _ _ _).2.2.2.1⟩)
  have hsz2 := hH.lt
  clear hH hown hb2 hO hst hso hW0 hs hrow
  go_wp2_with fail
  refine wp_region_grow 9 (by kernel_rfl) (by kernel_rfl) ?_
  simp only [List.take_succ_cons, List.take_zero, List.drop_succ_cons, List.drop_zero]
  iterate 9
    apply wpGrow_plain rfl
    · intro w' hw' K hK
      obtain ⟨f1, f2⟩ := HX.out _ hw'
      go_wp2_with fail
      exact hK _ _ rfl hw'
    simp only [Act.put, List.setIfInBounds_toArray, List.set_cons_succ, List.set_cons_zero]
  refine wpGrow_nil ?_
  intro W5 hW5
  go_wp2_with fail
  go_ret2
  exact ⟨⟨_, rfl, own_below HFIN.out.1 hW5⟩, HFIN.out.2.trans (hW5.mono (by omega))⟩
end Go.Proofs.Ytaeenkjbmlgcmaa

namespace Go.Proofs.Ytaeenkjbmlgcmaa
open Go.RowKit
set_option linter.unusedVariables false
set_option linter.unusedSimpArgs false

def PartSt (w : World) (p : Nat) (f : Nat → Nat → Int) (n : Nat) (full : Int) (b : Option (List Nat × Nat)) : Prop := TripSt w p f n (.int .i64 full) (b.map fun q => (q.1, (q.2 : Int)))
def goG (ok : List Nat → Bool) (left : Nat) (t : List Nat) (c : Nat) (b : Option (List Nat × Nat)) (k : Nat) : Option (List Nat × Nat) := if ok (withN (t ++ [k]) k) then fromG ok left (t ++ [k]) (max c (k + 1)) b else b

theorem max4T_is (a b : Int) (w : World) :
    Calls Try.prog 76 #[.int .i64 a, .int .i64 b] w fun e w' => e = .returned (.int .i64 (if b < a then a else b)) ∧ w' = w := by
  by_cases h1 : b < a
  · rw [if_pos h1]
    have hd : decide (b < a) = true := by simpa using h1
    go_enter Try.func76, Try.ntmps76
    go_wp2
    go_ret
    exact ⟨rfl, rfl⟩
  · rw [if_neg h1]
    have hd : decide (b < a) = false := by simpa using h1
    go_enter Try.func76, Try.ntmps76
    go_wp2
    go_ret
    exact ⟨rfl, rfl⟩
theorem max4T_nat (a b : Nat) (w : World) : Calls Try.prog 76 #[.int .i64 a, .int .i64 ((b : Int) + 1)] w fun e w' => e = .returned (.int .i64 ((max a (b + 1) : Nat) : Int)) ∧ w' = w := by
  refine (max4T_is a ((b : Int) + 1) w).mono ?_
  rintro e w' ⟨rfl, rfl⟩
  refine ⟨?_, rfl⟩
  congr 2
  split <;> omega
theorem tsI_ordV (t : List Nat) : ordV t = (tsI t).map fun z => .int .i64 z := by unfold ordV tsI; rw [List.map_map]; rfl
set_option maxRecDepth 100000 in
set_option maxHeartbeats 8000000 in
theorem parts_any (f : Nat → Nat → Int) (n : Nat) (hn5 : n ≤ 5) (hf : ∀ i j, i < 6 → j < 6 → 0 ≤ f i j ∧ f i j < 100) (full : Int) (p : Nat) :
    ∀ (left : Nat) (t : List Nat) (htl : t.length + left = n) (ht : ∀ x ∈ t, x ≤ 9) (c : Nat) (hc : c ≤ t.length) (b : Option (List Nat × Nat)) (gv cv : Nat) (Bo : Nat) (w : World) (hst : PartSt w p f n full b) (hv : w.ownsRow Bo 2 1 (.slice (some ⟨gv, 0, none⟩) t.length cv) t.length (ordV t)) (hvp : gv ≠ p),
    Calls Try.prog 86 #[.pointer (some ⟨p, 0, none⟩), .slice (some ⟨gv, 0, none⟩) t.length cv, .int .i64 c] w fun e w' => (∃ u, e = .returned u) ∧ Only [p] w w' ∧ PartSt w' p f n full (fromG (okT f n full) left t c b) := by
  intro left
  induction left with
  | zero =>
    intro t htl ht c hc b gv cv Bo w hst hv hvp
    have hom : t.length = n := by omega
    rw [hom] at hv ⊢
    have HST := Lib.hid hst
    obtain ⟨bv, L, F, hH, hbm⟩ := hst
    have HH := Lib.hid hH
    have HV := Lib.hid hv
    have HVP := Lib.hid hvp
    obtain ⟨x36, x37, x38, x39, x40⟩ := tripA_at f n (.int .i64 full) bv L F
    have c36 : w.cell? ⟨p, 36, none⟩ = some (.int .i64 n) := (hH.cell 36).trans x36
    have c38 : w.cell? ⟨p, 38, none⟩ = some bv := (hH.cell 38).trans x38
    have c39 : w.cell? ⟨p, 39, none⟩ = some (.int .i64 L) := (hH.cell 39).trans x39
    have c40 : w.cell? ⟨p, 40, none⟩ = some (.bool F) := (hH.cell 40).trans x40
    have hcond : (F = true ∧ decide (L ≤ (c : Int)) = true ∧ betterG b c = false) ∨ ((F = false ∨ (F = true ∧ decide (L ≤ (c : Int)) = false)) ∧ betterG b c = true) := by
      cases b with
      | none => exact .inr ⟨.inl hbm, rfl⟩
      | some q =>
        obtain ⟨h1, h2, -⟩ := hbm
        by_cases h : c < q.2
        · exact .inr ⟨.inr ⟨h1, by rw [h2]; simp; omega⟩, by simp [betterG, h]⟩
        · exact .inl ⟨h1, by rw [h2]; simp; omega, by simp [betterG, h]⟩
    have hlen : ((n : Int) == (n : Int)) = true := by simp
    have HT := Lib.hid hom
    clear hH hbm hv hvp x36 x37 x38 x39 x40
    rcases hcond with ⟨rfl, hlt, hbt⟩ | ⟨hor, hbt⟩
    · have HE := Lib.hid (show fromG (okT f n full) 0 t c b = b by simp [fromG, hbt])
      clear hbt
      go_enter Try.func86, Try.ntmps86
      go_wp2_with fail
      refine bodyPost_ret (results_none rfl _ _ _) rfl ⟨⟨_, rfl⟩, Only.refl _ _, by rw [HE.out]; exact HST.out⟩
    · have HE := Lib.hid (show fromG (okT f n full) 0 t c b = some (t, c) by simp [fromG, hbt])
      obtain ⟨ci, hci, hz0, hz1, hz2⟩ := info_parts i64I
      have HCI := Lib.hid (show Try.prog.info? 2 = some ci ∧ ci.zero = some (.int .i64 0) ∧ ci.size = 1 ∧ ci.bytes = 8 from ⟨hci, hz0, hz1, hz2⟩)
      have hpl := HH.out.lt
      have HM1 := Lib.hid (ownsRow_low (World.ownsRow_made (e := 2) (size := 1) w #[] 0 (Nat.le_refl w.heap.size) (by simp [maxLen]) rfl) (show p + 1 ≤ w.heap.size from hpl))
      have HOL := Lib.hid (show (ordV t).length = n * 1 by unfold ordV; rw [List.length_map, HT.out]; omega)
      clear hbt hci hz0 hz1 hz2
      rcases hor with rfl | ⟨rfl, hlt⟩
      all_goals
        go_enter Try.func86, Try.ntmps86
        go_wp2_with (at_builtin; refine wpList_append_own_at _ rfl _ _ 56 rfl (p + 1) 2 ci (.int .i64 0) 1 8 Try.underlying56 HCI.out.1 HCI.out.2.1 HCI.out.2.2.1 HCI.out.2.2.2 rfl (by decide) _ _ _ rfl HM1.out ⟨gv, 0, none⟩ n cv (ordV t) rfl HOL.out ?c1 ?c2 ?c3 ?c4 ?c5 ?_)
        case c1 => exact fun j u hu => by have h9 := own_cell (HV.out.alloc (.cells #[] 2)) j u hu; by_cases h0 : j = 0 <;> simpa [Addr.add, h0] using h9
        case c2 => intro z hz; unfold ordV at hz; simp only [List.mem_map] at hz; obtain ⟨y, -, rfl⟩ := hz; rfl
        case c3 => unfold maxLen; omega
        case c4 => omega
        case c5 => first | omega | (simp <;> omega)
        intro v' w9 hown hgrow _ hat
        have hown' : w9.ownsRow (p + 1) 2 1 v' n (ordV t) := by simpa using hown
        obtain ⟨av', cv', rfl⟩ := own_slice hown'
        have hO9 : Only [p] w w9 := ((Only.refl [p] w).alloc _).grown hgrow (fun k hk => .inr (by simp [Value.ownBlock] at hk; omega))
        have hB9 : Below (p + 1) w w9 := ((Below.refl (p + 1) w).alloc (by omega) _).grown hgrow (by simp; omega) (fun k hk => by simp [Value.ownBlock] at hk; omega)
        have k9 := HH.out.below hB9 (by omega)
        obtain ⟨-, ff, -, z2, l2⟩ := k9.facts
        have d38 := (k9.cell 38).trans (tripA_at _ _ _ _ _ _).2.2.1
        have d39' := (k9.cell 39).trans (tripA_at _ _ _ _ _ _).2.2.2.1
        have d40' := (k9.cell 40).trans (tripA_at _ _ _ _ _ _).2.2.2.2
        have m9 := ((k9.setCell 38 (.slice av' n cv')).setCell 39 (.int .i64 c)).setCell 40 (.bool true)
        rw [tripA_set] at m9
        have mO := ((hO9.setCell (a := ⟨p, 38, none⟩) (.inl (by simp)) (.slice av' n cv')).setCell (a := ⟨p, 39, none⟩) (.inl (by simp)) (.int .i64 c)).setCell (a := ⟨p, 40, none⟩) (.inl (by simp)) (.bool true)
        have hne : (Value.slice av' n cv').ownBlock ≠ some p := fun e => by have := own_far hown' p e; omega
        have mown := ownsRow_setCell_other (ownsRow_setCell_other (ownsRow_setCell_other hown' (a := ⟨p, 38, none⟩) hne (.slice av' n cv')) (a := ⟨p, 39, none⟩) hne (.int .i64 c)) (a := ⟨p, 40, none⟩) hne (.bool true)
        have HF := Lib.hid (And.intro m9 (And.intro mO mown))
        clear hown hown' hgrow hat hO9 hB9 k9 m9 mO mown c36 c38 c39 c40
        go_wp2_with fail
        refine bodyPost_ret (results_none rfl _ _ _) rfl ⟨⟨_, rfl⟩, HF.out.2.1, ?_⟩
        rw [HE.out]
        exact ⟨_, (c : Int), true, HF.out.1, rfl, rfl, by rw [HT.out]; exact HF.out.2.2⟩
  | succ left ih =>
    intro t htl ht c hc b gv cv Bo w hst hv hvp
    obtain ⟨m, hm⟩ : ∃ m, t.length = m := ⟨_, rfl⟩
    rw [hm] at htl hc hv ⊢
    have HST := Lib.hid hst
    obtain ⟨bv, L, F, hH, hbm⟩ := hst
    have HH := Lib.hid hH
    have HV := Lib.hid hv
    have HVP := Lib.hid hvp
    obtain ⟨x36, x37, x38, x39, x40⟩ := tripA_at f n (.int .i64 full) bv L F
    have c36 : w.cell? ⟨p, 36, none⟩ = some (.int .i64 n) := (hH.cell 36).trans x36
    have c39 : w.cell? ⟨p, 39, none⟩ = some (.int .i64 L) := (hH.cell 39).trans x39
    have c40 : w.cell? ⟨p, 40, none⟩ = some (.bool F) := (hH.cell 40).trans x40
    have hcond : (F = true ∧ decide (L ≤ (c : Int)) = true ∧ betterG b c = false) ∨ ((F = false ∨ (F = true ∧ decide (L ≤ (c : Int)) = false)) ∧ betterG b c = true) := by
      cases b with
      | none => exact .inr ⟨.inl hbm, rfl⟩
      | some q =>
        obtain ⟨h1, h2, -⟩ := hbm
        by_cases h : c < q.2
        · exact .inr ⟨.inr ⟨h1, by rw [h2]; simp; omega⟩, by simp [betterG, h]⟩
        · exact .inl ⟨h1, by rw [h2]; simp; omega, by simp [betterG, h]⟩
    have hlen : ((m : Int) == (n : Int)) = false := by simp; omega
    have HT := Lib.hid hm
    have HTT := Lib.hid ht
    clear hH hbm hv hvp x36 x37 x38 x39 x40 hm ht
    rcases hcond with ⟨rfl, hlt, hbt⟩ | ⟨hor, hbt⟩
    · have HE := Lib.hid (show fromG (okT f n full) (left + 1) t c b = b by simp [fromG, hbt])
      clear hbt
      go_enter Try.func86, Try.ntmps86
      go_wp2_with fail
      refine bodyPost_ret (results_none rfl _ _ _) rfl ⟨⟨_, rfl⟩, Only.refl _ _, by rw [HE.out]; exact HST.out⟩
    · have HE := Lib.hid (show fromG (okT f n full) (left + 1) t c b = (List.range (c + 1)).foldl (goG (okT f n full) left t c) b by simp only [fromG, if_pos hbt]; rfl)
      obtain ⟨ci, hci, hz0, hz1, hz2⟩ := info_parts i64I
      have HCI := Lib.hid (show Try.prog.info? 2 = some ci ∧ ci.zero = some (.int .i64 0) ∧ ci.size = 1 ∧ ci.bytes = 8 from ⟨hci, hz0, hz1, hz2⟩)
      have hpl := HH.out.lt
      have HOL := Lib.hid (show (ordV t).length = m * 1 by unfold ordV; rw [List.length_map, HT.out]; omega)
      have HIH := Lib.hid ih
      have HF5 := Lib.hid hf
      clear hbt hci hz0 hz1 hz2 ih hf
      rcases hor with rfl | ⟨rfl, hlt⟩
      all_goals
        go_enter Try.func86, Try.ntmps86
        go_wp2_with fail
        clear c36 c39 c40
        go_loopw [6] (fun j wr => ∃ i : Nat, i ≤ c + 1 ∧ j = .int .i64 i ∧ Only [p] w wr ∧ PartSt wr p f n full ((List.range i).foldl (goG (okT f n full) left t c) b)) (fun j _ => c + 1 - (intOf j).toNat)
        case atStart => exact ⟨0, by omega, rfl, Only.refl _ _, HST.out⟩
        case round =>
          obtain ⟨i, hi, rfl, hO, hst⟩ := hrel
          obtain ⟨b', hb'⟩ : ∃ b', (List.range i).foldl (goG (okT f n full) left t c) b = b' := ⟨_, rfl⟩
          rw [hb'] at hst
          have HB' := Lib.hid hb'
          have HSTW := Lib.hid hst
          obtain ⟨bv', L', F', hH2, hbm2⟩ := hst
          have HO1 := Lib.hid hO
          have HH2 := Lib.hid hH2
          have hVw := hO.own HV.out (fun z hz => by simp [Value.ownBlock] at hz; have := HVP.out; simp; omega)
          have HVW := Lib.hid hVw
          have hpw := hH2.lt
          clear hb' hO hH2 hbm2 hVw
          by_cases hlt2 : i ≤ c
          · have hd : decide ((i : Int) ≤ (c : Int)) = true := decide_eq_true (by omega)
            have HSTEP := Lib.hid (show (List.range (i + 1)).foldl (goG (okT f n full) left t c) b = goG (okT f n full) left t c b' i by rw [List.range_succ, List.foldl_append, HB'.out]; rfl)
            have HM1 := Lib.hid (World.ownsRow_made (e := 2) (size := 1) wr #[] 0 (Nat.le_refl wr.heap.size) (by simp [maxLen]) rfl)
            have HOX := Lib.hid (show ordV (t ++ [i]) = ordV t ++ [.int .i64 i] by simp [ordV])
            go_wp2_with (at_builtin; refine wpList_append_own_at _ rfl _ _ 56 rfl wr.heap.size 2 ci (.int .i64 0) 1 8 Try.underlying56 HCI.out.1 HCI.out.2.1 HCI.out.2.2.1 HCI.out.2.2.2 rfl (by decide) _ _ _ rfl HM1.out ⟨gv, 0, none⟩ m cv (ordV t) rfl HOL.out ?c1 ?c2 ?c3 ?c4 ?c5 ?_)
            case c1 => exact fun j u hu => by have h9 := own_cell (HVW.out.alloc (.cells #[] 2)) j u hu; by_cases h0 : j = 0 <;> simpa [Addr.add, h0] using h9
            case c2 => intro z hz; unfold ordV at hz; simp only [List.mem_map] at hz; obtain ⟨y, -, rfl⟩ := hz; rfl
            case c3 => unfold maxLen; omega
            case c4 => omega
            case c5 => first | omega | (simp <;> omega)
            intro v3 w3 hown3 hgrow3 _ hat3
            have hown3' : w3.ownsRow wr.heap.size 2 1 v3 m (ordV t) := by simpa using hown3
            have hb3 : Below wr.heap.size wr w3 := ((Below.refl wr.heap.size wr).alloc (Nat.le_refl _) _).grown hgrow3 (by simp) (fun k hk => by simp [Value.ownBlock] at hk; omega)
            have HOW3 := Lib.hid hown3'
            have HB3 := Lib.hid hb3
            have hs3 := hb3.size
            clear hown3 hown3' hgrow3 hat3 hb3 HM1
            go_wp2_with (at_builtin; refine wpList_append_own_at _ rfl _ _ 56 rfl wr.heap.size 2 ci (.int .i64 0) 1 8 Try.underlying56 HCI.out.1 HCI.out.2.1 HCI.out.2.2.1 HCI.out.2.2.2 rfl (by decide) _ _ _ rfl (HOW3.out.alloc _) ⟨w3.heap.size, 0, none⟩ 1 1 [.int .i64 i] rfl rfl ?c1 ?c2 ?c3 ?c4 ?c5 ?_)
            case c1 =>
              intro j u hu
              match j, hu with
              | 0, hu => simp at hu; subst hu; exact (Holds.new w3 #[.int .i64 i] 2).cell 0
            case c2 => first | rfl | (intro u hu; simp at hu; subst hu; rfl)
            case c3 => unfold maxLen; omega
            case c4 => omega
            case c5 => first | omega | (simp <;> omega)
            intro v4 w4 hown4 hgrow4 _ hat4
            have hb4 : Below wr.heap.size wr w4 := (HB3.out.alloc hs3 _).grown hgrow4 (by simp; omega) (fun k hk => own_far HOW3.out k hk)
            have hown4' : w4.ownsRow wr.heap.size 2 1 v4 (m + 1) (ordV (t ++ [i])) := by rw [HOX.out]; exact hown4
            obtain ⟨g6, c6, rfl, hg61, hg62⟩ := own_form hown4' (by omega)
            have HOW4 := Lib.hid hown4'
            have HB4 := Lib.hid hb4
            have HST4 := Lib.hid (HSTW.out.below hb4)
            have HH4 := Lib.hid (HH2.out.below hb4 hpw)
            have HO4 := Lib.hid (HO1.out.onto hb4)
            have hp4 := HH4.out.lt
            have hlen1 : (t ++ [i]).length = m + 1 := by rw [List.length_append, HT.out]; rfl
            have HRN := Lib.hid (fun (w' : World) (hw' : Below w4.heap.size w4 w') => (RowN.own ((tsI_length _).trans hlen1) (by rw [← tsI_ordV]; exact own_below HOW4.out hw') : RowN w' (.slice (some ⟨g6, 0, none⟩) (m + 1) c6) (tsI (t ++ [i]))))
            have HWI := Lib.hid (fun (w' : World) (hw' : Below w4.heap.size w4 w') => (lWith_any (tsI (t ++ [i])) i (m + 1) ((tsI_length _).trans hlen1) (by omega) _ w' (HRN.out w' hw')))
            have hsub := withN_sub (t := t ++ [i]) (by omega) i
            have HSUB := Lib.hid hsub
            have hwl : ∀ x ∈ withN (t ++ [i]) i, x ≤ 5 := fun x hx => by have := withN_lt hx; omega
            have hwl5 := (best_mem (tb := f) (n := n) hsub).1
            have hlen5 : (withN (t ++ [i]) i).length ≤ 5 := by
              have h1 := List.length_filter_le (fun j => (tsI (t ++ [i])).getD j 0 == (i : Int)) (List.range (tsI (t ++ [i])).length)
              have h2 := tsI_length (t ++ [i])
              unfold withN withL
              simp only [List.length_range] at h1
              omega
            have HOK : Hid (okT f n full (withN (t ++ [i]) i) = decide ((bestOf5 f n (withN (t ++ [i]) i)).2 ≤ full)) := Lib.hid rfl
            obtain ⟨K, hK0⟩ : ∃ K, (withN (t ++ [i]) i).length = K := ⟨_, rfl⟩
            obtain ⟨W, hW0⟩ : ∃ W, withN (t ++ [i]) i = W := ⟨_, rfl⟩
            have hWI2 : ∀ (w' : World), Below w4.heap.size w4 w' → Calls Try.prog 90 #[.slice (some ⟨g6, 0, none⟩) (m + 1) c6, .int .i64 i] w' fun e w2 => (∃ u, e = .returned u ∧ w2.ownsRow w'.heap.size 2 1 u W.length (ordV W)) ∧ Below w'.heap.size w' w2 := fun w' hw' => by
              have := HWI.out w' hw'
              rw [← hW0]
              exact this
            have HWI2 := Lib.hid hWI2
            rw [hW0] at hK0 hlen5 hwl hsub HOK
            have HLB := Lib.hid (fun (w' : World) (hw' : Below w4.heap.size w4 w') (sv : Value) (B : Nat) (hsv : w'.ownsRow B 2 1 sv K (ordV W)) => lBestC_any f n hn5 HF5.out W K hK0 (by omega) hwl hsub p sv B w' _ (tripA_ext _ _ _ _ _ _) (HH4.out.below hw' hp4) hsv)
            obtain ⟨S, hS⟩ : ∃ S, (bestOf5 f n W).2 = S := ⟨_, rfl⟩
            rw [hS] at HOK HLB
            rw [hK0] at HWI2
            have HX := Lib.hid (show ∀ w', Below w4.heap.size w4 w' → w'.cell? ⟨p, 36, none⟩ = some (.int .i64 n) ∧ w'.cell? ⟨p, 37, none⟩ = some (.int .i64 full) from fun w' hw' =>
              have hk := HH4.out.below hw' hp4
              ⟨(hk.cell 36).trans (tripA_at _ _ _ _ _ _).1, (hk.cell 37).trans (tripA_at _ _ _ _ _ _).2.1⟩)
            have HW0 := Lib.hid hW0
            have HL1 := Lib.hid hlen1
            clear hown4 hown4' hgrow4 hat4 hb4 hsub hwl hwl5 hlen5 hWI2 hS hW0 HWI hK0 hlen1 HOW3 HB3
            go_wp2_with fail
            refine wp_region_growXV 15 [fun _ => .pointer (some ⟨p, 0, none⟩), fun _ => .pointer (some ⟨p, 0, none⟩), fun _ => .pointer (some ⟨p, 0, none⟩), fun _ => .pointer (some ⟨p, 0, none⟩), fun _ => .pointer (some ⟨p, 0, none⟩), fun _ => .pointer (some ⟨p, 36, none⟩), fun _ => .int .i64 n, fun _ => .slice (some ⟨g6, 0, none⟩) (m + 1) c6, fun _ => .int .i64 i, fun q => q, fun q => q, fun q => q, fun q => q, fun _ => .int .i64 S, fun q => q]
              [fun _ _ => True, fun _ _ => True, fun _ _ => True, fun _ _ => True, fun _ _ => True, fun _ _ => True, fun _ _ => True, fun _ _ => True, fun _ _ => True, fun q w' => w'.ownsRow w4.heap.size 2 1 q K (ordV W), fun q w' => ∃ u', q = .tuple #[u', .int .i64 S], fun q w' => ∃ u', q = .tuple #[u', .int .i64 S], fun _ _ => True, fun _ _ => True, fun _ _ => True]
              [[], [], [], [], [], [], [], [], [], [], [9], [10], [11], [11], []] ?_ (by kernel_rfl) (by kernel_rfl) (by kernel_rfl) ?_
            · intro j q w1 w2 h1 hb
              match j with
              | 0 => trivial
              | 1 => trivial
              | 2 => trivial
              | 3 => trivial
              | 4 => trivial
              | 5 => trivial
              | 6 => trivial
              | 7 => trivial
              | 8 => trivial
              | 9 => exact own_below h1 hb
              | 10 => exact h1
              | 11 => exact h1
              | 12 => trivial
              | 13 => trivial
              | 14 => trivial
              | j + 15 => exact trivial
            intro sv
            simp only [List.take_succ_cons, List.take_zero, List.drop_succ_cons, List.drop_zero]
            iterate 9
              refine seqXV_lit rfl (fun _ => rfl) (fun _ _ => trivial) ?_ ?_
              · intro w' hw' _ K hK
                obtain ⟨f1, f2⟩ := HX.out _ hw'
                go_wp2_with fail
                exact hK _ _ rfl (Below.refl _ _)
              simp only [Act.put, List.setIfInBounds_toArray, List.set_cons_succ, List.set_cons_zero]
            refine seqXV_num rfl (v := fun q => q) (fun _ => rfl) ?_ ?_
            · intro w' hw' hd K hK
              go_wp2_with fail
              refine (HWI2.out _ hw').mono ?_
              rintro e w5 ⟨⟨b, rfl, ho⟩, hb5⟩
              exact hK _ _ _ rfl hb5 (ownsRow_low ho hw'.size)
            simp only [Act.put, List.setIfInBounds_toArray, List.set_cons_succ, List.set_cons_zero]
            refine seqXV_num rfl (v := fun q => q) (fun _ => rfl) ?_ ?_
            · intro w' hw' hd K hK
              have h9 := hd 9 (by simp)
              go_wp2_with fail
              refine (HLB.out _ hw' _ _ h9).mono ?_
              rintro e w5 ⟨⟨b, rfl, ho⟩, hb5⟩
              exact hK _ _ _ rfl hb5 ⟨_, rfl⟩
            simp only [Act.put, List.setIfInBounds_toArray, List.set_cons_succ, List.set_cons_zero]
            refine seqXV_num rfl (v := fun q => q) (fun _ => rfl) ?_ ?_
            · intro w' hw' hd K hK
              have h5' := hd 10 (by simp)
              go_wp2_with fail
              exact hK _ _ _ rfl (Below.refl _ _) h5'
            simp only [Act.put, List.setIfInBounds_toArray, List.set_cons_succ, List.set_cons_zero]
            refine seqXV_num rfl (v := fun q => q) (fun _ => rfl) ?_ ?_
            · intro w' hw' hd K hK
              obtain ⟨u', e6⟩ := hd 11 (by simp)
              rw [e6]
              go_wp2_with fail
              exact hK _ _ _ (by rw [e6]; rfl) (Below.refl _ _) trivial
            simp only [Act.put, List.setIfInBounds_toArray, List.set_cons_succ, List.set_cons_zero]
            refine seqXV_lit rfl (fun _ => rfl) (fun _ _ => trivial) ?_ ?_
            · intro w' hw' hd K hK
              obtain ⟨u', e6⟩ := hd 11 (by simp)
              rw [e6]
              go_wp2_with fail
              exact hK _ _ (by rw [e6]; rfl) (Below.refl _ _)
            simp only [Act.put, List.setIfInBounds_toArray, List.set_cons_succ, List.set_cons_zero]
            refine seqXV_num rfl (v := fun q => q) (fun _ => rfl) ?_ ?_
            · intro w' hw' hd K hK
              go_wp2_with fail
              exact hK _ _ _ rfl (Below.refl _ _) trivial
            simp only [Act.put, List.setIfInBounds_toArray, List.set_cons_succ, List.set_cons_zero]
            refine seqXV_nil ?_
            intro W5 hW5 hall
            clear hall
            obtain ⟨q7, hq7⟩ : ∃ q, sv 7 = q := ⟨_, rfl⟩
            obtain ⟨q9, hq9⟩ : ∃ q, sv 9 = q := ⟨_, rfl⟩
            obtain ⟨q10, hq10⟩ : ∃ q, sv 10 = q := ⟨_, rfl⟩
            obtain ⟨q11, hq11⟩ : ∃ q, sv 11 = q := ⟨_, rfl⟩
            obtain ⟨q12, hq12⟩ : ∃ q, sv 12 = q := ⟨_, rfl⟩
            obtain ⟨q14, hq14⟩ : ∃ q, sv 14 = q := ⟨_, rfl⟩
            simp only [hq9, hq10, hq11, hq12, hq14]
            clear hq7 hq9 hq10 hq11 hq12 hq14
            obtain ⟨f36, f37⟩ := HX.out _ hW5
            have HO5 := Lib.hid (HO4.out.onto hW5)
            have HST5 := Lib.hid (HST4.out.below hW5)
            have HOW5 := Lib.hid (own_below HOW4.out hW5)
            clear hW5 HX HLB HWI2 HOW4 HST4 HO4 HH4 HB4
            by_cases hle : S ≤ full
            · have hd2 : decide (S ≤ full) = true := decide_eq_true hle
              have HS2 := Lib.hid (show (List.range (i + 1)).foldl (goG (okT f n full) left t c) b = fromG (okT f n full) left (t ++ [i]) (max c (i + 1)) b' by rw [HSTEP.out]; unfold goG; rw [HW0.out, HOK.out, if_pos hd2])
              have HC := Lib.hid (HIH.out (t ++ [i]) (by rw [HL1.out]; omega) (fun y hy => by
                rcases List.mem_append.1 hy with hy | hy
                · exact HTT.out y hy
                · rw [List.mem_singleton.1 hy]; omega) (max c (i + 1)) (by rw [HL1.out]; omega) b' g6 c6 wr.heap.size W5 HST5.out (by rw [HL1.out]; exact HOW5.out) (by omega))
              rw [HL1.out] at HC
              have HMX := Lib.hid (max4T_nat c i)
              obtain ⟨M, hM⟩ : ∃ M, max c (i + 1) = M := ⟨_, rfl⟩
              rw [hM] at HC HS2 HMX
              clear hM
              go_wp2_with fail
              refine (HMX.out _).mono ?_
              rintro e w6 ⟨rfl, hw6⟩
              rw [hw6]
              clear hw6 w6
              go_wp2_with fail
              refine HC.out.mono ?_
              rintro e w7 ⟨⟨uu, rfl⟩, hO7, hst7⟩
              have HO7 := Lib.hid (HO5.out.trans hO7)
              have HST7 := Lib.hid hst7
              clear hO7 hst7 HC HMX
              go_wp2_with fail
              exact ⟨⟨i + 1, by omega, by go_num, HO7.out, by rw [HS2.out]; exact HST7.out⟩, by simp [intOf]; omega⟩
            · have hd2 : decide (S ≤ full) = false := decide_eq_false hle
              have HS2 := Lib.hid (show (List.range (i + 1)).foldl (goG (okT f n full) left t c) b = b' by rw [HSTEP.out]; unfold goG; rw [HW0.out, HOK.out, hd2]; rfl)
              go_wp2_with fail
              exact ⟨⟨i + 1, by omega, by go_num, HO5.out, by rw [HS2.out]; exact HST5.out⟩, by simp [intOf]; omega⟩
          · have hd : decide ((i : Int) ≤ (c : Int)) = false := decide_eq_false (by omega)
            have hic : i = c + 1 := by omega
            have HE2 := Lib.hid (show fromG (okT f n full) (left + 1) t c b = b' by rw [HE.out, ← HB'.out, hic])
            go_wp2_with fail
            go_end0
            exact ⟨⟨_, rfl⟩, HO1.out, by rw [HE2.out]; exact HSTW.out⟩
end Go.Proofs.Ytaeenkjbmlgcmaa

namespace Go.Proofs.Ytaeenkjbmlgcmaa
open Go.RowKit
set_option linter.unusedVariables false
set_option linter.unusedSimpArgs false

theorem fromG_congr {ok ok' : List Nat → Bool} {n : Nat} (h : ∀ u k, u.length ≤ n → ok (withN u k) = ok' (withN u k)) : ∀ (f : Nat) (t : List Nat) (c : Nat) (b : Option (List Nat × Nat)), t.length + f = n → fromG ok f t c b = fromG ok' f t c b
  | 0, t, c, b, _ => rfl
  | f + 1, t, c, b, hl => by
    simp only [fromG]
    split
    · refine fold_congr _ _ fun k hk b' => ?_
      have hlen : (t ++ [k]).length = t.length + 1 := by simp
      rw [h _ k (by omega), fromG_congr h f (t ++ [k]) _ b' (by omega)]
    · rfl
theorem few_tab {T tb : Nat → Nat → Int} {n : Nat} {full : Int} (hn : n ≤ 5) (h : ∀ i j, i ≤ n → j ≤ n → T i j = tb i j) : fromG (okT T n full) n [] 0 none = fromG (okT tb n full) n [] 0 none := by
  refine fromG_congr (n := n) (fun u k hu => ?_) n [] 0 none (by simp)
  unfold okT
  rw [bestOf5_congr h (withN_sub (by omega) k) (fun x hx => by have := withN_lt hx; omega)]
section
variable (ρ : Operand → Value) (dst : Option Tmp) (x y z : Operand) (t : TypeId) (pos : String) (aft : Array Edge) (g : Option (Nat × Bool)) (w : World)
set_option maxRecDepth 100000 in
theorem buildParts : (execOp ρ ⟨dst, .build 140 #[(0, x), (1, y), (2, z)], t, pos, aft, g⟩).run Try.prog w = opBuild Try.prog 140 #[(0, ρ x), (1, ρ y), (2, ρ z)] w := by kernel_rfl
end
set_option maxRecDepth 100000 in
theorem buildParts_at (f : Nat → Nat → Int) (n : Nat) (full : Int) (w : World) : opBuild Try.prog 140 #[(0, .agg (tab36 f)), (1, .int .i64 n), (2, .int .i64 full)] w = .ok (.value (.agg (tripA f n (.int .i64 full) (.slice none 0 0) 0 false))) w := opBuild_of (by kernel_rfl) w
attribute [local go_sem ↓] loadRow loadGrid loadLawn loadMirror storeRow storeGrid storeLawn allocRow allocGrid allocLawn buildZero buildSides loadG64 storeG64 allocG64 buildG64 loadT36 storeT36 allocT36 buildT36 buildParts
attribute [local go_sem] buildParts_at tripA_size

set_option maxRecDepth 100000 in
set_option maxHeartbeats 4000000 in
theorem specFew_any (L : Lawn) (hL : L.Fits) (hx hy full : Int) (l : List Pt) (n : Nat) (hl : l.length = n) (hn2 : n ≤ 1048576) (hli : ∀ c ∈ (hx, hy) :: l, (-128 ≤ c.1 ∧ c.1 ≤ 127) ∧ -128 ≤ c.2 ∧ c.2 ≤ 127) (v : Value) (w : World) (hv : RowP w v l) :
    Calls Try.prog 40 #[.agg L.cells, .agg #[.int .i8 hx, .int .i8 hy], .int .i64 full, v] w fun e w' => (∃ u, e = .returned (.tuple #[u, .int .i64 ((fewZ L l (hx, hy) full).2.1 : Nat), .int .i64 (fewZ L l (hx, hy) full).2.2]) ∧ w'.ownsRow w.heap.size 2 1 u (fewZ L l (hx, hy) full).1.length (ordV (fewZ L l (hx, hy) full).1)) ∧ Below w.heap.size w w' := by
  have HGO := Lib.hid (fun (g : Nat) (w : World) (hg : Holds w g L.cells) (hv : RowP w v l) => lGoals_any L hL g hx hy full l n hl hn2 hli v w hg hv)
  have H5 := Lib.hid (fun (hz : goalZ L l (hx, hy) full = 0) => (hl ▸ goal_five hz : n ≤ 5))
  have HPA := Lib.hid (fun (hz : goalZ L l (hx, hy) full = 0) (T : Nat → Nat → Int) (hT : TabTo T (tbT L l (hx, hy)) n (n + 1) 0) (p gv cv Bo : Nat) (w : World) (hst : PartSt w p T n full none) (hv : w.ownsRow Bo 2 1 (.slice (some ⟨gv, 0, none⟩) 0 cv) 0 []) (hvp : gv ≠ p) => (by
    have hn5 : n ≤ 5 := hl ▸ goal_five hz
    have hb := (goal_pairs hz).2.2
    rw [hl] at hb
    obtain ⟨t1, t2⟩ := tab_good hn5 hT hb
    have := parts_any T n hn5 t1 full p n [] (by simp) (by simp) 0 (by simp) none gv cv Bo w hst hv hvp
    obtain ⟨m1, m2, m3⟩ := tb_metric hz
    have hup : 0 ≤ full := by
      have := (askZ_good (goal_pairs hz).1).2.2.2.1
      unfold upZ at this
      simp only [Bool.and_eq_true, decide_eq_true_eq] at this
      exact this.1
    rw [few_tab hn5 t2, fewG_is (by rw [← hl]; exact m1) hn5 (m3 n (by omega)) hup] at this
    exact this : Calls Try.prog 86 #[.pointer (some ⟨p, 0, none⟩), .slice (some ⟨gv, 0, none⟩) 0 cv, .int .i64 0] w fun e w' => (∃ u, e = .returned u) ∧ Only [p] w w' ∧ PartSt w' p T n full (fewG (tbT L l (hx, hy)) n full)))
  have HNG : Hid (goalZ L l (hx, hy) full ≠ 0 → fewZ L l (hx, hy) full = ([], 0, goalZ L l (hx, hy) full)) := Lib.hid (fun h => by unfold fewZ; rw [if_neg h])
  have HNO : Hid (goalZ L l (hx, hy) full = 0 → fewG (tbT L l (hx, hy)) n full = none → fewZ L l (hx, hy) full = ([], 0, 6)) := Lib.hid (fun hz h => by unfold fewZ; rw [if_pos hz, hl, h])
  have HSO : Hid (goalZ L l (hx, hy) full = 0 → ∀ q, fewG (tbT L l (hx, hy)) n full = some q → fewZ L l (hx, hy) full = (q.1, q.2, 0)) := Lib.hid (fun hz q h => by unfold fewZ; rw [if_pos hz, hl, h])
  obtain ⟨G, hG⟩ : ∃ G, goalZ L l (hx, hy) full = G := ⟨_, rfl⟩
  obtain ⟨tb, htb⟩ : ∃ f, tbT L l (hx, hy) = f := ⟨_, rfl⟩
  obtain ⟨TZ, hTZ⟩ : ∃ f, fewZ L l (hx, hy) full = f := ⟨_, rfl⟩
  obtain ⟨FG, hFG⟩ : ∃ f, fewG tb n full = f := ⟨_, rfl⟩
  rw [hG, htb] at HGO
  rw [hG, htb, hFG] at HPA
  rw [hG, hTZ] at HNG
  rw [hG, htb, hTZ, hFG] at HNO HSO
  rw [hG] at H5
  rw [hTZ]
  have HV := Lib.hid hv
  have HL := Lib.hid hl
  obtain ⟨av, cv, rfl⟩ : ∃ a c, v = .slice a n c := by
    obtain ⟨a, c, e⟩ := hv.slice
    exact ⟨a, c, by rw [e, hl]⟩
  obtain ⟨s, hs⟩ : ∃ s, w.heap.size = s := ⟨_, rfl⟩
  obtain ⟨W0, hW0⟩ : ∃ W0, (w.alloc (.cells L.cells 29)).alloc (.cells #[.int .i8 hx, .int .i8 hy] 37) = W0 := ⟨_, rfl⟩
  have g0 : Holds W0 s L.cells := by rw [← hW0, ← hs]; exact (Holds.new _ _ _).alloc _
  have g1 : Holds W0 (s + 1) #[.int .i8 hx, .int .i8 hy] := by rw [← hW0, ← hs]; exact Holds.new' _ _ _ _ (by simp)
  have hb0 : Below s w W0 := by rw [← hW0, ← hs]; exact ((Below.refl w.heap.size w).alloc (Nat.le_refl _) _).alloc (by simp) _
  have d0 : W0.cell? ⟨s + 1, 0, none⟩ = some (.int .i8 hx) := g1.cell 0
  have d1 : W0.cell? ⟨s + 1, 1, none⟩ = some (.int .i8 hy) := g1.cell 1
  have HS := Lib.hid hs
  have HTW := Lib.hid (HGO.out s W0 g0 (HV.out.below (show Below w.heap.size w W0 by rw [hs]; exact hb0)))
  rw [hs]
  clear hG htb hTZ hFG hv hl hL HGO hli
  go_enter Try.func40, Try.ntmps40
  go_wp2_with fail
  try rw [hW0]
  try simp only [hs]
  refine HTW.out.mono ?_
  rintro e w1 ⟨⟨T, rfl, hT⟩, hb1⟩
  have hb2 := hb0.trans (hb1.mono (by have := g1.lt; omega))
  have k3 := Holds.new w1 (tab36 T) 123
  have hb3 := hb2.alloc (by have := hb1.size; have := g1.lt; omega) (.cells (tab36 T) 123)
  have HTT := Lib.hid hT
  obtain ⟨q, hq⟩ : ∃ q, w1.heap.size = q := ⟨_, rfl⟩
  rw [hq] at k3
  have hsq : s + 1 < q := by have := hb1.size; have := g1.lt; omega
  obtain ⟨W2, hW2⟩ : ∃ W2, w1.alloc (.cells (tab36 T) 123) = W2 := ⟨_, rfl⟩
  rw [hW2] at k3 hb3
  have HB3 := Lib.hid hb3
  have HK3 := Lib.hid k3
  have HM1 := Lib.hid (World.ownsRow_made (e := 2) (size := 1) W2 #[] 0 (Nat.le_refl W2.heap.size) (by simp [maxLen]) rfl)
  have hsz2 : q < W2.heap.size := k3.lt
  have hrow := k3.row
  clear d0 d1 hs g0 g1 hb0 hb1 hb2 hb3 k3 hT HTW hW0
  by_cases hz : G = 0
  case neg =>
    have hgd : (G != 0) = true := by simpa using hz
    have HTE := Lib.hid (HNG.out hz)
    clear hz
    go_wp2_with fail
    go_ret3
    exact ⟨⟨_, by rw [HTE.out]; rfl, by rw [HTE.out]; exact ownsRow_low HM1.out (by omega)⟩, HB3.out.alloc (by omega) _⟩
  case pos =>
    have h5 := H5.out hz
    have HNO2 := Lib.hid (HNO.out hz)
    have HSO2 := Lib.hid (HSO.out hz)
    have HPA2 := Lib.hid (HPA.out hz T (HTT.out hz))
    have HZ := Lib.hid hz
    have hgf : (G != 0) = false := by rw [hz]; rfl
    clear hz HPA HTT HNO HSO HNG
    go_wp2_with fail
    try rw [hW2]
    try simp only [hq]
    obtain ⟨p, hp⟩ : ∃ p, W2.heap.size = p := ⟨_, rfl⟩
    obtain ⟨W3, hW3⟩ : ∃ W3, W2.alloc (.cells (tripA T n (.int .i64 full) (.slice none 0 0) 0 false) 140) = W3 := ⟨_, rfl⟩
    have h3 : Holds W3 p (tripA T n (.int .i64 full) (.slice none 0 0) 0 false) := by rw [← hW3, ← hp]; exact Holds.new _ _ _
    have hz3 : W3.heap.size = p + 1 := by rw [← hW3, ← hp]; simp
    have hb3 : Below s w W3 := by rw [← hW3]; exact HB3.out.alloc (by omega) _
    have HM2 := World.ownsRow_made (e := 2) (size := 1) W3 #[] 0 (Nat.le_refl W3.heap.size) (by simp [maxLen]) rfl
    rw [hz3] at HM2
    have hst : PartSt (W3.alloc (.cells #[] 2)) p T n full none := ⟨_, _, _, h3.alloc _, rfl⟩
    have hb4 := hb3.alloc (by omega) (.cells #[] 2)
    have HB4 := Lib.hid hb4
    have hz4 : (W3.alloc (.cells #[] 2)).heap.size = p + 2 := by simp [hz3]
    have HRUN := Lib.hid (HPA2.out p (p + 1) 0 (p + 1) _ hst HM2 (by omega))
    rw [hp, hW3]
    clear hst HM2 h3 hb3 hb4 HPA2 hW3 HM1 hrow hW2 hq
    refine HRUN.out.mono ?_
    rintro e w6 ⟨⟨u, rfl⟩, hO6, hst6⟩
    have hb6 : Below s w w6 := HB4.out.trans (hO6.toBelow (B := s) (fun k hk => by simp at hk; omega) (by omega))
    obtain ⟨bv, L6, F6, hH, hbm⟩ := hst6
    have hp6 := hH.lt
    have HB6 := Lib.hid hb6
    have HM6 := Lib.hid (World.ownsRow_made (e := 2) (size := 1) w6 #[] 0 (Nat.le_refl w6.heap.size) (by simp [maxLen]) rfl)
    have q40 : w6.cell? ⟨p, 40, none⟩ = some (.bool F6) := (hH.cell 40).trans (tripA_at _ _ _ _ _ _).2.2.2.2
    clear HRUN hO6 hb6 hz4 hz3
    cases FG with
    | none =>
      have HTE := Lib.hid (HNO2.out rfl)
      have hF6 : F6 = false := hbm
      subst hF6
      clear hH hbm
      go_wp2_with fail
      go_ret3
      exact ⟨⟨_, by rw [HTE.out]; rfl, by rw [HTE.out]; exact ownsRow_low HM6.out (by omega)⟩, HB6.out.alloc (by omega) _⟩
    | some r =>
      have HTE := Lib.hid (HSO2.out r rfl)
      obtain ⟨hF6, hL6, hown⟩ := hbm
      subst hF6 hL6
      obtain ⟨ab, cb, rfl⟩ := own_slice hown
      have HX := Lib.hid (show ∀ w', Below w6.heap.size w6 w' → w'.cell? ⟨p, 38, none⟩ = some (.slice ab r.1.length cb) ∧ w'.cell? ⟨p, 39, none⟩ = some (.int .i64 (r.2 : Nat)) from fun w' hw' =>
        have hk := hH.below hw' hH.lt
        ⟨(hk.cell 38).trans (tripA_at _ _ _ _ _ _).2.2.1, (hk.cell 39).trans (tripA_at _ _ _ _ _ _).2.2.2.1⟩)
      have HOWN := Lib.hid hown
      obtain ⟨rk, hrk⟩ : ∃ k, r.1.length = k := ⟨_, rfl⟩
      have HRK := Lib.hid hrk
      rw [hrk] at HX HOWN
      clear hH hown hrk
      go_wp2_with fail
      refine wp_region_grow 10 (by kernel_rfl) (by kernel_rfl) ?_
      simp only [List.take_succ_cons, List.take_zero, List.drop_succ_cons, List.drop_zero]
      iterate 10
        apply wpGrow_plain rfl
        · intro w' hw' K hK
          obtain ⟨f1, f2⟩ := HX.out _ hw'
          go_wp2_with fail
          exact hK _ _ rfl hw'
        simp only [Act.put, List.setIfInBounds_toArray, List.set_cons_succ, List.set_cons_zero]
      refine wpGrow_nil ?_
      intro W7 hW7
      have HFIN := Lib.hid (And.intro (ownsRow_low (own_below HOWN.out hW7) (show s ≤ p + 1 by omega)) (HB6.out.trans (hW7.mono (by omega))))
      clear hW7 HX
      go_wp2_with fail
      go_ret3
      exact ⟨⟨_, by rw [HTE.out]; rfl, by rw [HTE.out]; dsimp only; rw [HRK.out]; exact HFIN.out.1⟩, HFIN.out.2⟩
end Go.Proofs.Ytaeenkjbmlgcmaa
