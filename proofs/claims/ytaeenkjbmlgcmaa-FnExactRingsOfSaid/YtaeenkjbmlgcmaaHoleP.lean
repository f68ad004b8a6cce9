/- Cells without grass that hang together over sides and corners. -/
import Derived.Test.YtaeenkjbmlgcmaaZG
namespace Go.Proofs.Ytaeenkjbmlgcmaa
open Go.RowKit
set_option linter.unusedVariables false
set_option linter.unusedSimpArgs false

def bareP (L : Lawn) (c : Pt) : Bool := isB L c.1 c.2 && !grassB L c.1 c.2
theorem bareP_near {L : Lawn} (hv : validB L = true) (c : Pt) (h : bareP L c = true) : (0 ≤ c.1 ∧ c.1 < 10) ∧ 0 ≤ c.2 ∧ c.2 < 10 := by
  simp only [bareP, Bool.and_eq_true] at h
  exact isB_near hv h.1
/-- The cells around one, itself among them, row by row. -/
def row8 (c : Pt) : List Pt := [(c.1 - 1, c.2), (c.1, c.2), (c.1 + 1, c.2)]
def near8 (c : Pt) : List Pt := row8 (c.1, c.2 - 1) ++ row8 (c.1, c.2) ++ row8 (c.1, c.2 + 1)
theorem near8_iff {c d : Pt} : d ∈ near8 c ↔ (c.1 - 1 ≤ d.1 ∧ d.1 ≤ c.1 + 1) ∧ c.2 - 1 ≤ d.2 ∧ d.2 ≤ c.2 + 1 := by
  obtain ⟨x, y⟩ := d
  obtain ⟨a, b⟩ := c
  unfold near8 row8
  simp only [List.cons_append, List.nil_append, List.mem_cons, List.not_mem_nil, or_false, Prod.mk.injEq]
  constructor
  · rintro (⟨rfl, rfl⟩ | ⟨rfl, rfl⟩ | ⟨rfl, rfl⟩ | ⟨rfl, rfl⟩ | ⟨rfl, rfl⟩ | ⟨rfl, rfl⟩ | ⟨rfl, rfl⟩ | ⟨rfl, rfl⟩ | ⟨rfl, rfl⟩) <;> omega
  · rintro ⟨⟨h1, h2⟩, h3, h4⟩
    omega
theorem near8_symm {c d : Pt} (h : d ∈ near8 c) : c ∈ near8 d := by
  rw [near8_iff] at h ⊢
  omega
theorem near8_len (c : Pt) : (near8 c).length = 9 := rfl
inductive Conn8 (pass : Pt → Bool) : Pt → Pt → Prop
  | one {a : Pt} : pass a = true → Conn8 pass a a
  | more {a b c : Pt} : Conn8 pass a b → c ∈ near8 b → pass c = true → Conn8 pass a c
section
variable {pass : Pt → Bool} {a b c : Pt}
theorem Conn8.start (h : Conn8 pass a b) : pass a = true := by
  induction h with
  | one h => exact h
  | more _ _ _ ih => exact ih
theorem Conn8.end' (h : Conn8 pass a b) : pass b = true := by
  cases h with
  | one h => exact h
  | more _ _ h => exact h
theorem Conn8.trans (h : Conn8 pass a b) (k : Conn8 pass b c) : Conn8 pass a c := by
  induction k with
  | one _ => exact h
  | more _ h2 h3 ih => exact .more ih h2 h3
theorem Conn8.symm (h : Conn8 pass a b) : Conn8 pass b a := by
  induction h with
  | one h => exact .one h
  | more h1 h2 h3 ih =>
    exact Conn8.trans (.more (.one h3) (near8_symm h2) h1.end') ih
end
/-- What is known is whole: nothing hangs together with it that is not known. -/
def Shut8 (pass : Pt → Bool) (K : List Pt) : Prop := ∀ c ∈ K, pass c = true ∧ ∀ d ∈ near8 c, pass d = true → d ∈ K
theorem Shut8.conn {pass : Pt → Bool} {K : List Pt} (h : Shut8 pass K) {a b : Pt} (ha : a ∈ K) (hc : Conn8 pass a b) : b ∈ K := by
  induction hc with
  | one _ => exact ha
  | more _ h2 h3 ih => exact (h _ ih).2 _ h2 h3
/-- A spread on its way: from s, K0 was known, K is known now, Q is still to be looked at. -/
structure Spr (pass : Pt → Bool) (s : Pt) (K0 K Q : List Pt) : Prop where
  sub : ∀ c ∈ K0, c ∈ K
  real : ∀ c ∈ K, c ∈ K0 ∨ Conn8 pass s c
  todo : ∀ q ∈ Q, pass q = true → Conn8 pass s q
  shut : ∀ c ∈ K, ∀ d ∈ near8 c, pass d = true → d ∈ K ∨ d ∈ Q
  first : pass s = true → s ∈ K ∨ s ∈ Q
  nodup : K.Nodup
  pass : ∀ c ∈ K, pass c = true
section
variable {pass : Pt → Bool} {s q : Pt} {K0 K Q : List Pt}
theorem Spr.begin (h : Shut8 pass K0) (hn : K0.Nodup) : Spr pass s K0 K0 [s] :=
  ⟨fun c h => h, fun c h => .inl h, fun q hq hp => by rw [List.mem_singleton.1 hq] at hp ⊢; exact .one hp, fun c hc d hd hp => .inl ((h c hc).2 d hd hp), fun _ => .inr (by simp), hn, fun c hc => (h c hc).1⟩
theorem Spr.skip (h : Spr pass s K0 K (q :: Q)) (hq : pass q = false ∨ q ∈ K) : Spr pass s K0 K Q := by
  refine ⟨h.sub, h.real, fun r hr => h.todo r (List.mem_cons_of_mem _ hr), fun c hc d hd hp => ?_, fun hp => ?_, h.nodup, h.pass⟩
  · rcases h.shut c hc d hd hp with h1 | h1
    · exact .inl h1
    · rcases List.mem_cons.1 h1 with rfl | h1
      · rcases hq with h2 | h2
        · rw [hp] at h2; cases h2
        · exact .inl h2
      · exact .inr h1
  · rcases h.first hp with h1 | h1
    · exact .inl h1
    · rcases List.mem_cons.1 h1 with rfl | h1
      · rcases hq with h2 | h2
        · rw [hp] at h2; cases h2
        · exact .inl h2
      · exact .inr h1
theorem Spr.take (h : Spr pass s K0 K (q :: Q)) (hp : pass q = true) (hq : q ∉ K) : Spr pass s K0 (K ++ [q]) (Q ++ near8 q) := by
  have hc := h.todo q (by simp) hp
  refine ⟨fun c hc => List.mem_append_left _ (h.sub c hc), fun c hc' => ?_, fun r hr hpr => ?_, fun c hc' d hd hpd => ?_, fun hps => ?_, ?_, fun c hc' => ?_⟩
  · rcases List.mem_append.1 hc' with h1 | h1
    · exact h.real c h1
    · rw [List.mem_singleton.1 h1]; exact .inr hc
  · rcases List.mem_append.1 hr with h1 | h1
    · exact h.todo r (List.mem_cons_of_mem _ h1) hpr
    · exact .more hc h1 hpr
  · rcases List.mem_append.1 hc' with h1 | h1
    · rcases h.shut c h1 d hd hpd with h2 | h2
      · exact .inl (List.mem_append_left _ h2)
      · rcases List.mem_cons.1 h2 with rfl | h2
        · exact .inl (by simp)
        · exact .inr (List.mem_append_left _ h2)
    · rw [List.mem_singleton.1 h1] at hd
      exact .inr (List.mem_append_right _ hd)
  · rcases h.first hps with h1 | h1
    · exact .inl (List.mem_append_left _ h1)
    · rcases List.mem_cons.1 h1 with rfl | h1
      · exact .inl (by simp)
      · exact .inr (List.mem_append_left _ h1)
  · rw [List.nodup_append]
    refine ⟨h.nodup, by simp, fun a ha b hb => ?_⟩
    rintro rfl
    rw [List.mem_singleton.1 hb] at ha
    exact hq ha
  · rcases List.mem_append.1 hc' with h1 | h1
    · exact h.pass c h1
    · rw [List.mem_singleton.1 h1]; exact hp
theorem Spr.done (h : Spr pass s K0 K []) : (∀ c, c ∈ K ↔ c ∈ K0 ∨ Conn8 pass s c) ∧ Shut8 pass K := by
  have hs : Shut8 pass K := fun c hc => ⟨h.pass c hc, fun d hd hp => by
    rcases h.shut c hc d hd hp with h1 | h1
    · exact h1
    · cases h1⟩
  refine ⟨fun c => ⟨h.real c, fun hc => ?_⟩, hs⟩
  rcases hc with h1 | h1
  · exact h.sub c h1
  · rcases h.first h1.start with h2 | h2
    · exact hs.conn h2 h1
    · cases h2
end
/-- So many cells are known at most. -/
theorem pts_le {pass : Pt → Bool} (hn : ∀ c, pass c = true → (0 ≤ c.1 ∧ c.1 < 10) ∧ 0 ≤ c.2 ∧ c.2 < 10) {K : List Pt} (h1 : K.Nodup) (h2 : ∀ c ∈ K, pass c = true) : K.length ≤ 100 := by
  have hg : Good pass (K.map fun c => (c, (0 : Int))) := by
    refine ⟨?_, fun p hp => ?_, fun j p hp => ?_⟩
    · rw [List.map_map]
      have e : K.map ((fun x : Pt × Int => x.1) ∘ fun c => (c, (0 : Int))) = K := by
        conv => rhs; rw [← List.map_id K]
        rfl
      rw [e]
      exact h1
    · obtain ⟨c, hc, rfl⟩ := List.mem_map.1 hp
      exact h2 c hc
    · rw [List.getElem?_map] at hp
      obtain ⟨c, hc, rfl⟩ := Option.map_eq_some_iff.1 hp
      dsimp only
      omega
  have := good_length hn hg
  simpa using this
/-- What a map says of the known cells. -/
def knownL (K : List Pt) : List (Pt × Bool) := K.map fun c => (c, true)
theorem knownL_in {K : List Pt} {c : Pt} (h : c ∈ K) : alLook (knownL K) c = some true := by
  induction K with
  | nil => cases h
  | cons a K ih =>
    simp only [knownL, List.map_cons, alLook]
    by_cases e : c = a
    · rw [if_pos e]
    · rw [if_neg e]
      exact ih (by rcases List.mem_cons.1 h with h1 | h1; exact absurd h1 e; exact h1)
theorem knownL_out {K : List Pt} {c : Pt} (h : c ∉ K) : alLook (knownL K) c = none := by
  induction K with
  | nil => rfl
  | cons a K ih =>
    simp only [knownL, List.map_cons, alLook]
    simp only [List.mem_cons, not_or] at h
    rw [if_neg h.1]
    exact ih h.2
end Go.Proofs.Ytaeenkjbmlgcmaa
