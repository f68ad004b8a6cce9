/- A flood as the model goes: a cell is marked when it comes into the queue, and the queue is never cut. -/
import Derived.Test.YtaeenkjbmlgcmaaHoleC
namespace Go.Proofs.Ytaeenkjbmlgcmaa
open Go.RowKit
set_option linter.unusedVariables false
set_option linter.unusedSimpArgs false

/-- From x, K0 was marked before, C is the queue: its first k cells have been gone through. -/
structure Fld (pass : Pt → Bool) (x : Pt) (K0 C : List Pt) (k : Nat) : Prop where
  head : C[0]? = some x
  real : ∀ c ∈ C, Conn8 pass x c
  fresh : ∀ c ∈ C, c ∉ K0
  nodup : C.Nodup
  gone : ∀ (j : Nat) c, j < k → C[j]? = some c → ∀ d ∈ near8 c, pass d = true → d ∈ K0 ∨ d ∈ C
section
variable {pass : Pt → Bool} {x : Pt} {K0 C : List Pt} {k : Nat}
theorem Fld.begin (hp : pass x = true) (hx : x ∉ K0) : Fld pass x K0 [x] 0 :=
  ⟨rfl, fun c hc => by rw [List.mem_singleton.1 hc]; exact .one hp, fun c hc => by rw [List.mem_singleton.1 hc]; exact hx, by simp, fun j c hj => by omega⟩
/-- A cell beside one of the queue, that is not marked, comes into it. -/
theorem Fld.push (h : Fld pass x K0 C k) {c d : Pt} (hc : c ∈ C) (hd : d ∈ near8 c) (hp : pass d = true) (h0 : d ∉ K0) (h1 : d ∉ C) (hk : k ≤ C.length) : Fld pass x K0 (C ++ [d]) k := by
  have hl : 0 < C.length := by
    rcases Nat.eq_zero_or_pos C.length with h2 | h2
    · rw [List.length_eq_zero_iff.1 h2] at hc; cases hc
    · exact h2
  refine ⟨by rw [List.getElem?_append_left hl]; exact h.head, fun e he => ?_, fun e he => ?_, ?_, fun j e hj hje f hf hpf => ?_⟩
  · rcases List.mem_append.1 he with h2 | h2
    · exact h.real e h2
    · rw [List.mem_singleton.1 h2]; exact .more (h.real c hc) hd hp
  · rcases List.mem_append.1 he with h2 | h2
    · exact h.fresh e h2
    · rw [List.mem_singleton.1 h2]; exact h0
  · rw [List.nodup_append]
    refine ⟨h.nodup, by simp, fun a ha b hb => ?_⟩
    rintro rfl
    rw [List.mem_singleton.1 hb] at ha
    exact h1 ha
  · rw [List.getElem?_append_left (by omega)] at hje
    rcases h.gone j e hj hje f hf hpf with h2 | h2
    · exact .inl h2
    · exact .inr (List.mem_append_left _ h2)
/-- The next cell of the queue has been gone through. -/
theorem Fld.next (h : Fld pass x K0 C k) {c : Pt} (hc : C[k]? = some c) (hall : ∀ d ∈ near8 c, pass d = true → d ∈ K0 ∨ d ∈ C) : Fld pass x K0 C (k + 1) :=
  ⟨h.head, h.real, h.fresh, h.nodup, fun j e hj hje => by
    rcases Nat.lt_or_ge j k with h1 | h1
    · exact h.gone j e h1 hje
    · obtain rfl : j = k := by omega
      rw [hc] at hje
      simp only [Option.some.injEq] at hje
      rw [← hje]
      exact hall⟩
/-- At the queue's end it holds all that hangs together with its first cell. -/
theorem Fld.all (h : Fld pass x K0 C k) (hk : C.length ≤ k) (hs : Shut8 pass K0) (c : Pt) : c ∈ C ↔ Conn8 pass x c := by
  refine ⟨h.real c, fun hc => ?_⟩
  induction hc with
  | one hp => exact List.mem_of_getElem? h.head
  | more h1 h2 h3 ih =>
    rename_i b d
    obtain ⟨j, hj, e⟩ := List.getElem_of_mem ih
    rcases h.gone j _ (by omega) (by rw [List.getElem?_eq_getElem hj, e]) _ h2 h3 with h4 | h4
    · exact absurd ((hs _ h4).2 _ (near8_symm h2) h1.end') (h.fresh _ ih)
    · exact h4
/-- What is marked then is whole again. -/
theorem Fld.shut (h : Fld pass x K0 C k) (hk : C.length ≤ k) (hs : Shut8 pass K0) : Shut8 pass (K0 ++ C) := fun c hc => by
  rcases List.mem_append.1 hc with h1 | h1
  · exact ⟨(hs c h1).1, fun d hd hp => List.mem_append_left _ ((hs c h1).2 d hd hp)⟩
  · refine ⟨(h.real c h1).end', fun d hd hp => ?_⟩
    rw [List.mem_append, h.all hk hs d]
    exact .inr (.more (h.real c h1) hd hp)
end
/-- What the model has marked: all that hangs together with a cell that came before. -/
def MarkK (pass : Pt → Bool) (pre K : List Pt) : Prop := ∀ c, c ∈ K ↔ ∃ a ∈ pre, Conn8 pass a c
section
variable {pass edge : Pt → Bool} {A pre K C : List Pt} {x : Pt} {k : Nat}
theorem MarkK.old (h : MarkK pass pre K) (hs : Shut8 pass K) (hx : pass x = false ∨ x ∈ K) : MarkK pass (pre ++ [x]) K := fun c => by
  constructor
  · intro hc
    obtain ⟨a, h1, h2⟩ := (h c).1 hc
    exact ⟨a, List.mem_append_left _ h1, h2⟩
  · rintro ⟨a, h1, h2⟩
    rcases List.mem_append.1 h1 with h3 | h3
    · exact (h c).2 ⟨a, h3, h2⟩
    · rw [List.mem_singleton.1 h3] at h2
      rcases hx with h4 | h4
      · rw [h2.start] at h4; cases h4
      · exact hs.conn h4 h2
theorem MarkK.new (h : MarkK pass pre K) (hs : Shut8 pass K) (hf : Fld pass x K C k) (hk : C.length ≤ k) : MarkK pass (pre ++ [x]) (K ++ C) := fun c => by
  rw [List.mem_append, h c, hf.all hk hs c]
  constructor
  · rintro (⟨a, h1, h2⟩ | h1)
    · exact ⟨a, List.mem_append_left _ h1, h2⟩
    · exact ⟨x, by simp, h1⟩
  · rintro ⟨a, h1, h2⟩
    rcases List.mem_append.1 h1 with h3 | h3
    · exact .inl ⟨a, h3, h2⟩
    · rw [List.mem_singleton.1 h3] at h2; exact .inr h2
/-- A hole is counted where the flood began in a new cell and met no edge. -/
theorem MarkK.hole (hA : ∀ c, pass c = true → c ∈ A) (h : MarkK pass pre K) (hs : Shut8 pass K) (hx : x ∉ K) (hf : Fld pass x K C k) (hk : C.length ≤ k) : newHole pass edge A pre x = true ↔ ∀ c ∈ C, edge c = false := by
  rw [hole_inside hA]
  constructor
  · rintro ⟨-, h2, -⟩ c hc
    exact h2 c (hf.real c hc)
  · intro h2
    refine ⟨(hf.real x (List.mem_of_getElem? hf.head)).start, fun c hc => h2 c ((hf.all hk hs c).2 hc), fun a ha hc => hx ((h x).2 ⟨a, ha, hc⟩)⟩
theorem MarkK.miss (hA : ∀ c, pass c = true → c ∈ A) (h : MarkK pass pre K) (hx : pass x = false ∨ x ∈ K) : newHole pass edge A pre x = false := by
  cases hn : newHole pass edge A pre x with
  | false => rfl
  | true =>
    obtain ⟨h1, -, h3⟩ := (hole_inside hA).1 hn
    rcases hx with h4 | h4
    · rw [h1] at h4; cases h4
    · obtain ⟨a, h5, h6⟩ := (h x).1 h4
      exact absurd h6 (h3 a h5)
end
end Go.Proofs.Ytaeenkjbmlgcmaa
