/- Maps with keys of any type whose equality is known: what a map's block says as a list of pairs, and what looking up, storing and counting do. -/
import Derived.Test.YtgmahakpmjfhhaaRROnly
import Derived.Carry
namespace Go.Proofs.YtgmahakpmjfhhaaRR
open Go.RowKit
set_option linter.unusedVariables false

section
variable {κ ν : Type} {enc : κ → Value} {val : ν → Value}
/-- Block b is a map with the pairs of l. -/
def MapIs (w : World) (b : Nat) (enc : κ → Value) (val : ν → Value) (l : List (κ × ν)) : Prop := ∃ es clock, w.heap[b]? = some (.map es clock) ∧ es.toList.map (fun e => (e.key, e.val)) = l.map fun p => (enc p.1, val p.2)
theorem MapIs.lt {w : World} {b : Nat} {l : List (κ × ν)} (h : MapIs w b enc val l) : b < w.heap.size := by obtain ⟨es, c, h, -⟩ := h; exact (Array.getElem?_eq_some_iff.1 h).1
theorem MapIs.block {w w' : World} {b : Nat} {l : List (κ × ν)} (h : MapIs w b enc val l) (hb : w'.heap[b]? = w.heap[b]?) : MapIs w' b enc val l := by obtain ⟨es, c, h1, h2⟩ := h; exact ⟨es, c, hb.trans h1, h2⟩
theorem MapIs.below {w w' : World} {B b : Nat} {l : List (κ × ν)} (h : MapIs w b enc val l) (hb : Below B w w') (hB : b < B) : MapIs w' b enc val l := h.block (hb.block b hB)
theorem MapIs.alloc {w : World} {b : Nat} {l : List (κ × ν)} (h : MapIs w b enc val l) (o : Obj) : MapIs (w.alloc o) b enc val l := h.block (Below.heap_alloc _ _ _ h.lt)
theorem MapIs.made (w : World) : MapIs (w.alloc (.map #[] 0)) w.heap.size enc val [] := ⟨#[], 0, heap_alloc_new w _, rfl⟩
theorem MapIs.setCell {w : World} {b : Nat} {l : List (κ × ν)} (h : MapIs w b enc val l) (a : Addr) (v : Value) (hne : b ≠ a.block) : MapIs (w.setCell a v) b enc val l := h.block (Below.heap_setCell w a v b hne)
end

section
variable {κ ν : Type} [DecidableEq κ] {P : Program}

def alLook : List (κ × ν) → κ → Option ν
  | [], _ => none
  | (a, u) :: l, k => if k = a then some u else alLook l k
def alPut : List (κ × ν) → κ → ν → List (κ × ν)
  | [], k, v => [(k, v)]
  | (a, u) :: l, k, v => if k = a then (k, v) :: l else (a, u) :: alPut l k v
def alIdx : List (κ × ν) → κ → Option Nat
  | [], _ => none
  | (a, u) :: l, k => if k = a then some 0 else (alIdx l k).map (· + 1)
theorem alLook_put (l : List (κ × ν)) (k k' : κ) (v : ν) : alLook (alPut l k v) k' = if k' = k then some v else alLook l k' := by
  induction l with
  | nil => rfl
  | cons p l ih =>
    obtain ⟨a, u⟩ := p
    simp only [alPut]
    by_cases h : k = a
    · subst h
      simp only [if_true, alLook]
      by_cases h2 : k' = k <;> simp [h2]
    · simp only [h, if_false, alLook, ih]
      by_cases h2 : k' = a
      · subst h2; simp [Ne.symm h]
      · simp [h2]
theorem alPut_length_le (l : List (κ × ν)) (k : κ) (v : ν) : (alPut l k v).length ≤ l.length + 1 := by
  induction l with
  | nil => simp [alPut]
  | cons p l ih =>
    obtain ⟨a, u⟩ := p
    simp only [alPut]
    split
    · simp
    · simp; omega

/-- What is asked of a key's type. -/
structure KeyOk (P : Program) (t : TypeId) (enc : κ → Value) : Prop where
  agg : ∃ d, P.underlying t = some d ∧ (∀ k, d ≠ .int k) ∧ d ≠ .string ∧ d ≠ .bool
  chk : ∀ (e : Bool) (x : κ) (w : World), (Instr.checkKey e 10000 t (enc x)).run P w = .ok () w
  eql : ∀ (x y : κ) (w : World), (Op.equal t (enc x) (enc y)).run P w = .ok (decide (x = y)) w
  bits : ∀ x : κ, Instr.sameBits 10000 (enc x) (enc x) = true

variable {enc : κ → Value} {val : ν → Value} {t : TypeId}
theorem run_findKey (K : KeyOk P t enc) (k : κ) (es : List MapEntry) (l : List (κ × ν)) (w : World) (h : es.map (fun e => (e.key, e.val)) = l.map fun p => (enc p.1, val p.2)) :
    (Instr.findKey t (enc k) es).run P w = .ok ((alIdx l k).bind fun j => (es[j]?).map fun e => (j, e.val)) w := by
  have key : ∀ (es : List MapEntry) (l : List (κ × ν)) (i : Nat), es.map (fun e => (e.key, e.val)) = l.map (fun p => (enc p.1, val p.2)) →
      (Instr.findAsking t (enc k) es i).run P w = .ok ((alIdx l k).bind fun j => (es[j]?).map fun e => (i + j, e.val)) w := by
    intro es
    induction es with
    | nil => intro l i h; cases l with
      | nil => rfl
      | cons p l => simp at h
    | cons e es ih =>
      intro l i h
      cases l with
      | nil => simp at h
      | cons p l =>
        obtain ⟨a, u⟩ := p
        simp only [List.map_cons, List.cons.injEq, Prod.mk.injEq] at h
        obtain ⟨⟨h1, h2⟩, h3⟩ := h
        unfold Instr.findAsking
        rw [Sem.run_bind, h1, K.eql, Result.andThen_ok]
        by_cases e : k = a
        · subst e; simp [alIdx, h2]
        · simp only [e, decide_false, Bool.false_eq_true, if_false]
          rw [ih l (i + 1) h3]
          simp only [alIdx, e, if_false]
          cases alIdx l k with
          | none => rfl
          | some j => simp [Nat.add_comm, Nat.add_left_comm]
  obtain ⟨d, hd, hd1, hd2, hd3⟩ := K.agg
  unfold Instr.findKey
  rw [Sem.run_bind, run_underlying hd w, Result.andThen_ok]
  have hnow : ∀ (e : MapEntry) (r : List MapEntry) (i : Nat), Instr.findNow d (enc k) (e :: r) i = none := by
    intro e r i
    have : Instr.sameNow d (enc k) e.key = none := by
      unfold Instr.sameNow
      split
      · exact absurd rfl (hd1 _)
      · exact absurd rfl hd2
      · exact absurd rfl hd3
      · rfl
    simp [Instr.findNow, this]
  cases es with
  | nil =>
    cases l with
    | nil => rfl
    | cons p l => simp at h
  | cons e r =>
    rw [hnow]
    have := key (e :: r) l 0 h
    simpa using this

theorem alIdx_spec (l : List (κ × ν)) (k : κ) : (alIdx l k = none ∧ alLook l k = none) ∨ ∃ j u, alIdx l k = some j ∧ l[j]? = some (k, u) ∧ alLook l k = some u := by
  induction l with
  | nil => exact .inl ⟨rfl, rfl⟩
  | cons p l ih =>
    obtain ⟨a, u⟩ := p
    by_cases h : k = a
    · subst h; exact .inr ⟨0, u, by simp [alIdx], rfl, by simp [alLook]⟩
    · rcases ih with ⟨h1, h2⟩ | ⟨j, v, h1, h2, h3⟩
      · exact .inl ⟨by simp [alIdx, h, h1], by simp [alLook, h, h2]⟩
      · exact .inr ⟨j + 1, v, by simp [alIdx, h, h1], by simpa using h2, by simp [alLook, h, h3]⟩

theorem MapIs.look (K : KeyOk P t enc) {w : World} {b : Nat} {l : List (κ × ν)} (h : MapIs w b enc val l) {T e : TypeId} (hT : P.underlying T = some (.map t e)) {z : ν} (hz : ∀ w, (zeroValue e).run P w = .ok (val z) w) (k : κ) :
    (Instr.lookup T (.map (some b)) (enc k) false).run P w = .ok (val ((alLook l k).getD z)) w ∧
    (Instr.lookup T (.map (some b)) (enc k) true).run P w = .ok (.tuple #[val ((alLook l k).getD z), .bool (alLook l k).isSome]) w := by
  obtain ⟨es, c, hb, hes⟩ := h
  have hg : (getObj b).run P w = .ok (.map es c) w := by simp [getObj, Sem.run, hb]
  have hf := run_findKey (P := P) K k es.toList l w hes
  rcases alIdx_spec l k with ⟨h1, h2⟩ | ⟨j, u, h1, h2, h3⟩
  · rw [h1] at hf
    simp only [Option.bind_none] at hf
    constructor
    all_goals
      unfold Instr.lookup
      simp [Sem.run_bind, run_underlying hT w, hg, K.chk, hf, hz, h2]
  · rw [h1] at hf
    have hj : (es.toList.map fun e => (e.key, e.val))[j]? = some (enc k, val u) := by rw [hes, List.getElem?_map, h2]; rfl
    rw [List.getElem?_map] at hj
    obtain ⟨e0, he, hv⟩ := Option.map_eq_some_iff.1 hj
    simp only [Prod.mk.injEq] at hv
    rw [Option.bind_some, he] at hf
    simp only [Option.map_some, hv.2] at hf
    constructor
    all_goals
      unfold Instr.lookup
      simp [Sem.run_bind, run_underlying hT w, hg, K.chk, hf, h3]

theorem alPut_idx (l : List (κ × ν)) (k : κ) (v : ν) : alPut l k v = match alIdx l k with | some j => l.modify j (fun _ => (k, v)) | none => l ++ [(k, v)] := by
  induction l with
  | nil => rfl
  | cons p l ih =>
    obtain ⟨a, u⟩ := p
    simp only [alPut, alIdx]
    by_cases h : k = a
    · simp [h]
    · simp only [h, if_false, ih]
      cases alIdx l k with
      | none => rfl
      | some j => simp

theorem MapIs.put (K : KeyOk P t enc) {w : World} {b : Nat} {l : List (κ × ν)} (h : MapIs w b enc val l) {T e : TypeId} (hT : P.underlying T = some (.map t e)) (k : κ) (v : ν) :
    ∃ o, (Instr.mapUpdate T (.map (some b)) (enc k) (val v)).run P w = .ok () (w.putObj b o) ∧ MapIs (w.putObj b o) b enc val (alPut l k v) := by
  have hlt := h.lt
  obtain ⟨es, c, hb, hes⟩ := h
  have hg : (getObj b).run P w = .ok (.map es c) w := by simp [getObj, Sem.run, hb]
  have hset : ∀ o, (setObj b o).run P w = .ok () (w.putObj b o) := fun o => by simp [setObj, Sem.run, hb, World.putObj]
  have hput : ∀ o, (w.putObj b o).heap[b]? = some o := fun o => by
    unfold World.putObj
    simp [hlt]
  have hf := run_findKey (P := P) K k es.toList l w hes
  rcases alIdx_spec l k with ⟨h1, h2⟩ | ⟨j, u, h1, h2, h3⟩
  · rw [h1] at hf
    simp only [Option.bind_none] at hf
    refine ⟨.map (es.push { key := enc k, val := val v, born := c }) (c + 1), ?_, ?_⟩
    · unfold Instr.mapUpdate
      simp [Sem.run_bind, run_underlying hT w, hg, K.chk, hf, hset]
    · refine ⟨_, _, hput _, ?_⟩
      rw [alPut_idx, h1]
      simp [hes]
  · rw [h1] at hf
    have hj : (es.toList.map fun e => (e.key, e.val))[j]? = some (enc k, val u) := by rw [hes, List.getElem?_map, h2]; rfl
    rw [List.getElem?_map] at hj
    obtain ⟨e0, he, hv⟩ := Option.map_eq_some_iff.1 hj
    simp only [Prod.mk.injEq] at hv
    rw [Option.bind_some, he] at hf
    simp only [Option.map_some, hv.2] at hf
    have he2 : es[j]? = some e0 := by simpa using he
    refine ⟨.map (es.modify j fun e => { e with key := enc k, val := val v }) c, ?_, ?_⟩
    · unfold Instr.mapUpdate
      simp [Sem.run_bind, run_underlying hT w, hg, K.chk, hf, Instr.keyThatStays, he2, hv.1, K.bits, hset]
    · refine ⟨_, _, hput _, ?_⟩
      rw [alPut_idx, h1]
      apply List.ext_getElem?
      intro i
      have hi : (es.toList.map fun e => (e.key, e.val))[i]? = (l.map fun p => (enc p.1, val p.2))[i]? := by rw [hes]
      simp only [List.getElem?_map, Array.getElem?_toList, List.getElem?_modify, Array.getElem?_modify] at hi ⊢
      by_cases e : j = i
      · subst e
        simp [he2, h2]
      · simp only [e, if_false]
        simpa using hi
end
end Go.Proofs.YtgmahakpmjfhhaaRR
