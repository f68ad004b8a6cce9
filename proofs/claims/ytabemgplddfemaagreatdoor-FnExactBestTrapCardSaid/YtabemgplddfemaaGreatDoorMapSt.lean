/- Maps that are counted up in place. -/
import Derived.Test.YtabemgplddfemaaGreatDoorZF

namespace Go.Proofs.YtabemgplddfemaaGreatDoor
open Go.RowKit
set_option linter.unusedVariables false
section
variable {κ ν : Type} [DecidableEq κ] {P : Program} {enc : κ → Value} {val : ν → Value} {t : TypeId}
/-- Block b is a map with the pairs of l, each stamped with its number. -/
def MapSt (w : World) (b : Nat) (enc : κ → Value) (val : ν → Value) (l : List (κ × ν)) : Prop := ∃ es clock, w.heap[b]? = some (.map es clock) ∧ (es.toList.map (fun e => (e.key, e.val)) = l.map fun p => (enc p.1, val p.2)) ∧ clock = es.size ∧ ∀ (i : Nat) e, es[i]? = some e → e.born = i
omit [DecidableEq κ] in
theorem MapSt.is {w : World} {b : Nat} {l : List (κ × ν)} (h : MapSt w b enc val l) : MapIs w b enc val l := h
omit [DecidableEq κ] in
theorem MapSt.block {w w' : World} {b : Nat} {l : List (κ × ν)} (h : MapSt w b enc val l) (hb : w'.heap[b]? = w.heap[b]?) : MapSt w' b enc val l := by obtain ⟨es, c, h1, h2⟩ := h; exact ⟨es, c, hb.trans h1, h2⟩
omit [DecidableEq κ] in
theorem MapSt.lt {w : World} {b : Nat} {l : List (κ × ν)} (h : MapSt w b enc val l) : b < w.heap.size := h.is.lt
omit [DecidableEq κ] in
theorem MapSt.below {w w' : World} {B b : Nat} {l : List (κ × ν)} (h : MapSt w b enc val l) (hb : Below B w w') (hB : b < B) : MapSt w' b enc val l := h.block (hb.block b hB)
omit [DecidableEq κ] in
theorem MapSt.alloc {w : World} {b : Nat} {l : List (κ × ν)} (h : MapSt w b enc val l) (o : Obj) : MapSt (w.alloc o) b enc val l := h.block (Below.heap_alloc _ _ _ h.lt)
omit [DecidableEq κ] in
theorem MapSt.made (w : World) : MapSt (w.alloc (.map #[] 0)) w.heap.size enc val [] := ⟨#[], 0, heap_alloc_new w _, rfl, rfl, fun i e h => by simp at h⟩

theorem stamp_find {es : Array MapEntry} (h : ∀ (i : Nat) e, es[i]? = some e → e.born = i) {j : Nat} (hj : j < es.size) : es.findIdx? (fun e => (e.born : Int) == (j : Int)) = some j := by
  rw [Array.findIdx?_eq_some_iff_getElem]
  refine ⟨hj, ?_, fun i hi => ?_⟩
  · have := h j es[j] (Array.getElem?_eq_getElem hj)
    simp [this]
  · have := h i es[i] (Array.getElem?_eq_getElem (by omega))
    simp [this]
    omega

theorem MapSt.entry (K : KeyOk P t enc) {w : World} {b : Nat} {l : List (κ × ν)} (h : MapSt w b enc val l) (hl : l.length ≤ 1000) {T e : TypeId} (hT : P.underlying T = some (.map t e)) {z : ν} (hz : ∀ w, (zeroValue e).run P w = .ok (val z) w) (k : κ) :
    ∃ (o : Obj) (j : Nat), j ≤ 1000 ∧ (∀ w' : World, w'.heap[b]? = w.heap[b]? → (Instr.mapEntry T (.map (some b)) (enc k)).run P w' = .ok (.tuple #[val ((alLook l k).getD z), .int .i64 j]) (w'.putObj b o)) ∧
      (∀ w' : World, w'.heap[b]? = some o → MapSt w' b enc val (alPut l k ((alLook l k).getD z))) ∧
      ∀ u : ν, ∃ o', (∀ w' : World, w'.heap[b]? = some o → (Instr.entryStore T (.map (some b)) (.int .i64 j) (val u)).run P w' = .ok () (w'.putObj b o')) ∧ ∀ w' : World, w'.heap[b]? = some o' → MapSt w' b enc val (alPut l k u) := by
  have hlt := h.lt
  obtain ⟨es, c, hb, hes, rfl, hst⟩ := h
  have hn : es.size = l.length := by simpa using congrArg List.length hes
  have hget : ∀ (es : Array MapEntry) (c : Nat) (w' : World), w'.heap[b]? = some (.map es c) → (getObj b).run P w' = .ok (.map es c) w' := fun es c w' hb => by simp [getObj, Sem.run, hb]
  have hset : ∀ (es : Array MapEntry) (c : Nat) (o : Obj) (w' : World), w'.heap[b]? = some (.map es c) → (setObj b o).run P w' = .ok () (w'.putObj b o) := fun es c o w' hb => by simp [setObj, Sem.run, hb, World.putObj]
  have hf : ∀ w', (Instr.findKey t (enc k) es.toList).run P w' = _ := fun w' => run_findKey (P := P) K k es.toList l w' hes
  rcases alIdx_spec l k with ⟨h1, h2⟩ | ⟨j, u0, h1, h2, h3⟩
  · rw [h1] at hf
    simp only [Option.bind_none] at hf
    refine ⟨.map (es.push { key := enc k, val := val z, born := es.size }) (es.size + 1), es.size, by omega, fun w' hw => ?_, fun w' hw => ?_, fun u => ?_⟩
    · rw [hb] at hw
      unfold Instr.mapEntry
      simp [Sem.run_bind, run_underlying hT w', hget _ _ _ hw, K.chk, hf, hset _ _ _ _ hw, hz, h2, goInt]
    · refine ⟨_, _, hw, ?_, by simp, ?_⟩
      · rw [alPut_idx, h1, h2]
        simp [hes]
      · intro i e he
        rw [Array.getElem?_push] at he
        split at he
        · simp only [Option.some.injEq] at he; rw [← he]; exact (by omega : es.size = i)
        · exact hst i e he
    · refine ⟨.map ((es.push { key := enc k, val := val z, born := es.size }).modify es.size fun e => { e with val := val u }) (es.size + 1), fun w' hw => ?_, fun w' hw => ?_⟩
      · have hfi := stamp_find (es := es.push { key := enc k, val := val z, born := es.size }) (fun i e he => by
          rw [Array.getElem?_push] at he
          split at he
          · simp only [Option.some.injEq] at he; rw [← he]; exact (by omega : es.size = i)
          · exact hst i e he) (j := es.size) (by simp)
        unfold Instr.entryStore
        simp [Sem.run_bind, hget _ _ _ hw, asInt, asIntOf, hfi, hset _ _ _ _ hw]
      · refine ⟨_, _, hw, ?_, by simp, ?_⟩
        · rw [alPut_idx, h1]
          apply List.ext_getElem?
          intro i
          have hi : (es.toList.map fun e => (e.key, e.val))[i]? = (l.map fun p => (enc p.1, val p.2))[i]? := by rw [hes]
          simp only [List.getElem?_map, Array.getElem?_toList, Array.getElem?_modify, Array.getElem?_push, List.getElem?_append] at hi ⊢
          by_cases e : i = es.size
          · subst e
            simp [hn]
          · rw [if_neg (fun h => e h.symm), if_neg e]
            by_cases hlt2 : i < l.length
            · simpa [hlt2] using hi
            · have : ¬ i < es.size := by omega
              simp [hlt2, show ¬ i - l.length < 1 by omega]
              omega
        · intro i e he
          rw [Array.getElem?_modify, Array.getElem?_push] at he
          split at he
          · rename_i h0
            subst h0
            simp at he
            rw [← he]
          · split at he
            · omega
            · exact hst i e he
  · rw [h1] at hf
    have hj : (es.toList.map fun e => (e.key, e.val))[j]? = some (enc k, val u0) := by rw [hes, List.getElem?_map, h2]; rfl
    rw [List.getElem?_map] at hj
    obtain ⟨e0, he, hv⟩ := Option.map_eq_some_iff.1 hj
    simp only [Prod.mk.injEq] at hv
    have he2 : es[j]? = some e0 := by simpa using he
    have hjs : j < es.size := (Array.getElem?_eq_some_iff.1 he2).1
    simp only [Option.bind_some, he, Option.map_some, hv.2] at hf
    have same : es.toList.map (fun e => (e.key, e.val)) = (es.modify j fun e => { e with key := enc k }).toList.map (fun e => (e.key, e.val)) := by
      apply List.ext_getElem?
      intro i
      simp only [List.getElem?_map, Array.getElem?_toList, Array.getElem?_modify]
      by_cases e : j = i
      · subst e
        simp [he2, hv.1]
      · simp [e]
    have hst2 : ∀ (i : Nat) e, (es.modify j fun e => { e with key := enc k })[i]? = some e → e.born = i := fun i e he => by
      rw [Array.getElem?_modify] at he
      split at he
      · rename_i h0
        subst h0
        rw [he2] at he
        simp only [Option.map_some, Option.some.injEq] at he
        rw [← he]
        exact hst j e0 he2
      · exact hst i e he
    refine ⟨.map (es.modify j fun e => { e with key := enc k }) es.size, j, by omega, fun w' hw => ?_, fun w' hw => ?_, fun u => ?_⟩
    · rw [hb] at hw
      unfold Instr.mapEntry
      have hborn := hst j e0 he2
      simp [Sem.run_bind, run_underlying hT w', hget _ _ _ hw, K.chk, hf, hset _ _ _ _ hw, Instr.keyThatStays, he2, hv.1, K.bits, h3, goInt, hborn]
    · refine ⟨_, _, hw, ?_, by simp, hst2⟩
      rw [← same, hes, alPut_idx, h1, h3]
      apply List.ext_getElem?
      intro i
      simp only [List.getElem?_map, List.getElem?_modify]
      by_cases e : j = i
      · subst e
        simp [h2]
      · simp [e]
    · refine ⟨.map ((es.modify j fun e => { e with key := enc k }).modify j fun e => { e with val := val u }) es.size, fun w' hw => ?_, fun w' hw => ?_⟩
      · have hfi := stamp_find hst2 (j := j) (by simpa using hjs)
        unfold Instr.entryStore
        simp [Sem.run_bind, hget _ _ _ hw, asInt, asIntOf, hfi, hset _ _ _ _ hw]
      · refine ⟨_, _, hw, ?_, by simp, ?_⟩
        · rw [alPut_idx, h1]
          apply List.ext_getElem?
          intro i
          have hi : (es.toList.map fun e => (e.key, e.val))[i]? = (l.map fun p => (enc p.1, val p.2))[i]? := by rw [hes]
          simp only [List.getElem?_map, Array.getElem?_toList, List.getElem?_modify, Array.getElem?_modify] at hi ⊢
          by_cases e : j = i
          · subst e
            simp [he2, h2]
          · simp only [e, if_false]
            simpa using hi
        · intro i e he
          rw [Array.getElem?_modify] at he
          split at he
          · rename_i h0
            subst h0
            obtain ⟨e1, h4, h5⟩ := Option.map_eq_some_iff.1 he
            rw [← h5]
            exact hst2 j e1 h4
          · exact hst2 i e he
end
end Go.Proofs.YtabemgplddfemaaGreatDoor
