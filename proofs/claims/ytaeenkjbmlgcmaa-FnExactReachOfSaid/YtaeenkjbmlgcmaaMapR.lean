/- A range over a map that is read alone: the iterator goes through the pairs in an order that nobody knows, each once. -/
import Derived.Test.YtaeenkjbmlgcmaaZF
import Derived.Maps.RangeRun
namespace Go.Proofs.Ytaeenkjbmlgcmaa
open Go.RowKit
open Go.ChangeMaps (setBlock)
set_option linter.unusedVariables false

section
variable {κ ν : Type} {P : Program} {enc : κ → Value} {val : ν → Value}
/-- Block r goes over the map at block b, of n pairs; those of seen have come, in this order. -/
def IterIs (w : World) (b r n : Nat) (seen : List Nat) : Prop := ∃ (sa : Array Nat) (c0 : Nat), w.heap[r]? = some (.mapIter (some b) n sa c0) ∧ n ≤ c0 ∧ sa.toList = seen
theorem IterIs.lt {w : World} {b r n : Nat} {seen : List Nat} (h : IterIs w b r n seen) : r < w.heap.size := by obtain ⟨sa, c, h1, -⟩ := h; exact (Array.getElem?_eq_some_iff.1 h1).1
theorem IterIs.block {w w' : World} {b r n : Nat} {seen : List Nat} (h : IterIs w b r n seen) (hb : w'.heap[r]? = w.heap[r]?) : IterIs w' b r n seen := by obtain ⟨sa, c, h1, h2⟩ := h; exact ⟨sa, c, hb.trans h1, h2⟩
theorem IterIs.below {w w' : World} {B b r n : Nat} {seen : List Nat} (h : IterIs w b r n seen) (hb : Below B w w') (hB : r < B) : IterIs w' b r n seen := h.block (hb.block r hB)
theorem IterIs.alloc {w : World} {b r n : Nat} {seen : List Nat} (h : IterIs w b r n seen) (o : Obj) : IterIs (w.alloc o) b r n seen := h.block (Below.heap_alloc _ _ _ h.lt)
theorem MapIs.range {w : World} {b : Nat} {l : List (κ × ν)} (h : MapIs w b enc val l) {T k e : TypeId} (hT : P.underlying T = some (.map k e)) :
    ∃ o, (Instr.range T (.map (some b))).run P w = .ok (.pointer (some ⟨w.heap.size, 0, none⟩)) (w.alloc o) ∧ IterIs (w.alloc o) b w.heap.size l.length [] := by
  obtain ⟨es, c, hb, hes, hc, hst⟩ := h
  have hn : es.size = l.length := by simpa using congrArg List.length hes
  refine ⟨_, run_range_map w T k e b es c hT hb, #[], c, ?_, by omega, rfl⟩
  rw [heap_alloc_new, hc, hn]

/-- The entry that has come last can be read. -/
def EntryIs (P : Program) (w : World) (b r : Nat) (key v : Value) : Prop := ∀ w' : World, w'.heap[r]? = w.heap[r]? → w'.heap[b]? = w.heap[b]? → (Instr.entry (.pointer (some ⟨r, 0, none⟩))).run P w' = .ok (.tuple #[key, v]) w'

theorem MapIs.next {w : World} {b r : Nat} {l : List (κ × ν)} {seen : List Nat} (h : MapIs w b enc val l) (hi : IterIs w b r l.length seen) (ty : TypeId) :
    ((∀ j, j < l.length → j ∈ seen) ∧ (Instr.next (.pointer (some ⟨r, 0, none⟩)) false ty).run P w = .ok (.tuple #[.bool false]) w) ∨
    ∃ j k v w', l[j]? = some (k, v) ∧ j ∉ seen ∧ (Instr.next (.pointer (some ⟨r, 0, none⟩)) false ty).run P w = .ok (.tuple #[.bool true, enc k, val v]) w' ∧ IterIs w' b r l.length (seen ++ [j]) ∧ MapIs w' b enc val l ∧ EntryIs P w' b r (enc k) (val v) ∧
      w'.heap.size = w.heap.size ∧ (∀ i : Nat, i ≠ r → w'.heap[i]? = w.heap[i]?) ∧ ∀ B w0, Below B w0 w → B ≤ r → Below B w0 w' := by
  obtain ⟨es, c, hb, hes, hc, hst⟩ := h
  obtain ⟨sa, c0, hr, hc0, hsa⟩ := hi
  have hn : es.size = l.length := by simpa using congrArg List.length hes
  have hrlt := (Array.getElem?_eq_some_iff.1 hr).1
  have hrb : b ≠ r := by intro e; subst e; rw [hb] at hr; cases hr
  have hborn : ∀ x ∈ es.toList, x.born < l.length := by
    intro x hx
    obtain ⟨i, hi, e⟩ := List.getElem_of_mem hx
    have hxi : es[i]? = some x := by
      have h2 : i < es.size := by simpa using hi
      rw [Array.getElem?_eq_getElem h2]
      simpa using e
    rw [hst i x hxi]
    have : i < es.size := by simpa using hi
    omega
  rcases run_next_at (P := P) w ty r b l.length c0 sa es c hr hb hborn hc0 with ⟨h0, hrun⟩ | ⟨e, he, w1, hw1, hrun⟩
  · refine .inl ⟨fun j hj => ?_, hrun⟩
    have hje : es[j]? = some es[j] := Array.getElem?_eq_getElem (by omega)
    have hb2 := hst j es[j] hje
    unfold leftOf at h0
    have h1 : es.filter (fun e => !sa.contains e.born) = #[] := Array.eq_empty_of_size_eq_zero h0
    rw [Array.filter_eq_empty_iff] at h1
    have h2 := h1 es[j] (by simp)
    rw [hb2] at h2
    rw [← hsa]
    simpa using h2
  · right
    unfold leftOf at he
    have he2 : e ∈ es ∧ ¬ e.born ∈ sa := by simpa using he
    obtain ⟨j, hj, hej⟩ := Array.getElem_of_mem he2.1
    have hje : es[j]? = some e := by rw [Array.getElem?_eq_getElem hj, hej]
    have hbj := hst j e hje
    obtain ⟨⟨k, v⟩, hkv⟩ : ∃ p, l[j]? = some p := ⟨_, List.getElem?_eq_getElem (by omega)⟩
    have hpair : (es.toList.map (fun e => (e.key, e.val)))[j]? = some (enc k, val v) := by rw [hes, List.getElem?_map, hkv]; rfl
    rw [List.getElem?_map, Array.getElem?_toList, hje] at hpair
    simp only [Option.map_some, Option.some.injEq, Prod.mk.injEq] at hpair
    rw [hpair.1, hpair.2] at hrun
    have hheap : ∀ i : Nat, w1.heap[i]? = w.heap[i]? := fun i => by rcases hw1 with rfl | rfl <;> rfl
    have hsz1 : w1.heap.size = w.heap.size := by rcases hw1 with rfl | rfl <;> rfl
    have hset : (setBlock w1 r (.mapIter (some b) l.length (sa.push e.born) c)).heap[r]? = some (.mapIter (some b) l.length (sa.push e.born) c) := by
      simp [setBlock, hsz1, hrlt]
    have hoth : ∀ i : Nat, i ≠ r → (setBlock w1 r (.mapIter (some b) l.length (sa.push e.born) c)).heap[i]? = w.heap[i]? := fun i hi => by
      rw [← hheap i]
      simp only [setBlock]
      rw [Array.getElem?_setIfInBounds_ne (Ne.symm hi)]
    have hmap := (hoth b hrb).trans hb
    have hnd : (es.toList.map (·.born)).Nodup := by
      rw [List.Nodup, List.pairwise_iff_getElem]
      intro i1 i2 h1 h2 h12
      have g1 : i1 < es.size := by simpa using h1
      have g2 : i2 < es.size := by simpa using h2
      simp only [List.getElem_map, Array.getElem_toList]
      rw [hst i1 _ (Array.getElem?_eq_getElem g1), hst i2 _ (Array.getElem?_eq_getElem g2)]
      omega
    refine ⟨j, k, v, _, hkv, ?_, hrun, ⟨_, c, hset, by omega, ?_⟩, ⟨es, c, hmap, hes, hc, hst⟩, ?_, ?_, hoth, ?_⟩
    · rw [← hsa, ← hbj]; simpa using he2.2
    · simp [hsa, hbj]
    · intro w'' h1 h2
      rw [← hpair.1, ← hpair.2]
      exact run_entry_at w'' r b l.length sa es c e (h1.trans hset) (h2.trans hmap) (by simpa using he2.1) hnd
    · simp [setBlock, hsz1]
    · intro B w0 hB hBr
      refine ⟨?_, ?_, ?_, ?_, fun i hi => ?_⟩
      · rw [← hB.os]; rcases hw1 with rfl | rfl <;> rfl
      · rw [← hB.tape]; rcases hw1 with rfl | rfl <;> rfl
      · rw [← hB.output]; rcases hw1 with rfl | rfl <;> rfl
      · have := hB.size; simp [setBlock, hsz1]; omega
      · exact (hoth i (by omega)).trans (hB.block i hi)
end
def iterLen (w : World) (r : Nat) : Nat := match w.heap[r]? with | some (.mapIter _ _ sa _) => sa.size | _ => 0
theorem IterIs.len {w : World} {b r n : Nat} {seen : List Nat} (h : IterIs w b r n seen) : iterLen w r = seen.length := by
  obtain ⟨sa, c, h1, -, rfl⟩ := h
  simp [iterLen, h1]
end Go.Proofs.Ytaeenkjbmlgcmaa
