/- A range over a map that is read alone: the iterator goes through the pairs in an order that nobody knows, each once. maps.Keys of a map over cells: its iterator hands on all keys, each once, in an order that nobody knows. slices.AppendSeq and Collect over the keys of a map of cells, of the program. -/
import Derived.Test.YtaeenkjbmlgcmaaZF
import Derived.Maps.RangeRun
import Derived.Test.YtaeenkjbmlgcmaaZB
import Derived.Test.YtaeenkjbmlgcmaaZG
import Derived.Test.YtaeenkjbmlgcmaaZC
import Derived.Maps.OwnIn
namespace Go.Proofs.Ytaeenkjbmlgcmaa
open Go.RowKit
open Go.ChangeMaps (setBlock)
set_option linter.unusedVariables false

section
variable {κ ν : Type} {P : Program} {enc : κ → Value} {val : ν → Value}
/-- Block r goes over the map at block b, of n pairs; those of seen have come, in this order. -/
def IterIs (w : World) (b r n : Nat) (seen : List Nat) : Prop := ∃ (sa : Array Nat) (c0 : Nat), w.heap[r]? = some (.mapIter (some b) n sa c0) ∧ n ≤ c0 ∧ sa.toList = seen
theorem IterIs.lt {w : World} {b r n : Nat} {seen : List Nat} (h : IterIs w b r n seen) : r < w.heap.size := by obtain ⟨sa, c, h1, -⟩ := h; exact (Array.getElem?_eq_some_iff.1 h1).1
theorem IterIs.block {w w' : World} {b r n : Nat} {seen : List Nat} (h : IterIs w b r n seen) (hb : w'.heap[r]? = w.heap[r]?) : IterIs w' b r n seen := by obtain ⟨sa, c, h1, h2⟩ := h; exact ⟨sa, c, hb.trans h1, h2⟩
theorem IterIs.below {w w' : World} {B b r n : Nat} {seen : List Nat} (h : IterIs w b r n seen) (hb : Below B w w') (hB : r < B) : IterIs w' b r n seen := h.block (hb.block r hB)
theorem IterIs.alloc {w : World} {b r n : Nat} {seen : List Nat} (h : IterIs w b r n seen) (o : Obj) : IterIs (w.alloc o) b r n seen := h.block (Below.heap_alloc _ _ _ h.lt)
theorem MapIs.range {w : World} {b : Nat} {l : List (κ × ν)} (h : MapIs w b enc val l) {T k e : TypeId} (hT : P.underlying T = some (.map k e)) :
    ∃ o, (Instr.range T (.map (some b))).run P w = .ok (.pointer (some ⟨w.heap.size, 0, none⟩)) (w.alloc o) ∧ IterIs (w.alloc o) b w.heap.size l.length [] := by
  obtain ⟨es, c, hb, hes, hc, hst⟩ := h
  have hn : es.size = l.length := by simpa using congrArg List.length hes
  refine ⟨_, run_range_map w T k e b es c hT hb, #[], c, ?_, by omega, rfl⟩
  rw [heap_alloc_new, hc, hn]

/-- The entry that has come last can be read. -/
def EntryIs (P : Program) (w : World) (b r : Nat) (key v : Value) : Prop := ∀ w' : World, w'.heap[r]? = w.heap[r]? → w'.heap[b]? = w.heap[b]? → (Instr.entry (.pointer (some ⟨r, 0, none⟩))).run P w' = .ok (.tuple #[key, v]) w'

theorem MapIs.next {w : World} {b r : Nat} {l : List (κ × ν)} {seen : List Nat} (h : MapIs w b enc val l) (hi : IterIs w b r l.length seen) (ty : TypeId) :
    ((∀ j, j < l.length → j ∈ seen) ∧ (Instr.next (.pointer (some ⟨r, 0, none⟩)) false ty).run P w = .ok (.tuple #[.bool false]) w) ∨
    ∃ j k v w', l[j]? = some (k, v) ∧ j ∉ seen ∧ (Instr.next (.pointer (some ⟨r, 0, none⟩)) false ty).run P w = .ok (.tuple #[.bool true, enc k, val v]) w' ∧ IterIs w' b r l.length (seen ++ [j]) ∧ MapIs w' b enc val l ∧ EntryIs P w' b r (enc k) (val v) ∧
      w'.heap.size = w.heap.size ∧ (∀ i : Nat, i ≠ r → w'.heap[i]? = w.heap[i]?) ∧ ∀ B w0, Below B w0 w → B ≤ r → Below B w0 w' := by
  obtain ⟨es, c, hb, hes, hc, hst⟩ := h
  obtain ⟨sa, c0, hr, hc0, hsa⟩ := hi
  have hn : es.size = l.length := by simpa using congrArg List.length hes
  have hrlt := (Array.getElem?_eq_some_iff.1 hr).1
  have hrb : b ≠ r := by intro e; subst e; rw [hb] at hr; cases hr
  have hborn : ∀ x ∈ es.toList, x.born < l.length := by
    intro x hx
    obtain ⟨i, hi, e⟩ := List.getElem_of_mem hx
    have hxi : es[i]? = some x := by
      have h2 : i < es.size := by simpa using hi
      rw [Array.getElem?_eq_getElem h2]
      simpa using e
    rw [hst i x hxi]
    have : i < es.size := by simpa using hi
    omega
  rcases run_next_at (P := P) w ty r b l.length c0 sa es c hr hb hborn hc0 with ⟨h0, hrun⟩ | ⟨e, he, w1, hw1, hrun⟩
  · refine .inl ⟨fun j hj => ?_, hrun⟩
    have hje : es[j]? = some es[j] := Array.getElem?_eq_getElem (by omega)
    have hb2 := hst j es[j] hje
    unfold leftOf at h0
    have h1 : es.filter (fun e => !sa.contains e.born) = #[] := Array.eq_empty_of_size_eq_zero h0
    rw [Array.filter_eq_empty_iff] at h1
    have h2 := h1 es[j] (by simp)
    rw [hb2] at h2
    rw [← hsa]
    simpa using h2
  · right
    unfold leftOf at he
    have he2 : e ∈ es ∧ ¬ e.born ∈ sa := by simpa using he
    obtain ⟨j, hj, hej⟩ := Array.getElem_of_mem he2.1
    have hje : es[j]? = some e := by rw [Array.getElem?_eq_getElem hj, hej]
    have hbj := hst j e hje
    obtain ⟨⟨k, v⟩, hkv⟩ : ∃ p, l[j]? = some p := ⟨_, List.getElem?_eq_getElem (by omega)⟩
    have hpair : (es.toList.map (fun e => (e.key, e.val)))[j]? = some (enc k, val v) := by rw [hes, List.getElem?_map, hkv]; rfl
    rw [List.getElem?_map, Array.getElem?_toList, hje] at hpair
    simp only [Option.map_some, Option.some.injEq, Prod.mk.injEq] at hpair
    rw [hpair.1, hpair.2] at hrun
    have hheap : ∀ i : Nat, w1.heap[i]? = w.heap[i]? := fun i => by rcases hw1 with rfl | rfl <;> rfl
    have hsz1 : w1.heap.size = w.heap.size := by rcases hw1 with rfl | rfl <;> rfl
    have hset : (setBlock w1 r (.mapIter (some b) l.length (sa.push e.born) c)).heap[r]? = some (.mapIter (some b) l.length (sa.push e.born) c) := by
      simp [setBlock, hsz1, hrlt]
    have hoth : ∀ i : Nat, i ≠ r → (setBlock w1 r (.mapIter (some b) l.length (sa.push e.born) c)).heap[i]? = w.heap[i]? := fun i hi => by
      rw [← hheap i]
      simp only [setBlock]
      rw [Array.getElem?_setIfInBounds_ne (Ne.symm hi)]
    have hmap := (hoth b hrb).trans hb
    have hnd : (es.toList.map (·.born)).Nodup := by
      rw [List.Nodup, List.pairwise_iff_getElem]
      intro i1 i2 h1 h2 h12
      have g1 : i1 < es.size := by simpa using h1
      have g2 : i2 < es.size := by simpa using h2
      simp only [List.getElem_map, Array.getElem_toList]
      rw [hst i1 _ (Array.getElem?_eq_getElem g1), hst i2 _ (Array.getElem?_eq_getElem g2)]
      omega
    refine ⟨j, k, v, _, hkv, ?_, hrun, ⟨_, c, hset, by omega, ?_⟩, ⟨es, c, hmap, hes, hc, hst⟩, ?_, ?_, hoth, ?_⟩
    · rw [← hsa, ← hbj]; simpa using he2.2
    · simp [hsa, hbj]
    · intro w'' h1 h2
      rw [← hpair.1, ← hpair.2]
      exact run_entry_at w'' r b l.length sa es c e (h1.trans hset) (h2.trans hmap) (by simpa using he2.1) hnd
    · simp [setBlock, hsz1]
    · intro B w0 hB hBr
      refine ⟨?_, ?_, ?_, ?_, fun i hi => ?_⟩
      · rw [← hB.os]; rcases hw1 with rfl | rfl <;> rfl
      · rw [← hB.tape]; rcases hw1 with rfl | rfl <;> rfl
      · rw [← hB.output]; rcases hw1 with rfl | rfl <;> rfl
      · have := hB.size; simp [setBlock, hsz1]; omega
      · exact (hoth i (by omega)).trans (hB.block i hi)
end
def iterLen (w : World) (r : Nat) : Nat := match w.heap[r]? with | some (.mapIter _ _ sa _) => sa.size | _ => 0
theorem IterIs.len {w : World} {b r n : Nat} {seen : List Nat} (h : IterIs w b r n seen) : iterLen w r = seen.length := by
  obtain ⟨sa, c, h1, -, rfl⟩ := h
  simp [iterLen, h1]
end Go.Proofs.Ytaeenkjbmlgcmaa

namespace Go.Proofs.Ytaeenkjbmlgcmaa
open Go.RowKit Go.Shelf
set_option linter.unusedVariables false
attribute [local go_sem] Oper.semAt_some
attribute [local go_sem ↓] loadRow loadGrid loadLawn loadMirror storeRow storeGrid storeLawn allocRow allocGrid allocLawn buildZero buildSides

def valK (i : Int) : Value := .int .i64 i
/-- The cells of the pairs that have come. -/
def cameL (L : Found) (seen : List Nat) : List Pt := (seen.filterMap (L[·]?)).map (·.1)
theorem cameL_add {L : Found} {seen : List Nat} {j : Nat} {c : Pt} {v : Int} (hj : L[j]? = some (c, v)) : cameL L (seen ++ [j]) = cameL L seen ++ [c] := by
  simp [cameL, hj]
theorem cameL_all {L : Found} {seen : List Nat} (hn : seen.Nodup) (hlt : ∀ j ∈ seen, j < L.length) (hall : ∀ j, j < L.length → j ∈ seen) : (cameL L seen).Perm (L.map (·.1)) := by
  have key : ∀ n, n ≤ L.length → (List.range n).filterMap (L[·]?) = L.take n := by
    intro n
    induction n with
    | zero => simp
    | succ n ih =>
      intro h
      rw [List.range_succ, List.filterMap_append, ih (by omega), List.take_add_one]
      congr 1
  have hp : seen.Perm (List.range L.length) := by
    rw [List.perm_ext_iff_of_nodup hn List.nodup_range]
    exact fun a => ⟨fun h => List.mem_range.2 (hlt a h), fun h => hall a (List.mem_range.1 h)⟩
  have := (hp.filterMap (L[·]?)).map (·.1)
  rwa [key _ (Nat.le_refl _), List.take_length] at this
theorem cameL_length {L : Found} : ∀ {seen : List Nat}, (∀ j ∈ seen, j < L.length) → (cameL L seen).length = seen.length
  | [], _ => rfl
  | j :: s, h => by
    have ih := cameL_length (L := L) (seen := s) (fun i hi => h i (by simp [hi]))
    obtain ⟨q, hj⟩ : ∃ q, L[j]? = some q := ⟨_, List.getElem?_eq_getElem (h j (by simp))⟩
    unfold cameL at ih ⊢
    rw [List.filterMap_cons, hj]
    simp [ih]
theorem seen_below : ∀ (n : Nat) (l : List Nat), l.Nodup → (∀ j ∈ l, j < n) → l.length ≤ n
  | 0, l, _, h => by
    cases l with
    | nil => simp
    | cons a l => exact absurd (h a (by simp)) (by omega)
  | n + 1, l, hn, h => by
    have h1 := seen_below n (l.erase n) (hn.erase n) (fun j hj => by
      have h2 := (hn.mem_erase_iff).1 hj
      have := h j h2.2
      omega)
    have := List.length_erase (a := n) (l := l)
    split at this <;> omega
def ptA (c : Pt) : Array Value := #[cellV c.1 c.2]
theorem IterIs.walks {w w' : World} {b r n : Nat} {seen : List Nat} (h : IterIs w b r n seen) (hk : KeepsWalks w w') : IterIs w' b r n seen := by
  obtain ⟨sa, c, h1, h2⟩ := h
  exact ⟨sa, c, hk.same r _ h1 rfl, h2⟩
theorem MapIs.walks {κ ν : Type} {enc : κ → Value} {val : ν → Value} {w w' : World} {b : Nat} {l : List (κ × ν)} (h : MapIs w b enc val l) (hk : KeepsWalks w w') : MapIs w' b enc val l := by
  obtain ⟨es, c, h1, h2⟩ := h
  exact ⟨es, c, hk.same b _ h1 rfl, h2⟩

set_option maxRecDepth 100000 in
set_option maxHeartbeats 1000000 in
theorem keys1_in (F : Fence) (n : Nat) (h1 : F.fn 148) (hro : F.round = none) (hn : 1 ≤ n) (l Bm b : Nat) (L : Found) (J Jx : List Pt → World → Prop)
    (hY : ∀ pre x W, J pre W → pre.length < L.length → YieldAt F (n - 1) Try.prog l (ptA x) W fun e W' =>
      (e = .returned (.bool true) ∧ J (pre ++ [x]) W' ∧ KeepsWalks W W') ∨ (e = .returned (.bool false) ∧ Jx (pre ++ [x]) W'))
    (W : World) (hJ : AbidesFrom W.heap.size J) (hm : Holds W Bm #[.map (some b)]) (hM : MapIs W b cellK valK L) (h0 : J [] W) :
    CallsIn F n Try.prog 148 #[.func (.yield l) #[] #[], .pointer (some ⟨Bm, 0, none⟩)] W fun e W' => (∃ v, e = .returned v) ∧
      ((∃ ys, ys.Perm (L.map (·.1)) ∧ J ys W') ∨ (∃ pre, True ∧ Jx pre W')) := by
  obtain ⟨o, hrange, hit⟩ := hM.range (P := Try.prog) Try.underlying112
  have qM := hM.alloc o
  have hbr := hM.lt
  have j0 : J [] (W.alloc o) := hJ [] W _ none h0 (World.grownBy_alloc W o none) (fun r e => by cases e)
  have cM := hm.cell 0
  simp only [List.getElem?_toArray, List.getElem?_cons_zero] at cM
  have HJ := Lib.hid hJ
  have HY := Lib.hid hY
  obtain ⟨r, hr⟩ : ∃ r, W.heap.size = r := ⟨_, rfl⟩
  obtain ⟨W3, hW3⟩ : ∃ W3, W.alloc o = W3 := ⟨_, rfl⟩
  rw [hr] at hit hbr HJ hrange
  rw [hW3] at hit qM j0 hrange
  clear hJ hY hM h0
  refine callsIn_of_wp Try.func148 rfl h1 ?_ hro
  simp only [Try.ntmps148, List.size_toArray, List.length_cons, List.length_nil, Nat.reduceAdd, Nat.reduceSub, Array.replicate_succ, Array.replicate_zero, List.push_toArray, List.append_toArray, List.nil_append, List.cons_append]
  gi_wp2
  clear hW3 hrange hr cM hm
  gi_loopw [3] (fun _ wr => ∃ (seen : List Nat), seen.Nodup ∧ (∀ j ∈ seen, j < L.length) ∧ IterIs wr b r L.length seen ∧ MapIs wr b cellK valK L ∧ J (cameL L seen) wr) (fun _ wr => L.length - iterLen wr r)
  case atStart => exact ⟨[], List.nodup_nil, fun j hj => by simp at hj, hit, qM, j0⟩
  case round =>
    obtain ⟨seen, hnd, hlt, ji, jm, jj⟩ := hrel
    clear hit qM j0
    have hil := ji.len
    rcases jm.next (P := Try.prog) ji 0 with ⟨hall, hnx⟩ | ⟨j, c, v, w', hjl, hjn, hnx, ki, km, hen, hsz2, hoth, hbel⟩
    · have hfin := cameL_all hnd hlt hall
      gi_wp2
      go_end0
      exact ⟨⟨_, rfl⟩, .inl ⟨_, hfin, jj⟩⟩
    · have hbl := hbel r wr (Below.refl _ _) (Nat.le_refl _)
      have hg : wr.grownBy w' (some r) := ⟨hbl.os, hbl.tape, hbl.output, hbl.size, fun k hk hne => hoth k (fun e => hne (by rw [e]))⟩
      have hob : ∃ o : Obj, wr.heap[r]? = some o ∧ o.isWalk = true := by
        obtain ⟨sa, c0, hh, -⟩ := ji
        exact ⟨_, hh, rfl⟩
      have j1 := HJ.out _ wr w' (some r) jj hg (fun r' e => by cases e; exact ⟨Nat.le_refl _, hob⟩)
      have j2 := HJ.out _ w' (w'.alloc (.cells #[.int .i8 c.1, .int .i8 c.2] 37)) none j1 (World.grownBy_alloc _ _ none) (fun r e => by cases e)
      have hjlt := (List.getElem?_eq_some_iff.1 hjl).1
      have hnd2 : (seen ++ [j]).Nodup := by
        rw [List.nodup_append]
        exact ⟨hnd, by simp, fun a ha b hb => by rw [List.mem_singleton.1 hb]; exact fun e => hjn (e ▸ ha)⟩
      have hlt2 : ∀ i ∈ seen ++ [j], i < L.length := fun i hi => (List.mem_append.1 hi).elim (hlt i) (fun h => by rw [List.mem_singleton.1 h]; exact hjlt)
      have hcnt := seen_below L.length (seen ++ [j]) hnd2 hlt2
      have hcl := cameL_length hlt
      obtain ⟨fn, tmps, assign, body, hy, hR⟩ := HY.out _ c _ j2 (by rw [hcl]; simp at hcnt; omega)
      have HCA := Lib.hid (cameL_add (seen := seen) hjl)
      obtain ⟨cx, cy⟩ := c
      have hen1 := hen w' rfl rfl
      have qi := ki.alloc (.cells #[.int .i8 cx, .int .i8 cy] 37)
      have qm := km.alloc (.cells #[.int .i8 cx, .int .i8 cy] 37)
      have c0 : (w'.alloc (.cells #[.int .i8 cx, .int .i8 cy] 37)).cell? ⟨w'.heap.size, 0, none⟩ = some (.int .i8 cx) := (Holds.new _ _ _).cell 0
      have c1 : (w'.alloc (.cells #[.int .i8 cx, .int .i8 cy] 37)).cell? ⟨w'.heap.size, 1, none⟩ = some (.int .i8 cy) := (Holds.new _ _ _).cell 1
      clear hen ji jm jj j1 j2 hbel hoth hjn hnd hlt hbl hg hob ki km
      simp only [cellK, cellV, valK] at hnx hen1
      simp only [ptA, cellV] at hy
      rw [hsz2] at c0 c1
      gi_wp2
      refine hR.mono ?_
      rintro e W5 (⟨rfl, hJ5, hk5⟩ | ⟨rfl, hJx⟩)
      · rw [← HCA.out] at hJ5
        have vi := qi.walks hk5
        have vm := qm.walks hk5
        have hvl := vi.len
        clear qi qm c0 c1 hk5
        gi_wp2
        go_roundw
        case rel => exact ⟨seen ++ [j], hnd2, hlt2, vi, vm, hJ5⟩
        case measure => rw [hvl, hil]; simp at hcnt ⊢; omega
      · clear qi qm c0 c1
        gi_wp2
        refine bodyPost_ret (results_none rfl _ _ _) rfl ?_
        exact ⟨⟨_, rfl⟩, .inr ⟨_, trivial, hJx⟩⟩

/-- **maps.Keys**: the map is boxed; the function value captures the box. -/
theorem keys_any (b : Nat) (w : World) :
    Calls Try.prog 119 #[.map (some b)] w fun e w' => e = .returned (.func (.func 148) #[] #[.pointer (some ⟨w.heap.size, 0, none⟩)]) ∧ w' = w.alloc (.cells #[.map (some b)] 112) := by
  go_enter Try.func119, Try.ntmps119
  go_wp2_with fail
  go_ret
  exact ⟨rfl, rfl⟩

theorem keys_stops (F : Fence) (n : Nat) (h1 : F.fn 148) (hro : F.round = none) (hn : 1 ≤ n) (Bm b : Nat) (L : Found) (w : World) (hm : Holds w Bm #[.map (some b)]) (hM : MapIs w b cellK valK L) :
    SeqStopsK F n Try.prog 148 #[.pointer (some ⟨Bm, 0, none⟩)] ptA KeepsWalks (fun ys => ys.Perm (L.map (·.1))) (fun _ => True) L.length w := fun l J Jx W hWW hJ _ hY h0 =>
  keys1_in F n h1 hro hn l Bm b L J Jx hY W hJ (hm.below hWW hm.lt) (hM.below hWW hM.lt) h0
end Go.Proofs.Ytaeenkjbmlgcmaa

namespace Go.Proofs.Ytaeenkjbmlgcmaa
open Go.RowKit Go.Shelf
set_option linter.unusedVariables false
attribute [local go_sem] Oper.semAt_some
attribute [local go_sem ↓] loadRow loadGrid loadLawn loadMirror storeRow storeGrid storeLawn allocRow allocGrid allocLawn buildZero buildSides loadRow' loadGrid' loadLawn' loadMirror' storeRow' storeGrid' storeLawn' allocRow' allocGrid' allocLawn' buildZero' buildSides'

theorem own_ownP {β : Type} (s B : Nat) (e : TypeId) (size : Nat) (f : β → List Pt) : Own (fun (b : β) w => ∃ v, Holds w s #[v] ∧ w.ownsRow B e size v (f b).length (flatP (f b))) := by
  rintro b W W' row ⟨v, h1, h2⟩ hg hr
  refine ⟨v, h1.grown hg hr, h2.kept hg ?_⟩
  rcases h2.2 with ⟨rfl, -⟩ | ⟨g, cap, cur, rfl, hb, hgg, -⟩
  · exact .inl rfl
  · refine .inr fun he => ?_
    obtain ⟨o, ho, hc⟩ := hr g he.symm
    rw [hgg] at ho
    cases ho
    cases hc
theorem flatP_snoc (l : List Pt) (c : Pt) : flatP (l ++ [c]) = flatP l ++ [.int .i8 c.1, .int .i8 c.2] := by simp [flatP]
theorem walks_of {W W' : World} (h : KeepsOthers W W') : KeepsWalks W W' := ⟨h.size, fun k o hk hw => h.same k o hk (Obj.not_cells_of_walk hw)⟩

set_option maxRecDepth 100000 in
set_option maxHeartbeats 2000000 in
theorem appendSeq_any (Bm b : Nat) (L : Found) (hLen : L.length ≤ 100) (w : World) (hm : Holds w Bm #[.map (some b)]) (hM : MapIs w b cellK valK L) :
    Calls Try.prog 154 #[.slice none 0 0, .func (.func 148) #[] #[.pointer (some ⟨Bm, 0, none⟩)]] w fun e w' =>
      (∃ v ys, e = .returned v ∧ ys.Perm (L.map (·.1)) ∧ w'.ownsRow w.heap.size 37 2 v ys.length (flatP ys)) ∧ Below w.heap.size w w' := by
  obtain ⟨ci, hi, hz0, hz1, hz2⟩ := info_parts cellInfo
  have HCI := Lib.hid (show Try.prog.info? 37 = some ci ∧ ci.zero = some (.agg #[.int .i8 0, .int .i8 0]) ∧ ci.size = 2 ∧ ci.bytes = 2 from ⟨hi, hz0, hz1, hz2⟩)
  clear hi hz0 hz1 hz2
  obtain ⟨s, hs⟩ : ∃ s, w.heap.size = s := ⟨_, rfl⟩
  obtain ⟨W0, hW0⟩ : ∃ W0, w.alloc (.cells #[.slice none 0 0] 45) = W0 := ⟨_, rfl⟩
  have g0 : Holds W0 s #[.slice none 0 0] := by rw [← hW0, ← hs]; exact Holds.new _ _ _
  have gm : Holds W0 Bm #[.map (some b)] := by rw [← hW0]; exact hm.alloc _
  have gM : MapIs W0 b cellK valK L := by rw [← hW0]; exact hM.alloc _
  have hB0 : Below s w W0 := by rw [← hW0, ← hs]; exact (Below.refl w.heap.size w).alloc (Nat.le_refl _) _
  have hsz : W0.heap.size = s + 1 := by rw [← hW0, ← hs]; simp
  have hws : Hid (w.heap.size = s) := Lib.hid hs
  clear hm hM
  refine (callsIn_wide (n := 9)).1 ?_
  refine callsIn_of_wp_marks Try.func154 rfl trivial ?_ rfl
  simp only [Try.ntmps154, List.size_toArray, List.length_cons, List.length_nil, Nat.reduceAdd, Nat.reduceSub, Array.replicate_succ, Array.replicate_zero, List.push_toArray, List.append_toArray, List.nil_append, List.cons_append]
  gi_wp2_with fail
  try rw [hW0]
  try rw [hs]
  clear hW0 hs
  have hR0 : W0.ownsRow (s + 1) 37 2 (.slice none 0 0) 0 [] := World.ownsRow_nil _ _ _ _
  refine wpIn_rangeFunc_ownH (α := Pt) rfl (by omega) (gf := 148) (lb := #[.pointer (some ⟨Bm, 0, none⟩)]) rfl trivial (enters_of Try.func148 (by kernel_rfl) rfl)
    (keys_stops Fence.wide _ trivial rfl (by omega) Bm b L W0 gm gM) KeepsWalks.trans walksK_b (Below.refl _ _) (fun _ => rfl)
    (fun pre W => (∃ v, Holds W s #[v] ∧ W.ownsRow (s + 1) 37 2 v pre.length (flatP pre)) ∧ Below s w W)
    (fun c pre W => False)
    (OwnFrom.and (Own.from (own_ownP s (s + 1) 37 2 id) _) (ownFrom_below (by rw [hws.out]; omega) (by omega)))
    (fun c => fun _ _ _ _ h _ _ => h.elim)
    ⟨⟨_, g0, hR0⟩, hB0⟩
    (fun x a' W => ∃ Bx, s + 1 ≤ Bx ∧ Holds W Bx #[.int .i8 x.1, .int .i8 x.2] ∧ a' = { tmps := #[.slice none 0 0, .func (.func 148) #[] #[.pointer (some ⟨Bm, 0, none⟩)], .pointer (some ⟨s, 0, none⟩), undef, .slice none 0 0, .pointer (some ⟨Bx, 0, none⟩), .func (.func 148) #[] #[.pointer (some ⟨Bm, 0, none⟩)], .agg #[.int .i8 x.1, .int .i8 x.2], undef, undef, undef, undef, undef], defers := [] })
    (fun x a' => fun _ W W' row ⟨Bx, h1, h2, h3⟩ hg hr => ⟨Bx, h1, h2.grown hg (fun r e => (hr r e).2), h3⟩)
    ?assign ?body ?done ?stop
  case assign =>
    rintro l pre ⟨x, y⟩ W K' ⟨⟨v, i2, io⟩, iB⟩ hK
    have hlt := i2.lt
    simp only [ptA, cellV]
    gi_wp2
    exact hK _ _ ((KeepsOthers.alloc _ _).from _) (walks_of (KeepsOthers.alloc _ _)) ⟨⟨v, i2.alloc _, io.alloc _⟩, iB.alloc (by have := iB.size; rw [hws.out] at this; omega) _⟩ ⟨_, by omega, Holds.new _ _ _, rfl⟩
  case body =>
    rintro l pre ⟨x, y⟩ a' W hl ⟨r, hr⟩ ⟨⟨v, i2, io⟩, iB⟩ ⟨Bx, hBx, bX, rfl⟩ hlt
    dsimp only at *
    have IO := Lib.hid io
    obtain ⟨-, -, c2, z2, l2⟩ := i2.facts
    have cx : W.cell? ⟨Bx, 0, none⟩ = some (.int .i8 x) := bX.cell 0
    have cy : W.cell? ⟨Bx, 1, none⟩ = some (.int .i8 y) := bX.cell 1
    have lX := bX.lt
    have HPL := Lib.hid (show pre.length ≤ 100 by omega)
    clear hr hsz io g0 gm gM hB0 hlt hl hR0
    gi_wp2_with (gi_at_builtin; refine wpListIn_append_own_at _ rfl _ _ 45 rfl (s + 1) 37 ci (.agg #[.int .i8 0, .int .i8 0]) 2 2 Try.underlying45 HCI.out.1 HCI.out.2.1 HCI.out.2.2.1 HCI.out.2.2.2 rfl (by decide) _ _ _ rfl (IO.out.alloc _) ⟨W.heap.size, 0, none⟩ 1 1 [.int .i8 x, .int .i8 y] rfl rfl ?c1 ?c2 ?c3 ?c4 ?c5 ?_)
    case c1 =>
      intro m u hu
      match m, hu with
      | 0, hu => simp at hu; subst hu; exact (Holds.new W #[.int .i8 x, .int .i8 y] 37).cell 0
      | 1, hu => simp at hu; subst hu; exact (Holds.new W #[.int .i8 x, .int .i8 y] 37).cell 1
    case c2 => intro u hu; simp at hu; rcases hu with rfl | rfl <;> rfl
    case c3 => have := HPL.out; unfold maxLen; omega
    case c4 => have := HPL.out; omega
    case c5 => have := lX; simp; omega
    · intro v' w3 hown' hgrow _ hat
      have ho3 : w3.ownsRow (s + 1) 37 2 v' (pre ++ [(x, y)]).length (flatP (pre ++ [(x, y)])) := by
        rw [flatP_snoc, List.length_append]
        exact hown'
      have p2 := held_grown (i2.alloc (.cells #[.int .i8 x, .int .i8 y] 37)) (IO.out.alloc _) hgrow (by omega)
      have pB : Below s w w3 := by
        have hws' := hws.out
        have hsz' := iB.size
        refine (iB.alloc (by omega) _).grown hgrow (by simp; omega) fun k hk => ?_
        have := own_far IO.out k hk
        omega
      have pK : KeepsOthers W w3 := (KeepsOthers.alloc _ _).trans (own_others (IO.out.alloc _) hgrow)
      have HO3 := Lib.hid ho3
      obtain ⟨g', cap', rfl, -, -⟩ := own_form hown' (by omega)
      clear hown' hgrow ho3 hat IO i2 bX c2 z2 l2 cx cy lX iB
      obtain ⟨-, -, c2, z2, l2⟩ := p2.facts
      have hf3 := own_far HO3.out g' rfl
      gi_wp2_with fail
      exact ⟨(pK.trans (KeepsOthers.setCell _ _ _)).from _, walks_of (pK.trans (KeepsOthers.setCell _ _ _)),
        ⟨_, p2.setCell 0 _, HO3.out.kept (grownBy_setCell' w3 s _) (.inr (by simp [Value.ownBlock]; omega))⟩,
        pB.setCell (p := ⟨s, 0, none⟩) (by dsimp only; omega) _⟩
  case done =>
    rintro D ys W hD hp ⟨⟨v, i2, io⟩, iB⟩ hK
    obtain ⟨n, hn⟩ : ∃ n, ys.length = n := ⟨_, rfl⟩
    rw [hn] at io
    obtain ⟨a, c, rfl⟩ := own_slice io
    have IO := Lib.hid io
    obtain ⟨-, f1, c1, z1, l1⟩ := i2.facts
    have HP := Lib.hid hp
    have HN := Lib.hid hn
    clear io g0 gm gM hR0 hp hn
    gi_wp2
    refine ⟨by simp, .inl ⟨_, _, rfl, run_takeDeferred hK, ?_⟩⟩
    refine ⟨.slice a n c, ?_, ⟨⟨_, ys, rfl, HP.out, ?_⟩, ?_⟩⟩
    · simp [results, Try.f154, go_sem]
    · rw [hws.out, HN.out]
      refine ownsRow_low (B := s + 1) ?_ (by omega)
      refine World.ownsRow.kept IO.out (grownBy_putObj' _ D (.deferred none)) ?_
      rcases IO.out.2 with ⟨he, -⟩ | ⟨g, cap, cur, he, hb, hgg, -⟩
      · rw [he]; exact .inl rfl
      · rw [he]
        refine .inr fun hgD => ?_
        simp only [Value.ownBlock, Option.some.injEq] at hgD
        subst hgD
        rw [hgg] at hK
        cases hK
    · rw [hws.out]
      exact iB.trans (belowK_b (w := w) (by have := hws.out; omega) _ D _ _ (by have := hws.out; omega) hK rfl rfl)
  case stop =>
    rintro D c pre W hD hpre h hK
    exact h.elim
end Go.Proofs.Ytaeenkjbmlgcmaa
