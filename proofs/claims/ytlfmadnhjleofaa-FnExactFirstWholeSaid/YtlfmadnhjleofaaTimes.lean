/- How often a way comes to each cell of grass: maps counted up in place; the program's map; the model's grid. -/
import Derived.Test.YtlfmadnhjleofaaZF
import Derived.Test.YtlfmadnhjleofaaZG
import Derived.RegionTactic
import Derived.ChangeAlike
import Derived.Test.YtlfmadnhjleofaaZH
import Derived.Test.YtlfmadnhjleofaaZC
import Derived.Test.YtlfmadnhjleofaaZJ

namespace Go.Proofs.Ytlfmadnhjleofaa
open Go.RowKit
set_option linter.unusedVariables false
section
variable {κ ν : Type} [DecidableEq κ] {P : Program} {enc : κ → Value} {val : ν → Value} {t : TypeId}
/-- Block b is a map with the pairs of l, each stamped with its number. -/
def MapSt (w : World) (b : Nat) (enc : κ → Value) (val : ν → Value) (l : List (κ × ν)) : Prop := ∃ es clock, w.heap[b]? = some (.map es clock) ∧ (es.toList.map (fun e => (e.key, e.val)) = l.map fun p => (enc p.1, val p.2)) ∧ clock = es.size ∧ ∀ (i : Nat) e, es[i]? = some e → e.born = i
omit [DecidableEq κ] in
theorem MapSt.is {w : World} {b : Nat} {l : List (κ × ν)} (h : MapSt w b enc val l) : MapIs w b enc val l := by obtain ⟨es, c, h1, h2, -⟩ := h; exact ⟨es, c, h1, h2⟩
omit [DecidableEq κ] in
theorem MapSt.block {w w' : World} {b : Nat} {l : List (κ × ν)} (h : MapSt w b enc val l) (hb : w'.heap[b]? = w.heap[b]?) : MapSt w' b enc val l := by obtain ⟨es, c, h1, h2⟩ := h; exact ⟨es, c, hb.trans h1, h2⟩
omit [DecidableEq κ] in
theorem MapSt.lt {w : World} {b : Nat} {l : List (κ × ν)} (h : MapSt w b enc val l) : b < w.heap.size := h.is.lt
omit [DecidableEq κ] in
theorem MapSt.below {w w' : World} {B b : Nat} {l : List (κ × ν)} (h : MapSt w b enc val l) (hb : Below B w w') (hB : b < B) : MapSt w' b enc val l := h.block (hb.block b hB)
omit [DecidableEq κ] in
theorem MapSt.alloc {w : World} {b : Nat} {l : List (κ × ν)} (h : MapSt w b enc val l) (o : Obj) : MapSt (w.alloc o) b enc val l := h.block (Below.heap_alloc _ _ _ h.lt)
omit [DecidableEq κ] in
theorem MapSt.made (w : World) : MapSt (w.alloc (.map #[] 0)) w.heap.size enc val [] := ⟨#[], 0, heap_alloc_new w _, rfl, rfl, fun i e h => by simp at h⟩

theorem stamp_find {es : Array MapEntry} (h : ∀ (i : Nat) e, es[i]? = some e → e.born = i) {j : Nat} (hj : j < es.size) : es.findIdx? (fun e => (e.born : Int) == (j : Int)) = some j := by
  rw [Array.findIdx?_eq_some_iff_getElem]
  refine ⟨hj, ?_, fun i hi => ?_⟩
  · have := h j es[j] (Array.getElem?_eq_getElem hj)
    simp [this]
  · have := h i es[i] (Array.getElem?_eq_getElem (by omega))
    simp [this]
    omega

theorem MapSt.entry (K : KeyOk P t enc) {w : World} {b : Nat} {l : List (κ × ν)} (h : MapSt w b enc val l) (hl : l.length ≤ 1000) {T e : TypeId} (hT : P.underlying T = some (.map t e)) {z : ν} (hz : ∀ w, (zeroValue e).run P w = .ok (val z) w) (k : κ) :
    ∃ (o : Obj) (j : Nat), j ≤ 1000 ∧ (∀ w' : World, w'.heap[b]? = w.heap[b]? → (Instr.mapEntry T (.map (some b)) (enc k)).run P w' = .ok (.tuple #[val ((alLook l k).getD z), .int .i64 j]) (w'.putObj b o)) ∧
      (∀ w' : World, w'.heap[b]? = some o → MapSt w' b enc val (alPut l k ((alLook l k).getD z))) ∧
      ∀ u : ν, ∃ o', (∀ w' : World, w'.heap[b]? = some o → (Instr.entryStore T (.map (some b)) (.int .i64 j) (val u)).run P w' = .ok () (w'.putObj b o')) ∧ ∀ w' : World, w'.heap[b]? = some o' → MapSt w' b enc val (alPut l k u) := by
  have hlt := h.lt
  obtain ⟨es, c, hb, hes, rfl, hst⟩ := h
  have hn : es.size = l.length := by simpa using congrArg List.length hes
  have hget : ∀ (es : Array MapEntry) (c : Nat) (w' : World), w'.heap[b]? = some (.map es c) → (getObj b).run P w' = .ok (.map es c) w' := fun es c w' hb => by simp [getObj, Sem.run, hb]
  have hset : ∀ (es : Array MapEntry) (c : Nat) (o : Obj) (w' : World), w'.heap[b]? = some (.map es c) → (setObj b o).run P w' = .ok () (w'.putObj b o) := fun es c o w' hb => by simp [setObj, Sem.run, hb, World.putObj]
  have hf : ∀ w', (Instr.findKey t (enc k) es.toList).run P w' = _ := fun w' => run_findKey (P := P) K k es.toList l w' hes
  rcases alIdx_spec l k with ⟨h1, h2⟩ | ⟨j, u0, h1, h2, h3⟩
  · rw [h1] at hf
    simp only [Option.bind_none] at hf
    refine ⟨.map (es.push { key := enc k, val := val z, born := es.size }) (es.size + 1), es.size, by omega, fun w' hw => ?_, fun w' hw => ?_, fun u => ?_⟩
    · rw [hb] at hw
      unfold Instr.mapEntry
      simp [Sem.run_bind, run_underlying hT w', hget _ _ _ hw, K.chk, hf, hset _ _ _ _ hw, hz, h2, goInt]
    · refine ⟨_, _, hw, ?_, by simp, ?_⟩
      · rw [alPut_idx, h1, h2]
        simp [hes]
      · intro i e he
        rw [Array.getElem?_push] at he
        split at he
        · simp only [Option.some.injEq] at he; rw [← he]; exact (by omega : es.size = i)
        · exact hst i e he
    · refine ⟨.map ((es.push { key := enc k, val := val z, born := es.size }).modify es.size fun e => { e with val := val u }) (es.size + 1), fun w' hw => ?_, fun w' hw => ?_⟩
      · have hfi := stamp_find (es := es.push { key := enc k, val := val z, born := es.size }) (fun i e he => by
          rw [Array.getElem?_push] at he
          split at he
          · simp only [Option.some.injEq] at he; rw [← he]; exact (by omega : es.size = i)
          · exact hst i e he) (j := es.size) (by simp)
        unfold Instr.entryStore
        simp [Sem.run_bind, hget _ _ _ hw, asInt, asIntOf, hfi, hset _ _ _ _ hw]
      · refine ⟨_, _, hw, ?_, by simp, ?_⟩
        · rw [alPut_idx, h1]
          apply List.ext_getElem?
          intro i
          have hi : (es.toList.map fun e => (e.key, e.val))[i]? = (l.map fun p => (enc p.1, val p.2))[i]? := by rw [hes]
          simp only [List.getElem?_map, Array.getElem?_toList, Array.getElem?_modify, Array.getElem?_push, List.getElem?_append] at hi ⊢
          by_cases e : i = es.size
          · subst e
            simp [hn]
          · rw [if_neg (fun h => e h.symm), if_neg e]
            by_cases hlt2 : i < l.length
            · simpa [hlt2] using hi
            · have : ¬ i < es.size := by omega
              simp [hlt2, show ¬ i - l.length < 1 by omega]
              omega
        · intro i e he
          rw [Array.getElem?_modify, Array.getElem?_push] at he
          split at he
          · rename_i h0
            subst h0
            simp at he
            rw [← he]
          · split at he
            · omega
            · exact hst i e he
  · rw [h1] at hf
    have hj : (es.toList.map fun e => (e.key, e.val))[j]? = some (enc k, val u0) := by rw [hes, List.getElem?_map, h2]; rfl
    rw [List.getElem?_map] at hj
    obtain ⟨e0, he, hv⟩ := Option.map_eq_some_iff.1 hj
    simp only [Prod.mk.injEq] at hv
    have he2 : es[j]? = some e0 := by simpa using he
    have hjs : j < es.size := (Array.getElem?_eq_some_iff.1 he2).1
    simp only [Option.bind_some, he, Option.map_some, hv.2] at hf
    have same : es.toList.map (fun e => (e.key, e.val)) = (es.modify j fun e => { e with key := enc k }).toList.map (fun e => (e.key, e.val)) := by
      apply List.ext_getElem?
      intro i
      simp only [List.getElem?_map, Array.getElem?_toList, Array.getElem?_modify]
      by_cases e : j = i
      · subst e
        simp [he2, hv.1]
      · simp [e]
    have hst2 : ∀ (i : Nat) e, (es.modify j fun e => { e with key := enc k })[i]? = some e → e.born = i := fun i e he => by
      rw [Array.getElem?_modify] at he
      split at he
      · rename_i h0
        subst h0
        rw [he2] at he
        simp only [Option.map_some, Option.some.injEq] at he
        rw [← he]
        exact hst j e0 he2
      · exact hst i e he
    refine ⟨.map (es.modify j fun e => { e with key := enc k }) es.size, j, by omega, fun w' hw => ?_, fun w' hw => ?_, fun u => ?_⟩
    · rw [hb] at hw
      unfold Instr.mapEntry
      have hborn := hst j e0 he2
      simp [Sem.run_bind, run_underlying hT w', hget _ _ _ hw, K.chk, hf, hset _ _ _ _ hw, Instr.keyThatStays, he2, hv.1, K.bits, h3, goInt, hborn]
    · refine ⟨_, _, hw, ?_, by simp, hst2⟩
      rw [← same, hes, alPut_idx, h1, h3]
      apply List.ext_getElem?
      intro i
      simp only [List.getElem?_map, List.getElem?_modify]
      by_cases e : j = i
      · subst e
        simp [h2]
      · simp [e]
    · refine ⟨.map ((es.modify j fun e => { e with key := enc k }).modify j fun e => { e with val := val u }) es.size, fun w' hw => ?_, fun w' hw => ?_⟩
      · have hfi := stamp_find hst2 (j := j) (by simpa using hjs)
        unfold Instr.entryStore
        simp [Sem.run_bind, hget _ _ _ hw, asInt, asIntOf, hfi, hset _ _ _ _ hw]
      · refine ⟨_, _, hw, ?_, by simp, ?_⟩
        · rw [alPut_idx, h1]
          apply List.ext_getElem?
          intro i
          have hi : (es.toList.map fun e => (e.key, e.val))[i]? = (l.map fun p => (enc p.1, val p.2))[i]? := by rw [hes]
          simp only [List.getElem?_map, Array.getElem?_toList, List.getElem?_modify, Array.getElem?_modify] at hi ⊢
          by_cases e : j = i
          · subst e
            simp [he2, h2]
          · simp only [e, if_false]
            simpa using hi
        · intro i e he
          rw [Array.getElem?_modify] at he
          split at he
          · rename_i h0
            subst h0
            obtain ⟨e1, h4, h5⟩ := Option.map_eq_some_iff.1 he
            rw [← h5]
            exact hst2 j e1 h4
          · exact hst2 i e he
end
end Go.Proofs.Ytlfmadnhjleofaa

namespace Go.Proofs.Ytlfmadnhjleofaa
open Go.RowKit
set_option linter.unusedVariables false
attribute [local go_sem ↓] loadRow loadGrid loadLawn loadMirror storeRow storeGrid storeLawn allocRow allocGrid allocLawn buildZero buildSides

/-- The map of times, and the times, of the cells that a way comes to. -/
def timesM (L : Lawn) (cs : List Pt) : List (Pt × Int) := cs.foldl (fun m c => if grassP L c then alPut m c ((alLook m c).getD 0 + 1) else m) []
def timeN (L : Lawn) (cs : List Pt) (c : Pt) : Int := (alLook (timesM L cs) c).getD 0
theorem timesM_snoc (L : Lawn) (cs : List Pt) (a : Pt) : timesM L (cs ++ [a]) = if grassP L a then alPut (timesM L cs) a ((alLook (timesM L cs) a).getD 0 + 1) else timesM L cs := by simp [timesM, List.foldl_append]
theorem timeN_nil (L : Lawn) (c : Pt) : timeN L [] c = 0 := rfl
theorem timeN_snoc (L : Lawn) (cs : List Pt) (a c : Pt) : timeN L (cs ++ [a]) c = if grassP L a = true ∧ c = a then timeN L cs c + 1 else timeN L cs c := by
  unfold timeN
  rw [timesM_snoc]
  by_cases h : grassP L a = true
  · rw [if_pos h, alLook_put]
    by_cases e : c = a
    · subst e; simp [h]
    · simp [e]
  · simp [h]
theorem timeN_range (L : Lawn) (c : Pt) (cs : List Pt) : ∀ k, k ≤ cs.length → 0 ≤ timeN L (cs.take k) c ∧ timeN L (cs.take k) c ≤ k
  | 0, _ => by simp [timeN_nil]
  | k + 1, h => by
    have ih := timeN_range L c cs k (by omega)
    rw [List.take_add_one, List.getElem?_eq_getElem (by omega), Option.toList_some, timeN_snoc]
    split <;> omega
theorem timesM_length (L : Lawn) (cs : List Pt) : ∀ k, k ≤ cs.length → (timesM L (cs.take k)).length ≤ k
  | 0, _ => by simp [timesM]
  | k + 1, h => by
    have ih := timesM_length L cs k (by omega)
    rw [List.take_add_one, List.getElem?_eq_getElem (by omega), Option.toList_some, timesM_snoc]
    split
    · have := alPut_length_le (timesM L (cs.take k)) cs[k] ((alLook (timesM L (cs.take k)) cs[k]).getD 0 + 1)
      omega
    · omega

set_option maxRecDepth 100000 in
set_option maxHeartbeats 1000000 in
theorem times_any (L : Lawn) (hL : L.Fits) (x y : Int) (s : ByteArray) (hs : s.size ≤ maxLen) (n : Nat) (hn : Goes L x y s n) (w : World) :
    Calls Try.prog 110 #[.agg L.cells, .agg #[.int .i8 x, .int .i8 y], .string s] w fun e w' => (∃ v, e = .returned (.tuple #[v, .int .i64 (alongC L x y s n)]) ∧ (alongC L x y s n ≠ 0 → v = .map none) ∧ (alongC L x y s n = 0 → ∃ b, v = .map (some b) ∧ w.heap.size ≤ b ∧ MapIs w' b cellK valI (timesM L (cellsK (x, y) s.data.toList (s.size + 1))))) ∧ Below w.heap.size w w' := by
  have HA := Lib.hid (fun w => along_any L hL x y s hs n hn w)
  obtain ⟨c, hc⟩ : ∃ c, alongC L x y s n = c := ⟨_, rfl⟩
  have hsz : c = 0 → s.size ≤ 200 ∧ validB L = true := fun h => by
    have := alongC_zero (hc.trans h)
    exact ⟨wayC_le this.2.2.1, this.1⟩
  have HM := Lib.hid (show c = 0 → alongM L x y s n = s.size + 1 ∧ alongX L x y s n = flatP (cellsK (x, y) s.data.toList (s.size + 1)) from fun h => by
    unfold alongM alongX; rw [hc, if_pos h, if_pos h]; exact ⟨rfl, rfl⟩)
  rw [hc] at HA ⊢
  have HG := Lib.hid (fun hv => isGrass_any L hv hL)
  have hmk := fun w => run_makeMap (P := Try.prog) 138 w
  clear hc hn hs hL
  by_cases h0 : c = 0
  · obtain ⟨hS, hV⟩ := hsz h0
    have hM := HM.out h0
    subst h0
    have HG2 := Lib.hid (HG.out hV)
    have hnear : ∀ c, grassP L c = true → (0 ≤ c.1 ∧ c.1 < 10) ∧ 0 ≤ c.2 ∧ c.2 < 10 := grassP_near hV
    have hcl : (cellsK (x, y) s.data.toList (s.size + 1)).length = s.size + 1 := by simp [cellsK]
    obtain ⟨cs, hcs⟩ : ∃ cs, cellsK (x, y) s.data.toList (s.size + 1) = cs := ⟨_, rfl⟩
    rw [hcs] at hM hcl ⊢
    have HCL := Lib.hid hcl
    clear hcs hcl hV HM HG hnear
    go_enter Try.func110, Try.ntmps110
    obtain ⟨g0, c0, hb0⟩ := cell_new w L x y
    obtain ⟨-, -, d0, -, -⟩ := c0.facts
    go_wp2_with fail
    refine (HA.out _).mono ?_
    rintro e w1 ⟨⟨v, rfl, ho⟩, hb1⟩
    rw [hM.1, hM.2] at ho
    have hb2 := below_onto hb0 hb1
    have g1 := g0.below hb1 g0.lt
    have hs1 : w.heap.size + 1 + 1 ≤ w1.heap.size := by have := hb1.size; simpa using this
    have hbase : ((w.alloc (.cells L.cells 28)).alloc (.cells #[.int .i8 x, .int .i8 y] 35)).heap.size = w.heap.size + 1 + 1 := by simp
    rw [hbase] at ho
    obtain ⟨g, cap, rfl, hg0, hg1⟩ := own_form ho (by omega)
    have HO := Lib.hid (ho.alloc (.map #[] 0))
    have jM : MapSt (w1.alloc (.map #[] 0)) w1.heap.size cellK valI (timesM L (cs.take 0)) := MapSt.made w1
    have JM := Lib.hid jM
    have g2 := g1.alloc (.map #[] 0)
    have hb3 := hb2.alloc hb2.size (.map #[] 0)
    have hlt1 : w1.heap.size < (w1.alloc (.map #[] 0)).heap.size := by simp
    clear g0 c0 d0 hb0 hb1 hbase ho jM hM hb2 g1 HA
    go_wp2_with fail
    obtain ⟨W0, hW0⟩ : ∃ W0, w1.alloc (.map #[] 0) = W0 := ⟨_, rfl⟩
    rw [hW0] at HO JM g2 hb3 hlt1
    rw [hW0]
    obtain ⟨b, hbb⟩ : ∃ b, w1.heap.size = b := ⟨_, rfl⟩
    rw [hbb] at JM hlt1 hs1 hg1
    rw [hbb]
    clear hW0 hbb hmk
    go_loopw [26] (fun i wr => ∃ k : Nat, k ≤ s.size + 1 ∧ i = .int .i64 k ∧ wr.ownsRow (w.heap.size + 1 + 1) 35 2 (.slice (some ⟨g, 0, none⟩) (s.size + 1) cap) (s.size + 1) (flatP cs) ∧ MapSt wr b cellK valI (timesM L (cs.take k)) ∧ Holds wr w.heap.size L.cells ∧ Below w.heap.size w wr) (fun i _ => 300 - (intOf i).toNat)
    case atStart => exact ⟨0, Nat.zero_le _, rfl, HO.out, JM.out, g2, hb3⟩
    case round =>
      obtain ⟨k, hk, rfl, ho, hM, g3, hb⟩ := hrel
      have HO1 := Lib.hid ho
      have HM1 := Lib.hid hM
      clear ho hM HO JM g2 hb3
      by_cases hlt : k < s.size + 1
      · have hd : decide ((k : Int) < (s.size : Int) + 1) = true := by simp; omega
        obtain ⟨a, ha⟩ : ∃ a, cs[k]? = some a := ⟨_, List.getElem?_eq_getElem (by rw [HCL.out]; exact hlt)⟩
        obtain ⟨fa, fb⟩ := flatP_get _ _ _ ha
        have ca := own_cell HO1.out _ _ fa
        have cb := own_cell HO1.out _ _ fb
        have HTK := Lib.hid (show cs.take (k + 1) = cs.take k ++ [a] by rw [List.take_add_one, ha]; rfl)
        obtain ⟨px, py⟩ := a
        simp only at ca cb
        have n1 := Holds.new wr #[.int .i8 px, .int .i8 py] 35
        have g4 := g3.alloc (.cells #[.int .i8 px, .int .i8 py] 35)
        have HO2 := Lib.hid (HO1.out.alloc (.cells #[.int .i8 px, .int .i8 py] 35))
        have HM2 := Lib.hid (HM1.out.alloc (.cells #[.int .i8 px, .int .i8 py] 35))
        have hb4 := hb.alloc hb.size (.cells #[.int .i8 px, .int .i8 py] 35)
        have hbl := HM1.out.lt
        have hbz := hb.size
        obtain ⟨-, -, dN, -, -⟩ := n1.facts
        obtain ⟨r4, -, -, -, -⟩ := g4.facts
        clear fa fb ha
        go_wp2_with fail
        clear dN r4 ca cb
        refine (HG2.out px py _).mono ?_
        obtain ⟨gr, hgr⟩ : ∃ gr, grassB L px py = gr := ⟨_, rfl⟩
        rw [hgr]
        rintro e w2 ⟨rfl, hb5⟩
        have HGR := Lib.hid (show grassP L (px, py) = gr from hgr)
        have n2 := n1.below hb5 n1.lt
        have g5 := g4.below hb5 g4.lt
        have HO3 := Lib.hid (own_below HO2.out hb5)
        have HM3 := Lib.hid (HM2.out.below hb5 HM2.out.lt)
        have hb6 := below_onto hb4 hb5
        clear hgr n1 g4 hb4 hb5 HO2 HM2 HO1 HM1 hb g3
        obtain ⟨B, hB⟩ : ∃ B, wr.heap.size = B := ⟨_, rfl⟩
        rw [hB] at n2 hbl hbz ⊢
        clear hB
        cases gr
        case false =>
          have HT := Lib.hid (show timesM L (cs.take (k + 1)) = timesM L (cs.take k) by rw [HTK.out, timesM_snoc, if_neg (by rw [HGR.out]; decide)])
          go_wp2_with fail
          go_roundw
          case rel => exact ⟨k + 1, by omega, by go_num, HO3.out, by rw [HT.out]; exact HM3.out, g5, hb6⟩
          case measure => simp [intOf]; omega
        case true =>
          have hrg := timeN_range L (px, py) cs k (by rw [HCL.out]; omega)
          have hln := timesM_length L cs k (by rw [HCL.out]; omega)
          obtain ⟨o, j, hj, he1, he2, he3⟩ := HM3.out.entry cellKey (by omega) Try.underlying138 zero64 (px, py)
          obtain ⟨o', he4, he5⟩ := he3 (timeN L (cs.take k) (px, py) + 1)
          have hlk := fun (w' : World) (hw : w'.heap[b]? = w2.heap[b]?) => ((HM3.out.block hw).is.look cellKey Try.underlying138 zero64 (px, py)).1
          have hlk2 := fun (w' : World) (hw : w'.heap[b]? = some o) => ((he2 w' hw).is.look cellKey Try.underlying138 zero64 (px, py)).1
          simp only [cellK, cellV, valI, alLook_put, if_true, Option.getD_some] at he1 he4 hlk hlk2
          have hT : (alLook (timesM L (cs.take k)) (px, py)).getD 0 = timeN L (cs.take k) (px, py) := rfl
          rw [hT] at he1 hlk hlk2
          have hbM := HM3.out.lt
          have hpo : ∀ (w' : World), w'.heap.size = w2.heap.size → (w'.putObj b o).heap[b]? = some o := fun w' hw => by
            have h2 : b < w'.heap.size := by rw [hw]; exact hbM
            unfold World.putObj
            simp [h2]
          have f1 := hlk w2.drew rfl
          have f2 := he1 w2.drew rfl
          have f3 := hlk2 (w2.drew.putObj b o) (hpo _ rfl)
          have f4 := he4 (w2.drew.putObj b o) (hpo _ rfl)
          have HE5 := Lib.hid he5
          obtain ⟨-, sN⟩ := n2.later
          obtain ⟨-, -, dN, -, -⟩ := n2.facts
          clear hlk hlk2 he1 he4 he3 he2 hT he5 hpo
          obtain ⟨tt, htt⟩ : ∃ tt, timeN L (cs.take k) (px, py) = tt := ⟨_, rfl⟩
          rw [htt] at f1 f2 f3 f4 HE5 hrg
          have HTT := Lib.hid htt
          clear htt
          go_wp2_with fail
          go_region
          have hOn : Only [b] w2 ((w2.drew.putObj b o).putObj b o') := (((Only.refl [b] w2).drew).putT (by simp) o).putT (by simp) o'
          have HO5 := Lib.hid (hOn.own HO3.out (fun q hq => by simp [Value.ownBlock] at hq; simp; omega))
          have g6 := hOn.holds g5 (by simp; omega)
          have hb7 := hb6.trans (hOn.toBelow (B := w.heap.size) (by simp; omega) hb6.size)
          have hM7 := HE5.out ((w2.drew.putObj b o).putObj b o') (by
            have h2 : b < (w2.drew.putObj b o).heap.size := by simp [World.putObj]; exact hbM
            show ((w2.drew.putObj b o).heap.setIfInBounds b o')[b]? = some o'
            rw [Array.getElem?_setIfInBounds, if_pos rfl, if_pos h2])
          have HM7 := Lib.hid (show MapSt ((w2.drew.putObj b o).putObj b o') b cellK valI (timesM L (cs.take (k + 1))) by
            have e : (alLook (timesM L (cs.take k)) (px, py)).getD 0 = tt := HTT.out
            rw [HTK.out, timesM_snoc, if_pos HGR.out, e]
            exact hM7)
          clear hOn hM7 hb6 g5 HO3 HM3 n2 sN dN f1 f2 f3 f4 HE5
          go_wp2_with fail
          go_roundw
          case rel => exact ⟨k + 1, by omega, by go_num, HO5.out, HM7.out, g6, hb7⟩
          case measure => simp [intOf]; omega
      · have hd : decide ((k : Int) < (s.size : Int) + 1) = false := by simp; omega
        have HT := Lib.hid (show cs.take k = cs by rw [List.take_of_length_le (by rw [HCL.out]; omega)])
        go_wp2_with fail
        go_ret2
        exact ⟨⟨_, rfl, fun h => absurd rfl h, fun _ => ⟨b, rfl, by omega, by have := HM1.out.is; rwa [HT.out] at this⟩⟩, hb⟩
  · have hb1 : (c != 0) = true := by simpa [bne] using h0
    have H0 := Lib.hid h0
    clear hsz h0
    go_enter Try.func110, Try.ntmps110
    obtain ⟨g0, c0, hb0⟩ := cell_new w L x y
    obtain ⟨-, -, d0, -, -⟩ := c0.facts
    go_wp2_with fail
    refine (HA.out _).mono ?_
    rintro e w1 ⟨⟨v, rfl, ho⟩, hb2⟩
    have hb3 := below_onto hb0 hb2
    clear g0 c0 d0 hb0 hb2 ho
    go_wp2_with fail
    go_ret2
    exact ⟨⟨_, rfl, fun _ => rfl, fun h => absurd h H0.out⟩, hb3⟩
end Go.Proofs.Ytlfmadnhjleofaa

namespace Go.Proofs.Ytlfmadnhjleofaa
open Go.RowKit
set_option linter.unusedVariables false
attribute [local go_sem ↓] loadRow loadGrid loadLawn loadMirror storeRow storeGrid storeLawn allocRow allocGrid allocLawn buildZero buildSides loadG64 storeG64 allocG64 buildG64

/-- The times as a grid. -/
def timesG (L : Lawn) (cs : List Pt) (y x : Nat) : Int := timeN L cs ((x : Int), (y : Int))
theorem timesG_hit {L : Lawn} {cs : List Pt} {x y : Nat} (h : grassP L ((x : Int), (y : Int)) = true) : grid64 (timesG L (cs ++ [((x : Int), (y : Int))])) = grid64 (upd (timesG L cs) y x (timeN L cs ((x : Int), (y : Int)) + 1)) := by
  refine grid64_ext fun y' x' hy hx => ?_
  simp only [timesG, timeN_snoc, upd, h, true_and, Prod.mk.injEq]
  by_cases e : y' = y ∧ x' = x
  · obtain ⟨rfl, rfl⟩ := e
    simp
  · rw [if_neg e, if_neg (fun h => e ⟨by omega, by omega⟩)]
theorem timesG_miss {L : Lawn} {cs : List Pt} {a : Pt} (h : grassP L a = false) : timesG L (cs ++ [a]) = timesG L cs := by
  funext y x
  simp [timesG, timeN_snoc, h]

set_option maxRecDepth 100000 in
set_option maxHeartbeats 2000000 in
theorem l02Times_any (L : Lawn) (hL : L.Fits) (hV : validB L = true) (b g cap N : Nat) (cs : List Pt) (hN : cs.length = N) (hN2 : N ≤ 201) (hop : ∀ c ∈ cs, openP L c = true) (B : Nat) (w : World) (h : Holds w b L.cells)
    (ho : w.ownsRow B 35 2 (.slice (some ⟨g, 0, none⟩) N cap) N (flatP cs)) :
    Calls Try.prog 111 #[.pointer (some ⟨b, 0, none⟩), .slice (some ⟨g, 0, none⟩) N cap] w fun e w' => e = .returned (.agg (grid64 (timesG L cs))) ∧ Below w.heap.size w w' := by
  have HL := Lib.hid hL
  have HV := Lib.hid hV
  have HN := Lib.hid hN
  have HP := Lib.hid hop
  have hgl := (own_lt ho).2
  have hbw := h.lt
  have H0 := Lib.hid h
  have HO0 := Lib.hid ho
  clear hL hV hN hop h ho
  go_enter Try.func111, Try.ntmps111
  go_wp2_with fail
  obtain ⟨s, hs⟩ : ∃ s, w.heap.size = s := ⟨_, rfl⟩
  obtain ⟨W0, hW0⟩ : ∃ W0, (w.alloc (.cells (grid64 fun _ _ => 0) 142)).alloc (.cells (grid64 fun _ _ => 0) 142) = W0 := ⟨_, rfl⟩
  have hl0 : Holds W0 b L.cells := by rw [← hW0]; exact (H0.out.alloc _).alloc _
  have hr0 : Holds W0 s (grid64 fun _ _ => 0) := by rw [← hW0]; exact (Holds.new' _ _ _ _ hs.symm).alloc _
  have hg0 : Holds W0 (s + 1) (grid64 (timesG L (cs.take 0))) := by rw [← hW0]; exact Holds.new' _ _ _ _ (by simp; omega)
  have HO1 : W0.ownsRow B 35 2 (.slice (some ⟨g, 0, none⟩) N cap) N (flatP cs) := by rw [← hW0]; exact (HO0.out.alloc _).alloc _
  have hB0 : Below s w W0 := by rw [← hW0]; exact ((Below.refl s w).alloc (by omega) _).alloc (by simp; omega) _
  rw [hW0]
  have HSz := Lib.hid hs
  rw [hs] at hbw hgl ⊢
  have HOW := Lib.hid HO1
  clear hW0 hs H0 HO0 HO1
  go_loopw [6] (fun i wr => ∃ k : Nat, k ≤ N ∧ i = .int .i64 k ∧ Holds wr (s + 1) (grid64 (timesG L (cs.take k))) ∧ Only [s + 1] W0 wr) (fun i _ => 300 - (intOf i).toNat)
  case atStart => exact ⟨0, Nat.zero_le _, rfl, hg0, Only.refl _ _⟩
  case round =>
    obtain ⟨k, hk, rfl, hgk, hO⟩ := hrel
    have hlk := hO.holds hl0 (by simp; omega)
    have HO1 := Lib.hid (hO.own HOW.out (fun q hq => by simp [Value.ownBlock] at hq; simp; omega))
    by_cases hlt : k < N
    · have hd : decide ((k : Int) < (N : Int)) = true := by simp; omega
      obtain ⟨a, ha⟩ : ∃ a, cs[k]? = some a := ⟨_, List.getElem?_eq_getElem (by rw [HN.out]; exact hlt)⟩
      have hopa := HP.out a (List.mem_of_getElem? ha)
      obtain ⟨⟨x0, x1⟩, y0, y1⟩ := openP_near HV.out a hopa
      obtain ⟨fa, fb⟩ := flatP_get _ _ _ ha
      have ca := own_cell HO1.out _ _ fa
      have cb := own_cell HO1.out _ _ fb
      have HTK := Lib.hid (show cs.take (k + 1) = cs.take k ++ [a] by rw [List.take_add_one, ha]; rfl)
      obtain ⟨px, py⟩ := a
      simp only at ca cb x0 x1 y0 y1
      obtain ⟨xn, rfl⟩ : ∃ xn : Nat, px = xn := ⟨px.toNat, by omega⟩
      obtain ⟨yn, rfl⟩ : ∃ yn : Nat, py = yn := ⟨py.toNat, by omega⟩
      have hxn : xn < 10 := by omega
      have hyn : yn < 10 := by omega
      have HGR := Lib.hid (show grassP L ((xn : Int), (yn : Int)) = (L.kind yn xn == 0) by
        have : isB L (xn : Int) (yn : Int) = true := by
          simp only [openP, openB, Bool.and_eq_true] at hopa
          exact hopa.1
        simp [grassP, grassB, this])
      have hHO := hO
      have HOn := Lib.hid hO
      clear ha hopa hO hHO
      go_wp2_with fail
      refine (at_any L HL.out b xn yn hxn hyn _ hlk).mono ?_
      obtain ⟨kd, hkd⟩ : ∃ kd, L.kind yn xn = kd := ⟨_, rfl⟩
      rw [hkd]
      have HKD := Lib.hid (hkd ▸ HGR.out)
      rintro e w2 ⟨rfl, hb5⟩
      have g5 := hgk.below hb5 hgk.lt
      have HO2 := Lib.hid (HOn.out.onto hb5)
      have HOW2 := Lib.hid (own_below HO1.out hb5)
      clear hkd hgk hlk hb5 HOn HO1 ca cb
      by_cases h0 : kd = 0
      · have HG := Lib.hid (show grassP L ((xn : Int), (yn : Int)) = true by rw [HKD.out, h0]; rfl)
        have h0b : (kd == 0) = true := by simpa using h0
        have hrg := timeN_range L ((xn : Int), (yn : Int)) cs k (by rw [HN.out]; omega)
        have hgc := grid64_get (timesG L (cs.take k)) yn xn hyn hxn
        have htg : timesG L (cs.take k) yn xn = timeN L (cs.take k) ((xn : Int), (yn : Int)) := rfl
        rw [htg] at hgc
        obtain ⟨tt, htt⟩ : ∃ tt, timeN L (cs.take k) ((xn : Int), (yn : Int)) = tt := ⟨_, rfl⟩
        rw [htt] at hgc hrg
        have HTT := Lib.hid htt
        have HFA := Lib.hid (show ∀ w' : World, Below w2.heap.size w2 w' → w'.cell? ⟨g, k * 2, none⟩ = some (.int .i8 (xn : Int)) ∧ w'.cell? ⟨g, k * 2 + 1, none⟩ = some (.int .i8 (yn : Int)) from fun w' hw => ⟨own_cell (own_below HOW2.out hw) _ _ fa, own_cell (own_below HOW2.out hw) _ _ fb⟩)
        have hx0 : (0 : Int) ≤ xn := by omega
        have hx1 : (xn : Int) < 10 := by omega
        have hy0 : (0 : Int) ≤ yn := by omega
        have hy1 : (yn : Int) < 10 := by omega
        obtain ⟨-, gL⟩ := g5.later
        clear h0 htt htg fa fb x0 x1 y0 y1
        go_wp2_with fail
        refine wp_region_grow 16 (by kernel_rfl) (by kernel_rfl) ?_
        simp only [List.take_succ_cons, List.take_zero, List.drop_succ_cons, List.drop_zero]
        iterate 16
          apply wpGrow_plain rfl
          · intro w' hw' K hK
            obtain ⟨q1, q2⟩ := HFA.out _ hw'
            have q3 := gL _ hw'
            go_wp2_with fail
            exact hK _ _ rfl hw'
          simp only [Act.put, List.setIfInBounds_toArray, List.set_cons_succ, List.set_cons_zero]
        refine wpGrow_nil ?_
        intro W2 hW2
        have g6 := g5.below hW2 g5.lt
        have HO3 := Lib.hid (HO2.out.onto hW2)
        obtain ⟨-, -, c6, f6, l6⟩ := g6.facts
        have g7 := g6.setCell (yn * 10 + xn) (.int .i64 (tt + 1))
        rw [grid64_set _ _ _ _ hyn hxn] at g7
        have HG7 := Lib.hid (show Holds (W2.setCell ⟨s + 1, yn * 10 + xn, none⟩ (.int .i64 (tt + 1))) (s + 1) (grid64 (timesG L (cs.take (k + 1)))) by
          rw [HTK.out, timesG_hit HG.out, HTT.out]; exact g7)
        clear hW2 gL g5 g7
        go_wp2_with fail
        go_roundw
        case rel => exact ⟨k + 1, by omega, by go_num, HG7.out, HO3.out.setCell (a := ⟨s + 1, yn * 10 + xn, none⟩) (.inl (by simp)) _⟩
        case measure => simp [intOf]; omega
      · have HG := Lib.hid (show grassP L ((xn : Int), (yn : Int)) = false by rw [HKD.out]; simpa using h0)
        have h0b : (kd == 0) = false := by simpa using h0
        have HT := Lib.hid (show timesG L (cs.take (k + 1)) = timesG L (cs.take k) by rw [HTK.out, timesG_miss HG.out])
        clear h0
        go_wp2_with fail
        go_roundw
        case rel => exact ⟨k + 1, by omega, by go_num, by rw [HT.out]; exact g5, HO2.out⟩
        case measure => simp [intOf]; omega
    · have hd : decide ((k : Int) < (N : Int)) = false := by simp; omega
      rw [show cs.take k = cs by rw [List.take_of_length_le (by rw [HN.out]; omega)]] at hgk
      have hr1 := hO.holds hr0 (by simp <;> omega)
      have hB1 : Below s w _ := hB0.trans (hO.toBelow (by simp <;> omega) (by have := hr0.lt; omega))
      obtain ⟨r1, f1, -, -, l1⟩ := hgk.facts
      obtain ⟨r2, f2, -, -, l2⟩ := hr1.facts
      have HE := Lib.hid (hr1.setRow (grid64 (timesG L cs)))
      have HB4 := Lib.hid (below_setRow' hB1 (show s ≤ s by omega) (grid64 (timesG L cs)))
      clear hr1 hgk hB1
      go_wp2_with fail
      exact bodyPost_ret (results_cell_holds (n := 100) rfl wideG64 _ rfl HE.out (by simp)) rfl ⟨rfl, HSz.out ▸ HB4.out⟩
end Go.Proofs.Ytlfmadnhjleofaa
