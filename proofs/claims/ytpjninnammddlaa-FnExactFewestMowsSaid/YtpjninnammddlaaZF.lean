/- Maps with keys of any type whose equality is known: what a map's block says as a list of pairs, and what looking up, storing and counting do. Cells and lawns as keys of maps. A search by steps, as both sides go: one list of found cells with their steps, in the order in which they were found. A round of the search, side by side. -/
import Derived.Test.YtpjninnammddlaaZB
import Derived.Carry
import Derived.Test.YtpjninnammddlaaZA
import Derived.DeepKeys3
namespace Go.Proofs.Ytpjninnammddlaa
open Go.RowKit
set_option linter.unusedVariables false

section
variable {κ ν : Type} {enc : κ → Value} {val : ν → Value}
/-- Block b is a map with the pairs of l, each stamped with its number. -/
def MapIs (w : World) (b : Nat) (enc : κ → Value) (val : ν → Value) (l : List (κ × ν)) : Prop := ∃ es clock, w.heap[b]? = some (.map es clock) ∧ (es.toList.map (fun e => (e.key, e.val)) = l.map fun p => (enc p.1, val p.2)) ∧ clock = es.size ∧ ∀ (i : Nat) e, es[i]? = some e → e.born = i
theorem MapIs.lt {w : World} {b : Nat} {l : List (κ × ν)} (h : MapIs w b enc val l) : b < w.heap.size := by obtain ⟨es, c, h, -⟩ := h; exact (Array.getElem?_eq_some_iff.1 h).1
theorem MapIs.block {w w' : World} {b : Nat} {l : List (κ × ν)} (h : MapIs w b enc val l) (hb : w'.heap[b]? = w.heap[b]?) : MapIs w' b enc val l := by obtain ⟨es, c, h1, h2⟩ := h; exact ⟨es, c, hb.trans h1, h2⟩
theorem MapIs.below {w w' : World} {B b : Nat} {l : List (κ × ν)} (h : MapIs w b enc val l) (hb : Below B w w') (hB : b < B) : MapIs w' b enc val l := h.block (hb.block b hB)
theorem MapIs.alloc {w : World} {b : Nat} {l : List (κ × ν)} (h : MapIs w b enc val l) (o : Obj) : MapIs (w.alloc o) b enc val l := h.block (Below.heap_alloc _ _ _ h.lt)
theorem MapIs.made (w : World) : MapIs (w.alloc (.map #[] 0)) w.heap.size enc val [] := ⟨#[], 0, heap_alloc_new w _, rfl, rfl, fun i e h => by simp at h⟩
theorem MapIs.setCell {w : World} {b : Nat} {l : List (κ × ν)} (h : MapIs w b enc val l) (a : Addr) (v : Value) (hne : b ≠ a.block) : MapIs (w.setCell a v) b enc val l := h.block (Below.heap_setCell w a v b hne)
end

section
variable {κ ν : Type} [DecidableEq κ] {P : Program}

def alLook : List (κ × ν) → κ → Option ν
  | [], _ => none
  | (a, u) :: l, k => if k = a then some u else alLook l k
def alPut : List (κ × ν) → κ → ν → List (κ × ν)
  | [], k, v => [(k, v)]
  | (a, u) :: l, k, v => if k = a then (k, v) :: l else (a, u) :: alPut l k v
def alIdx : List (κ × ν) → κ → Option Nat
  | [], _ => none
  | (a, u) :: l, k => if k = a then some 0 else (alIdx l k).map (· + 1)
theorem alLook_put (l : List (κ × ν)) (k k' : κ) (v : ν) : alLook (alPut l k v) k' = if k' = k then some v else alLook l k' := by
  induction l with
  | nil => rfl
  | cons p l ih =>
    obtain ⟨a, u⟩ := p
    simp only [alPut]
    by_cases h : k = a
    · subst h
      simp only [if_true, alLook]
      by_cases h2 : k' = k <;> simp [h2]
    · simp only [h, if_false, alLook, ih]
      by_cases h2 : k' = a
      · subst h2; simp [Ne.symm h]
      · simp [h2]
theorem alPut_length_le (l : List (κ × ν)) (k : κ) (v : ν) : (alPut l k v).length ≤ l.length + 1 := by
  induction l with
  | nil => simp [alPut]
  | cons p l ih =>
    obtain ⟨a, u⟩ := p
    simp only [alPut]
    split
    · simp
    · simp; omega

/-- What is asked of a key's type. -/
structure KeyOk (P : Program) (t : TypeId) (enc : κ → Value) : Prop where
  agg : ∃ d, P.underlying t = some d ∧ (∀ k, d ≠ .int k) ∧ d ≠ .string ∧ d ≠ .bool
  chk : ∀ (e : Bool) (x : κ) (w : World), (Instr.checkKey e 10000 t (enc x)).run P w = .ok () w
  eql : ∀ (x y : κ) (w : World), (Op.equal t (enc x) (enc y)).run P w = .ok (decide (x = y)) w
  bits : ∀ x : κ, Instr.sameBits 10000 (enc x) (enc x) = true

variable {enc : κ → Value} {val : ν → Value} {t : TypeId}
theorem run_findKey (K : KeyOk P t enc) (k : κ) (es : List MapEntry) (l : List (κ × ν)) (w : World) (h : es.map (fun e => (e.key, e.val)) = l.map fun p => (enc p.1, val p.2)) :
    (Instr.findKey t (enc k) es).run P w = .ok ((alIdx l k).bind fun j => (es[j]?).map fun e => (j, e.val)) w := by
  have key : ∀ (es : List MapEntry) (l : List (κ × ν)) (i : Nat), es.map (fun e => (e.key, e.val)) = l.map (fun p => (enc p.1, val p.2)) →
      (Instr.findAsking t (enc k) es i).run P w = .ok ((alIdx l k).bind fun j => (es[j]?).map fun e => (i + j, e.val)) w := by
    intro es
    induction es with
    | nil => intro l i h; cases l with
      | nil => rfl
      | cons p l => simp at h
    | cons e es ih =>
      intro l i h
      cases l with
      | nil => simp at h
      | cons p l =>
        obtain ⟨a, u⟩ := p
        simp only [List.map_cons, List.cons.injEq, Prod.mk.injEq] at h
        obtain ⟨⟨h1, h2⟩, h3⟩ := h
        unfold Instr.findAsking
        rw [Sem.run_bind, h1, K.eql, Result.andThen_ok]
        by_cases e : k = a
        · subst e; simp [alIdx, h2]
        · simp only [e, decide_false, Bool.false_eq_true, if_false]
          rw [ih l (i + 1) h3]
          simp only [alIdx, e, if_false]
          cases alIdx l k with
          | none => rfl
          | some j => simp [Nat.add_comm, Nat.add_left_comm]
  obtain ⟨d, hd, hd1, hd2, hd3⟩ := K.agg
  unfold Instr.findKey
  rw [Sem.run_bind, run_underlying hd w, Result.andThen_ok]
  have hnow : ∀ (e : MapEntry) (r : List MapEntry) (i : Nat), Instr.findNow d (enc k) (e :: r) i = none := by
    intro e r i
    have : Instr.sameNow d (enc k) e.key = none := by
      unfold Instr.sameNow
      split
      · exact absurd rfl (hd1 _)
      · exact absurd rfl hd2
      · exact absurd rfl hd3
      · rfl
    simp [Instr.findNow, this]
  cases es with
  | nil =>
    cases l with
    | nil => rfl
    | cons p l => simp at h
  | cons e r =>
    rw [hnow]
    have := key (e :: r) l 0 h
    simpa using this

theorem alIdx_spec (l : List (κ × ν)) (k : κ) : (alIdx l k = none ∧ alLook l k = none) ∨ ∃ j u, alIdx l k = some j ∧ l[j]? = some (k, u) ∧ alLook l k = some u := by
  induction l with
  | nil => exact .inl ⟨rfl, rfl⟩
  | cons p l ih =>
    obtain ⟨a, u⟩ := p
    by_cases h : k = a
    · subst h; exact .inr ⟨0, u, by simp [alIdx], rfl, by simp [alLook]⟩
    · rcases ih with ⟨h1, h2⟩ | ⟨j, v, h1, h2, h3⟩
      · exact .inl ⟨by simp [alIdx, h, h1], by simp [alLook, h, h2]⟩
      · exact .inr ⟨j + 1, v, by simp [alIdx, h, h1], by simpa using h2, by simp [alLook, h, h3]⟩

theorem MapIs.look (K : KeyOk P t enc) {w : World} {b : Nat} {l : List (κ × ν)} (h : MapIs w b enc val l) {T e : TypeId} (hT : P.underlying T = some (.map t e)) {z : ν} (hz : ∀ w, (zeroValue e).run P w = .ok (val z) w) (k : κ) :
    (Instr.lookup T (.map (some b)) (enc k) false).run P w = .ok (val ((alLook l k).getD z)) w ∧
    (Instr.lookup T (.map (some b)) (enc k) true).run P w = .ok (.tuple #[val ((alLook l k).getD z), .bool (alLook l k).isSome]) w := by
  obtain ⟨es, c, hb, hes, -⟩ := h
  have hg : (getObj b).run P w = .ok (.map es c) w := by simp [getObj, Sem.run, hb]
  have hf := run_findKey (P := P) K k es.toList l w hes
  rcases alIdx_spec l k with ⟨h1, h2⟩ | ⟨j, u, h1, h2, h3⟩
  · rw [h1] at hf
    simp only [Option.bind_none] at hf
    constructor
    all_goals
      unfold Instr.lookup
      simp [Sem.run_bind, run_underlying hT w, hg, K.chk, hf, hz, h2]
  · rw [h1] at hf
    have hj : (es.toList.map fun e => (e.key, e.val))[j]? = some (enc k, val u) := by rw [hes, List.getElem?_map, h2]; rfl
    rw [List.getElem?_map] at hj
    obtain ⟨e0, he, hv⟩ := Option.map_eq_some_iff.1 hj
    simp only [Prod.mk.injEq] at hv
    rw [Option.bind_some, he] at hf
    simp only [Option.map_some, hv.2] at hf
    constructor
    all_goals
      unfold Instr.lookup
      simp [Sem.run_bind, run_underlying hT w, hg, K.chk, hf, h3]

theorem alPut_idx (l : List (κ × ν)) (k : κ) (v : ν) : alPut l k v = match alIdx l k with | some j => l.modify j (fun _ => (k, v)) | none => l ++ [(k, v)] := by
  induction l with
  | nil => rfl
  | cons p l ih =>
    obtain ⟨a, u⟩ := p
    simp only [alPut, alIdx]
    by_cases h : k = a
    · simp [h]
    · simp only [h, if_false, ih]
      cases alIdx l k with
      | none => rfl
      | some j => simp

theorem MapIs.put (K : KeyOk P t enc) {w : World} {b : Nat} {l : List (κ × ν)} (h : MapIs w b enc val l) {T e : TypeId} (hT : P.underlying T = some (.map t e)) (k : κ) (v : ν) :
    ∃ o, (Instr.mapUpdate T (.map (some b)) (enc k) (val v)).run P w = .ok () (w.putObj b o) ∧ MapIs (w.putObj b o) b enc val (alPut l k v) := by
  have hlt := h.lt
  obtain ⟨es, c, hb, hes, hc, hst⟩ := h
  have hg : (getObj b).run P w = .ok (.map es c) w := by simp [getObj, Sem.run, hb]
  have hset : ∀ o, (setObj b o).run P w = .ok () (w.putObj b o) := fun o => by simp [setObj, Sem.run, hb, World.putObj]
  have hput : ∀ o, (w.putObj b o).heap[b]? = some o := fun o => by
    unfold World.putObj
    simp [hlt]
  have hf := run_findKey (P := P) K k es.toList l w hes
  rcases alIdx_spec l k with ⟨h1, h2⟩ | ⟨j, u, h1, h2, h3⟩
  · rw [h1] at hf
    simp only [Option.bind_none] at hf
    refine ⟨.map (es.push { key := enc k, val := val v, born := c }) (c + 1), ?_, ?_⟩
    · unfold Instr.mapUpdate
      simp [Sem.run_bind, run_underlying hT w, hg, K.chk, hf, hset]
    · refine ⟨_, _, hput _, ?_, by simp [hc], fun i e he => ?_⟩
      · rw [alPut_idx, h1]
        simp [hes]
      · rw [Array.getElem?_push] at he
        split at he
        · simp only [Option.some.injEq] at he; rw [← he]; exact (by omega : c = i)
        · exact hst i e he
  · rw [h1] at hf
    have hj : (es.toList.map fun e => (e.key, e.val))[j]? = some (enc k, val u) := by rw [hes, List.getElem?_map, h2]; rfl
    rw [List.getElem?_map] at hj
    obtain ⟨e0, he, hv⟩ := Option.map_eq_some_iff.1 hj
    simp only [Prod.mk.injEq] at hv
    rw [Option.bind_some, he] at hf
    simp only [Option.map_some, hv.2] at hf
    have he2 : es[j]? = some e0 := by simpa using he
    refine ⟨.map (es.modify j fun e => { e with key := enc k, val := val v }) c, ?_, ?_⟩
    · unfold Instr.mapUpdate
      simp [Sem.run_bind, run_underlying hT w, hg, K.chk, hf, Instr.keyThatStays, he2, hv.1, K.bits, hset]
    · refine ⟨_, _, hput _, ?_, by simp [hc], fun i e he => ?_⟩
      rotate_left
      · rw [Array.getElem?_modify] at he
        split at he
        · obtain ⟨e1, he1, rfl⟩ := Option.map_eq_some_iff.1 he
          exact hst i e1 he1
        · exact hst i e he
      rw [alPut_idx, h1]
      apply List.ext_getElem?
      intro i
      have hi : (es.toList.map fun e => (e.key, e.val))[i]? = (l.map fun p => (enc p.1, val p.2))[i]? := by rw [hes]
      simp only [List.getElem?_map, Array.getElem?_toList, List.getElem?_modify, Array.getElem?_modify] at hi ⊢
      by_cases e : j = i
      · subst e
        simp [he2, h2]
      · simp only [e, if_false]
        simpa using hi
end
end Go.Proofs.Ytpjninnammddlaa

namespace Go.Proofs.Ytpjninnammddlaa
open Go.RowKit
set_option linter.unusedVariables false

section
variable {P : Program}
theorem check_int {t : TypeId} {q k : IntKind} (ht : P.underlying t = some (.int q)) (e : Bool) (d : Nat) (a : Int) (w : World) : (Instr.checkKey e (d + 1) t (.int k a)).run P w = .ok () w := by
  unfold Instr.checkKey
  rw [Sem.run_bind, run_underlying ht w, Result.andThen_ok]
  rfl
theorem check_array {t el : TypeId} {n : Nat} {i : TypeInfo} (ht : P.underlying t = some (.array n el)) (hi : P.info? el = some i) (e : Bool) (d : Nat) (cs : Array Value) (w : World)
    (h : ∀ j, j < n → ∃ v, (part el cs (j * P.cellsOf el)).run P w = .ok v w ∧ (Instr.checkKey e d el v).run P w = .ok () w) : (Instr.checkKey e (d + 1) t (.agg cs)).run P w = .ok () w := by
  rw [Instr.checkKey]
  simp only [Sem.run_bind, run_underlying ht, Result.andThen_ok]
  simp only [Std.Legacy.Range.forIn_eq_forIn_range', Std.Legacy.Range.size, Nat.sub_zero, Nat.add_one_sub_one, Nat.div_one]
  have each : ∀ j ∈ List.range' 0 n, j < n := fun j hj => by
    simp only [List.mem_range'] at hj; omega
  generalize List.range' 0 n = is at each
  induction is with
  | nil => simp
  | cons j is ih =>
    obtain ⟨v, p1, p2⟩ := h j (each j (by simp))
    simp only [List.forIn_cons, Sem.run_bind, run_sizeOf w hi, Result.andThen_ok, p1, p2, Sem.run_pure]
    exact ih (fun y hy => each y (by simp [hy]))
theorem check_struct {t : TypeId} {fs : Array Field} (ht : P.underlying t = some (.struct fs)) (e : Bool) (d : Nat) (cs : Array Value) (w : World)
    (h : ∀ f ∈ fs.toList, f.name ≠ "_" ∧ ∃ v, (part f.type cs f.offset).run P w = .ok v w ∧ (Instr.checkKey e d f.type v).run P w = .ok () w) : (Instr.checkKey e (d + 1) t (.agg cs)).run P w = .ok () w := by
  rw [Instr.checkKey]
  simp only [Sem.run_bind, run_underlying ht, Result.andThen_ok]
  rw [← Array.forIn_toList]
  generalize fs.toList = L at h
  induction L with
  | nil => simp
  | cons f L ih =>
    obtain ⟨hn, v, p1, p2⟩ := h f (by simp)
    simp only [List.forIn_cons, Sem.run_bind, hn, ne_eq, not_false_eq_true, if_true, Result.andThen_ok, p1, p2, Sem.run_pure]
    exact ih (fun y hy => h y (by simp [hy]))

theorem equal_cell_of {t : TypeId} {fs : Array Field} {f0 f1 : Field} (ht : P.underlying t = some (.struct fs)) (hfs : fs.toList = [f0, f1]) (hheld : P.stoodInHeld t = false)
    (n0 : f0.name ≠ "_") (n1 : f1.name ≠ "_") (t0 : P.underlying f0.type = some (.int .i8)) (t1 : P.underlying f1.type = some (.int .i8)) (o0 : f0.offset = 0) (o1 : f1.offset = 1)
    (d : Nat) (a b : Int × Int) (w : World) : (Op.equalIn (d + 2) t (cellV a.1 a.2) (cellV b.1 b.2)).run P w = .ok (decide (a = b)) w := by
  have hf : P.fieldsOf t = fs := by simp [Program.fieldsOf, ht]
  unfold cellV
  rw [show d + 2 = (d + 1) + 1 from rfl, run_equalIn_struct w (d + 1) t _ _ (by rw [hf]; exact ht) hheld, hf, hfs]
  have p0 : ∀ c : Int × Int, (part f0.type #[.int .i8 c.1, .int .i8 c.2] f0.offset).run P w = .ok (.int .i8 c.1) w := fun c => run_part_one w t0 _ _ _ (by rw [o0]; rfl)
  have p1 : ∀ c : Int × Int, (part f1.type #[.int .i8 c.1, .int .i8 c.2] f1.offset).run P w = .ok (.int .i8 c.2) w := fun c => run_part_one w t1 _ _ _ (by rw [o1]; rfl)
  have e0 : (Op.equalIn (d + 1) f0.type (.int .i8 a.1) (.int .i8 b.1)).run P w = _ := run_equalIn_int w d f0.type .i8 .i8 a.1 b.1 t0
  have e1 : (Op.equalIn (d + 1) f1.type (.int .i8 a.2) (.int .i8 b.2)).run P w = _ := run_equalIn_int w d f1.type .i8 .i8 a.2 b.2 t1
  have hd : decide (a = b) = ((a.1 == b.1) && (a.2 == b.2)) := by
    rw [Bool.eq_iff_iff]; simp [Prod.ext_iff]
  rw [hd]
  cases h0 : (a.1 == b.1)
  · simp [Op.eqFields, n0, p0, e0, h0]
  · cases h1 : (a.2 == b.2) <;> simp [Op.eqFields, n0, n1, p0, e0, h0, p1, e1, h1]
end

/-- Cells are keys. -/
def cellK (c : Int × Int) : Value := cellV c.1 c.2

theorem lawnEq_refl (A : Lawn) : lawnEq A A = true := by
  have : gridEq A.kind A.kind = true := gridEq_of fun _ _ _ _ => rfl
  simp [lawnEq, this]
theorem lawnEq_comm (A B : Lawn) : lawnEq A B = lawnEq B A := by
  have h : ∀ A B, lawnEq A B = true → lawnEq B A = true := fun A B h => by
    simp only [lawnEq, Bool.and_eq_true, beq_iff_eq] at h ⊢
    obtain ⟨h1, h2, h3⟩ := h
    exact ⟨h1.symm, h2.symm, gridEq_of fun y x hy hx => (gridEq_true h3 y x hy hx).symm⟩
  rw [Bool.eq_iff_iff]
  exact ⟨h A B, h B A⟩
theorem lawnEq_cells {A B : Lawn} (h : lawnEq A B = true) : A.cells = B.cells := by
  simp only [lawnEq, Bool.and_eq_true, beq_iff_eq] at h
  obtain ⟨h1, h2, h3⟩ := h
  unfold Lawn.cells
  rw [h1, h2, gridOf_ext fun y x hy hx => gridEq_true h3 y x hy hx]
theorem bits_ints : ∀ (l : List Value), (∀ v ∈ l, v.oneCell' = true → ∃ k a, v = .int k a) → (∀ v ∈ l, ∃ k a, v = Value.int k a) → ((l.zip l).all fun (x, y) => Instr.sameBits 9999 x y) = true
  | [], _, _ => rfl
  | v :: l, h0, h => by
    obtain ⟨k, a, rfl⟩ := h v (by simp)
    have ih := bits_ints l (fun v hv => h0 v (by simp [hv])) (fun v hv => h v (by simp [hv]))
    simp only [List.zip_cons_cons, List.all_cons, Bool.and_eq_true]
    exact ⟨by simp [Instr.sameBits], ih⟩
theorem bits_lawn (A : Lawn) : Instr.sameBits 10000 (.agg A.cells) (.agg A.cells) = true := by
  have hi : ∀ v ∈ A.cells.toList, ∃ k a, v = Value.int k a := by
    intro v hv
    simp only [Lawn.cells, Array.toList_append, List.cons_append, List.nil_append, List.mem_cons] at hv
    rcases hv with rfl | rfl | hv
    · exact ⟨_, _, rfl⟩
    · exact ⟨_, _, rfl⟩
    · simp only [gridOf, rowOf, List.mem_map, List.mem_range] at hv
      obtain ⟨j, _, rfl⟩ := hv
      exact ⟨_, _, rfl⟩
  have := bits_ints A.cells.toList (fun v hv _ => hi v hv) hi
  show (A.cells.size == A.cells.size && _) = true
  simp only [beq_self_eq_true, Bool.true_and]
  exact this
/-- Two lawns are keys. -/
def twoK (A B : Lawn) (b : Bool) : Value := .agg (if b then B else A).cells
def oneK (A : Lawn) (_ : Unit) : Value := .agg A.cells
end Go.Proofs.Ytpjninnammddlaa

namespace Go.Proofs.Ytpjninnammddlaa
set_option linter.unusedVariables false

abbrev Pt := Int × Int
abbrev Found := List (Pt × Int)
def beside (c : Pt) : List Pt := [(c.1, c.2 - 1), (c.1 - 1, c.2), (c.1 + 1, c.2), (c.1, c.2 + 1)]
def visit (pass : Pt → Bool) (d : Int) (F : Found) (c : Pt) : Found := if (alLook F c).isSome || !pass c then F else F ++ [(c, d + 1)]
def expand (pass : Pt → Bool) (F : Found) (p : Pt × Int) : Found := (beside p.1).foldl (visit pass p.2) F
def found (pass : Pt → Bool) (s : Pt) : Nat → Found
  | 0 => [(s, 0)]
  | n + 1 => match (found pass s n)[n]? with
    | some p => expand pass (found pass s n) p
    | none => found pass s n
/-- What holds of the found cells. -/
structure Good (pass : Pt → Bool) (F : Found) : Prop where
  nodup : (F.map (·.1)).Nodup
  pass : ∀ p ∈ F, pass p.1 = true
  val : ∀ (j : Nat) (p : Pt × Int), F[j]? = some p → 0 ≤ p.2 ∧ p.2 ≤ j

theorem alLook_none {κ ν : Type} [DecidableEq κ] : ∀ {l : List (κ × ν)} {k : κ}, alLook l k = none → k ∉ l.map (·.1)
  | [], _, _ => by simp
  | (a, u) :: l, k, h => by
    unfold alLook at h
    split at h
    · cases h
    · rename_i hn
      have := alLook_none h
      simp only [List.map_cons, List.mem_cons, not_or]
      exact ⟨hn, this⟩
theorem alPut_new {κ ν : Type} [DecidableEq κ] : ∀ {l : List (κ × ν)} {k : κ} (v : ν), alLook l k = none → alPut l k v = l ++ [(k, v)]
  | [], _, _, _ => rfl
  | (a, u) :: l, k, v, h => by
    unfold alLook at h
    split at h
    · cases h
    · rename_i hn
      simp only [alPut, hn, if_false, alPut_new v h, List.cons_append]
theorem alLook_mem {κ ν : Type} [DecidableEq κ] : ∀ {l : List (κ × ν)} {k : κ} {v : ν}, (l.map (·.1)).Nodup → (k, v) ∈ l → alLook l k = some v
  | [], _, _, _, h => by cases h
  | (a, u) :: l, k, v, hn, h => by
    simp only [List.map_cons, List.nodup_cons] at hn
    unfold alLook
    rcases List.mem_cons.1 h with h | h
    · cases h; rw [if_pos rfl]
    · have : k ≠ a := fun e => hn.1 (e ▸ List.mem_map.2 ⟨(k, v), h, rfl⟩)
      rw [if_neg this]
      exact alLook_mem hn.2 h

theorem visit_grows (pass : Pt → Bool) (d : Int) (F : Found) (c : Pt) : ∃ G, visit pass d F c = F ++ G := by
  unfold visit
  split
  · exact ⟨[], by simp⟩
  · exact ⟨_, rfl⟩
theorem visits_grow (pass : Pt → Bool) (d : Int) : ∀ (cs : List Pt) (F : Found), ∃ G, cs.foldl (visit pass d) F = F ++ G
  | [], F => ⟨[], by simp⟩
  | c :: cs, F => by
    obtain ⟨G, h⟩ := visit_grows pass d F c
    obtain ⟨G', h'⟩ := visits_grow pass d cs (visit pass d F c)
    exact ⟨G ++ G', by rw [List.foldl_cons, h', h, List.append_assoc]⟩
theorem visit_good {pass : Pt → Bool} {d : Int} {F : Found} (c : Pt) (h : Good pass F) (h0 : 0 ≤ d) (h1 : d + 1 ≤ F.length) : Good pass (visit pass d F c) := by
  unfold visit
  split
  · exact h
  · rename_i hn
    simp only [Bool.or_eq_true, Bool.not_eq_true', not_or, Bool.not_eq_true, Option.isSome_eq_false_iff, Option.isNone_iff_eq_none, Bool.not_eq_false] at hn
    have hk := alLook_none hn.1
    refine ⟨?_, fun p hp => ?_, fun j p hj => ?_⟩
    · rw [List.map_append]
      refine List.nodup_append.2 ⟨h.nodup, by simp, fun a ha b hb e => ?_⟩
      simp only [List.map_cons, List.map_nil, List.mem_singleton] at hb
      subst e
      rw [hb] at ha
      exact hk ha
    · rcases List.mem_append.1 hp with hp | hp
      · exact h.pass p hp
      · simp only [List.mem_singleton] at hp; subst hp; exact hn.2
    · by_cases hl : j < F.length
      · rw [List.getElem?_append_left hl] at hj; exact h.val j p hj
      · rw [List.getElem?_append_right (by omega)] at hj
        have hz : j - F.length = 0 := by
          rcases Nat.eq_zero_or_pos (j - F.length) with h | h
          · exact h
          · rw [List.getElem?_eq_none (by simp; omega)] at hj; cases hj
        rw [hz] at hj
        simp only [List.getElem?_cons_zero, Option.some.injEq] at hj
        subst hj
        simp only
        omega
theorem visits_good {pass : Pt → Bool} {d : Int} : ∀ (cs : List Pt) {F : Found}, Good pass F → 0 ≤ d → d + 1 ≤ F.length → Good pass (cs.foldl (visit pass d) F)
  | [], F, h, _, _ => h
  | c :: cs, F, h, h0, h1 => by
    obtain ⟨G, hG⟩ := visit_grows pass d F c
    refine visits_good cs (visit_good c h h0 h1) h0 ?_
    rw [hG, List.length_append]; omega
theorem found_good {pass : Pt → Bool} {s : Pt} (hs : pass s = true) : ∀ n, Good pass (found pass s n)
  | 0 => ⟨by simp [found], fun p hp => by simp [found] at hp; subst hp; exact hs, fun j p hj => by
      match j with
      | 0 => simp [found] at hj; subst hj; simp
      | j + 1 => simp [found] at hj⟩
  | n + 1 => by
    have ih := found_good hs n
    unfold found
    split
    · rename_i p hp
      have hv := ih.val n p hp
      have hl := (List.getElem?_eq_some_iff.1 hp).1
      exact visits_good _ ih hv.1 (by omega)
    · exact ih
/-- Numbers below n that are all different are no more than n. -/
theorem nodup_below : ∀ (n : Nat) (l : List Nat), l.Nodup → (∀ a ∈ l, a < n) → l.length ≤ n
  | 0, l, _, h => by
    cases l with
    | nil => simp
    | cons a l => exact absurd (h a (by simp)) (by omega)
  | n + 1, l, hd, h => by
    have hl : (l.erase n).length ≤ n := nodup_below n (l.erase n) (hd.erase n) fun a ha => by
      have h1 := h a (List.mem_of_mem_erase ha)
      have h2 : a ≠ n := (hd.mem_erase_iff.1 ha).1
      omega
    by_cases hm : n ∈ l
    · rw [List.length_erase_of_mem hm] at hl; omega
    · rw [List.erase_of_not_mem hm] at hl; omega
theorem good_length {pass : Pt → Bool} (hp : ∀ c, pass c = true → (0 ≤ c.1 ∧ c.1 < 10) ∧ 0 ≤ c.2 ∧ c.2 < 10) {F : Found} (h : Good pass F) : F.length ≤ 100 := by
  have key : ((F.map (·.1)).map fun c : Pt => c.2.toNat * 10 + c.1.toNat).Nodup := by
    have hin : ∀ c ∈ F.map (·.1), (0 ≤ c.1 ∧ c.1 < 10) ∧ 0 ≤ c.2 ∧ c.2 < 10 := fun c hc => by
      obtain ⟨p, hp1, rfl⟩ := List.mem_map.1 hc
      exact hp _ (h.pass p hp1)
    have hn := h.nodup
    generalize F.map (·.1) = K at hin hn
    induction K with
    | nil => simp
    | cons c K ih =>
      rw [List.nodup_cons] at hn
      rw [List.map_cons, List.nodup_cons]
      refine ⟨fun hm => ?_, ih (fun d hd => hin d (List.mem_cons_of_mem _ hd)) hn.2⟩
      obtain ⟨d, hd, he⟩ := List.mem_map.1 hm
      have a := hin c (by simp)
      have b := hin d (List.mem_cons_of_mem _ hd)
      have : d = c := Prod.ext (by omega) (by omega)
      exact hn.1 (this ▸ hd)
  have := nodup_below 100 _ key fun a ha => by
    obtain ⟨c, hc, rfl⟩ := List.mem_map.1 ha
    obtain ⟨p, hp1, rfl⟩ := List.mem_map.1 hc
    have := hp _ (h.pass p hp1)
    omega
  simpa using this
/-- Once all found cells are gone through, nothing is found any more. -/
theorem found_done {pass : Pt → Bool} {s : Pt} {n : Nat} (h : (found pass s n).length ≤ n) : ∀ m, found pass s (n + m) = found pass s n
  | 0 => rfl
  | m + 1 => by
    have ih := found_done h m
    rw [← Nat.add_assoc, found, ih, List.getElem?_eq_none (by omega)]
theorem found_last {pass : Pt → Bool} {s : Pt} {n : Nat} (hn : n ≤ 100) (h : (found pass s n).length ≤ n) : found pass s n = found pass s 100 := by
  have := found_done h (100 - n)
  rw [show n + (100 - n) = 100 by omega] at this
  exact this.symm
theorem found_mem {pass : Pt → Bool} {s : Pt} : ∀ n, (s, (0 : Int)) ∈ found pass s n
  | 0 => by simp [found]
  | n + 1 => by
    have ih := found_mem (pass := pass) (s := s) n
    unfold found
    split
    · obtain ⟨G, hG⟩ := visits_grow pass _ (beside _) (found pass s n)
      unfold expand
      rw [hG]
      exact List.mem_append_left _ ih
    · exact ih
end Go.Proofs.Ytpjninnammddlaa

namespace Go.Proofs.Ytpjninnammddlaa
set_option linter.unusedVariables false

/-- The found cells, once k sides of a cell have been looked at. -/
def sideK (pass : Pt → Bool) (F : Found) (p : Pt × Int) (k : Nat) : Found := ((beside p.1).take k).foldl (visit pass p.2) F
theorem sideK_zero (pass : Pt → Bool) (F : Found) (p : Pt × Int) : sideK pass F p 0 = F := by simp [sideK]
theorem sideK_succ {pass : Pt → Bool} {F : Found} {p : Pt × Int} {k : Nat} {c : Pt} (h : (beside p.1)[k]? = some c) : sideK pass F p (k + 1) = visit pass p.2 (sideK pass F p k) c := by
  unfold sideK
  rw [List.take_add_one, h, Option.toList_some, List.foldl_append]
  rfl
theorem sideK_all {pass : Pt → Bool} {s : Pt} {i : Nat} {p : Pt × Int} (h : (found pass s i)[i]? = some p) : sideK pass (found pass s i) p 4 = found pass s (i + 1) := by
  unfold sideK
  rw [List.take_of_length_le (by simp [beside])]
  conv => rhs; unfold found
  rw [h]
  rfl
theorem sideK_grows (pass : Pt → Bool) (F : Found) (p : Pt × Int) (k : Nat) : ∃ G, sideK pass F p k = F ++ G := visits_grow pass p.2 _ F
theorem sideK_good {pass : Pt → Bool} {s : Pt} (hs : pass s = true) {i : Nat} {p : Pt × Int} (h : (found pass s i)[i]? = some p) (k : Nat) : Good pass (sideK pass (found pass s i) p k) := by
  have hg := found_good hs i
  have hv := hg.val i p h
  have hl := (List.getElem?_eq_some_iff.1 h).1
  exact visits_good _ hg hv.1 (by omega)
theorem sideK_look {pass : Pt → Bool} {s : Pt} (hs : pass s = true) {i : Nat} {p : Pt × Int} (h : (found pass s i)[i]? = some p) (k : Nat) : alLook (sideK pass (found pass s i) p k) p.1 = some p.2 := by
  refine alLook_mem (sideK_good hs h k).nodup ?_
  obtain ⟨G, hG⟩ := sideK_grows pass (found pass s i) p k
  rw [hG]
  exact List.mem_append_left _ (List.mem_of_getElem? h)
theorem visit_skip {pass : Pt → Bool} {d : Int} {F : Found} {c : Pt} (h : (alLook F c).isSome = true ∨ pass c = false) : visit pass d F c = F := by
  unfold visit
  rcases h with h | h <;> simp [h]
theorem visit_new {pass : Pt → Bool} {d : Int} {F : Found} {c : Pt} (h : alLook F c = none) (hp : pass c = true) : visit pass d F c = F ++ [(c, d + 1)] := by
  unfold visit
  simp [h, hp]
/-- Cells that don't pass may be left out. -/
theorem visits_filter {pass : Pt → Bool} {d : Int} (q : Pt → Bool) (hq : ∀ c, q c = false → pass c = false) : ∀ (cs : List Pt) (F : Found), (cs.filter q).foldl (visit pass d) F = cs.foldl (visit pass d) F
  | [], F => rfl
  | c :: cs, F => by
    cases h : q c
    · rw [List.filter_cons_of_neg (by simp [h]), List.foldl_cons, visit_skip (.inr (hq c h))]
      exact visits_filter q hq cs F
    · rw [List.filter_cons_of_pos h, List.foldl_cons, List.foldl_cons]
      exact visits_filter q hq cs _
theorem beside_far {c : Pt} (h : (0 ≤ c.1 ∧ c.1 < 10) ∧ 0 ≤ c.2 ∧ c.2 < 10) {d : Pt} (hd : d ∈ beside c) : (-1 ≤ d.1 ∧ d.1 ≤ 10) ∧ -1 ≤ d.2 ∧ d.2 ≤ 10 := by
  simp only [beside, List.mem_cons, List.not_mem_nil, or_false] at hd
  rcases hd with rfl | rfl | rfl | rfl <;> simp only <;> omega
theorem found_grows {pass : Pt → Bool} {s : Pt} (n : Nat) : ∃ G, found pass s (n + 1) = found pass s n ++ G := by
  conv => enter [1, G]; lhs; unfold found
  split
  · exact visits_grow pass _ _ _
  · exact ⟨[], by simp⟩
end Go.Proofs.Ytpjninnammddlaa
