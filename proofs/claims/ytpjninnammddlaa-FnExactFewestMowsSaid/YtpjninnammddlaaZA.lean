/-  The facts on the program's types that the walks take: which ones have several cells, and how many. What the laws' own small functions do: two rows, grids or lawns that are the same are told to be so; a copy has the same numbers. What '==' says of two grids, and of two lawns. Small functions on numbers: bounds, sides, kinds; and a lawn of grass alone. When the model takes a lawn for a valid one, and where it has cells. -/
import Derived.WalkKit
import Derived.WalkSpells
import Derived.WalkLawsBesides
import Derived.Deep.QuietTactic
import Derived.BigQuiet
import Derived.Deep.RegionWith
import Derived.Deep.RegionHeld3
import Derived.StillTailTactics
import Derived.Lib.Hide
import Derived.Test.YtpjninnammddlaaRows
import Derived.ChangeKeysEq
namespace Go.Proofs.Ytpjninnammddlaa
open Go.RowKit

/-- The cells of a block, in a row; none where it is no row of cells. -/
def rowAt (w : World) (g : Nat) : Array Value :=
  match w.heap[g]? with
  | some (.cells c _ _) => c
  | _ => #[]

/-- Block g is a row of cells cs that may be written. -/
def Holds (w : World) (g : Nat) (cs : Array Value) : Prop := ∃ t, w.heap[g]? = some (.cells cs t (0, 0))

theorem Holds.row {w : World} {g : Nat} {cs : Array Value} (h : Holds w g cs) : rowAt w g = cs := by
  obtain ⟨t, h⟩ := h; simp [rowAt, h]
theorem Holds.cell {w : World} {g : Nat} {cs : Array Value} (h : Holds w g cs) (j : Nat) : w.cell? ⟨g, j, none⟩ = cs[j]? := by
  obtain ⟨t, h⟩ := h; simp [World.cell?, h]
theorem Holds.free {w : World} {g : Nat} {cs : Array Value} (h : Holds w g cs) (j : Nat) : w.frozen? ⟨g, j, none⟩ = false := by
  obtain ⟨t, h⟩ := h; simp [World.frozen?, h]
theorem Holds.lt {w : World} {g : Nat} {cs : Array Value} (h : Holds w g cs) : g < w.heap.size := by
  obtain ⟨t, h⟩ := h; exact (Array.getElem?_eq_some_iff.1 h).1
theorem Holds.below {w w' : World} {B g : Nat} {cs : Array Value} (h : Holds w g cs) (hb : Below B w w') (hg : g < B) : Holds w' g cs := by
  obtain ⟨t, h⟩ := h; exact ⟨t, (hb.block g hg).trans h⟩
theorem Holds.alloc {w : World} {g : Nat} {cs : Array Value} (h : Holds w g cs) (o : Obj) : Holds (w.alloc o) g cs := by
  have hl := h.lt; obtain ⟨t, h'⟩ := h; exact ⟨t, (Below.heap_alloc _ _ _ hl).trans h'⟩
theorem Holds.new (w : World) (cs : Array Value) (t : TypeId) : Holds (w.alloc (.cells cs t)) w.heap.size cs := ⟨t, heap_alloc_new w _⟩
theorem Holds.new' (w : World) (cs : Array Value) (t : TypeId) (g : Nat) (hg : g = w.heap.size) : Holds (w.alloc (.cells cs t)) g cs := by subst hg; exact Holds.new w cs t
theorem Holds.drew {w : World} {g : Nat} {cs : Array Value} (h : Holds w g cs) : Holds w.drew g cs := h
theorem Holds.drewN {w : World} {g : Nat} {cs : Array Value} (h : Holds w g cs) (n : Nat) : Holds (w.drewN n) g cs := h
theorem Holds.setRow {w : World} {g : Nat} {cs : Array Value} (h : Holds w g cs) (cs' : Array Value) : Holds (w.setRow g cs') g cs' := by
  obtain ⟨t, h⟩ := h; exact ⟨t, setRow_heap w g cs cs' t _ h⟩
theorem Holds.setRow_other {w : World} {g k : Nat} {cs : Array Value} (h : Holds w g cs) (cs' : Array Value) (hk : g ≠ k) : Holds (w.setRow k cs') g cs := by
  obtain ⟨t, h⟩ := h; exact ⟨t, (Go.setRow_other w k g cs' hk).trans h⟩
theorem Holds.setCell {w : World} {g : Nat} {cs : Array Value} (h : Holds w g cs) (i : Nat) (v : Value) : Holds (w.setCell ⟨g, i, none⟩ v) g (cs.setIfInBounds i v) := by
  obtain ⟨t, h⟩ := h; exact ⟨t, heap_setCell_same w g i cs t v h⟩
theorem Holds.setCell_other {w : World} {g : Nat} {cs : Array Value} (h : Holds w g cs) (a : Addr) (v : Value) (hk : g ≠ a.block) : Holds (w.setCell a v) g cs := by
  obtain ⟨t, h⟩ := h; exact ⟨t, (heap_setCell_other w a g v hk).trans h⟩

@[go_sem] theorem rowAt_alloc_at (w : World) (c : Array Value) (t : TypeId) (n : Nat) (hn : n = w.heap.size) : rowAt (w.alloc (.cells c t)) n = c := (Holds.new' w c t n hn).row
@[go_sem] theorem rowAt_alloc_past (w : World) (o : Obj) (n : Nat) (hn : n < w.heap.size) : rowAt (w.alloc o) n = rowAt w n := by
  unfold rowAt; rw [Below.heap_alloc w o n hn]
@[go_sem] theorem rowAt_drew (w : World) (n : Nat) : rowAt w.drew n = rowAt w n := rfl
@[go_sem] theorem rowAt_drewN (w : World) (n k : Nat) : rowAt (w.drewN k) n = rowAt w n := rfl

/-- The value of a type of several cells, loaded out of the middle of a row. -/
theorem run_loadVar_part {P : Program} (w : World) (g off : Nat) (ty : TypeId) (i : TypeInfo) (hi : P.info? ty = some i) (hagg : ∀ w', (isAgg ty).run P w' = .ok true w')
    (hfit : off + i.size ≤ (rowAt w g).size) :
    (loadVar ty ⟨g, off, none⟩).run P w = .ok (.agg ((rowAt w g).extract off (off + i.size))) w := by
  have hcell : ∀ j, w.cell? ⟨g, j, none⟩ = (rowAt w g)[j]? := by
    intro j; unfold World.cell? rowAt; split <;> simp_all
  have hl : (loadCells ⟨g, off, none⟩ ((rowAt w g).extract off (off + i.size)).toList.length).run P w = .ok ((rowAt w g).extract off (off + i.size)).toList.toArray w :=
    run_loadCells_list (P := P) w ⟨g, off, none⟩ _ (fun j v hv => by
      have hadd : (⟨g, off, none⟩ : Addr).add j = ⟨g, off + j, none⟩ := by unfold Addr.add; split <;> simp_all
      rw [hadd, hcell]
      simp only [Array.getElem?_toList, Array.getElem?_extract] at hv
      split at hv
      · exact hv
      · cases hv)
  have hs : ((rowAt w g).extract off (off + i.size)).size = i.size := by simp; omega
  simp only [Array.length_toList, Array.toArray_toList, hs] at hl
  simp [loadVar, Sem.run_bind, hagg, sizeOf, typeInfo, hi, hl]

theorem run_loadAt_part {P : Program} (w : World) (g off : Nat) (ty : TypeId) (i : TypeInfo) (hi : P.info? ty = some i) (hagg : ∀ w', (isAgg ty).run P w' = .ok true w')
    (hfit : off + i.size ≤ (rowAt w g).size) :
    (Instr.loadAt ty (.pointer (some ⟨g, off, none⟩))).run P w = .ok (.agg ((rowAt w g).extract off (off + i.size))) w := by
  simp only [Instr.loadAt, Instr.sureAddr, Sem.run_bind, Sem.run_pure, Result.andThen_ok, run_loadVar_part w g off ty i hi hagg hfit]

/-- The type's own facts in one: how many cells, and that it is an array or a struct. -/
def wideB (P : Program) (ty n : Nat) : Bool := (P.info? ty).any (fun i => i.size == n) && (match P.underlying ty with | some (.struct _) => true | some (.array _ _) => true | _ => false)
def Wide (P : Program) (ty : TypeId) (n : Nat) : Prop := (∃ i, P.info? ty = some i ∧ i.size = n) ∧ ∀ w', (isAgg ty).run P w' = .ok true w'
theorem wide_of {P : Program} {ty n : Nat} (h : wideB P ty n = true) : Wide P ty n := by
  simp only [wideB, Bool.and_eq_true] at h
  obtain ⟨h1, h2⟩ := h
  refine ⟨?_, fun w => ?_⟩
  · cases hq : P.info? ty with
    | none => simp [hq] at h1
    | some i => exact ⟨i, rfl, by simpa [hq] using h1⟩
  · cases hu : P.underlying ty with
    | none => simp [hu] at h2
    | some d =>
      unfold isAgg
      rw [Sem.run_bind, run_underlying hu w]
      cases d <;> simp_all
theorem Wide.load {P : Program} {ty : TypeId} {n : Nat} (h : Wide P ty n) (w : World) (g off : Nat) (hfit : off + n ≤ (rowAt w g).size) :
    (Instr.loadAt ty (.pointer (some ⟨g, off, none⟩))).run P w = .ok (.agg ((rowAt w g).extract off (off + n))) w := by
  obtain ⟨⟨i, hi, rfl⟩, ha⟩ := h
  exact run_loadAt_part w g off ty i hi ha hfit

/-- Some cells of a row are exchanged. -/
def splice (cur : Array Value) (off : Nat) (vs : Array Value) : Array Value := (cur.toList.take off ++ vs.toList ++ cur.toList.drop (off + vs.size)).toArray

theorem Wide.store {P : Program} {ty : TypeId} {n : Nat} (h : Wide P ty n) (w : World) (g off : Nat) (vs cs : Array Value) (hg : Holds w g cs) (hn : vs.size = n) (hfit : off + n ≤ cs.size) (h1 : ∀ v ∈ vs.toList, v.oneCell' = true) :
    (Instr.storeAt ty (.pointer (some ⟨g, off, none⟩)) (.agg vs)).run P w = .ok () (w.setRow g (splice cs off vs)) := by
  obtain ⟨t, hg⟩ := hg
  obtain ⟨⟨i, hi, hs⟩, ha⟩ := h
  have := run_storeCells_at (P := P) g off t vs.toList 0 cs w hg (by simp; omega) h1
  simp only [Nat.add_zero, Array.length_toList] at this
  simp [Instr.storeAt, Instr.sureAddr, storeVar, sizeOf, typeInfo, hi, Value.cells, hs, hn, this, splice]

theorem splice_size (cur : Array Value) (off : Nat) (vs : Array Value) (h : off + vs.size ≤ cur.size) : (splice cur off vs).size = cur.size := by
  simp [splice]; omega
theorem splice_get (cur : Array Value) (off : Nat) (vs : Array Value) (h : off + vs.size ≤ cur.size) (j : Nat) :
    (splice cur off vs)[j]? = if off ≤ j ∧ j < off + vs.size then vs[j - off]? else cur[j]? := by
  have e : min off cur.size = off := by omega
  simp only [splice, List.getElem?_toArray, List.append_assoc, List.getElem?_append, List.length_take, Array.length_toList, List.getElem?_drop, List.getElem?_take, Array.getElem?_toList, e]
  by_cases h1 : j < off
  · rw [if_pos h1, if_pos h1, if_neg (by omega)]
  · rw [if_neg h1]
    by_cases h2 : j < off + vs.size
    · rw [if_pos (by omega), if_pos (by omega)]
    · rw [if_neg (by omega), if_neg (by omega), show off + vs.size + (j - off - vs.size) = j by omega]
@[simp, go_sem] theorem splice_all (cur vs : Array Value) (h : cur.size = vs.size) : splice cur 0 vs = vs := by
  have : List.drop vs.size cur.toList = [] := List.drop_eq_nil_of_le (by simp; omega)
  simp [splice, this]

/-- Block g is a row of cells that may be written. -/
def Free (w : World) (g : Nat) : Bool := match w.heap[g]? with | some (.cells _ _ fr) => fr == (0, 0) | _ => false
theorem Holds.isFree {w : World} {g : Nat} {cs : Array Value} (h : Holds w g cs) : Free w g = true := by obtain ⟨t, h⟩ := h; simp [Free, h]
theorem free_holds {w : World} {g : Nat} (h : Free w g = true) : Holds w g (rowAt w g) := by
  unfold Free at h
  split at h
  · rename_i c t fr hc
    obtain rfl := eq_of_beq h
    exact ⟨t, by rw [hc]; simp [rowAt, hc]⟩
  · cases h
theorem Holds.facts {w : World} {g : Nat} {cs : Array Value} (h : Holds w g cs) :
    rowAt w g = cs ∧ Free w g = true ∧ (∀ j, w.cell? ⟨g, j, none⟩ = cs[j]?) ∧ (∀ j, w.frozen? ⟨g, j, none⟩ = false) ∧ g < w.heap.size :=
  ⟨h.row, h.isFree, h.cell, h.free, h.lt⟩
@[go_sem] theorem free_alloc_at (w : World) (c : Array Value) (t : TypeId) (n : Nat) (hn : n = w.heap.size) : Free (w.alloc (.cells c t)) n = true := (Holds.new' w c t n hn).isFree
@[go_sem] theorem free_alloc_past (w : World) (o : Obj) (n : Nat) (hn : n < w.heap.size) : Free (w.alloc o) n = Free w n := by
  unfold Free; rw [Below.heap_alloc w o n hn]
@[go_sem] theorem free_drew (w : World) (n : Nat) : Free w.drew n = Free w n := rfl
@[go_sem] theorem free_drewN (w : World) (n k : Nat) : Free (w.drewN k) n = Free w n := rfl
@[go_sem] theorem setRow_alloc_at (w : World) (c cs : Array Value) (t : TypeId) (n : Nat) (hn : n = w.heap.size) : (w.alloc (.cells c t)).setRow n cs = w.alloc (.cells cs t) := by
  subst hn
  unfold World.setRow World.alloc
  congr 1
  apply Array.ext_getElem?
  intro k
  simp only [Array.getElem?_modify, Array.getElem?_push]
  by_cases hk : k = w.heap.size
  · subst hk; simp
  · simp [hk, Ne.symm hk]
@[go_sem] theorem setRow_alloc_past (w : World) (cs : Array Value) (o : Obj) (n : Nat) (hn : n < w.heap.size) : (w.alloc o).setRow n cs = (w.setRow n cs).alloc o := by
  unfold World.setRow World.alloc
  congr 1
  apply Array.ext_getElem?
  intro k
  simp only [Array.getElem?_modify, Array.getElem?_push, Array.size_modify]
  by_cases hk : k = w.heap.size
  · subst hk; simp [Nat.ne_of_lt hn]
  · simp [hk]
@[go_sem] theorem setRow_drew (w : World) (n : Nat) (cs : Array Value) : w.drew.setRow n cs = (w.setRow n cs).drew := rfl
@[go_sem] theorem rowAt_setRow_at (w : World) (g n : Nat) (cs : Array Value) (hn : n = g) (h : Free w g = true) : rowAt (w.setRow g cs) n = cs := by subst hn; exact ((free_holds h).setRow cs).row
@[go_sem] theorem rowAt_setRow_past (w : World) (g n : Nat) (cs : Array Value) (hn : n ≠ g) : rowAt (w.setRow g cs) n = rowAt w n := by
  unfold rowAt; rw [setRow_other w g n cs hn]
@[go_sem] theorem free_setRow (w : World) (g n : Nat) (cs : Array Value) : Free (w.setRow g cs) n = Free w n := by
  by_cases hn : n = g
  · subst hn
    unfold Free World.setRow
    simp only [Array.getElem?_modify, ↓reduceIte]
    cases w.heap[n]? with
    | none => rfl
    | some o => cases o <;> rfl
  · unfold Free; rw [setRow_other w g n cs hn]
@[go_sem] theorem cell_setRow_at (w : World) (g n j : Nat) (cs : Array Value) (hn : n = g) (h : Free w g = true) : (w.setRow g cs).cell? ⟨n, j, none⟩ = cs[j]? := by subst hn; exact ((free_holds h).setRow cs).cell j
@[go_sem] theorem cell_setRow_past (w : World) (g n j : Nat) (cs : Array Value) (hn : n ≠ g) : (w.setRow g cs).cell? ⟨n, j, none⟩ = w.cell? ⟨n, j, none⟩ := Go.cell_setRow_other w g cs _ hn
@[go_sem] theorem frozen_setRow (w : World) (g n j : Nat) (cs : Array Value) : (w.setRow g cs).frozen? ⟨n, j, none⟩ = w.frozen? ⟨n, j, none⟩ := by
  by_cases hn : n = g
  · subst hn
    unfold World.frozen? World.setRow
    simp only [Array.getElem?_modify, ↓reduceIte]
    cases w.heap[n]? with
    | none => rfl
    | some o => cases o <;> rfl
  · unfold World.frozen?; rw [setRow_other w g n cs hn]
theorem Holds.of_setRow {w : World} {g : Nat} {cs : Array Value} (h : Holds w g cs) (cs' : Array Value) : Holds (w.setRow g cs') g cs' := h.setRow cs'
theorem below_setRow' {B g : Nat} {w0 w : World} (hb : Below B w0 w) (hBg : B ≤ g) (cs : Array Value) : Below B w0 (w.setRow g cs) :=
  hb.trans ⟨rfl, rfl, rfl, by simp [World.setRow], fun k hk => setRow_other w g k cs (by omega)⟩

/-- A load of a value of n cells; a store of one: so that the walk takes them in one step. -/
def opLoad (P : Program) (ty _n : Nat) (v : Value) (w : World) : Result Next := Sem.run P (do let r ← Instr.loadAt ty v; pure (Next.value r)) w
def opStore (P : Program) (ty _n : Nat) (p v : Value) (w : World) : Result Next := Sem.run P (do Instr.storeAt ty p v; pure Next.skip) w
theorem exec_load (P : Program) (ρ : Operand → Value) (dst : Option Tmp) (ty n : Nat) (x : Operand) (t : TypeId) (pos : String) (aft : Array Edge) (g : Option (Nat × Bool)) (w : World) :
    (execOp ρ ⟨dst, .load ty x, t, pos, aft, g⟩).run P w = opLoad P ty n (ρ x) w := rfl
theorem exec_store (P : Program) (ρ : Operand → Value) (dst : Option Tmp) (ty n : Nat) (x y : Operand) (t : TypeId) (pos : String) (aft : Array Edge) (g : Option (Nat × Bool)) (w : World) :
    (execOp ρ ⟨dst, .store ty x y, t, pos, aft, g⟩).run P w = opStore P ty n (ρ x) (ρ y) w := rfl
theorem opLoad_ok (P : Program) (ty n g off : Nat) (w : World) (h : wideB P ty n = true) (hfit : off + n ≤ (rowAt w g).size) :
    opLoad P ty n (.pointer (some ⟨g, off, none⟩)) w = .ok (.value (.agg ((rowAt w g).extract off (off + n)))) w := by
  simp only [opLoad, Sem.run_bind, (wide_of h).load w g off hfit, Result.andThen_ok, Sem.run_pure]
/-- The same, once the row is known. -/
def opLoadRow (P : Program) (ty n g off : Nat) (cs : Array Value) (w : World) : Result Next :=
  if wideB P ty n = true ∧ off + n ≤ cs.size then .ok (.value (.agg (cs.extract off (off + n)))) w else opLoad P ty n (.pointer (some ⟨g, off, none⟩)) w
@[go_sem] theorem opLoad_at (P : Program) (ty n g off : Nat) (w : World) :
    opLoad P ty n (.pointer (some ⟨g, off, none⟩)) w = opLoadRow P ty n g off (rowAt w g) w := by
  unfold opLoadRow
  split
  · rename_i h; exact opLoad_ok P ty n g off w h.1 h.2
  · rfl
@[go_sem] theorem opLoadRow_at (P : Program) (ty n g off : Nat) (cs : Array Value) (w : World) (h : wideB P ty n = true) (hfit : off + n ≤ cs.size) :
    opLoadRow P ty n g off cs w = .ok (.value (.agg (cs.extract off (off + n)))) w := by
  unfold opLoadRow; rw [if_pos ⟨h, hfit⟩]

/-- Every value is one cell. -/
def Ones (vs : Array Value) : Bool := vs.all (·.oneCell')
theorem ones_of {vs : Array Value} (h : Ones vs = true) : ∀ v ∈ vs.toList, v.oneCell' = true := fun v hv => (Array.all_eq_true_iff_forall_mem.1 h) v (by simpa using hv)
theorem of_ones {vs : Array Value} (h : ∀ v ∈ vs.toList, v.oneCell' = true) : Ones vs = true := Array.all_eq_true_iff_forall_mem.2 fun v hv => h v (by simpa using hv)
theorem opStore_ok (P : Program) (ty n g off : Nat) (vs : Array Value) (w : World) (h : wideB P ty n = true) (hf : Free w g = true) (hs : vs.size = n) (h1 : Ones vs = true) (hfit : off + n ≤ (rowAt w g).size) :
    opStore P ty n (.pointer (some ⟨g, off, none⟩)) (.agg vs) w = .ok .skip (w.setRow g (splice (rowAt w g) off vs)) := by
  simp only [opStore, Sem.run_bind, (wide_of h).store w g off vs (rowAt w g) (free_holds hf) hs hfit (ones_of h1), Result.andThen_ok, Sem.run_pure]
/-- The same, once the row is known, and that it may be written. -/
def opStoreRow (P : Program) (ty n g off : Nat) (cs : Array Value) (fr : Bool) (vs : Array Value) (w : World) : Result Next :=
  if wideB P ty n = true ∧ fr = true ∧ vs.size = n ∧ Ones vs = true ∧ off + n ≤ cs.size then .ok .skip (w.setRow g (splice cs off vs)) else opStore P ty n (.pointer (some ⟨g, off, none⟩)) (.agg vs) w
@[go_sem] theorem opStore_at (P : Program) (ty n g off : Nat) (vs : Array Value) (w : World) :
    opStore P ty n (.pointer (some ⟨g, off, none⟩)) (.agg vs) w = opStoreRow P ty n g off (rowAt w g) (Free w g) vs w := by
  unfold opStoreRow
  split
  · rename_i h; exact opStore_ok P ty n g off vs w h.1 h.2.1 h.2.2.1 h.2.2.2.1 h.2.2.2.2
  · rfl
@[go_sem] theorem opStoreRow_at (P : Program) (ty n g off : Nat) (cs vs : Array Value) (w : World) (h : wideB P ty n = true) (hs : vs.size = n) (h1 : Ones vs = true) (hfit : off + n ≤ cs.size) :
    opStoreRow P ty n g off cs true vs w = .ok .skip (w.setRow g (splice cs off vs)) := by
  unfold opStoreRow; rw [if_pos ⟨h, rfl, hs, h1, hfit⟩]

/-! ### Results that lie in a block -/
theorem Wide.loadVar {P : Program} {ty : TypeId} {n : Nat} (h : Wide P ty n) {w : World} {g : Nat} {cs : Array Value} (hg : Holds w g cs) (hn : cs.size = n) :
    (Go.loadVar ty ⟨g, 0, none⟩).run P w = .ok (.agg cs) w := by
  obtain ⟨⟨i, hi, hs⟩, ha⟩ := h
  rw [run_loadVar_part w g 0 ty i hi ha (by rw [hg.row]; omega), hg.row]
  simp [hs, ← hn]
theorem results_cell_holds {P : Program} {fn : Func} {p : Tmp} {ty : TypeId} {n : Nat} (h : fn.results = #[.cell p ty]) (hw : wideB P ty n = true) (tmps : Array Value) {w : World} {g : Nat} {cs : Array Value}
    (hp : tmps.getD p undef = .pointer (some ⟨g, 0, none⟩)) (hg : Holds w g cs) (hn : cs.size = n) : (results fn tmps).run P w = .ok (.agg cs) w := by
  have hp' : tmps[p]?.getD undef = .pointer (some ⟨g, 0, none⟩) := by simpa using hp
  simp [results, h, hp', asAddr, (wide_of hw).loadVar hg hn]
theorem results_cell_tmp_holds {P : Program} {fn : Func} {p u : Tmp} {ty : TypeId} {n : Nat} (h : fn.results = #[.cell p ty, .tmp u]) (hw : wideB P ty n = true) (tmps : Array Value) {w : World} {g : Nat} {cs : Array Value}
    (hp : tmps.getD p undef = .pointer (some ⟨g, 0, none⟩)) (hg : Holds w g cs) (hn : cs.size = n) : (results fn tmps).run P w = .ok (.tuple #[.agg cs, tmps.getD u undef]) w := by
  rw [results_cell_tmp h]
  have hp' : tmps[p]?.getD undef = .pointer (some ⟨g, 0, none⟩) := by simpa using hp
  simp [hp', asAddr, (wide_of hw).loadVar hg hn]

/-! ### Rows of small numbers -/
def opBuild (P : Program) (ty : TypeId) (ps : Array (Nat × Value)) (w : World) : Result Next := Sem.run P (do let r ← Instr.build ty ps; pure (Next.value r)) w
theorem opBuild_of {P : Program} {ty : TypeId} {ps : Array (Nat × Value)} {cs : Array Value} (h : P.built ty ps.toList = some cs) (w : World) : opBuild P ty ps w = .ok (.value (.agg cs)) w := by
  simp only [opBuild, Sem.run_bind, run_build w ty ps cs h, Result.andThen_ok, Sem.run_pure]
/-- The first k are as told, and the others are 0. -/
def upTo (f : Nat → Int) (k : Nat) (j : Nat) : Int := if j < k then f j else 0
def rowOf (n : Nat) (f : Nat → Int) : Array Value := ((List.range n).map fun j => Value.int .u8 (f j)).toArray
@[simp, go_sem] theorem rowOf_size (n : Nat) (f : Nat → Int) : (rowOf n f).size = n := by simp [rowOf]
@[go_sem] theorem rowOf_get (n : Nat) (f : Nat → Int) (j : Nat) (h : j < n) : (rowOf n f)[j]? = some (.int .u8 (f j)) := by simp [rowOf, h]
@[go_sem] theorem rowOf_at (n : Nat) (f : Nat → Int) (j : Nat) (h : j < (rowOf n f).size) : (rowOf n f)[j] = .int .u8 (f j) := by
  have := rowOf_get n f j (by simpa using h)
  rw [Array.getElem?_eq_getElem h] at this; exact Option.some.inj this
@[go_sem] theorem rowOf_ones (n : Nat) (f : Nat → Int) : Ones (rowOf n f) = true := by
  refine of_ones fun v hv => ?_; simp [rowOf] at hv; obtain ⟨j, _, rfl⟩ := hv; rfl
theorem rowOf_ext {n : Nat} {f g : Nat → Int} (h : ∀ j, j < n → f j = g j) : rowOf n f = rowOf n g := by
  unfold rowOf; congr 1; apply List.map_congr_left; intro j hj; rw [h j (by simpa using hj)]
theorem rowOf_of {cs : Array Value} {n : Nat} {f : Nat → Int} (hs : cs.size = n) (h : ∀ j, j < n → cs[j]? = some (.int .u8 (f j))) : cs = rowOf n f := by
  apply Array.ext_getElem?
  intro j
  by_cases hj : j < n
  · rw [h j hj, rowOf_get n f j hj]
  · rw [Array.getElem?_eq_none (by omega), Array.getElem?_eq_none (by simp; omega)]

theorem rowOf_upTo (n : Nat) (f : Nat → Int) (k : Nat) (h : k < n) : (rowOf n (upTo f k)).setIfInBounds k (.int .u8 (f k)) = rowOf n (upTo f (k + 1)) := by
  apply rowOf_of
  · simp
  · intro j hj
    rw [Array.getElem?_setIfInBounds]
    by_cases e : k = j
    · subst e; simp [h, upTo]
    · rw [if_neg e, rowOf_get _ _ _ hj]
      simp only [upTo]
      by_cases hk : j < k
      · rw [if_pos hk, if_pos (by omega)]
      · rw [if_neg hk, if_neg (by omega)]
theorem rowOf_upTo_all (n : Nat) (f : Nat → Int) : rowOf n (upTo f n) = rowOf n f := rowOf_ext fun j hj => by simp [upTo, hj]

/-- A grid of 10 by 10 small numbers. -/
def gridOf (g : Nat → Nat → Int) : Array Value := rowOf 100 fun j => g (j / 10) (j % 10)
@[simp, go_sem] theorem gridOf_size (g : Nat → Nat → Int) : (gridOf g).size = 100 := by simp [gridOf]
@[go_sem] theorem gridOf_row (g : Nat → Nat → Int) (k : Nat) (h : k < 10) : (gridOf g).extract (k * 10) (k * 10 + 10) = rowOf 10 (g k) := by
  apply rowOf_of
  · simp; omega
  · intro j hj
    rw [Array.getElem?_extract, if_pos (by simp; omega)]
    unfold gridOf
    rw [rowOf_get _ _ _ (by omega), show (k * 10 + j) / 10 = k by omega, show (k * 10 + j) % 10 = j by omega]
@[go_sem] theorem rowOf_all (n : Nat) (f : Nat → Int) : (rowOf n f).extract 0 n = rowOf n f := by
  simp
@[go_sem] theorem gridOf_all (g : Nat → Nat → Int) : (gridOf g).extract 0 100 = gridOf g := rowOf_all 100 _
@[go_sem] theorem gridOf_get (g : Nat → Nat → Int) (k j : Nat) (h : k < 10) (hj : j < 10) : (gridOf g)[k * 10 + j]? = some (.int .u8 (g k j)) := by
  unfold gridOf
  rw [rowOf_get _ _ _ (by omega), show (k * 10 + j) / 10 = k by omega, show (k * 10 + j) % 10 = j by omega]
@[go_sem] theorem gridOf_at (g : Nat → Nat → Int) (k j : Nat) (h : k < 10) (hj : j < 10) (hh : k * 10 + j < (gridOf g).size) : (gridOf g)[k * 10 + j] = .int .u8 (g k j) := by
  have := gridOf_get g k j h hj
  rw [Array.getElem?_eq_getElem hh] at this; exact Option.some.inj this
/-- The first k rows are as told, and the others are 0. -/
def rowsTo (g : Nat → Nat → Int) (k : Nat) (y x : Nat) : Int := if y < k then g y x else 0
theorem gridOf_ext {g g' : Nat → Nat → Int} (h : ∀ y x, y < 10 → x < 10 → g y x = g' y x) : gridOf g = gridOf g' := rowOf_ext fun j hj => h _ _ (by omega) (by omega)
theorem gridOf_rowsTo (g : Nat → Nat → Int) (k : Nat) (h : k < 10) : splice (gridOf (rowsTo g k)) (k * 10) (rowOf 10 (g k)) = gridOf (rowsTo g (k + 1)) := by
  unfold gridOf
  apply rowOf_of
  · rw [splice_size _ _ _ (by simp; omega)]; simp
  · intro j hj
    rw [splice_get _ _ _ (by simp; omega)]
    by_cases e : k * 10 ≤ j ∧ j < k * 10 + 10
    · rw [if_pos (by simpa using e), rowOf_get _ _ _ (by omega)]
      rw [show j / 10 = k by omega, show j % 10 = j - k * 10 by omega]
      simp [rowsTo]
    · rw [if_neg (by simpa using e), rowOf_get _ _ _ hj]
      simp only [rowsTo]
      by_cases hk : j / 10 < k
      · rw [if_pos hk, if_pos (by omega)]
      · rw [if_neg hk, if_neg (by omega)]
theorem gridOf_rowsTo_all (g : Nat → Nat → Int) : gridOf (rowsTo g 10) = gridOf g := gridOf_ext fun y x hy _ => by simp [rowsTo, hy]
@[go_sem] theorem gridOf_ones (g : Nat → Nat → Int) : Ones (gridOf g) = true := rowOf_ones _ _

end Go.Proofs.Ytpjninnammddlaa

namespace Go.Proofs.Ytpjninnammddlaa
open Go.RowKit

/-- A lawn: its sides, and the kind of each cell by Y and X. -/
structure Lawn where
  wide : Int
  high : Int
  kind : Nat → Nat → Int

/-- A lawn whose numbers fit: the sides into int8, the kinds into uint8. -/
structure Lawn.Fits (L : Lawn) : Prop where
  w0 : -128 ≤ L.wide
  w1 : L.wide ≤ 127
  h0 : -128 ≤ L.high
  h1 : L.high ≤ 127
  k0 : ∀ y x, y < 10 → x < 10 → 0 ≤ L.kind y x
  k1 : ∀ y x, y < 10 → x < 10 → L.kind y x ≤ 255

/-- The cells of a lawn's value. -/
def Lawn.cells (L : Lawn) : Array Value := #[.int .i8 L.wide, .int .i8 L.high] ++ gridOf L.kind
@[simp, go_sem] theorem Lawn.cells_size (L : Lawn) : L.cells.size = 102 := by simp [Lawn.cells]
@[go_sem] theorem Lawn.cells_0 (L : Lawn) : L.cells[0]? = some (.int .i8 L.wide) := by simp [Lawn.cells]
@[go_sem] theorem Lawn.cells_1 (L : Lawn) : L.cells[1]? = some (.int .i8 L.high) := by simp [Lawn.cells]
@[go_sem] theorem Lawn.cells_at0 (L : Lawn) (h : 0 < L.cells.size) : L.cells[0] = .int .i8 L.wide := by simp [Lawn.cells]
@[go_sem] theorem Lawn.cells_at1 (L : Lawn) (h : 1 < L.cells.size) : L.cells[1] = .int .i8 L.high := by simp [Lawn.cells]
@[go_sem] theorem Lawn.cells_grid (L : Lawn) : L.cells.extract 2 102 = gridOf L.kind := by
  apply Array.ext_getElem?
  intro j
  rw [Array.getElem?_extract]
  by_cases h : j < 100
  · rw [if_pos (by simp; omega)]
    unfold Lawn.cells
    rw [Array.getElem?_append_right (by simp)]
    simp
  · rw [if_neg (by simp; omega), Array.getElem?_eq_none (by simp; omega)]
@[go_sem] theorem Lawn.cells_all (L : Lawn) : L.cells.extract 0 102 = L.cells := by
  rw [show (102 : Nat) = L.cells.size by simp, Array.extract_size]
theorem Lawn.cells_get (L : Lawn) (y x : Nat) (hy : y < 10) (hx : x < 10) : L.cells[2 + y * 10 + x]? = some (.int .u8 (L.kind y x)) := by
  unfold Lawn.cells
  rw [Array.getElem?_append_right (by simp; omega)]
  simp only [List.size_toArray, List.length_cons, List.length_nil, Nat.reduceAdd, Nat.zero_add]
  rw [show 2 + y * 10 + x - 2 = y * 10 + x by omega, gridOf_get _ _ _ hy hx]
@[go_sem] theorem Lawn.cells_ones (L : Lawn) : Ones L.cells = true := by
  refine of_ones fun v hv => ?_
  simp only [Lawn.cells, Array.toList_append, List.cons_append, List.nil_append, List.mem_cons] at hv
  rcases hv with rfl | rfl | hv
  · rfl
  · rfl
  · exact ones_of (gridOf_ones _) _ hv
theorem Lawn.splice_mk (w h : Int) (c : Array Value) (g : Nat → Nat → Int) (hs : c.size = 102) (h0 : c[0]? = some (.int .i8 w)) (h1 : c[1]? = some (.int .i8 h)) :
    splice c 2 (gridOf g) = Lawn.cells ⟨w, h, g⟩ := by
  apply Array.ext_getElem?
  intro j
  rw [splice_get _ _ _ (by simp; omega)]
  match j with
  | 0 => simp [h0, Lawn.cells]
  | 1 => simp [h1, Lawn.cells]
  | j + 2 =>
    unfold Lawn.cells
    rw [Array.getElem?_append_right (by simp)]
    by_cases h : j < 100
    · rw [if_pos (by simp; omega)]; simp
    · rw [if_neg (by simp; omega), Array.getElem?_eq_none (by omega), Array.getElem?_eq_none (by simp; omega)]


@[go_sem] theorem Lawn.set_0 (L : Lawn) (a : Int) : L.cells.setIfInBounds 0 (.int .i8 a) = Lawn.cells ⟨a, L.high, L.kind⟩ := by
  unfold Lawn.cells
  rw [Array.setIfInBounds_append_left (by simp)]; rfl
@[go_sem] theorem Lawn.set_1 (L : Lawn) (a : Int) : L.cells.setIfInBounds 1 (.int .i8 a) = Lawn.cells ⟨L.wide, a, L.kind⟩ := by
  unfold Lawn.cells
  rw [Array.setIfInBounds_append_left (by simp)]; rfl
@[go_sem] theorem Lawn.splice_grid (L : Lawn) (g : Nat → Nat → Int) : splice L.cells 2 (gridOf g) = Lawn.cells ⟨L.wide, L.high, g⟩ := Lawn.splice_mk _ _ _ _ (by simp) (Lawn.cells_0 L) (Lawn.cells_1 L)
@[go_sem] theorem Lawn.splice_lawn (L M : Lawn) : splice L.cells 0 M.cells = M.cells := splice_all _ _ (by simp)


section
variable (ρ : Operand → Value) (dst : Option Tmp) (x y : Operand) (t : TypeId) (pos : String) (aft : Array Edge) (g : Option (Nat × Bool)) (w : World)
end
end Go.Proofs.Ytpjninnammddlaa

namespace Go.Proofs.Ytpjninnammddlaa
open Go.RowKit







end Go.Proofs.Ytpjninnammddlaa

namespace Go.Proofs.Ytpjninnammddlaa
open Go.RowKit

def rowEq (n : Nat) (f g : Nat → Int) : Bool := (List.range n).all fun i => f i == g i
def gridEq (g h : Nat → Nat → Int) : Bool := (List.range 10).all fun k => rowEq 10 (g k) (h k)
def lawnEq (A B : Lawn) : Bool := A.wide == B.wide && (A.high == B.high && gridEq A.kind B.kind)
theorem gridEq_true {g h : Nat → Nat → Int} (e : gridEq g h = true) : ∀ y x, y < 10 → x < 10 → g y x = h y x := by
  intro y x hy hx
  simp only [gridEq, rowEq, List.all_eq_true, List.mem_range, beq_iff_eq] at e
  exact e y hy x hx
theorem gridEq_of {g h : Nat → Nat → Int} (e : ∀ y x, y < 10 → x < 10 → g y x = h y x) : gridEq g h = true := by
  simp only [gridEq, rowEq, List.all_eq_true, List.mem_range, beq_iff_eq]
  exact fun y hy x hx => e y x hy hx

section
variable {P : Program} (w : World)
theorem run_part_one {e : TypeId} {k : IntKind} (he : P.underlying e = some (.int k)) (cs : Array Value) (off : Nat) (v : Value) (h : cs[off]? = some v) : (part e cs off).run P w = .ok v w := by
  have hagg : (isAgg e).run P w = .ok false w := by
    unfold isAgg
    rw [Sem.run_bind, run_underlying he w]
    rfl
  simp [part, Sem.run_bind, hagg, h]
theorem run_part_wide {e n : Nat} (he : wideB P e n = true) (cs : Array Value) (off : Nat) : (part e cs off).run P w = .ok (.agg (cs.extract off (off + n))) w := by
  obtain ⟨⟨i, hi, hs⟩, ha⟩ := wide_of he
  simp [part, Sem.run_bind, ha, sizeOf, typeInfo, hi, hs]
theorem eqItems_row (d : Nat) {e : TypeId} (he : P.underlying e = some (.int .u8)) (n : Nat) (f g : Nat → Int) : ∀ (is : List Nat), (∀ i ∈ is, i < n) →
    (Op.eqItems (d + 1) e 1 (rowOf n f) (rowOf n g) is).run P w = .ok (is.all fun i => f i == g i) w
  | [], _ => by simp [Op.eqItems]
  | i :: is, h => by
    have hi := h i (by simp)
    have ih := eqItems_row d he n f g is (fun j hj => h j (by simp [hj]))
    simp only [Op.eqItems, Sem.run_bind, Nat.mul_one, run_part_one w he _ _ _ (rowOf_get n f i hi), run_part_one w he _ _ _ (rowOf_get n g i hi), Result.andThen_ok, run_equalIn_int w d e .u8 .u8 (f i) (g i) he]
    cases hq : (f i == g i)
    · simp [hq]
    · simp [hq, ih]
theorem equal_row (d : Nat) {t e : TypeId} (ht : P.underlying t = some (.array 10 e)) (he : P.underlying e = some (.int .u8)) (hc : P.cellsOf e = 1) (f g : Nat → Int) :
    (Op.equalIn (d + 2) t (.agg (rowOf 10 f)) (.agg (rowOf 10 g))).run P w = .ok (rowEq 10 f g) w := by
  obtain ⟨i, hi⟩ := info_of_underlying he
  rw [show d + 2 = (d + 1) + 1 from rfl, run_equalIn_array w (d + 1) _ _ ht hi, hc]
  exact eqItems_row w d he 10 f g _ (fun i hi => by simpa using hi)
theorem eqItems_grid (d : Nat) {t e : TypeId} (hw : wideB P t 10 = true) (ht : P.underlying t = some (.array 10 e)) (he : P.underlying e = some (.int .u8)) (hc : P.cellsOf e = 1) (g h : Nat → Nat → Int) : ∀ (is : List Nat), (∀ i ∈ is, i < 10) →
    (Op.eqItems (d + 2) t 10 (gridOf g) (gridOf h) is).run P w = .ok (is.all fun i => rowEq 10 (g i) (h i)) w
  | [], _ => by simp [Op.eqItems]
  | i :: is, hh => by
    have hi := hh i (by simp)
    have ih := eqItems_grid d hw ht he hc g h is (fun j hj => hh j (by simp [hj]))
    simp only [Op.eqItems, Sem.run_bind, run_part_wide w hw, gridOf_row _ i hi, Result.andThen_ok, equal_row w d ht he hc]
    cases hq : rowEq 10 (g i) (h i)
    · simp [hq]
    · simp [hq, ih]
theorem equal_grid (d : Nat) {s t e : TypeId} (hs : P.underlying s = some (.array 10 t)) (cs : P.cellsOf t = 10) (hw : wideB P t 10 = true) (ht : P.underlying t = some (.array 10 e)) (he : P.underlying e = some (.int .u8)) (hc : P.cellsOf e = 1) (g h : Nat → Nat → Int) :
    (Op.equalIn (d + 3) s (.agg (gridOf g)) (.agg (gridOf h))).run P w = .ok (gridEq g h) w := by
  obtain ⟨⟨i, hi, _⟩, _⟩ := wide_of hw
  rw [show d + 3 = (d + 2) + 1 from rfl, run_equalIn_array w (d + 2) _ _ hs hi, cs]
  exact eqItems_grid w d hw ht he hc g h _ (fun i hi => by simpa using hi)
end

/-- '==' of two values of several cells, so that the walk takes it in one step. -/
def opEql (P : Program) (ty : TypeId) (x y : Operand) (u v : Value) (w : World) : Result Next := Sem.run P (do let r ← (do eqGuard .eql ty x y u v; binOp .eql ty u v); pure (Next.value r)) w

theorem cellsU8 : Try.prog.cellsOf 5 = 1 := by kernel_rfl


theorem equal_lawn_of {P : Program} {t : TypeId} {fs : Array Field} {f0 f1 f2 : Field} (ht : P.underlying t = some (.struct fs)) (hfs : fs.toList = [f0, f1, f2]) (hheld : P.stoodInHeld t = false)
    (n0 : f0.name ≠ "_") (n1 : f1.name ≠ "_") (n2 : f2.name ≠ "_") (t0 : P.underlying f0.type = some (.int .i8)) (t1 : P.underlying f1.type = some (.int .i8)) (o0 : f0.offset = 0) (o1 : f1.offset = 1) (o2 : f2.offset = 2)
    (hw2 : wideB P f2.type 100 = true) {r e : TypeId} (hs : P.underlying f2.type = some (.array 10 r)) (cs : P.cellsOf r = 10) (hw : wideB P r 10 = true) (hr : P.underlying r = some (.array 10 e)) (he : P.underlying e = some (.int .u8)) (hc : P.cellsOf e = 1)
    (d : Nat) (A B : Lawn) (w : World) : (Op.equalIn (d + 4) t (.agg A.cells) (.agg B.cells)).run P w = .ok (lawnEq A B) w := by
  have hf : P.fieldsOf t = fs := by simp [Program.fieldsOf, ht]
  rw [show d + 4 = (d + 3) + 1 from rfl, run_equalIn_struct w (d + 3) t _ _ (by rw [hf]; exact ht) hheld, hf, hfs]
  have p0 : ∀ L : Lawn, (part f0.type L.cells f0.offset).run P w = .ok (.int .i8 L.wide) w := fun L => run_part_one w t0 _ _ _ (by rw [o0]; exact Lawn.cells_0 L)
  have p1 : ∀ L : Lawn, (part f1.type L.cells f1.offset).run P w = .ok (.int .i8 L.high) w := fun L => run_part_one w t1 _ _ _ (by rw [o1]; exact Lawn.cells_1 L)
  have p2 : ∀ L : Lawn, (part f2.type L.cells f2.offset).run P w = .ok (.agg (gridOf L.kind)) w := fun L => by rw [run_part_wide w hw2, o2, Lawn.cells_grid]
  have e0 : (Op.equalIn (d + 3) f0.type (.int .i8 A.wide) (.int .i8 B.wide)).run P w = _ := run_equalIn_int w (d + 2) f0.type .i8 .i8 A.wide B.wide t0
  have e1 : (Op.equalIn (d + 3) f1.type (.int .i8 A.high) (.int .i8 B.high)).run P w = _ := run_equalIn_int w (d + 2) f1.type .i8 .i8 A.high B.high t1
  have e2 := equal_grid (P := P) w d hs cs hw hr he hc A.kind B.kind
  unfold lawnEq
  cases h0 : (A.wide == B.wide)
  · simp [Op.eqFields, n0, p0, e0, h0]
  · cases h1 : (A.high == B.high)
    · simp [Op.eqFields, n0, n1, p0, e0, h0, p1, e1, h1]
    · cases h2 : gridEq A.kind B.kind <;> simp [Op.eqFields, n0, n1, n2, p0, e0, h0, p1, e1, h1, p2, e2, h2]

end Go.Proofs.Ytpjninnammddlaa

namespace Go.Proofs.Ytpjninnammddlaa
open Go.RowKit


/-- Whether a number lies within bounds. -/
def inB (n a b : Int) : Bool := decide (a ≤ n) && decide (n ≤ b)
theorem inB_true {n a b : Int} (h : inB n a b = true) : a ≤ n ∧ n ≤ b := by simpa [inB] using h
theorem inB_false {n a b : Int} (h : inB n a b = false) : n < a ∨ b < n := by
  simp only [inB, Bool.and_eq_false_iff, decide_eq_false_iff_not] at h; omega
theorem inB_yes {n a b : Int} (h1 : a ≤ n) (h2 : n ≤ b) : inB n a b = true := by simp [inB, h1, h2]
theorem ret_bool {a b : Bool} (h : a = b) : Ending.returned (.bool a) = .returned (.bool b) := by rw [h]

set_option maxHeartbeats 400000 in
theorem in_any (n a b : Int) (w : World) :
    Calls Try.prog 32 #[.int .i64 n, .int .i64 a, .int .i64 b] w fun e w' => e = .returned (.bool (inB n a b)) ∧ w = w' := by
  by_cases h1 : a ≤ n <;> by_cases h2 : n ≤ b
  all_goals
    go_enter Try.func32, Try.ntmps32
    go_wp2
    go_ret
    exact ⟨ret_bool (by simp [inB]; omega), rfl⟩
theorem in_q (n a b : Int) (w : World) :
    Calls Try.prog 32 #[.int .i64 n, .int .i64 a, .int .i64 b] w fun e w' => e = .returned (.bool (inB n a b)) ∧ w' = w := (in_any n a b w).mono fun _ _ ⟨h, k⟩ => ⟨h, k.symm⟩
theorem in_no (n a b : Int) (w : World) (h : inB n a b = false) :
    Calls Try.prog 32 #[.int .i64 n, .int .i64 a, .int .i64 b] w fun e w' => e = .returned (.bool false) ∧ w' = w := h ▸ in_q n a b w
theorem in_yes (n a b : Int) (w : World) (h : inB n a b = true) :
    Calls Try.prog 32 #[.int .i64 n, .int .i64 a, .int .i64 b] w fun e w' => e = .returned (.bool true) ∧ w' = w := h ▸ in_q n a b w

def Lawn.zero : Lawn := ⟨0, 0, fun _ _ => 0⟩
/-- What NewLawn answers. -/
def newOf (a b : Int) : Value := if inB a 1 10 && inB b 1 10 then .tuple #[.agg (Lawn.cells ⟨a, b, fun _ _ => 0⟩), .int .i64 0] else .tuple #[.agg Lawn.zero.cells, .int .i64 2]


end Go.Proofs.Ytpjninnammddlaa

namespace Go.Proofs.Ytpjninnammddlaa
open Go.RowKit


/-- A cell's value. -/
def cellV (x y : Int) : Value := .agg #[.int .i8 x, .int .i8 y]
/-- Whether there is a cell. -/
def isB (L : Lawn) (x y : Int) : Bool := inB x 0 (L.wide - 1) && inB y 0 (L.high - 1)
/-- Whether a place has what it may have. -/
def okAt (L : Lawn) (y x : Nat) : Bool := inB (L.kind y x) 0 3 && (L.kind y x == 0 || isB L x y)
def validB (L : Lawn) : Bool := inB L.wide 1 10 && inB L.high 1 10 && (List.range 10).all fun y => (List.range 10).all fun x => okAt L y x
/-- All places ahead of a row's place are fine. -/
def okTo (L : Lawn) (k j : Nat) : Prop := ∀ y x, y < 10 → x < 10 → (y < k ∨ y = k ∧ x < j) → okAt L y x = true
theorem okTo_zero (L : Lawn) : okTo L 0 0 := fun y x _ _ h => by omega
theorem okTo_snoc {L : Lawn} {k j : Nat} (h : okTo L k j) (hn : okAt L k j = true) : okTo L k (j + 1) := fun y x hy hx hl => by
  by_cases e : y = k ∧ x = j
  · obtain ⟨rfl, rfl⟩ := e; exact hn
  · exact h y x hy hx (by omega)
theorem okTo_row {L : Lawn} {k : Nat} (h : okTo L k 10) : okTo L (k + 1) 0 := fun y x hy hx hl => h y x hy hx (by omega)
theorem validB_true {L : Lawn} (h : validB L = true) : (1 ≤ L.wide ∧ L.wide ≤ 10) ∧ (1 ≤ L.high ∧ L.high ≤ 10) ∧ ∀ y x, y < 10 → x < 10 → okAt L y x = true := by
  simp only [validB, Bool.and_eq_true, List.all_eq_true, List.mem_range] at h
  exact ⟨inB_true h.1.1, inB_true h.1.2, fun y x hy hx => h.2 y hy x hx⟩
theorem validB_of {L : Lawn} (hw : inB L.wide 1 10 = true) (hh : inB L.high 1 10 = true) (h : okTo L 10 0) : validB L = true := by
  simp only [validB, Bool.and_eq_true, List.all_eq_true, List.mem_range]
  exact ⟨⟨hw, hh⟩, fun y hy x hx => h y x hy hx (by omega)⟩
theorem validB_not {L : Lawn} {y x : Nat} (hy : y < 10) (hx : x < 10) (h : okAt L y x = false) : validB L = false := by
  cases hv : validB L with
  | false => rfl
  | true => have := (validB_true hv).2.2 y x hy hx; rw [h] at this; cases this
theorem validB_wide {L : Lawn} (h : inB L.wide 1 10 = false) : validB L = false := by simp [validB, h]
theorem validB_high {L : Lawn} (h : inB L.high 1 10 = false) : validB L = false := by simp [validB, h]




end Go.Proofs.Ytpjninnammddlaa
