/- How a law's arguments are read, and how a law's row is closed: the call answers true and turns nothing that lay in memory. -/
import Derived.Test.YtaeenkjbmlgcmaaZA
import Derived.Lib.SmallJoins
import Derived.ProofKit
import Derived.OpenShut
namespace Go.Proofs.Ytaeenkjbmlgcmaa
open Go.ChangeShapes Go.WideShapes Go.ChangeAt Go.RowKit

theorem own : ownKnob Try.prog.godebug = none := by kernel_rfl
theorem laid : laidOutB Try.prog = true := by kernel_rfl

theorem trodAll_stays {H : Type} {enc : TypeId × Value → H} {P : Program} (hl : laidOutB P = true) {W W' : World} (hb : Below W.heap.size W W') (ts : List TypeId) :
    ∀ (vs : List Value) (ds : List (DataW H)) (ps : List MemPlace), (ts.all fun t => P.readableRec t && decide (t < P.types.size)) = true →
      DataW.TrodAll enc P W 0 (fun _ => true) true ts vs ds ps → (∀ x ∈ ps, x.block < W.heap.size) → DataW.TrodAll enc P W' 0 (fun b => decide (b < W.heap.size)) true ts vs ds ps := by
  induction ts with
  | nil => intro vs ds ps _ h _; cases vs <;> cases ds <;> simp_all [DataW.TrodAll]
  | cons t ts ih =>
    intro vs ds ps ht h hlt
    obtain ⟨v, vs', d, ds', p, q, rfl, rfl, rfl, h0, hr⟩ := trodAll_cons h
    simp only [List.all_cons, Bool.and_eq_true, decide_eq_true_eq] at ht
    exact ⟨p, q, Below.trod hl ht.1.1 ht.1.2 h0 hb (fun x hx => hlt x (by simp [hx])), ih vs' ds' q ht.2 hr (fun x hx => hlt x (by simp [hx])), rfl⟩

/-- A LAW's ROW IS CLOSED: the call has answered true, and below the heap's old size nothing has turned. -/
theorem lawPost {H : Type} {enc : TypeId × Value → H} {f : Func} {s : ChangeSpec} {W W' : World} {args : Array Value} {ds : List (DataW H)} {before : List MemPlace}
    (hW : DataW.Whole enc Try.prog f.params.toList s.vars false W args.toList ds [] before) (hv : s.vars = []) (hr : f.resultTypes = #[4])
    (hs : s.fn H (ds ++ []) = { results := [.lit (.bool true)], args := ds }) (hread : (f.params.toList.all fun t => Try.prog.readableRec t && decide (t < Try.prog.types.size)) = true) (hb : Below W.heap.size W W') :
    s.post enc Try.prog f false true false false W args (.bool true) W' := by
  have hlt : ∀ x ∈ before, x.block < W.heap.size := fun x hx => by simpa using hW.lt x hx
  have hW0 := hW
  obtain ⟨p, q, hA, hV, rfl, hfz, hnd⟩ := hW0
  rw [hv] at hV
  obtain ⟨-, rfl⟩ := trodVars_none hV
  refine ⟨ds, [], p ++ [], [], p, [], hW, ?_, ?_, ?_, ?_, fun h => by cases h⟩
  · rw [hs, hr]
    exact trodAll_mk1 (shut_bool Try.underlying4 _)
  · rw [hs]
    exact trodAll_stays laid hb _ _ _ _ hread hA (fun x hx => hlt x (by simp [hx]))
  · rw [hs, hv]
    rfl
  · exact hb.frame _

/-! ### Arguments -/
/-- The number that stands in a place. -/
def numAt (cs : Array Value) (j : Nat) : Int := match cs[j]? with | some (.int _ z) => z | _ => 0

theorem trod_ints {H : Type} {enc : TypeId × Value → H} {P : Program} {w : World} {base : Nat} {sp : Nat → Bool} {held : Bool} {fuel n : Nat} {t e : TypeId} {k : IntKind} {cs : List Value} {x : DataW H × List MemPlace}
    (ht : P.underlying t = some (.array n e)) (he : P.underlying e = some (.int k)) (hc : P.cellsOf e = 1) (h : DataW.trod enc P w base sp held fuel t cs = some x) :
    ∀ i, i < n → ∃ z, cs[i]? = some (.int k z) ∧ (Lit.int k z).wf = true := by
  obtain ⟨xs, m, rfl, -, -, hn, hx⟩ := DataW.trod_array ht h
  intro i hi
  have := hx i hi
  rw [hc, Nat.mul_one] at this
  have hxi : xs[i]? = some (xs[i]'(by omega)) := List.getElem?_eq_getElem (by omega)
  rw [hxi] at this
  obtain ⟨z, hz, -, hw⟩ := DataW.trod_int he this
  refine ⟨z, ?_, hw⟩
  have h0 : ((cs.drop i).take 1)[0]? = some (.int k z) := by rw [hz]; rfl
  simpa using h0

theorem wf_i8 {z : Int} (h : (Lit.int .i8 z).wf = true) : -128 ≤ z ∧ z ≤ 127 := by
  simp [Lit.wf, IntKind.min, IntKind.max, IntKind.signed, IntKind.bits] at h
  omega

theorem cellsMirror : Try.prog.cellsOf 26 = 102 := by kernel_rfl
theorem cellsI8 : Try.prog.cellsOf 22 = 1 := by kernel_rfl
theorem cellsGrid : Try.prog.cellsOf 24 = 100 := by kernel_rfl

/-- The fields of a lawn. -/
structure LawnFields (fs : Array Field) : Prop where
  a : (fs[0]?).map (fun f => (f.type, f.offset)) = some (22, 0)
  b : (fs[1]?).map (fun f => (f.type, f.offset)) = some (22, 1)
  c : (fs[2]?).map (fun f => (f.type, f.offset)) = some (24, 2)

theorem open_fields {H : Type} {enc : TypeId × Value → H} {P : Program} {W : World} {base : Nat} {sp : Nat → Bool} {held : Bool} {fuel : Nat} {cs : List Value} {x : DataW H × List MemPlace} {t : TypeId} {fs : Array Field}
    (ht : P.underlying t = some (.struct fs)) (hfs : LawnFields fs) (h8 : P.underlying 22 = some (.int .i8)) (hu8 : P.underlying 5 = some (.int .u8)) (hr : P.underlying 23 = some (.array 10 5)) (hg : P.underlying 24 = some (.array 10 23))
    (c8 : P.cellsOf 22 = 1) (cu8 : P.cellsOf 5 = 1) (cr : P.cellsOf 23 = 10) (cg : P.cellsOf 24 = 100)
    (h : DataW.trod enc P W base sp held fuel t cs = some x) :
    (∃ z, cs[0]? = some (.int .i8 z) ∧ (Lit.int .i8 z).wf = true) ∧ (∃ z, cs[1]? = some (.int .i8 z) ∧ (Lit.int .i8 z).wf = true) ∧
      ∀ k j, k < 10 → j < 10 → ∃ z, cs[2 + k * 10 + j]? = some (.int .u8 z) ∧ (Lit.int .u8 z).wf = true := by
  obtain ⟨xs, m, rfl, -, -, hn, hx⟩ := DataW.trod_struct ht h
  have one : ∀ (i o : Nat), (fs[i]?).map (fun f => (f.type, f.offset)) = some (22, o) → ∃ z, cs[o]? = some (.int .i8 z) ∧ (Lit.int .i8 z).wf = true := by
    intro i o hi
    cases hf : fs[i]? with
    | none => simp [hf] at hi
    | some f =>
      simp only [hf, Option.map_some, Option.some.injEq, Prod.mk.injEq] at hi
      have hlt : i < xs.length := by rw [hn]; exact (Array.getElem?_eq_some_iff.1 hf).1
      have := hx i f hf
      rw [hi.1, hi.2, c8, List.getElem?_eq_getElem hlt] at this
      obtain ⟨z, hz, -, hw⟩ := DataW.trod_int h8 this
      refine ⟨z, ?_, hw⟩
      have h0 : ((cs.drop o).take 1)[0]? = some (.int .i8 z) := by rw [hz]; rfl
      simpa using h0
  refine ⟨one 0 0 hfs.a, one 1 1 hfs.b, fun k j hk hj => ?_⟩
  cases hf : fs[2]? with
  | none => have := hfs.c; simp [hf] at this
  | some f =>
    have hi := hfs.c
    simp only [hf, Option.map_some, Option.some.injEq, Prod.mk.injEq] at hi
    have hlt : 2 < xs.length := by rw [hn]; exact (Array.getElem?_eq_some_iff.1 hf).1
    have h2 := hx 2 f hf
    rw [hi.1, hi.2, cg, List.getElem?_eq_getElem hlt] at h2
    obtain ⟨ys, m', rfl, -, -, hn', hy⟩ := DataW.trod_array hg h2
    have h3 := hy k hk
    rw [cr, List.getElem?_eq_getElem (by omega)] at h3
    obtain ⟨z, hz, hw⟩ := trod_ints hr hu8 cu8 h3 j hj
    refine ⟨z, ?_, hw⟩
    rw [List.getElem?_take, if_pos hj, List.getElem?_drop, List.getElem?_take, if_pos (by omega), List.getElem?_drop] at hz
    rw [show 2 + k * 10 + j = 2 + (k * 10 + j) by omega]
    exact hz

theorem open_lawn_of {H : Type} {enc : TypeId × Value → H} {P : Program} {t : TypeId} {fs : Array Field}
    (ht : P.underlying t = some (.struct fs)) (hfs : LawnFields fs) (h8 : P.underlying 22 = some (.int .i8)) (hu8 : P.underlying 5 = some (.int .u8)) (hr : P.underlying 23 = some (.array 10 5)) (hg : P.underlying 24 = some (.array 10 23))
    (ct : P.cellsOf t = 102) (c8 : P.cellsOf 22 = 1) (cu8 : P.cellsOf 5 = 1) (cr : P.cellsOf 23 = 10) (cg : P.cellsOf 24 = 100) {W : World} {sp : Nat → Bool} {held : Bool} {v : Value} {d : DataW H} {p : List MemPlace} {r : Reach} {b : Nat}
    (hv : Value.okWide P W r b t v) (h : DataW.Trod enc P W 0 sp held t v d p) : ∃ L : Lawn, v = .agg L.cells ∧ L.Fits := by
  obtain ⟨cs, rfl, hsz⟩ := okWide_struct ht hv
  rw [ct] at hsz
  obtain ⟨fuel, hf⟩ := h
  obtain ⟨⟨w, hw, ww⟩, ⟨hh, hhh, whh⟩, hk⟩ := open_fields ht hfs h8 hu8 hr hg c8 cu8 cr cg hf
  simp only [Value.cells, Array.getElem?_toList] at hw hhh hk
  have kn : ∀ y x, y < 10 → x < 10 → cs[2 + y * 10 + x]? = some (.int .u8 (numAt cs (2 + y * 10 + x))) ∧ (Lit.int .u8 (numAt cs (2 + y * 10 + x))).wf = true := by
    intro y x hy hx
    obtain ⟨z, hz, hw⟩ := hk y x hy hx
    simp only [numAt, hz]
    exact ⟨trivial, hw⟩
  refine ⟨⟨w, hh, fun y x => numAt cs (2 + y * 10 + x)⟩, ?_, (wf_i8 ww).1, (wf_i8 ww).2, (wf_i8 whh).1, (wf_i8 whh).2, fun y x hy hx => (bounds_u8 (kn y x hy hx).2).1, fun y x hy hx => (bounds_u8 (kn y x hy hx).2).2⟩
  refine congrArg Value.agg ?_
  apply Array.ext_getElem?
  intro j
  match j with
  | 0 => rw [hw, Lawn.cells_0]
  | 1 => rw [hhh, Lawn.cells_1]
  | j + 2 =>
    by_cases hj : j < 100
    · have h1 := (kn (j / 10) (j % 10) (by omega) (by omega)).1
      have h2 := Lawn.cells_get ⟨w, hh, fun y x => numAt cs (2 + y * 10 + x)⟩ (j / 10) (j % 10) (by omega) (by omega)
      rw [show 2 + j / 10 * 10 + j % 10 = j + 2 by omega] at h1 h2
      rw [h1, h2]
      simp only
      rw [show 2 + j / 10 * 10 + j % 10 = j + 2 by omega]
    · rw [Array.getElem?_eq_none (by omega), Array.getElem?_eq_none (by simp; omega)]

set_option maxRecDepth 100000 in
theorem open_lawn {H : Type} {enc : TypeId × Value → H} {W : World} {sp : Nat → Bool} {held : Bool} {v : Value} {d : DataW H} {p : List MemPlace} {r : Reach} {b : Nat}
    (hv : Value.okWide Try.prog W r b 26 v) (h : DataW.Trod enc Try.prog W 0 sp held 26 v d p) : ∃ L : Lawn, v = .agg L.cells ∧ L.Fits :=
  open_lawn_of Try.underlying26 ⟨rfl, rfl, rfl⟩ Try.underlying22 Try.underlying5 Try.underlying23 Try.underlying24 cellsMirror cellsI8 cellsU8 cellsRow cellsGrid hv h

theorem open_cell_of {H : Type} {enc : TypeId × Value → H} {P : Program} {t e : TypeId} {f0 f1 : Field}
    (ht : P.underlying t = some (.struct #[f0, f1])) (hone : Go.Deep.oneCellFields P #[f0, f1] = true) (h0 : f0.type = e) (h1 : f1.type = e) (h8 : P.underlying e = some (.int .i8)) (ct : P.cellsOf t = 2)
    {W : World} {sp : Nat → Bool} {held : Bool} {v : Value} {d : DataW H} {p : List MemPlace} {r : Reach} {b : Nat}
    (hv : Value.okWide P W r b t v) (h : DataW.Trod enc P W 0 sp held t v d p) : ∃ c : Int × Int, v = .agg #[.int .i8 c.1, .int .i8 c.2] ∧ (-128 ≤ c.1 ∧ c.1 ≤ 127) ∧ -128 ≤ c.2 ∧ c.2 ≤ 127 := by
  obtain ⟨v0, v1, y0, y1, n, rfl, -, -, k0, k1⟩ := Go.Joins.open_agg2 ht hone ct hv h
  rw [h0] at k0
  rw [h1] at k1
  obtain ⟨z0, e0, -, w0⟩ := DataW.trod_int h8 k0
  obtain ⟨z1, e1, -, w1⟩ := DataW.trod_int h8 k1
  simp only [List.cons.injEq, and_true] at e0 e1
  subst e0 e1
  exact ⟨(z0, z1), rfl, wf_i8 w0, wf_i8 w1⟩

set_option maxRecDepth 100000 in
theorem open_cell {H : Type} {enc : TypeId × Value → H} {W : World} {sp : Nat → Bool} {held : Bool} {v : Value} {d : DataW H} {p : List MemPlace} {r : Reach} {b : Nat}
    (hv : Value.okWide Try.prog W r b 33 v) (h : DataW.Trod enc Try.prog W 0 sp held 33 v d p) : ∃ c : Int × Int, v = .agg #[.int .i8 c.1, .int .i8 c.2] ∧ (-128 ≤ c.1 ∧ c.1 ≤ 127) ∧ -128 ≤ c.2 ∧ c.2 ≤ 127 :=
  open_cell_of Try.underlying33 (by kernel_rfl) rfl rfl Try.underlying22 (by kernel_rfl) hv h
end Go.Proofs.Ytaeenkjbmlgcmaa
