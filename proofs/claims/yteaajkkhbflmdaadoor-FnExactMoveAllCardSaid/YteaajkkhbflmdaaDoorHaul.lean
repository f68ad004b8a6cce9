/- Hauls that come in: how a law's haul is read and copied. -/
import Derived.Test.YteaajkkhbflmdaaDoorOpenL
import Derived.Test.YteaajkkhbflmdaaDoorMoveL
import Derived.Test.YteaajkkhbflmdaaDoorZC
import Derived.Test.YteaajkkhbflmdaaDoorZB
namespace Go.Proofs.YteaajkkhbflmdaaDoor
open Go.RowKit Go.ChangeShapes Go.WideShapes Go.ChangeAt
set_option linter.unusedVariables false
set_option linter.unusedSimpArgs false
attribute [local go_sem ↓] loadRow loadGrid loadLawn loadMirror storeRow storeGrid storeLawn allocRow allocGrid allocLawn buildZero buildSides

def HlIn (h : Hl) : Prop := (-128 ≤ h.1 ∧ h.1 ≤ 127) ∧ (-128 ≤ h.2.1 ∧ h.2.1 ≤ 127) ∧ (-128 ≤ h.2.2.1 ∧ h.2.2.1 ≤ 127) ∧ (-128 ≤ h.2.2.2.1 ∧ h.2.2.2.1 ≤ 127) ∧ -128 ≤ h.2.2.2.2 ∧ h.2.2.2.2 ≤ 127

/-- A field that is a struct. -/
theorem field_sub {H : Type} {enc : TypeId × Value → H} {P : Program} {W : World} {base : Nat} {sp : Nat → Bool} {held : Bool} {fuel : Nat} {cs : List Value} {x : DataW H × List MemPlace} {t T : TypeId} {n : Nat} {fs : Array Field}
    (ht : P.underlying t = some (.struct fs)) (cT : P.cellsOf T = n) (h : DataW.trod enc P W base sp held fuel t cs = some x) (i o : Nat) (hi : (fs[i]?).map (fun f => (f.type, f.offset)) = some (T, o)) :
    ∃ (base' m : Nat) (x' : DataW H × List MemPlace), DataW.trod enc P W base' sp held m T ((cs.drop o).take n) = some x' := by
  obtain ⟨xs, m, rfl, -, -, hn, hx⟩ := DataW.trod_struct ht h
  cases hf : fs[i]? with
  | none => simp [hf] at hi
  | some f =>
    simp only [hf, Option.map_some, Option.some.injEq, Prod.mk.injEq] at hi
    have hlt : i < xs.length := by rw [hn]; exact (Array.getElem?_eq_some_iff.1 hf).1
    have := hx i f hf
    rw [hi.1, hi.2, cT, List.getElem?_eq_getElem hlt] at this
    exact ⟨_, _, _, this⟩
theorem cellsCellL : Tryd.prog.cellsOf 30 = 2 := by kernel_rfl
theorem cellsHaulL : Tryd.prog.cellsOf 32 = 5 := by kernel_rfl
set_option maxRecDepth 100000 in
theorem haul_fields {H : Type} {enc : TypeId × Value → H} {W : World} {base : Nat} {sp : Nat → Bool} {held : Bool} {fuel : Nat} {cs : List Value} {x : DataW H × List MemPlace} (h : DataW.trod enc Tryd.prog W base sp held fuel 32 cs = some x) :
    ∃ r : Hl, HlIn r ∧ cs[0]? = some (.int .i8 r.1) ∧ cs[1]? = some (.int .i8 r.2.1) ∧ cs[2]? = some (.int .i8 r.2.2.1) ∧ cs[3]? = some (.int .i8 r.2.2.2.1) ∧ cs[4]? = some (.int .i8 r.2.2.2.2) := by
  obtain ⟨b1, m1, x1, h1⟩ := field_sub Tryd.underlying32 cellsCellL h 0 0 rfl
  obtain ⟨b2, m2, x2, h2⟩ := field_sub Tryd.underlying32 cellsCellL h 1 2 rfl
  obtain ⟨z4, e4, w4⟩ := field_i8 Tryd.underlying32 Tryd.underlying22 cellsI8 h 2 4 rfl
  obtain ⟨z0, e0, w0⟩ := field_i8 Tryd.underlying30 Tryd.underlying22 cellsI8 h1 0 0 rfl
  obtain ⟨z1, e1, w1⟩ := field_i8 Tryd.underlying30 Tryd.underlying22 cellsI8 h1 1 1 rfl
  obtain ⟨z2, e2, w2⟩ := field_i8 Tryd.underlying30 Tryd.underlying22 cellsI8 h2 0 0 rfl
  obtain ⟨z3, e3, w3⟩ := field_i8 Tryd.underlying30 Tryd.underlying22 cellsI8 h2 1 1 rfl
  refine ⟨(z0, z1, z2, z3, z4), ⟨wf_i8 w0, wf_i8 w1, wf_i8 w2, wf_i8 w3, wf_i8 w4⟩, ?_, ?_, ?_, ?_, e4⟩
  · simpa using e0
  · simpa using e1
  · simpa using e2
  · simpa using e3

set_option maxRecDepth 100000 in
theorem open_haul {H : Type} {enc : TypeId × Value → H} {W : World} {sp : Nat → Bool} {held : Bool} {v : Value} {d : DataW H} {p : List MemPlace} {r : Reach} {b : Nat}
    (hv : Value.okWide Tryd.prog W r b 32 v) (h : DataW.Trod enc Tryd.prog W 0 sp held 32 v d p) : ∃ h : Hl, v = .agg (hlA h) ∧ HlIn h := by
  obtain ⟨cs, rfl, hsz⟩ := okWide_struct Tryd.underlying32 hv
  rw [cellsHaulL] at hsz
  obtain ⟨fuel, hf⟩ := h
  obtain ⟨q, hq, e0, e1, e2, e3, e4⟩ := haul_fields hf
  refine ⟨q, ?_, hq⟩
  simp only [Value.cells, Array.getElem?_toList] at e0 e1 e2 e3 e4
  refine congrArg Value.agg ?_
  apply Array.ext_getElem?
  intro j
  match j with
  | 0 => rw [e0]; rfl
  | 1 => rw [e1]; rfl
  | 2 => rw [e2]; rfl
  | 3 => rw [e3]; rfl
  | 4 => rw [e4]; rfl
  | j + 5 => rw [Array.getElem?_eq_none (by omega), Array.getElem?_eq_none (by simp [hlA])]

set_option maxRecDepth 100000 in
set_option maxHeartbeats 1000000 in
theorem toHaul_any (x0 x1 x2 x3 x4 : Int) (w : World) :
    Calls Tryd.prog 11 #[.agg #[.int .i8 x0, .int .i8 x1, .int .i8 x2, .int .i8 x3, .int .i8 x4]] w fun e w' => e = .returned (.agg #[.int .i8 x0, .int .i8 x1, .int .i8 x2, .int .i8 x3, .int .i8 x4]) ∧ Below w.heap.size w w' := by
  go_enter Tryd.func11, Tryd.ntmps11
  obtain ⟨s, hs⟩ : ∃ s, w.heap.size = s := ⟨_, rfl⟩
  obtain ⟨W0, hW0⟩ : ∃ W0, ((w.alloc (.cells #[.int .i8 x0, .int .i8 x1, .int .i8 x2, .int .i8 x3, .int .i8 x4] 32)).alloc (.cells #[.int .i8 0, .int .i8 0, .int .i8 0, .int .i8 0, .int .i8 0] 41)).alloc (.cells #[.int .i8 0, .int .i8 0, .int .i8 0, .int .i8 0, .int .i8 0] 41) = W0 := ⟨_, rfl⟩
  have g0 : Holds W0 s #[.int .i8 x0, .int .i8 x1, .int .i8 x2, .int .i8 x3, .int .i8 x4] := by rw [← hW0]; exact ((Holds.new' _ _ _ _ hs.symm).alloc _).alloc _
  have g1 : Holds W0 (s + 1) #[.int .i8 0, .int .i8 0, .int .i8 0, .int .i8 0, .int .i8 0] := by rw [← hW0]; exact (Holds.new' _ _ _ _ (by simp; omega)).alloc _
  have g2 : Holds W0 (s + 1 + 1) #[.int .i8 0, .int .i8 0, .int .i8 0, .int .i8 0, .int .i8 0] := by rw [← hW0]; exact Holds.new' _ _ _ _ (by simp; omega)
  have hb : Below s w W0 := by rw [← hW0]; exact (((Below.refl s w).alloc (by omega) _).alloc (by simp; omega) _).alloc (by simp; omega) _
  obtain ⟨-, -, c0, -, l0⟩ := g0.facts
  have c00 := (c0 0).trans (show _ = some (.int .i8 x0) from rfl)
  have c01 := (c0 1).trans (show _ = some (.int .i8 x1) from rfl)
  clear c0
  rw [hs]
  go_wp2_with fail
  try simp only [hs]
  try rw [hW0]
  clear hW0 c00 c01 l0
  refine (toCell_any _ _ _).mono ?_
  rintro e w1 ⟨rfl, hb1⟩
  have k0 := g0.below hb1 g0.lt
  have k1 := g1.below hb1 g1.lt
  have k2 := g2.below hb1 g2.lt
  have hb2 : Below s w w1 := hb.trans (hb1.mono (by have := g0.lt; omega))
  clear g0 g1 g2 hb hb1
  obtain ⟨-, -, c0, -, l0⟩ := k0.facts
  have c02 := (c0 2).trans (show _ = some (.int .i8 x2) from rfl)
  have c03 := (c0 3).trans (show _ = some (.int .i8 x3) from rfl)
  obtain ⟨-, -, c2, z2, l2⟩ := k2.facts
  have c20 := (c2 0).trans (show _ = some (.int .i8 0) from rfl)
  have c21 := (c2 1).trans (show _ = some (.int .i8 0) from rfl)
  have z20 := z2 0
  have z21 := z2 1
  clear c0 c2 z2
  go_wp2_with fail
  obtain ⟨W2, hW2⟩ : ∃ W2, (w1.setCell ⟨s + 1 + 1, 0, none⟩ (.int .i8 x0)).setCell ⟨s + 1 + 1, 1, none⟩ (.int .i8 x1) = W2 := ⟨_, rfl⟩
  have m0 : Holds W2 s #[.int .i8 x0, .int .i8 x1, .int .i8 x2, .int .i8 x3, .int .i8 x4] := by rw [← hW2]; exact (k0.setCell_other _ _ (by dsimp only; omega)).setCell_other _ _ (by dsimp only; omega)
  have m1 : Holds W2 (s + 1) #[.int .i8 0, .int .i8 0, .int .i8 0, .int .i8 0, .int .i8 0] := by rw [← hW2]; exact (k1.setCell_other _ _ (by dsimp only; omega)).setCell_other _ _ (by dsimp only; omega)
  have m2 : Holds W2 (s + 1 + 1) #[.int .i8 x0, .int .i8 x1, .int .i8 0, .int .i8 0, .int .i8 0] := by rw [← hW2]; exact (k2.setCell 0 _).setCell 1 _
  have hb3 : Below s w W2 := by rw [← hW2]; exact (hb2.setCell (p := ⟨s + 1 + 1, 0, none⟩) (by dsimp only; omega) _).setCell (p := ⟨s + 1 + 1, 1, none⟩) (by dsimp only; omega) _
  try rw [hW2]
  clear hW2 k0 k1 k2 hb2 c02 c03 c20 c21 z20 z21 l0 l2
  refine (toCell_any _ _ _).mono ?_
  rintro e w3 ⟨rfl, hb1⟩
  have k0 := m0.below hb1 m0.lt
  have k1 := m1.below hb1 m1.lt
  have k2 := m2.below hb1 m2.lt
  have hb4 : Below s w w3 := hb3.trans (hb1.mono (by have := m0.lt; omega))
  clear m0 m1 m2 hb3 hb1
  obtain ⟨-, -, c0, -, l0⟩ := k0.facts
  have c04 := (c0 4).trans (show _ = some (.int .i8 x4) from rfl)
  obtain ⟨-, -, c2, z2, l2⟩ := k2.facts
  have c20 := (c2 0).trans (show _ = some (.int .i8 x0) from rfl)
  have c21 := (c2 1).trans (show _ = some (.int .i8 x1) from rfl)
  have c22 := (c2 2).trans (show _ = some (.int .i8 0) from rfl)
  have c23 := (c2 3).trans (show _ = some (.int .i8 0) from rfl)
  have c24 := (c2 4).trans (show _ = some (.int .i8 0) from rfl)
  have z22 := z2 2
  have z23 := z2 3
  have z24 := z2 4
  obtain ⟨-, -, c1, z1, l1⟩ := k1.facts
  have c10 := (c1 0).trans (show _ = some (.int .i8 0) from rfl)
  have c11 := (c1 1).trans (show _ = some (.int .i8 0) from rfl)
  have c12 := (c1 2).trans (show _ = some (.int .i8 0) from rfl)
  have c13 := (c1 3).trans (show _ = some (.int .i8 0) from rfl)
  have c14 := (c1 4).trans (show _ = some (.int .i8 0) from rfl)
  have z10 := z1 0
  have z11 := z1 1
  have z12 := z1 2
  have z13 := z1 3
  have z14 := z1 4
  clear c0 c1 c2 z1 z2
  go_wp2_with fail
  have h1 := (((((((k1.setCell_other ⟨s + 1 + 1, 2, none⟩ (.int .i8 x2) (by dsimp only; omega)).setCell_other ⟨s + 1 + 1, 3, none⟩ (.int .i8 x3) (by dsimp only; omega)).setCell_other ⟨s + 1 + 1, 4, none⟩ (.int .i8 x4) (by dsimp only; omega)).setCell 0 (.int .i8 x0)).setCell 1 (.int .i8 x1)).setCell 2 (.int .i8 x2)).setCell 3 (.int .i8 x3)).setCell 4 (.int .i8 x4)
  have hb9 := (((((((hb4.setCell (p := ⟨s + 1 + 1, 2, none⟩) (by dsimp only; omega) (.int .i8 x2)).setCell (p := ⟨s + 1 + 1, 3, none⟩) (by dsimp only; omega) (.int .i8 x3)).setCell (p := ⟨s + 1 + 1, 4, none⟩) (by dsimp only; omega) (.int .i8 x4)).setCell (p := ⟨s + 1, 0, none⟩) (by dsimp only; omega) (.int .i8 x0)).setCell (p := ⟨s + 1, 1, none⟩) (by dsimp only; omega) (.int .i8 x1)).setCell (p := ⟨s + 1, 2, none⟩) (by dsimp only; omega) (.int .i8 x2)).setCell (p := ⟨s + 1, 3, none⟩) (by dsimp only; omega) (.int .i8 x3)).setCell (p := ⟨s + 1, 4, none⟩) (by dsimp only; omega) (.int .i8 x4)
  exact bodyPost_ret (v := .agg #[.int .i8 x0, .int .i8 x1, .int .i8 x2, .int .i8 x3, .int .i8 x4]) (results_cell_holds (n := 5) rfl (by kernel_rfl) _ rfl h1 rfl) rfl ⟨rfl, hb9⟩
end Go.Proofs.YteaajkkhbflmdaaDoor
