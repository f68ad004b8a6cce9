/- How lists that came in are read. -/
import Derived.Test.YteaajkkhbflmdaaDoorOpen
import Derived.Test.YteaajkkhbflmdaaDoorArgs
import Derived.ChangeSlices
import Derived.Deep.Slices
namespace Go.Proofs.YteaajkkhbflmdaaDoor
open Go.ChangeShapes Go.WideShapes Go.ChangeAt Go.RowKit


theorem field_i8 {H : Type} {enc : TypeId × Value → H} {P : Program} {W : World} {base : Nat} {sp : Nat → Bool} {held : Bool} {fuel : Nat} {cs : List Value} {x : DataW H × List MemPlace} {t : TypeId} {fs : Array Field}
    (ht : P.underlying t = some (.struct fs)) (h8 : P.underlying 22 = some (.int .i8)) (c8 : P.cellsOf 22 = 1) (h : DataW.trod enc P W base sp held fuel t cs = some x) (i o : Nat) (hi : (fs[i]?).map (fun f => (f.type, f.offset)) = some (22, o)) :
    ∃ z, cs[o]? = some (.int .i8 z) ∧ (Lit.int .i8 z).wf = true := by
  obtain ⟨xs, m, rfl, -, -, hn, hx⟩ := DataW.trod_struct ht h
  cases hf : fs[i]? with
  | none => simp [hf] at hi
  | some f =>
    simp only [hf, Option.map_some, Option.some.injEq, Prod.mk.injEq] at hi
    have hlt : i < xs.length := by rw [hn]; exact (Array.getElem?_eq_some_iff.1 hf).1
    have := hx i f hf
    rw [hi.1, hi.2, c8, List.getElem?_eq_getElem hlt] at this
    obtain ⟨z, hz, -, hw⟩ := DataW.trod_int h8 this
    refine ⟨z, ?_, hw⟩
    have h0 : ((cs.drop o).take 1)[0]? = some (.int .i8 z) := by rw [hz]; rfl
    simpa using h0

/-- The number that a cell holds. -/
def cellNum (w : World) (a : Addr) : Int := match w.cell? a with | some (.int _ z) => z | _ => 0

end Go.Proofs.YteaajkkhbflmdaaDoor
