/- Rows of laws that list the five errors of stage 6. -/
import Derived.Test.YtabemgplddfemaaGreatDoorLaidE
import Derived.Test.YtabemgplddfemaaGreatDoorOpen
import Derived.ChangeVars
import Derived.ChangeSame
import Derived.OpenVars
namespace Go.Proofs.YtabemgplddfemaaGreatDoor
open Go.ChangeShapes Go.WideShapes Go.ChangeAt Go.RowKit
set_option linter.unusedVariables false

def errNames : List String := ["loop.example/g01405/impl.errOutside", "loop.example/g01405/impl.errNoGrass", "loop.example/g01405/impl.errNoWay", "loop.example/g01405/impl.errTooFar", "loop.example/g01405/impl.errLevels"]
theorem trodVars_five {H : Type} {enc : TypeId × Value → H} {P : Program} {w : World} {sp : Nat → Bool} {n0 n1 n2 n3 n4 : String} {gs : List (DataW H)} {ps : List MemPlace} (h : DataW.TrodVars enc P w sp [n0, n1, n2, n3, n4] gs ps) : ∃ d0 d1 d2 d3 d4, gs = [d0, d1, d2, d3, d4] := by
  have key : ∀ {n : String} {ns : List String} {gs : List (DataW H)} {ps : List MemPlace}, DataW.TrodVars enc P w sp (n :: ns) gs ps → ∃ d ds qs, gs = d :: ds ∧ DataW.TrodVars enc P w sp ns ds qs := fun {n ns gs ps} h => by
    cases gs with
    | nil => simp [DataW.TrodVars] at h
    | cons d ds =>
      obtain ⟨g, t, cs, fuel, p, q, h1, h2, h3, h4, hs, e⟩ := h
      exact ⟨d, ds, q, rfl, hs⟩
  obtain ⟨d0, r0, q0, e0, k0⟩ := key h
  obtain ⟨d1, r1, q1, e1, k1⟩ := key k0
  obtain ⟨d2, r2, q2, e2, k2⟩ := key k1
  obtain ⟨d3, r3, q3, e3, k3⟩ := key k2
  obtain ⟨d4, r4, q4, e4, k4⟩ := key k3
  obtain ⟨e5, -⟩ := trodVars_none k4
  exact ⟨d0, d1, d2, d3, d4, by rw [e0, e1, e2, e3, e4, e5]⟩
/-- A LAW's ROW IS CLOSED, WITH VARIABLES: the call has answered true, and below the heap's old size nothing has turned. -/
theorem lawPostV {H : Type} {enc : TypeId × Value → H} {f : Func} {s : ChangeSpec} {W W' : World} {args : Array Value} {ds gs : List (DataW H)} {before : List MemPlace}
    (hW : DataW.Whole enc Tryz.prog f.params.toList s.vars false W args.toList ds gs before) (hv : varsRowed Tryz.prog s.vars = true) (hr : f.resultTypes = #[4])
    (hs : s.fn H (ds ++ gs) = { results := [.lit (.bool true)], args := ds, vars := gs }) (hread : (f.params.toList.all fun t => Tryz.prog.readableRec t && decide (t < Tryz.prog.types.size)) = true) (hb : Below W.heap.size W W') :
    s.post enc Tryz.prog f false true false false W args (.bool true) W' := by
  have hlt : ∀ x ∈ before, x.block < W.heap.size := fun x hx => by simpa using hW.lt x hx
  have hW0 := hW
  obtain ⟨p, q, hA, hV, rfl, hfz, hnd⟩ := hW0
  refine ⟨ds, gs, p ++ q, [], p, q, hW, ?_, ?_, ?_, ?_, fun h => by cases h⟩
  · rw [hs, hr]
    exact trodAll_mk1 (shut_bool Tryz.underlying4 _)
  · rw [hs]
    exact trodAll_stays laid hb _ _ _ _ hread hA (fun x hx => hlt x (by simp [hx]))
  · rw [hs]
    exact Below.trodVars laid hb hv hV
  · exact hb.frame _
end Go.Proofs.YtabemgplddfemaaGreatDoor
