/- All sides, of the program; how long the edge is. -/
import Derived.Test.YtmoldkdidhnahaaISide
import Derived.Test.YtmoldkdidhnahaaEqlSd
namespace Go.Proofs.Ytmoldkdidhnahaa
open Go.RowKit Go.Shelf
set_option linter.unusedVariables false
attribute [local go_sem] Oper.semAt_some
attribute [local go_sem ↓] loadRow loadGrid loadLawn loadMirror storeRow storeGrid storeLawn allocRow allocGrid allocLawn buildZero buildSides loadRow' loadGrid' loadLawn' loadMirror' storeRow' storeGrid' storeLawn' allocRow' allocGrid' allocLawn' buildZero' buildSides' loadSd storeSd allocSd buildSd loadSd' storeSd' allocSd' buildSd' eqlSd buildInner



set_option maxRecDepth 100000 in
set_option maxHeartbeats 1000000 in
theorem isInner_any (L : Lawn) (hv : validB L = true) (x y : Int) (x0 : 0 ≤ x) (x1 : x ≤ 9) (y0 : 0 ≤ y) (y1 : y ≤ 9) (w : World) :
    Calls Try.prog 60 #[.agg L.cells, .agg #[.int .i8 x, .int .i8 y]] w fun e w' => e = .returned (.bool (innerB L (x, y))) ∧ Below w.heap.size w w' := by
  have HSA := Lib.hid (sidesAt_any L hv x y x0 x1 y0 y1)
  have HE := Lib.hid (inner_is hv (x, y))
  clear hv
  go_enter Try.func60, Try.ntmps60
  obtain ⟨g0, c0, hb0⟩ := cell_new w L x y
  go_wp2_with fail
  refine (HSA.out _).mono ?_
  rintro e w1 ⟨rfl, hb1⟩
  have hb2 := below_onto hb0 hb1
  clear hb0 hb1 g0 c0
  go_wp2_with fail
  go_ret
  exact ⟨by rw [HE.out]; rfl, hb2⟩

end Go.Proofs.Ytmoldkdidhnahaa
