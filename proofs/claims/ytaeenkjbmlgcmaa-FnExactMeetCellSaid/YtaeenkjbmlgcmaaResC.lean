/- Results: a cell that lies in memory, and two slots. -/
import Derived.Test.YtaeenkjbmlgcmaaZB
namespace Go.Proofs.Ytaeenkjbmlgcmaa
open Go.RowKit
theorem results_cell_nn {P : Program} {fn : Func} {p u v : Tmp} {ty : TypeId} {n : Nat} {x y : Value} (h : fn.results = #[.cell p ty, .tmp u, .tmp v]) (hw : wideB P ty n = true) (tmps : Array Value) {w : World} {g : Nat} {cs : Array Value}
    (hp : tmps.getD p undef = .pointer (some ⟨g, 0, none⟩)) (hx : tmps.getD u undef = x) (hy : tmps.getD v undef = y) (hg : Holds w g cs) (hn : cs.size = n) : (results fn tmps).run P w = .ok (.tuple #[.agg cs, x, y]) w := by
  have hp' : tmps[p]?.getD undef = .pointer (some ⟨g, 0, none⟩) := by simpa using hp
  subst hx hy
  simp [results, h, hp', asAddr, (wide_of hw).loadVar hg hn]
end Go.Proofs.Ytaeenkjbmlgcmaa
