/- Results: a cell that lies in memory, and two slots. A cell that is stored, in one step. The comparison of two rows of CellS: equal ones are found equal. -/
import Derived.Test.YtabemgplddfemaaGreatDoorZB
import Derived.Test.YtabemgplddfemaaGreatDoorZA
import Derived.Test.YtabemgplddfemaaGreatDoorZC
namespace Go.Proofs.YtabemgplddfemaaGreatDoor
open Go.RowKit
theorem results_cell_nn {P : Program} {fn : Func} {p u v : Tmp} {ty : TypeId} {n : Nat} {x y : Value} (h : fn.results = #[.cell p ty, .tmp u, .tmp v]) (hw : wideB P ty n = true) (tmps : Array Value) {w : World} {g : Nat} {cs : Array Value}
    (hp : tmps.getD p undef = .pointer (some ⟨g, 0, none⟩)) (hx : tmps.getD u undef = x) (hy : tmps.getD v undef = y) (hg : Holds w g cs) (hn : cs.size = n) : (results fn tmps).run P w = .ok (.tuple #[.agg cs, x, y]) w := by
  have hp' : tmps[p]?.getD undef = .pointer (some ⟨g, 0, none⟩) := by simpa using hp
  subst hx hy
  simp [results, h, hp', asAddr, (wide_of hw).loadVar hg hn]
end Go.Proofs.YtabemgplddfemaaGreatDoor

namespace Go.Proofs.YtabemgplddfemaaGreatDoor
open Go.RowKit
set_option linter.unusedVariables false

@[go_sem] theorem wideCl : wideB Tryz.prog 30 2 = true := by kernel_rfl
section
variable (ρ : Operand → Value) (dst : Option Tmp) (x y : Operand) (t : TypeId) (pos : String) (aft : Array Edge) (g : Option (Nat × Bool)) (w : World)
theorem storeCl : (execOp ρ ⟨dst, .store 30 x y, t, pos, aft, g⟩).run Tryz.prog w = opStore Tryz.prog 30 2 (ρ x) (ρ y) w := rfl
end
@[go_sem] theorem opStoreCl_at (g : Nat) (a b : Value) (x y : Int) (w : World) : opStoreRow Tryz.prog 30 2 g 0 #[a, b] true #[.int .i8 x, .int .i8 y] w = .ok .skip (w.setRow g #[.int .i8 x, .int .i8 y]) := by
  rw [opStoreRow_at _ _ _ _ _ _ _ _ wideCl rfl (by simp [Ones, Value.oneCell']) (by simp)]
  rfl
end Go.Proofs.YtabemgplddfemaaGreatDoor

namespace Go.Proofs.YtabemgplddfemaaGreatDoor
open Go.RowKit
set_option linter.unusedVariables false
attribute [local go_sem ↓] loadRow loadGrid loadLawn loadMirror storeRow storeGrid storeLawn allocRow allocGrid allocLawn buildZero buildSides

set_option maxRecDepth 100000 in
theorem eqCell_same (x y : Int) (w : World) :
    Calls Tryz.prog 9 #[.agg #[.int .i8 x, .int .i8 y], .agg #[.int .i8 x, .int .i8 y]] w fun e w' => e = .returned (.bool true) ∧ Below w.heap.size w w' := by
  go_enter Tryz.func9, Tryz.ntmps9
  go_wp2
  all_goals
    go_ret
    exact ⟨rfl, ((Below.refl _ _).alloc (Nat.le_refl _) _).alloc (by simp) _⟩

end Go.Proofs.YtabemgplddfemaaGreatDoor
