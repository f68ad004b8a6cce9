/- MoleNights of the model, where it is not refused. -/
import Derived.Test.YtaeenkjbmlgcmaaZN
import Derived.Test.YtaeenkjbmlgcmaaSNight
import Derived.Test.YtaeenkjbmlgcmaaZO
import Derived.Test.YtaeenkjbmlgcmaaGrowP
namespace Go.Proofs.Ytaeenkjbmlgcmaa
open Go.RowKit Go.Shelf
set_option linter.unusedVariables false
set_option linter.unusedSimpArgs false
attribute [local go_sem ↓] loadRow loadGrid loadLawn loadMirror storeRow storeGrid storeLawn allocRow allocGrid allocLawn buildZero buildSides

theorem chkC_good {L : Lawn} {g : Nat → Nat → Int} (hv : levB L g = true) {cs : List Pt} (h : ∀ c ∈ cs, grassP L c = true) : chkC L g true cs = 0 := by
  rw [chkC_is, hv]
  have e1 : (cs.all fun c => isB L c.1 c.2) = true := List.all_eq_true.2 fun c hc => grassB_in (h c hc)
  have e2 : (cs.all fun c => grassB L c.1 c.2) = true := List.all_eq_true.2 fun c hc => h c hc
  rw [e1, e2]
  rfl
theorem own_cell1 (w : World) (q : Q10) (q1 q2 : Nat) (h : q.1.val = q1 ∧ q.2.val = q2) : (w.alloc (.cells #[.int .i8 q1, .int .i8 q2] 37)).ownsRow w.heap.size 37 2 (.slice (some ⟨w.heap.size, 0, none⟩) 1 1) 1 (flatP [ptQ q]) := by
  obtain ⟨rfl, rfl⟩ := h
  exact ⟨rfl, .inr ⟨w.heap.size, 1, #[.int .i8 q.1.val, .int .i8 q.2.val], rfl, Nat.le_refl _, heap_alloc_new _ _, Nat.le_refl _, by simp [maxLen], rfl, rfl⟩⟩
theorem flatPV1 (q : Q10) : flatP [ptQ q] = flatV [q] := rfl
theorem results_cell_tt {P : Program} {fn : Func} {p u z : Tmp} {ty : TypeId} {n : Nat} (h : fn.results = #[.cell p ty, .tmp u, .tmp z]) (hw : wideB P ty n = true) (tmps : Array Value) {w : World} {g : Nat} {cs : Array Value}
    (hp : tmps.getD p undef = .pointer (some ⟨g, 0, none⟩)) (hg : Holds w g cs) (hn : cs.size = n) {v v2 : Value} (hv : tmps.getD u undef = v) (hv2 : tmps.getD z undef = v2) : (results fn tmps).run P w = .ok (.tuple #[.agg cs, v, v2]) w := by
  have hp' : tmps[p]?.getD undef = .pointer (some ⟨g, 0, none⟩) := by simpa using hp
  have hv' : tmps[u]?.getD undef = v := by simpa using hv
  have hv2' : tmps[z]?.getD undef = v2 := by simpa using hv2
  simp [results, h, hp', hv', hv2', asAddr, (wide_of hw).loadVar hg hn]

end Go.Proofs.Ytaeenkjbmlgcmaa
