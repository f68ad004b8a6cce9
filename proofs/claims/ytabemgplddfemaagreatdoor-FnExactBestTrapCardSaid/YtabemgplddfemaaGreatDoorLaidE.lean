/- What the rows that list the five errors say of memory. -/
import Derived.Test.YtabemgplddfemaaGreatDoorRows
import Derived.Test.YtabemgplddfemaaGreatDoorErrs
import Derived.LaidLaws
import Derived.Stop.ErrReads
import Derived.RowKitTokens
namespace Go.Proofs.YtabemgplddfemaaGreatDoor
open Go.RowKit Go.WideShapes Go.ChangeShapes
set_option linter.unusedVariables false

theorem errG0 : Tryz.prog.globalNamed "loop.example/g01405/impl.errOutside" = some 1 := by kernel_rfl
theorem errT0 : (Tryz.prog.globals[1]?).map (·.type) = some 58 := by kernel_rfl
theorem errG1 : Tryz.prog.globalNamed "loop.example/g01405/impl.errNoGrass" = some 2 := by kernel_rfl
theorem errT1 : (Tryz.prog.globals[2]?).map (·.type) = some 58 := by kernel_rfl
theorem errG2 : Tryz.prog.globalNamed "loop.example/g01405/impl.errNoWay" = some 3 := by kernel_rfl
theorem errT2 : (Tryz.prog.globals[3]?).map (·.type) = some 58 := by kernel_rfl
theorem errG3 : Tryz.prog.globalNamed "loop.example/g01405/impl.errTooFar" = some 4 := by kernel_rfl
theorem errT3 : (Tryz.prog.globals[4]?).map (·.type) = some 58 := by kernel_rfl
theorem errG4 : Tryz.prog.globalNamed "loop.example/g01405/impl.errLevels" = some 0 := by kernel_rfl
theorem errT4 : (Tryz.prog.globals[0]?).map (·.type) = some 58 := by kernel_rfl
theorem errName : Tryz.prog.typeName? 3 159 = some "*errors.errorString" := by kernel_rfl
theorem errCells : Tryz.prog.cellsOf 186 = 1 := by kernel_rfl
theorem strCells : Tryz.prog.cellsOf 9 = 1 := by kernel_rfl
theorem errStar : "*" ++ "errors.errorString" = "*errors.errorString" := by decide
theorem errRow (u : TypeId) (h : Tryz.prog.typeName? 3 u = some "*errors.errorString") : u = 159 :=
  typeName_ptr_named (nm := "errors.errorString") (by rw [errStar]; kernel_rfl) (by kernel_rfl) (by decide) u (by rw [errStar]; exact h)

/-- The list of the rows. -/
def laidErrs : List (String × DataW Unit) := [("loop.example/g01405/impl.errLevels", Rows.laid_loop_example_g01405_impl_errLevels), ("loop.example/g01405/impl.errOutside", Rows.laid_loop_example_g01405_impl_errOutside), ("loop.example/g01405/impl.errNoGrass", Rows.laid_loop_example_g01405_impl_errNoGrass), ("loop.example/g01405/impl.errNoWay", Rows.laid_loop_example_g01405_impl_errNoWay), ("loop.example/g01405/impl.errTooFar", Rows.laid_loop_example_g01405_impl_errTooFar)]

set_option maxRecDepth 100000 in
set_option maxHeartbeats 2000000 in
theorem errs_of_laid {W : World} (h : laidMet Tryz.prog laidErrs W) : ∃ a0 a1 a2 a3 a4, ErrsIn W a0 a1 a2 a3 a4 := by
  obtain ⟨ps, ⟨g4, t4, cs4, f4, p4, q4, hg4, ht4, hv4, hd4, ⟨g0, t0, cs0, f0, p0, q0, hg0, ht0, hv0, hd0, ⟨g1, t1, cs1, f1, p1, q1, hg1, ht1, hv1, hd1, ⟨g2, t2, cs2, f2, p2, q2, hg2, ht2, hv2, hd2, ⟨g3, t3, cs3, f3, p3, q3, hg3, ht3, hv3, hd3, _, e3⟩, e2⟩, e1⟩, e0⟩, e4⟩, hnd, hrows⟩ := h
  obtain rfl := Option.some.inj (errG4.symm.trans hg4)
  obtain rfl := Option.some.inj (errT4.symm.trans ht4)
  obtain rfl := Option.some.inj (errG0.symm.trans hg0)
  obtain rfl := Option.some.inj (errT0.symm.trans ht0)
  obtain rfl := Option.some.inj (errG1.symm.trans hg1)
  obtain rfl := Option.some.inj (errT1.symm.trans ht1)
  obtain rfl := Option.some.inj (errG2.symm.trans hg2)
  obtain rfl := Option.some.inj (errT2.symm.trans ht2)
  obtain rfl := Option.some.inj (errG3.symm.trans hg3)
  obtain rfl := Option.some.inj (errT3.symm.trans ht3)
  subst e3
  subst e2
  subst e1
  subst e0
  subst e4
  obtain ⟨l4⟩ := cs4
  have ok4 : ∀ u v, l4 = [.iface u v] → Value.okWide Tryz.prog W .any 0 u v := fun u v e => by
    subst e
    exact (hrows 0 0 (by simp [MemPlace.row])).2 u v (by simpa using World.var?_cell hg4 hv4 0)
  obtain ⟨l0⟩ := cs0
  have ok0 : ∀ u v, l0 = [.iface u v] → Value.okWide Tryz.prog W .any 0 u v := fun u v e => by
    subst e
    exact (hrows 1 0 (by simp [MemPlace.row])).2 u v (by simpa using World.var?_cell hg0 hv0 0)
  obtain ⟨l1⟩ := cs1
  have ok1 : ∀ u v, l1 = [.iface u v] → Value.okWide Tryz.prog W .any 0 u v := fun u v e => by
    subst e
    exact (hrows 2 0 (by simp [MemPlace.row])).2 u v (by simpa using World.var?_cell hg1 hv1 0)
  obtain ⟨l2⟩ := cs2
  have ok2 : ∀ u v, l2 = [.iface u v] → Value.okWide Tryz.prog W .any 0 u v := fun u v e => by
    subst e
    exact (hrows 3 0 (by simp [MemPlace.row])).2 u v (by simpa using World.var?_cell hg2 hv2 0)
  obtain ⟨l3⟩ := cs3
  have ok3 : ∀ u v, l3 = [.iface u v] → Value.okWide Tryz.prog W .any 0 u v := fun u v e => by
    subst e
    exact (hrows 4 0 (by simp [MemPlace.row])).2 u v (by simpa using World.var?_cell hg3 hv3 0)
  obtain ⟨a4, s4, rfl, hc4, hs4, hz4, rfl⟩ := errorString_of_trod Tryz.underlying58 errRow Tryz.underlying159 Tryz.underlying186 rfl rfl Tryz.underlying9 errCells strCells hd4 ok4
  obtain ⟨a0, s0, rfl, hc0, hs0, hz0, rfl⟩ := errorString_of_trod Tryz.underlying58 errRow Tryz.underlying159 Tryz.underlying186 rfl rfl Tryz.underlying9 errCells strCells hd0 ok0
  obtain ⟨a1, s1, rfl, hc1, hs1, hz1, rfl⟩ := errorString_of_trod Tryz.underlying58 errRow Tryz.underlying159 Tryz.underlying186 rfl rfl Tryz.underlying9 errCells strCells hd1 ok1
  obtain ⟨a2, s2, rfl, hc2, hs2, hz2, rfl⟩ := errorString_of_trod Tryz.underlying58 errRow Tryz.underlying159 Tryz.underlying186 rfl rfl Tryz.underlying9 errCells strCells hd2 ok2
  obtain ⟨a3, s3, rfl, hc3, hs3, hz3, rfl⟩ := errorString_of_trod Tryz.underlying58 errRow Tryz.underlying159 Tryz.underlying186 rfl rfl Tryz.underlying9 errCells strCells hd3 ok3
  have hb4 := (hrows a4.block a4.off (by simp [MemPlace.row])).1
  have hb0 := (hrows a0.block a0.off (by simp [MemPlace.row])).1
  have hb1 := (hrows a1.block a1.off (by simp [MemPlace.row])).1
  have hb2 := (hrows a2.block a2.off (by simp [MemPlace.row])).1
  have hb3 := (hrows a3.block a3.off (by simp [MemPlace.row])).1
  refine ⟨a0, a1, a2, a3, a4, { v0 := by simpa using World.var?_cell hg0 hv0 0, v1 := by simpa using World.var?_cell hg1 hv1 0, v2 := by simpa using World.var?_cell hg2 hv2 0, v3 := by simpa using World.var?_cell hg3 hv3 0, v4 := by simpa using World.var?_cell hg4 hv4 0, r0 := hb0, r1 := hb1, r2 := hb2, r3 := hb3, r4 := hb4, n01 := ?_, n02 := ?_, n03 := ?_, n04 := ?_, n10 := ?_, n12 := ?_, n13 := ?_, n14 := ?_, n20 := ?_, n21 := ?_, n23 := ?_, n24 := ?_, n30 := ?_, n31 := ?_, n32 := ?_, n34 := ?_, n40 := ?_, n41 := ?_, n42 := ?_, n43 := ?_, low := ?_ }⟩
  all_goals try (rintro rfl; simp [MemPlace.row] at hnd)
  have k0 : 1 < W.heap.size := by
    have h := World.var?_cell hg0 hv0 0
    rcases Nat.lt_or_ge 1 W.heap.size with h2 | h2
    · exact h2
    · simp [World.cell?, Array.getElem?_eq_none h2] at h
  have k1 : 2 < W.heap.size := by
    have h := World.var?_cell hg1 hv1 0
    rcases Nat.lt_or_ge 2 W.heap.size with h2 | h2
    · exact h2
    · simp [World.cell?, Array.getElem?_eq_none h2] at h
  have k2 : 3 < W.heap.size := by
    have h := World.var?_cell hg2 hv2 0
    rcases Nat.lt_or_ge 3 W.heap.size with h2 | h2
    · exact h2
    · simp [World.cell?, Array.getElem?_eq_none h2] at h
  have k3 : 4 < W.heap.size := by
    have h := World.var?_cell hg3 hv3 0
    rcases Nat.lt_or_ge 4 W.heap.size with h2 | h2
    · exact h2
    · simp [World.cell?, Array.getElem?_eq_none h2] at h
  have k4 : 0 < W.heap.size := by
    have h := World.var?_cell hg4 hv4 0
    rcases Nat.lt_or_ge 0 W.heap.size with h2 | h2
    · exact h2
    · simp [World.cell?, Array.getElem?_eq_none h2] at h
  omega

/-- The first block behind those of the program. -/
noncomputable def errLow : Nat := (World.holding Tryz.prog default ⟨#[], #[], []⟩).heap.size
def errText0 : ByteArray := ⟨#[97, 32, 99, 101, 108, 108, 32, 111, 114, 32, 97, 32, 110, 117, 109, 98, 101, 114, 32, 105, 115, 32, 111, 117, 116, 32, 111, 102, 32, 114, 97, 110, 103, 101]⟩
def errText1 : ByteArray := ⟨#[97, 32, 99, 101, 108, 108, 32, 105, 115, 32, 110, 111, 32, 103, 114, 97, 115, 115]⟩
def errText2 : ByteArray := ⟨#[97, 32, 104, 97, 117, 108, 32, 101, 110, 100, 115, 32, 119, 104, 101, 114, 101, 32, 105, 116, 32, 98, 101, 103, 105, 110, 115]⟩
def errText3 : ByteArray := ⟨#[97, 32, 108, 101, 118, 101, 108, 32, 119, 111, 117, 108, 100, 32, 98, 101, 32, 116, 111, 111, 32, 104, 105, 103, 104, 32, 111, 114, 32, 116, 111, 111, 32, 108, 111, 119]⟩
def errText4 : ByteArray := ⟨#[108, 101, 118, 101, 108, 115, 32, 97, 114, 101, 32, 110, 111, 116, 32, 118, 97, 108, 105, 100, 32, 102, 111, 114, 32, 116, 104, 101, 32, 108, 97, 119, 110]⟩
/-- A world in which the five errors lie. -/
noncomputable def laidWorldE (os : Os) : World :=
  let w0 := World.holding Tryz.prog os ⟨#[.cells #[.string errText0] 186, .cells #[.string errText1] 186, .cells #[.string errText2] 186, .cells #[.string errText3] 186, .cells #[.string errText4] 186], #[], []⟩
  { w0 with heap := (((((w0.heap.modify 1 fun
      | .cells _ t frozen => .cells #[.iface 159 (.pointer (some ⟨errLow, 0, none⟩))] t frozen
      | o => o).modify 2 fun
      | .cells _ t frozen => .cells #[.iface 159 (.pointer (some ⟨errLow + 1, 0, none⟩))] t frozen
      | o => o).modify 3 fun
      | .cells _ t frozen => .cells #[.iface 159 (.pointer (some ⟨errLow + 2, 0, none⟩))] t frozen
      | o => o).modify 4 fun
      | .cells _ t frozen => .cells #[.iface 159 (.pointer (some ⟨errLow + 3, 0, none⟩))] t frozen
      | o => o).modify 0 fun
      | .cells _ t frozen => .cells #[.iface 159 (.pointer (some ⟨errLow + 4, 0, none⟩))] t frozen
      | o => o) }
theorem laidWorldE_met (os : Os) (args : Array Value) : laidMet Tryz.prog laidErrs ((laidWorldE os).forCall (fun _ _ => 0) ⟨#[], args, []⟩).memory :=
  laidMet_of_run (ps := [.cell 0 0, .cell (errLow + 4) 0, .cell 1 0, .cell (errLow) 0, .cell 2 0, .cell (errLow + 1) 0, .cell 3 0, .cell (errLow + 2) 0, .cell 4 0, .cell (errLow + 3) 0]) 8 (by kernel_rfl) (by kernel_rfl) (by kernel_rfl)
end Go.Proofs.YtabemgplddfemaaGreatDoor
