/- What the rows that list the library's tables and errors say of memory. -/
import Derived.Test.YthfhpcigjnjkdaaDoorRows
import Derived.Test.YthfhpcigjnjkdaaDoorRdNum
import Derived.LaidLaws
import Derived.RowKitTokens
namespace Go.Proofs.YthfhpcigjnjkdaaDoor
open Go.RowKit Go.WideShapes Go.ChangeShapes
set_option linter.unusedVariables false

theorem tErrG1 : Tryd.prog.globalNamed "strconv.ErrRange" = some 3 := by kernel_rfl
theorem tErrT1 : (Tryd.prog.globals[3]?).map (·.type) = some 117 := by kernel_rfl
theorem tErrG2 : Tryd.prog.globalNamed "strconv.ErrSyntax" = some 2 := by kernel_rfl
theorem tErrT2 : (Tryd.prog.globals[2]?).map (·.type) = some 117 := by kernel_rfl
/-- An interface value that reads as one. -/
theorem iface_of_trod {H : Type} {enc : TypeId × Value → H} {P : Program} {w : World} {base : Nat} {sp : Nat → Bool} {held : Bool} {fuel : Nat} {t : TypeId} {ms : Array (String × TypeId)} {cs : List Value} {y : DataW H × List MemPlace}
    (ht : P.underlying t = some (.interface ms)) (h : DataW.trod enc P w base sp held fuel t cs = some y) : ∃ v, cs = [v] ∧ (v = .nilIface ∨ ∃ u p, v = .iface u p) := by
  cases fuel with
  | zero => simp [DataW.trod] at h
  | succ fuel =>
    match cs, h with
    | [], h => simp [DataW.trod, ht] at h
    | [v], h =>
      refine ⟨v, rfl, ?_⟩
      cases v <;> simp [DataW.trod, ht] at h
      · exact .inr ⟨_, _, rfl⟩
      · exact .inl rfl
    | a :: b :: r, h => simp [DataW.trod, ht] at h
/-- The list of the rows on readers. -/
def laidR : List (String × DataW Unit) := [("math/bits.deBruijn32tab", Rows.laid_math_bits_deBruijn32tab), ("math/bits.deBruijn64tab", Rows.laid_math_bits_deBruijn64tab), ("internal/strconv.uint64pow10", Rows.laid_internal_strconv_uint64pow10), ("unicode/utf8.acceptRanges", Rows.laid_unicode_utf8_acceptRanges), ("strconv.ErrRange", Rows.laid_strconv_ErrRange), ("strconv.ErrSyntax", Rows.laid_strconv_ErrSyntax), ("unicode/utf8.first", Rows.laid_unicode_utf8_first)]
theorem errsUp_of_laid {W : World} (h : laidMet Tryd.prog laidR W) : ErrsUp W := by
  obtain ⟨ps, ⟨g0, t0, cs0, f0, p0, q0, hg0, ht0, hv0, hd0, ⟨g1, t1, cs1, f1, p1, q1, hg1, ht1, hv1, hd1, ⟨g2, t2, cs2, f2, p2, q2, hg2, ht2, hv2, hd2, ⟨g3, t3, cs3, f3, p3, q3, hg3, ht3, hv3, hd3, ⟨g4, t4, cs4, f4, p4, q4, hg4, ht4, hv4, hd4, ⟨g5, t5, cs5, f5, p5, q5, hg5, ht5, hv5, hd5, -, -⟩, -⟩, -⟩, -⟩, -⟩, -⟩, -, -⟩ := h
  obtain rfl := Option.some.inj (tErrG1.symm.trans hg4)
  obtain rfl := Option.some.inj (tErrT1.symm.trans ht4)
  obtain rfl := Option.some.inj (tErrG2.symm.trans hg5)
  obtain rfl := Option.some.inj (tErrT2.symm.trans ht5)
  obtain ⟨v4, e4, k4⟩ := iface_of_trod Tryd.underlying117 hd4
  obtain ⟨v5, e5, k5⟩ := iface_of_trod Tryd.underlying117 hd5
  refine ⟨⟨v5, ?_, k5⟩, v4, ?_, k4⟩
  · have := World.var?_cell hg5 hv5 0
    rw [this]
    have : cs5[0]? = cs5.toList[0]? := by simp
    rw [this, e5]
    rfl
  · have := World.var?_cell hg4 hv4 0
    rw [this]
    have : cs4[0]? = cs4.toList[0]? := by simp
    rw [this, e4]
    rfl
end Go.Proofs.YthfhpcigjnjkdaaDoor
