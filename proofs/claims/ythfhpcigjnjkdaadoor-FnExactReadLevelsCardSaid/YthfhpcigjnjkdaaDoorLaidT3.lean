/- What the rows that list the library's tables say of the powers of ten. -/
import Derived.Test.YthfhpcigjnjkdaaDoorRows
import Derived.Test.YthfhpcigjnjkdaaDoorTabT
import Derived.LaidLaws
import Derived.RowKitTokens
namespace Go.Proofs.YthfhpcigjnjkdaaDoor
open Go.RowKit Go.WideShapes Go.ChangeShapes
set_option linter.unusedVariables false

theorem tabTy : (Tryd.prog.globals[1]?).map (·.type) = some 208 := by kernel_rfl
theorem tabDat : (Rows.laid_internal_strconv_uint64pow10 : DataW Unit) = Lib.tabData .u64 Lib.pow10Tab := by kernel_rfl
/-- The lists of the rows on texts and on readers. -/
def laidT3 : List (String × DataW Unit) := [("math/bits.deBruijn32tab", Rows.laid_math_bits_deBruijn32tab), ("math/bits.deBruijn64tab", Rows.laid_math_bits_deBruijn64tab), ("internal/strconv.uint64pow10", Rows.laid_internal_strconv_uint64pow10)]
def laidT7 : List (String × DataW Unit) := [("math/bits.deBruijn32tab", Rows.laid_math_bits_deBruijn32tab), ("math/bits.deBruijn64tab", Rows.laid_math_bits_deBruijn64tab), ("internal/strconv.uint64pow10", Rows.laid_internal_strconv_uint64pow10), ("unicode/utf8.acceptRanges", Rows.laid_unicode_utf8_acceptRanges), ("strconv.ErrRange", Rows.laid_strconv_ErrRange), ("strconv.ErrSyntax", Rows.laid_strconv_ErrSyntax), ("unicode/utf8.first", Rows.laid_unicode_utf8_first)]
theorem tab_of {W : World} {fuel : Nat} {cs : Array Value} {p : List MemPlace} {held : Bool} {sp : Nat → Bool} {enc : TypeId × Value → Unit} {base : Nat} (hv : W.var? Tryd.prog "internal/strconv.uint64pow10" = some cs) (hd : DataW.trod enc Tryd.prog W base sp held fuel 208 cs.toList = some (Rows.laid_internal_strconv_uint64pow10, p)) : TabUp W := by
  rw [tabDat] at hd
  unfold TabUp Lib.TabIs
  rw [hv, ← Lib.cells_of_tab Tryd.underlying208 Tryd.underlying184 (by kernel_rfl) (by kernel_rfl) hd]
theorem tab_of_laid3 {W : World} (h : laidMet Tryd.prog laidT3 W) : TabUp W := by
  obtain ⟨ps, ⟨g0, t0, cs0, f0, p0, q0, hg0, ht0, hv0, hd0, ⟨g1, t1, cs1, f1, p1, q1, hg1, ht1, hv1, hd1, ⟨g2, t2, cs2, f2, p2, q2, hg2, ht2, hv2, hd2, -, -⟩, -⟩, -⟩, -, -⟩ := h
  obtain rfl := Option.some.inj (tabG.symm.trans hg2)
  obtain rfl := Option.some.inj (tabTy.symm.trans ht2)
  exact tab_of hv2 hd2
theorem tab_of_laid7 {W : World} (h : laidMet Tryd.prog laidT7 W) : TabUp W := by
  obtain ⟨ps, ⟨g0, t0, cs0, f0, p0, q0, hg0, ht0, hv0, hd0, ⟨g1, t1, cs1, f1, p1, q1, hg1, ht1, hv1, hd1, ⟨g2, t2, cs2, f2, p2, q2, hg2, ht2, hv2, hd2, -, -⟩, -⟩, -⟩, -, -⟩ := h
  obtain rfl := Option.some.inj (tabG.symm.trans hg2)
  obtain rfl := Option.some.inj (tabTy.symm.trans ht2)
  exact tab_of hv2 hd2
end Go.Proofs.YthfhpcigjnjkdaaDoor
