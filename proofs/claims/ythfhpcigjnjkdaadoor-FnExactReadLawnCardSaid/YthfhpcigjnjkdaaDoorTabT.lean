/- The table of powers of ten, and what FormatInt and Itoa answer with it. -/
import Derived.Test.YthfhpcigjnjkdaaDoorJoinT
import Derived.Test.YthfhpcigjnjkdaaDoorArgs
import Derived.Lib.LaidTab
import Derived.Lib.AppendIntMem
namespace Go.Proofs.YthfhpcigjnjkdaaDoor
open Go.RowKit
set_option linter.unusedVariables false

/-- The powers of ten lie in memory. -/
def TabUp (w : World) : Prop := Lib.TabIs Tryd.prog w "internal/strconv.uint64pow10" .u64 Lib.pow10Tab
theorem tabG : Tryd.prog.globalNamed "internal/strconv.uint64pow10" = some 1 := by kernel_rfl
theorem TabUp.below {w w' : World} {B : Nat} (h : TabUp w) (hb : Below B w w') (hB : w.heap.size ≤ B) : TabUp w' := by
  have h0 := h
  unfold TabUp Lib.TabIs World.var? at h ⊢
  rw [tabG] at h ⊢
  simp only [Option.bind_some] at h ⊢
  have hlt : 1 < w.heap.size := by
    rcases Nat.lt_or_ge 1 w.heap.size with hl | hl
    · exact hl
    · rw [Array.getElem?_eq_none hl] at h; cases h
  rw [hb.block _ (by omega)]
  exact h
theorem formatInt_any (x : Nat) (hx : x < 1000) (w : World) (h : TabUp w) : Calls Tryd.prog 83 #[.int .i64 (x : Int), .int .i64 10] w fun e w' => e = .returned (.string ⟨(dd x).toArray⟩) ∧ Below w.heap.size w w' := by
  refine (Tryd.strconv_FormatInt_10 (x : Int) (by omega) (by omega) w h).mono fun e w' ⟨h1, k, os, h2⟩ => ⟨by rw [h1, itoa_dd hx], ?_⟩
  rw [h2]
  exact Lib.below_grow _ w (Nat.le_refl _) k os
/-- A number's text, with its sign. -/
def sgT (x : Int) : List UInt8 := if x < 0 then 45 :: dd (-x).toNat else dd x.toNat
theorem itoaS_any (x : Int) (h0 : -1000 < x) (h1 : x < 1000) (w : World) (h : TabUp w) : Calls Tryd.prog 69 #[.int .i64 x] w fun e w' => e = .returned (.string ⟨(sgT x).toArray⟩) ∧ Below w.heap.size w w' := by
  refine (Tryd.strconv_Itoa x (by omega) (by omega) w h).mono fun e w' ⟨h1', k, os, h2⟩ => ⟨?_, ?_⟩
  · rw [h1']
    unfold Lib.itoa sgT
    split
    · rw [dec_dd (by omega), show x.natAbs = (-x).toNat by omega]
    · rw [dec_dd (by omega)]
  · rw [h2]
    exact Lib.below_grow _ w (Nat.le_refl _) k os
end Go.Proofs.YthfhpcigjnjkdaaDoor
