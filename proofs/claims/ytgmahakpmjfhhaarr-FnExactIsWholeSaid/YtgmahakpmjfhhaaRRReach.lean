/- Open cells: the program's and the model's test. -/
import Derived.Test.YtgmahakpmjfhhaaRRSRuns
import Derived.Test.YtgmahakpmjfhhaaRRSearch
namespace Go.Proofs.YtgmahakpmjfhhaaRR
open Go.RowKit
set_option linter.unusedVariables false
attribute [local go_sem ↓] loadRow loadGrid loadLawn loadMirror storeRow storeGrid storeLawn allocRow allocGrid allocLawn buildZero buildSides

/-- Whether a cell is one of grass or of path. -/
def openB (L : Lawn) (x y : Int) : Bool := isB L x y && (L.kind y.toNat x.toNat == 0 || L.kind y.toNat x.toNat == 3)

set_option maxRecDepth 100000 in
set_option maxHeartbeats 1000000 in
theorem isOpen_any (L : Lawn) (hv : validB L = true) (hL : L.Fits) (x y : Int) (w : World) :
    Calls Try.prog 144 #[.agg L.cells, .agg #[.int .i8 x, .int .i8 y]] w fun e w' => e = .returned (.bool (openB L x y)) ∧ Below w.heap.size w w' := by
  cases hg : grassB L x y
  case true =>
    have e : openB L x y = true := by
      simp only [grassB, Bool.and_eq_true] at hg
      simp only [openB, hg.1, hg.2, Bool.true_or, Bool.and_self]
    rw [e]
    have HG := Lib.hid (isGrass_is L hv hL x y true hg)
    clear e hg hv hL
    go_enter Try.func144, Try.ntmps144
    obtain ⟨g0, c0, hb0⟩ := cell_new w L x y
    go_wp2_with fail
    refine (HG.out _).mono ?_
    rintro e w1 ⟨rfl, hb1⟩
    have hb2 := below_onto hb0 hb1
    clear hb0 hb1 g0 c0
    go_wp2_with fail
    go_ret
    exact ⟨rfl, hb2⟩
  case false =>
    have HG := Lib.hid (isGrass_is L hv hL x y false hg)
    cases hi : isB L x y
    case false =>
      have e : openB L x y = false := by simp [openB, hi]
      rw [e]
      have HB := Lib.hid (has_is L x y · false hi)
      clear e hg hi hv hL
      go_enter Try.func144, Try.ntmps144
      obtain ⟨g0, c0, hb0⟩ := cell_new w L x y
      go_wp2_with fail
      refine (HG.out _).mono ?_
      rintro e w1 ⟨rfl, hb1⟩
      have hb2 := below_onto hb0 hb1
      have g1 := g0.below hb1 g0.lt
      have c1 := c0.below hb1 c0.lt
      clear hb0 hb1 g0 c0
      obtain ⟨r1, -⟩ := g1.facts
      obtain ⟨-, -, d1, -⟩ := c1.facts
      go_wp2_with fail
      refine (HB.out _).mono ?_
      rintro e w2 ⟨rfl, hb1⟩
      have hb3 := below_onto hb2 hb1
      clear hb2 hb1 g1 c1 r1 d1
      go_wp2_with fail
      go_ret
      exact ⟨rfl, hb3⟩
    case true =>
      have HB := Lib.hid (has_is L x y · true hi)
      obtain ⟨i, j, hi10, hj10, rfl, rfl⟩ := cell_nat hv hi
      have e : openB L i j = (L.kind j i == 3) := by
        simp only [grassB, hi, Bool.true_and, Int.toNat_natCast] at hg
        simp only [openB, hi, hg, Bool.true_and, Bool.false_or, Int.toNat_natCast]
      rw [e]
      have HK := Lib.hid (kind_any L i j hi10 hj10)
      clear e hg hi hv hL
      go_enter Try.func144, Try.ntmps144
      obtain ⟨g0, c0, hb0⟩ := cell_new w L i j
      go_wp2_with fail
      refine (HG.out _).mono ?_
      rintro e w1 ⟨rfl, hb1⟩
      have hb2 := below_onto hb0 hb1
      have g1 := g0.below hb1 g0.lt
      have c1 := c0.below hb1 c0.lt
      clear hb0 hb1 g0 c0
      obtain ⟨r1, -⟩ := g1.facts
      obtain ⟨-, -, d1, -⟩ := c1.facts
      go_wp2_with fail
      refine (HB.out _).mono ?_
      rintro e w2 ⟨rfl, hb1⟩
      have hb3 := below_onto hb2 hb1
      have g2 := g1.below hb1 g1.lt
      have c2 := c1.below hb1 c1.lt
      clear hb2 hb1 g1 c1 r1 d1
      obtain ⟨r1, -⟩ := g2.facts
      obtain ⟨-, -, d1, -⟩ := c2.facts
      go_wp2_with fail
      refine (HK.out _).mono ?_
      rintro e w3 ⟨rfl, hb1⟩
      have hb4 := below_onto hb3 hb1
      clear hb3 hb1 g2 c2 r1 d1
      go_wp2_with fail
      go_ret
      exact ⟨rfl, hb4⟩

set_option maxRecDepth 100000 in
set_option maxHeartbeats 1000000 in
theorem open_any (L : Lawn) (hL : L.Fits) (b : Nat) (x y : Nat) (hx : x < 10) (hy : y < 10) (w : World) (h : Holds w b L.cells) :
    Calls Try.prog 115 #[.pointer (some ⟨b, 0, none⟩), .agg #[.int .i8 x, .int .i8 y]] w fun e w' => e = .returned (.bool (L.kind y x == 0 || L.kind y x == 3)) ∧ Below w.heap.size w w' := by
  have h1 := h.alloc (.cells #[.int .i8 x, .int .i8 y] 35)
  have HA := Lib.hid (fun w h => at_any L hL b x y hx hy w h)
  have hb0 := (Below.refl w.heap.size w).alloc (Nat.le_refl _) (.cells #[.int .i8 x, .int .i8 y] 35)
  have c0 := Holds.new w #[.int .i8 x, .int .i8 y] 35
  clear h hx hy hL
  cases hk : (L.kind y x == 0)
  case true =>
    rw [Bool.true_or]
    go_enter Try.func115, Try.ntmps115
    go_wp2_with fail
    refine (HA.out _ h1).mono ?_
    rintro e w1 ⟨rfl, hb1⟩
    have hb2 := below_onto hb0 hb1
    have h2 := h1.below hb1 h1.lt
    have c1 := c0.below hb1 c0.lt
    clear hb0 hb1 h1 c0
    go_wp2_with fail
    go_ret
    exact ⟨rfl, hb2⟩
  case false =>
    rw [Bool.false_or]
    go_enter Try.func115, Try.ntmps115
    go_wp2_with fail
    refine (HA.out _ h1).mono ?_
    rintro e w1 ⟨rfl, hb1⟩
    have hb2 := below_onto hb0 hb1
    have h2 := h1.below hb1 h1.lt
    have c1 := c0.below hb1 c0.lt
    clear hb0 hb1 h1 c0
    obtain ⟨-, -, d1, -⟩ := c1.facts
    go_wp2_with fail
    refine (HA.out _ h2).mono ?_
    rintro e w2 ⟨rfl, hb1⟩
    have hb3 := below_onto hb2 hb1
    clear hb2 hb1 h2 c1 d1
    go_wp2_with fail
    go_ret
    exact ⟨rfl, hb3⟩
end Go.Proofs.YtgmahakpmjfhhaaRR
