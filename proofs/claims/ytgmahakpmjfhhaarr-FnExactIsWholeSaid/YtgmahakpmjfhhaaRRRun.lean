/- Runs of grass: one of them, by the program and by the model. -/
import Derived.Test.YtgmahakpmjfhhaaRRAt
import Derived.Test.YtgmahakpmjfhhaaRRKindAt
import Derived.Test.YtgmahakpmjfhhaaRROnly
namespace Go.Proofs.YtgmahakpmjfhhaaRR
open Go.RowKit
set_option linter.unusedVariables false
attribute [local go_sem ↓] loadRow loadGrid loadLawn loadMirror storeRow storeGrid storeLawn allocRow allocGrid allocLawn buildZero buildSides

/-- There is grass. -/
def grassB (L : Lawn) (x y : Int) : Bool := isB L x y && L.kind y.toNat x.toNat == 0
theorem grassB_in {L : Lawn} {x y : Int} (h : grassB L x y = true) : isB L x y = true := by simp only [grassB, Bool.and_eq_true] at h; exact h.1
theorem isB_in {L : Lawn} {x y : Int} (h : isB L x y = true) : 0 ≤ x ∧ x < L.wide ∧ 0 ≤ y ∧ y < L.high := by
  simp only [isB, inB, Bool.and_eq_true, decide_eq_true_eq] at h; omega
/-- The place of the i-th cell of a run. -/
def posX (across : Bool) (x : Int) (i : Nat) : Int := if across then x + i else x
def posY (across : Bool) (y : Int) (i : Nat) : Int := if across then y else y + i
/-- The step of a way. -/
def stepX (across : Bool) : Int := if across then 1 else 0
def stepY (across : Bool) : Int := if across then 0 else 1
theorem posX_zero (across : Bool) (x : Int) : posX across x 0 = x := by cases across <;> simp [posX]
theorem posY_zero (across : Bool) (x : Int) : posY across x 0 = x := by cases across <;> simp [posY]
theorem posX_succ (across : Bool) (x : Int) (i : Nat) : posX across x i + stepX across = posX across x (i + 1) := by cases across <;> simp [posX, stepX]; omega
theorem posY_succ (across : Bool) (x : Int) (i : Nat) : posY across x i + stepY across = posY across x (i + 1) := by cases across <;> simp [posY, stepY]; omega
/-- From a cell on there are n cells of grass. -/
def RunIs (L : Lawn) (across : Bool) (x y : Int) (n : Nat) : Prop := (∀ i : Nat, i < n → grassB L (posX across x i) (posY across y i) = true) ∧ grassB L (posX across x n) (posY across y n) = false
def runN (L : Lawn) (across : Bool) (x y : Int) : Nat → Nat → Nat
  | 0, i => i
  | f + 1, i => if grassB L (posX across x i) (posY across y i) then runN L across x y f (i + 1) else i
theorem runN_of (L : Lawn) (across : Bool) (x y : Int) (n : Nat) (h : RunIs L across x y n) : ∀ (f i : Nat), i ≤ n → n < i + f → runN L across x y f i = n
  | 0, i, h1, h2 => by omega
  | f + 1, i, h1, h2 => by
    by_cases e : i = n
    · subst e
      simp [runN, h.2]
    · simp only [runN, h.1 i (by omega), if_true]
      exact runN_of L across x y n h f (i + 1) (by omega) (by omega)
/-- How long the run from a cell on is. -/
def runLen (L : Lawn) (across : Bool) (x y : Int) : Nat := runN L across x y 12 0
theorem runLen_of {L : Lawn} {across : Bool} {x y : Int} {n : Nat} (h : RunIs L across x y n) (hn : n ≤ 10) : runLen L across x y = n := runN_of L across x y n h 12 0 (by omega) (by omega)
theorem grass_pos {L : Lawn} (hv : validB L = true) {across : Bool} {x y : Int} {j : Nat} (hx : 0 ≤ x) (hy : 0 ≤ y) (h : grassB L (posX across x j) (posY across y j) = true) :
    j ≤ 9 ∧ 0 ≤ posX across x j ∧ posX across x j ≤ 9 ∧ 0 ≤ posY across y j ∧ posY across y j ≤ 9 := by
  obtain ⟨h1, h2, -⟩ := validB_true hv
  have := isB_in (grassB_in h)
  cases across <;> simp [posX, posY] at this ⊢ <;> omega

theorem cell_new (w : World) (L : Lawn) (x y : Int) : Holds ((w.alloc (.cells L.cells 28)).alloc (.cells #[.int .i8 x, .int .i8 y] 35)) w.heap.size L.cells ∧ Holds ((w.alloc (.cells L.cells 28)).alloc (.cells #[.int .i8 x, .int .i8 y] 35)) (w.heap.size + 1) #[.int .i8 x, .int .i8 y] ∧ Below w.heap.size w ((w.alloc (.cells L.cells 28)).alloc (.cells #[.int .i8 x, .int .i8 y] 35)) :=
  ⟨(Holds.new _ _ _).alloc _, Holds.new' _ _ _ _ (by simp), ((Below.refl _ _).alloc (Nat.le_refl _) _).alloc (by simp) _⟩

set_option maxRecDepth 100000 in
set_option maxHeartbeats 1000000 in
theorem isGrass_any (L : Lawn) (hv : validB L = true) (hL : L.Fits) (x y : Int) (w : World) :
    Calls Try.prog 99 #[.agg L.cells, .agg #[.int .i8 x, .int .i8 y]] w fun e w' => e = .returned (.bool (grassB L x y)) ∧ Below w.heap.size w w' := by
  cases hi : isB L x y
  case false =>
    have e : grassB L x y = false := by simp [grassB, hi]
    rw [e]
    have HB := Lib.hid (has_is L x y · false hi)
    clear e hi hv hL
    go_enter Try.func99, Try.ntmps99
    obtain ⟨g0, c0, hb0⟩ := cell_new w L x y
    go_wp2_with fail
    refine (HB.out _).mono ?_
    rintro e w1 ⟨rfl, hb1⟩
    have hb2 := below_onto hb0 hb1
    clear hb0 hb1 g0 c0
    go_wp2_with fail
    go_ret
    exact ⟨rfl, hb2⟩
  case true =>
    have HB := Lib.hid (has_is L x y · true hi)
    obtain ⟨i, j, hi10, hj10, rfl, rfl⟩ := cell_nat hv hi
    have e : grassB L i j = (L.kind j i == 0) := by simp [grassB, hi]
    rw [e]
    have HK := Lib.hid (kind_any L i j hi10 hj10)
    clear e hi hv hL
    go_enter Try.func99, Try.ntmps99
    obtain ⟨g0, c0, hb0⟩ := cell_new w L i j
    go_wp2_with fail
    refine (HB.out _).mono ?_
    rintro e w1 ⟨rfl, hb1⟩
    have hb2 := below_onto hb0 hb1
    have g1 := g0.below hb1 g0.lt
    have c1 := c0.below hb1 c0.lt
    clear hb0 hb1 g0 c0
    obtain ⟨r1, -⟩ := g1.facts
    obtain ⟨-, -, d1, -⟩ := c1.facts
    go_wp2_with fail
    refine (HK.out _).mono ?_
    rintro e w2 ⟨rfl, hb1⟩
    have hb3 := below_onto hb2 hb1
    clear hb2 hb1 g1 c1 r1 d1
    go_wp2_with fail
    go_ret
    exact ⟨rfl, hb3⟩
theorem isGrass_is (L : Lawn) (hv : validB L = true) (hL : L.Fits) (x y : Int) (v : Bool) (h : grassB L x y = v) (w : World) :
    Calls Try.prog 99 #[.agg L.cells, .agg #[.int .i8 x, .int .i8 y]] w fun e w' => e = .returned (.bool v) ∧ Below w.heap.size w w' := h ▸ isGrass_any L hv hL x y w

/-- The cells beside one. -/
theorem west_any (x y : Int) (h0 : -128 < x) (h1 : x ≤ 127) (w : World) : Calls Try.prog 163 #[.agg #[.int .i8 x, .int .i8 y]] w fun e w' => e = .returned (.agg #[.int .i8 (x - 1), .int .i8 y]) ∧ Below w.heap.size w w' := by
  go_enter Try.func163, Try.ntmps163
  go_wp2_with fail
  exact bodyPost_ret (results_cell_holds (n := 2) rfl (by kernel_rfl) _ rfl (Holds.new' _ _ _ (w.heap.size + 1) (by simp)) rfl) rfl ⟨rfl, ((Below.refl _ _).alloc (Nat.le_refl _) _).alloc (by simp) _⟩
theorem east_any (x y : Int) (h0 : -128 ≤ x) (h1 : x < 127) (w : World) : Calls Try.prog 164 #[.agg #[.int .i8 x, .int .i8 y]] w fun e w' => e = .returned (.agg #[.int .i8 (x + 1), .int .i8 y]) ∧ Below w.heap.size w w' := by
  go_enter Try.func164, Try.ntmps164
  go_wp2_with fail
  exact bodyPost_ret (results_cell_holds (n := 2) rfl (by kernel_rfl) _ rfl (Holds.new' _ _ _ (w.heap.size + 1) (by simp)) rfl) rfl ⟨rfl, ((Below.refl _ _).alloc (Nat.le_refl _) _).alloc (by simp) _⟩
theorem north_any (x y : Int) (h0 : -128 < y) (h1 : y ≤ 127) (w : World) : Calls Try.prog 165 #[.agg #[.int .i8 x, .int .i8 y]] w fun e w' => e = .returned (.agg #[.int .i8 x, .int .i8 (y - 1)]) ∧ Below w.heap.size w w' := by
  go_enter Try.func165, Try.ntmps165
  go_wp2_with fail
  exact bodyPost_ret (results_cell_holds (n := 2) rfl (by kernel_rfl) _ rfl (Holds.new' _ _ _ (w.heap.size + 1) (by simp)) rfl) rfl ⟨rfl, ((Below.refl _ _).alloc (Nat.le_refl _) _).alloc (by simp) _⟩
theorem south_any (x y : Int) (h0 : -128 ≤ y) (h1 : y < 127) (w : World) : Calls Try.prog 166 #[.agg #[.int .i8 x, .int .i8 y]] w fun e w' => e = .returned (.agg #[.int .i8 x, .int .i8 (y + 1)]) ∧ Below w.heap.size w w' := by
  go_enter Try.func166, Try.ntmps166
  go_wp2_with fail
  exact bodyPost_ret (results_cell_holds (n := 2) rfl (by kernel_rfl) _ rfl (Holds.new' _ _ _ (w.heap.size + 1) (by simp)) rfl) rfl ⟨rfl, ((Below.refl _ _).alloc (Nat.le_refl _) _).alloc (by simp) _⟩

/-- The functions of the cell behind and of the cell before in a run. -/
def behindF (across : Bool) : Nat := if across then 164 else 166
def beforeF (across : Bool) : Nat := if across then 163 else 165
theorem behind_any (across : Bool) (x y : Int) (h0 : -128 ≤ x) (h1 : x < 127) (h2 : -128 ≤ y) (h3 : y < 127) (w : World) : Calls Try.prog (behindF across) #[.agg #[.int .i8 x, .int .i8 y]] w fun e w' => e = .returned (.agg #[.int .i8 (x + stepX across), .int .i8 (y + stepY across)]) ∧ Below w.heap.size w w' := by
  cases across
  · simpa [behindF, stepX, stepY] using south_any x y h2 h3 w
  · simpa [behindF, stepX, stepY] using east_any x y h0 h1 w
theorem before_any (across : Bool) (x y : Int) (h0 : -128 < x) (h1 : x ≤ 127) (h2 : -128 < y) (h3 : y ≤ 127) (w : World) : Calls Try.prog (beforeF across) #[.agg #[.int .i8 x, .int .i8 y]] w fun e w' => e = .returned (.agg #[.int .i8 (x - stepX across), .int .i8 (y - stepY across)]) ∧ Below w.heap.size w w' := by
  cases across
  · simpa [beforeF, stepX, stepY] using north_any x y h2 h3 w
  · simpa [beforeF, stepX, stepY] using west_any x y h0 h1 w
theorem behind_enters (across : Bool) (args : Array Value) (w : World) : (callFunc (behindF across) args).run Try.prog w = .ok (.enter (behindF across) args) w := by
  cases across
  · exact enters_of Try.func166 (by kernel_rfl) rfl args w
  · exact enters_of Try.func164 (by kernel_rfl) rfl args w
theorem before_enters (across : Bool) (args : Array Value) (w : World) : (callFunc (beforeF across) args).run Try.prog w = .ok (.enter (beforeF across) args) w := by
  cases across
  · exact enters_of Try.func165 (by kernel_rfl) rfl args w
  · exact enters_of Try.func163 (by kernel_rfl) rfl args w
theorem alongRuns_any (across : Bool) (w : World) : Calls Try.prog 97 #[.bool across] w fun e w' => e = .returned (.tuple #[.func (.func (beforeF across)) #[] #[], .func (.func (behindF across)) #[] #[]]) ∧ Below w.heap.size w w' := by
  cases across
  all_goals
    go_enter Try.func97, Try.ntmps97
    go_wp2_with fail
    go_ret2
    exact ⟨rfl, Below.refl _ _⟩

/-- The value of a run. -/
def runV (x y l : Int) : Value := .agg #[.int .i8 x, .int .i8 y, .int .i8 l]

set_option maxRecDepth 100000 in
set_option maxHeartbeats 1000000 in
theorem runFrom_any (L : Lawn) (hv : validB L = true) (hL : L.Fits) (across : Bool) (x y : Int) (hg : grassB L x y = true) (w : World) :
    Calls Try.prog 100 #[.agg L.cells, .agg #[.int .i8 x, .int .i8 y], .func (.func (behindF across)) #[] #[]] w fun e w' => e = .returned (runV x y (runLen L across x y)) ∧ Below w.heap.size w w' := by
  have HG := Lib.hid (isGrass_any L hv hL)
  have HBe := Lib.hid (behind_any across)
  have HGP := Lib.hid (fun j => grass_pos hv (across := across) (x := x) (y := y) (j := j))
  obtain ⟨hx0, hx1, hy0, hy1⟩ := isB_in (grassB_in hg)
  obtain ⟨hw1, hw2, -⟩ := validB_true hv
  have hxx : x ≤ 9 ∧ y ≤ 9 := by omega
  obtain ⟨hxx, hyy⟩ := hxx
  obtain ⟨f, hf⟩ : ∃ f, behindF across = f := ⟨_, rfl⟩
  have hE := behind_enters across
  rw [hf] at HBe hE ⊢
  clear hf hg hw1 hw2 hv hL
  go_enter Try.func100, Try.ntmps100
  go_wp2_with fail
  obtain ⟨B, hB⟩ : ∃ B, w.heap.size = B := ⟨_, rfl⟩
  obtain ⟨W0, hW0⟩ : ∃ W0, ((((w.alloc (.cells L.cells 28)).alloc (.cells #[.int .i8 x, .int .i8 y] 35)).alloc (.cells #[.int .i8 0, .int .i8 0, .int .i8 0] 37)).alloc (.cells #[.int .i8 x, .int .i8 y, .int .i8 0] 37)).alloc (.cells #[.int .i8 x, .int .i8 y] 35) = W0 := ⟨_, rfl⟩
  have g0 : Holds W0 B L.cells := by rw [← hW0]; exact ((((Holds.new' _ _ _ _ hB.symm).alloc _).alloc _).alloc _).alloc _
  have g2 : Holds W0 (B + 1 + 1) #[.int .i8 0, .int .i8 0, .int .i8 0] := by rw [← hW0]; exact ((Holds.new' _ _ _ _ (by simp; omega)).alloc _).alloc _
  have g3 : Holds W0 (B + 1 + 1 + 1) #[.int .i8 x, .int .i8 y, .int .i8 ((0 : Nat) : Int)] := by rw [← hW0]; exact (Holds.new' _ _ _ _ (by simp; omega)).alloc _
  have g4 : Holds W0 (B + 1 + 1 + 1 + 1) #[.int .i8 (posX across x 0), .int .i8 (posY across y 0)] := by rw [← hW0, posX_zero, posY_zero]; exact Holds.new' _ _ _ _ (by simp; omega)
  have hb0 : Below B w W0 := by rw [← hW0]; exact (((((Below.refl _ _).alloc (by omega) _).alloc (by simp; omega) _).alloc (by simp; omega) _).alloc (by simp; omega) _).alloc (by simp; omega) _
  rw [hW0]
  have HB := Lib.hid hB
  rw [hB]
  clear hW0 hB
  go_loopw [8] (fun p wr => ∃ j b : Nat, j ≤ 10 ∧ p = .pointer (some ⟨b, 0, none⟩) ∧ B + 4 ≤ b ∧ Holds wr b #[.int .i8 (posX across x j), .int .i8 (posY across y j)] ∧ Holds wr (B + 1 + 1 + 1) #[.int .i8 x, .int .i8 y, .int .i8 (j : Int)] ∧ Holds wr (B + 1 + 1) #[.int .i8 0, .int .i8 0, .int .i8 0] ∧ Holds wr B L.cells ∧ (∀ i, i < j → grassB L (posX across x i) (posY across y i) = true) ∧ Below B w wr) (fun _ wr => 11 - (intOf ((rowAt wr (B + 1 + 1 + 1)).getD 2 undef)).toNat)
  case atStart => exact ⟨0, _, by omega, rfl, by omega, g4, g3, g2, g0, fun i hi => by omega, hb0⟩
  case round =>
    obtain ⟨j, b, hj, rfl, hbB, h4, h3, h2, h0, hgr, hb⟩ := hrel
    have HGR := Lib.hid hgr
    clear hgr g0 g2 g3 g4 hb0
    obtain ⟨r0, -, -, -, l0⟩ := h0.facts
    obtain ⟨-, -, c4, -, l4⟩ := h4.facts
    go_wp2_with fail
    have hgv := Lib.hid (HGP.out j hx0 hy0)
    obtain ⟨g, hg⟩ : ∃ g, grassB L (posX across x j) (posY across y j) = g := ⟨_, rfl⟩
    have HGJ := Lib.hid hg
    refine (HG.out _ _ _).mono ?_
    rw [hg]
    rintro e w1 ⟨rfl, hb1⟩
    have i4 := h4.below hb1 h4.lt
    have i3 := h3.below hb1 h3.lt
    have i2 := h2.below hb1 h2.lt
    have i0 := h0.below hb1 h0.lt
    have hb2 := hb.trans (hb1.mono (by omega))
    have hm3 := h3.row
    have HM := Lib.hid hm3
    clear h4 h3 h2 h0 hb hb1 r0 c4 hg hm3
    obtain ⟨r4, -, c4, -, l4⟩ := i4.facts
    obtain ⟨r3, f3, c3, z3, l3⟩ := i3.facts
    have hj0 : (0 : Int) ≤ j := by omega
    have hj1 : (j : Int) ≤ 10 := by omega
    cases g
    case false =>
      obtain ⟨-, -, c2, z2, l2⟩ := i2.facts
      have hrun := Lib.hid (runLen_of (L := L) (across := across) (x := x) (y := y) (n := j) ⟨HGR.out, HGJ.out⟩ hj)
      clear hE
      go_wp2_with fail
      have hend : Holds _ (B + 1 + 1) #[.int .i8 x, .int .i8 y, .int .i8 (j : Int)] := ((i2.setCell 0 (.int .i8 x)).setCell 1 (.int .i8 y)).setCell 2 (.int .i8 (j : Int))
      have hbe := ((hb2.setCell (p := ⟨B + 1 + 1, 0, none⟩) (by simp; omega) (.int .i8 x)).setCell (p := ⟨B + 1 + 1, 1, none⟩) (by simp; omega) (.int .i8 y)).setCell (p := ⟨B + 1 + 1, 2, none⟩) (by simp; omega) (.int .i8 (j : Int))
      exact bodyPost_ret (results_cell_holds (n := 3) rfl (by kernel_rfl) _ rfl hend rfl) rfl ⟨by rw [hrun.out]; rfl, HB.out ▸ hbe⟩
    case true =>
      obtain ⟨hj9, px0, px1, py0, py1⟩ := hgv.out HGJ.out
      go_wp2_with fail
      have k3 : Holds ((w1.setCell ⟨B + 1 + 1 + 1, 2, none⟩ (.int .i8 ((j : Int) + 1))).alloc (.cells #[.int .i8 (posX across x j), .int .i8 (posY across y j)] 35)) (B + 1 + 1 + 1) #[.int .i8 x, .int .i8 y, .int .i8 ((j + 1 : Nat) : Int)] := (i3.setCell 2 (.int .i8 ((j : Int) + 1))).alloc _
      have k2 := (i2.setCell_other ⟨B + 1 + 1 + 1, 2, none⟩ (.int .i8 ((j : Int) + 1)) (by simp)).alloc (.cells #[.int .i8 (posX across x j), .int .i8 (posY across y j)] 35)
      have k0 := (i0.setCell_other ⟨B + 1 + 1 + 1, 2, none⟩ (.int .i8 ((j : Int) + 1)) (by simp; omega)).alloc (.cells #[.int .i8 (posX across x j), .int .i8 (posY across y j)] 35)
      have k5 := Holds.new' (w1.setCell ⟨B + 1 + 1 + 1, 2, none⟩ (.int .i8 ((j : Int) + 1))) #[.int .i8 (posX across x j), .int .i8 (posY across y j)] 35 w1.heap.size (by simp)
      have hb3 := (hb2.setCell (p := ⟨B + 1 + 1 + 1, 2, none⟩) (by simp; omega) (.int .i8 ((j : Int) + 1))).alloc (by simp; omega) (.cells #[.int .i8 (posX across x j), .int .i8 (posY across y j)] 35)
      have hl4 := i4.lt
      refine (HBe.out _ _ (by omega) (by omega) (by omega) (by omega) _).mono ?_
      rw [posX_succ, posY_succ]
      rintro e w2 ⟨rfl, hb1⟩
      have m3 := k3.below hb1 k3.lt
      have m2 := k2.below hb1 k2.lt
      have m0 := k0.below hb1 k0.lt
      have m5 := k5.below hb1 k5.lt
      have hb4 := hb3.trans (hb1.mono (by simp; omega))
      obtain ⟨n5, hn5⟩ : ∃ n5, w1.heap.size = n5 := ⟨_, rfl⟩
      rw [hn5] at m5 ⊢
      have hn5' : b < n5 := by omega
      obtain ⟨-, -, c5, z5, l5⟩ := m5.facts
      clear k3 k2 k0 k5 hb3 hb1 i4 i3 i2 i0 r4 c4 r3 f3 c3 z3 hb2 hn5 hE
      go_wp2_with fail
      go_roundw
      case rel =>
        refine ⟨j + 1, n5, by omega, rfl, by omega, (m5.setCell 0 (.int .i8 (posX across x (j + 1)))).setCell 1 (.int .i8 (posY across y (j + 1))), (m3.setCell_other _ _ (by simp; omega)).setCell_other _ _ (by simp; omega), (m2.setCell_other _ _ (by simp; omega)).setCell_other _ _ (by simp; omega), (m0.setCell_other _ _ (by simp; omega)).setCell_other _ _ (by simp; omega), fun i hi => ?_, (hb4.setCell (by simp; omega) _).setCell (by simp; omega) _⟩
        by_cases e : i = j
        · subst e; exact HGJ.out
        · exact HGR.out i (by omega)
      case measure =>
        rw [((m3.setCell_other ⟨n5, 0, none⟩ (.int .i8 (posX across x (j + 1))) (by simp; omega)).setCell_other ⟨n5, 1, none⟩ (.int .i8 (posY across y (j + 1))) (by simp; omega)).row, HM.out]
        simp [intOf]; omega
end Go.Proofs.YtgmahakpmjfhhaaRR
