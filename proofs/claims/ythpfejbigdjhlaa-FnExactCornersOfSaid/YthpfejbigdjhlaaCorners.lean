/- CornersOf, of both. -/
import Derived.Test.YthpfejbigdjhlaaCorner
import Derived.Test.YthpfejbigdjhlaaZE
import Derived.Test.YthpfejbigdjhlaaZC
namespace Go.Proofs.Ythpfejbigdjhlaa
open Go.RowKit
set_option linter.unusedVariables false
set_option linter.unusedSimpArgs false
attribute [local go_sem ↓] loadRow loadGrid loadLawn loadMirror storeRow storeGrid storeLawn allocRow allocGrid allocLawn buildZero buildSides

def roundG (L : Lawn) (x y : Int) : Nat → Bool := fun k => grassB L (roundK x y k).1 (roundK x y k).2
/-- How many corners there are at a point, in a row of points, in rows of points. -/
def cornP (L : Lawn) (x y : Int) : Int := cornZ (roundG L x y)
def rowZ (L : Lawn) (y : Nat) : Nat → Int
  | 0 => 0
  | n + 1 => rowZ L y n + cornP L n y
def colZ (L : Lawn) (W : Nat) : Nat → Int
  | 0 => 0
  | n + 1 => colZ L W n + rowZ L n (W + 1)
theorem cornZ_bound (f : Nat → Bool) : 0 ≤ cornZ f ∧ cornZ f ≤ 2 := by
  unfold cornZ
  split
  · omega
  · split <;> omega
theorem rowZ_bound (L : Lawn) (y : Nat) : ∀ n : Nat, 0 ≤ rowZ L y n ∧ rowZ L y n ≤ 2 * n
  | 0 => by simp [rowZ]
  | n + 1 => by
    have := rowZ_bound L y n
    have := cornZ_bound (roundG L n y)
    simp only [rowZ, cornP]
    omega
theorem colZ_bound (L : Lawn) (W : Nat) (hW : W ≤ 10) : ∀ n : Nat, 0 ≤ colZ L W n ∧ colZ L W n ≤ 22 * n
  | 0 => by simp [colZ]
  | n + 1 => by
    have := colZ_bound L W hW n
    have := rowZ_bound L n (W + 1)
    simp only [colZ]
    omega
/-- The model's way to count the corners at a point. -/
def cornM (a b c d : Bool) : Int := if a == d && b == c && a != b then 2 else if (a != b) != (c != d) then 1 else 0
theorem cornM_is (f : Nat → Bool) : cornM (f 2) (f 3) (f 1) (f 0) = cornZ f := by
  have h4 : countTo f 4 = 0 + (if f 0 then 1 else 0) + (if f 1 then 1 else 0) + (if f 2 then 1 else 0) + (if f 3 then 1 else 0) := rfl
  unfold cornZ
  rw [h4]
  cases f 0 <;> cases f 1 <;> cases f 2 <;> cases f 3 <;> decide

set_option maxRecDepth 100000 in
set_option maxHeartbeats 2000000 in
theorem implCorners_loop (Wn Hn : Nat) (hW : Wn ≤ 10) (hH : Hn ≤ 10) (L : Lawn) (hL : L.Fits) (hV : validB L = true) (hLw : L.wide = Wn) (hLh : L.high = Hn) (w : World) :
    Calls Try.prog 25 #[.agg L.cells] w fun e w' => e = .returned (.tuple #[.int .i64 (colZ L Wn (Hn + 1)), .int .i64 0]) ∧ Below w.heap.size w w' := by
  have HI := Lib.hid (implValid_any L hL)
  rw [hV] at HI
  have HCR := Lib.hid (fun (x y : Nat) (hx : x ≤ 10) (hy : y ≤ 10) (w : World) => show Calls Try.prog 63 #[.agg L.cells, .agg #[.int .i8 x, .int .i8 y]] w fun e w' => e = .returned (.int .i64 (cornP L x y)) ∧ Below w.heap.size w w' from cornersAt_any L hV hL x y (by omega) (by omega) (by omega) (by omega) w)
  have h0 : L.cells[0]? = some (.int .i8 Wn) := by rw [Lawn.cells_0, hLw]
  have h1 : L.cells[1]? = some (.int .i8 Hn) := by rw [Lawn.cells_1, hLh]
  have H0 := Lib.hid h0
  have H1 := Lib.hid h1
  clear hL hV hLw hLh h0 h1
  go_enter Try.func25, Try.ntmps25
  go_wp2_with fail
  have g0 := Holds.new w L.cells 31
  have hb0 := (Below.refl w.heap.size w).alloc (Nat.le_refl _) (.cells L.cells 31)
  refine (HI.out _).mono ?_
  rintro e w1 ⟨rfl, hb1⟩
  have g1 := g0.below hb1 g0.lt
  have hb2 := below_onto hb0 hb1
  have c1 := (g1.cell 1).trans H1.out
  have hl1 := g1.lt
  clear g0 hb0 hb1
  obtain ⟨s, hs⟩ : ∃ s, w.heap.size = s := ⟨_, rfl⟩
  have HS := Lib.hid hs
  rw [hs] at g1 hb2 c1 hl1 ⊢
  clear hs
  go_wp2_with fail
  go_loopw [4, 13] (fun c q wr => ∃ y : Nat, y ≤ Hn + 1 ∧ q = .int .i8 y ∧ c = .int .i64 (colZ L Wn y) ∧ Holds wr s L.cells ∧ Below s w wr) (fun _ q _ => Hn + 1 - (intOf q).toNat)
  case atStart => exact ⟨0, by omega, rfl, rfl, g1, hb2⟩
  case round =>
    obtain ⟨y, hy, rfl, rfl, k0, hb⟩ := hrel
    clear g1 hb2 c1 hl1
    have hl := k0.lt
    by_cases hlt : y < Hn + 1
    · have hd : decide ((y : Int) < (Hn : Int) + 1) = true := by simp; omega
      have c0 := (k0.cell 0).trans H0.out
      go_wp2_with fail
      clear c0
      go_loopw [4, 19] (fun c q wk => ∃ x : Nat, x ≤ Wn + 1 ∧ q = .int .i8 x ∧ c = .int .i64 (colZ L Wn y + rowZ L y x) ∧ Holds wk s L.cells ∧ Below s w wk) (fun _ q _ => Wn + 1 - (intOf q).toNat)
      case atStart => exact ⟨0, by omega, rfl, by simp [rowZ], k0, hb⟩
      case round =>
        obtain ⟨x, hx, rfl, rfl, k1, hb'⟩ := hrel
        clear k0 hb hl
        have hl := k1.lt
        by_cases hxt : x < Wn + 1
        · have hdx : decide ((x : Int) < (Wn : Int) + 1) = true := by simp; omega
          obtain ⟨r1, -, -, -, -⟩ := k1.facts
          have b1 := colZ_bound L Wn hW y
          have b2 := rowZ_bound L y x
          have b3 := cornZ_bound (roundG L x y)
          have HCx := Lib.hid (HCR.out x y (by omega) (by omega))
          have hwr : IntKind.i64.wrap (colZ L Wn y + rowZ L y x + cornP L x y) = colZ L Wn y + rowZ L y x + cornP L x y := IntWalk.i64_in _ (by unfold cornP; omega)
          go_wp2_with fail
          refine (HCx.out _).mono ?_
          rintro e w5 ⟨rfl, hb1⟩
          have p1 := k1.below hb1 k1.lt
          have hb6 := hb'.trans (hb1.mono (by omega))
          clear k1 hb' hb1 r1
          go_wp2_with fail
          go_roundw
          case rel => exact ⟨x + 1, by omega, by go_num, by simp only [rowZ]; rw [Int.add_assoc], p1, hb6⟩
          case measure => simp [intOf]; omega
        · obtain rfl : x = Wn + 1 := by omega
          have hdx : decide (((Wn + 1 : Nat) : Int) < (Wn : Int) + 1) = false := by simp
          go_wp2_with fail
          go_roundw
          case rel => exact ⟨y + 1, by omega, by go_num, rfl, k1, hb'⟩
          case measure => simp [intOf]; omega
    · obtain rfl : y = Hn + 1 := by omega
      have hd : decide (((Hn + 1 : Nat) : Int) < (Hn : Int) + 1) = false := by simp
      go_wp2_with fail
      go_ret2
      exact ⟨rfl, HS.out ▸ hb⟩

end Go.Proofs.Ythpfejbigdjhlaa
