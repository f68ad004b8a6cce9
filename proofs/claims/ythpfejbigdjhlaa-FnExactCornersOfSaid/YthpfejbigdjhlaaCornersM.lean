/- CornersOf, of the model. -/
import Derived.Test.YthpfejbigdjhlaaCorners
namespace Go.Proofs.Ythpfejbigdjhlaa
open Go.RowKit
set_option linter.unusedVariables false
set_option linter.unusedSimpArgs false
attribute [local go_sem ↓] loadRow loadGrid loadLawn loadMirror storeRow storeGrid storeLawn allocRow allocGrid allocLawn buildZero buildSides

set_option maxRecDepth 100000 in
set_option maxHeartbeats 4000000 in
theorem specCorners_loop (Wn Hn : Nat) (hW : Wn ≤ 10) (hH : Hn ≤ 10) (L : Lawn) (hL : L.Fits) (hV : validB L = true) (hLw : L.wide = Wn) (hLh : L.high = Hn) (w : World) :
    Calls Try.prog 24 #[.agg L.cells] w fun e w' => e = .returned (.tuple #[.int .i64 (colZ L Wn (Hn + 1)), .int .i64 0]) ∧ Below w.heap.size w w' := by
  have HI := Lib.hid (fun (b : Nat) (w : World) (h : Holds w b L.cells) => l01Ok_any L hL b w h)
  rw [hV] at HI
  have HG := Lib.hid (fun (b : Nat) (x y : Int) (h : (-1 ≤ x ∧ x ≤ 10) ∧ -1 ≤ y ∧ y ≤ 10) (w : World) (hh : Holds w b L.cells) => grass_any L hV hL b x y (by omega) (by omega) (by omega) (by omega) w hh)
  have h0 : L.cells[0]? = some (.int .i8 Wn) := by rw [Lawn.cells_0, hLw]
  have h1 : L.cells[1]? = some (.int .i8 Hn) := by rw [Lawn.cells_1, hLh]
  have H0 := Lib.hid h0
  have H1 := Lib.hid h1
  clear hL hV hLw hLh h0 h1
  go_enter Try.func24, Try.ntmps24
  go_wp2_with fail
  have g0 := Holds.new w L.cells 31
  have hb0 := (Below.refl w.heap.size w).alloc (Nat.le_refl _) (.cells L.cells 31)
  refine (HI.out _ _ g0).mono ?_
  rintro e w1 ⟨rfl, hb1⟩
  have g1 := g0.below hb1 g0.lt
  have hb2 := below_onto hb0 hb1
  clear g0 hb0 hb1
  obtain ⟨s, hs⟩ : ∃ s, w.heap.size = s := ⟨_, rfl⟩
  have HS := Lib.hid hs
  rw [hs] at g1 hb2 ⊢
  clear hs
  go_wp2_with fail
  go_loopw [4, 5] (fun c q wr => ∃ y : Nat, y ≤ Hn + 1 ∧ q = .int .i8 y ∧ c = .int .i64 (colZ L Wn y) ∧ Holds wr s L.cells ∧ Below s w wr) (fun _ q _ => Hn + 1 - (intOf q).toNat)
  case atStart => exact ⟨0, by omega, rfl, rfl, g1, hb2⟩
  case round =>
    obtain ⟨y, hy, rfl, rfl, k0, hb⟩ := hrel
    clear g1 hb2
    have hl := k0.lt
    have c1 := (k0.cell 1).trans H1.out
    by_cases hlt : y < Hn + 1
    · have hd : decide (y ≤ Hn) = true := by simp; omega
      go_wp2_with fail
      clear c1
      go_loopw [4, 6] (fun c q wk => ∃ x : Nat, x ≤ Wn + 1 ∧ q = .int .i8 x ∧ c = .int .i64 (colZ L Wn y + rowZ L y x) ∧ Holds wk s L.cells ∧ Below s w wk) (fun _ q _ => Wn + 1 - (intOf q).toNat)
      case atStart => exact ⟨0, by omega, rfl, by simp [rowZ], k0, hb⟩
      case round =>
        obtain ⟨x, hx, rfl, rfl, k1, hb'⟩ := hrel
        clear k0 hb hl
        have hl := k1.lt
        have c0 := (k1.cell 0).trans H0.out
        by_cases hxt : x < Wn + 1
        · have hdx : decide (x ≤ Wn) = true := by simp; omega
          have b1 := colZ_bound L Wn hW y
          have b2 := rowZ_bound L y x
          have HR := Lib.hid (show rowZ L y (x + 1) = rowZ L y x + cornM (grassB L (x - 1) (y - 1)) (grassB L x (y - 1)) (grassB L (x - 1) y) (grassB L x y) by
            rw [show cornM (grassB L (x - 1) (y - 1)) (grassB L x (y - 1)) (grassB L (x - 1) y) (grassB L x y) = cornP L x y from cornM_is (roundG L x y)]; rfl)
          have G2 := Lib.hid (HG.out s (x - 1) (y - 1) (by omega))
          have G3 := Lib.hid (HG.out s x (y - 1) (by omega))
          have G1 := Lib.hid (HG.out s (x - 1) y (by omega))
          have G0 := Lib.hid (HG.out s x y (by omega))
          obtain ⟨a, ha⟩ : ∃ a, grassB L (x - 1) (y - 1) = a := ⟨_, rfl⟩
          obtain ⟨b, hbb⟩ : ∃ b, grassB L x (y - 1) = b := ⟨_, rfl⟩
          obtain ⟨c, hc⟩ : ∃ c, grassB L (x - 1) y = c := ⟨_, rfl⟩
          obtain ⟨d, hdd⟩ : ∃ d, grassB L x y = d := ⟨_, rfl⟩
          rw [ha] at HR G2
          rw [hbb] at HR G3
          rw [hc] at HR G1
          rw [hdd] at HR G0
          clear ha hbb hc hdd
          have hwr1 : IntKind.i64.wrap (colZ L Wn y + rowZ L y x + 1) = colZ L Wn y + rowZ L y x + 1 := IntWalk.i64_in _ (by omega)
          have hwr2 : IntKind.i64.wrap (colZ L Wn y + rowZ L y x + 2) = colZ L Wn y + rowZ L y x + 2 := IntWalk.i64_in _ (by omega)
          clear b1 b2
          go_wp2_with fail
          refine (G2.out _ k1).mono ?_
          rintro e w5 ⟨rfl, hb1⟩
          have k2 := k1.below hb1 k1.lt
          have hb5 := hb'.trans (hb1.mono (by omega))
          clear hb1 k1 hb' c0
          go_wp2_with fail
          refine (G3.out _ k2).mono ?_
          rintro e w6 ⟨rfl, hb1⟩
          have k3 := k2.below hb1 k2.lt
          have hb6 := hb5.trans (hb1.mono (by have := k2.lt; omega))
          clear hb1 k2 hb5
          go_wp2_with fail
          refine (G1.out _ k3).mono ?_
          rintro e w7 ⟨rfl, hb1⟩
          have k4 := k3.below hb1 k3.lt
          have hb7 := hb6.trans (hb1.mono (by have := k3.lt; omega))
          clear hb1 k3 hb6
          go_wp2_with fail
          refine (G0.out _ k4).mono ?_
          rintro e w8 ⟨rfl, hb1⟩
          have k5 := k4.below hb1 k4.lt
          have hb8 := hb7.trans (hb1.mono (by have := k4.lt; omega))
          clear hb1 k4 hb7
          clear HG G0 G1 G2 G3 H0 H1
          cases a <;> cases b <;> cases c <;> cases d
          all_goals
            go_wp2_with fail
            go_roundw
            case rel =>
              refine ⟨x + 1, by omega, by go_num, congrArg (Value.int .i64) ?_, k5, hb8⟩
              rw [HR.out]
              first | (simp [cornM]; done) | (simp [cornM]; omega)
            case measure => simp [intOf]; omega
        · have hdx : decide (x ≤ Wn) = false := by simp; omega
          have HX := Lib.hid (show colZ L Wn (y + 1) = colZ L Wn y + rowZ L y x by rw [show x = Wn + 1 by omega]; rfl)
          clear hxt hx
          go_wp2_with fail
          go_roundw
          case rel => exact ⟨y + 1, by omega, by go_num, by rw [HX.out], k1, hb'⟩
          case measure => simp [intOf]; omega
    · have hd : decide (y ≤ Hn) = false := by simp; omega
      have HY := Lib.hid (show y = Hn + 1 by omega)
      clear hlt hy
      go_wp2_with fail
      go_ret2
      exact ⟨by rw [← HY.out]; rfl, HS.out ▸ hb⟩

/-- What CornersOf answers. -/
def cornersL (L : Lawn) : Int := if validB L then colZ L L.wide.toNat (L.high.toNat + 1) else 0

set_option maxRecDepth 100000 in
set_option maxHeartbeats 1000000 in
theorem implCorners_any (L : Lawn) (hL : L.Fits) (w : World) :
    Calls Try.prog 25 #[.agg L.cells] w fun e w' => e = .returned (.tuple #[.int .i64 (cornersL L), .int .i64 (validC L)]) ∧ Below w.heap.size w w' := by
  cases hv : validB L
  case true =>
    obtain ⟨Wn, Hn, ⟨h1, h1'⟩, h2, h3, h4⟩ := valid_sides hv
    have e1 : cornersL L = colZ L Wn (Hn + 1) := by unfold cornersL; rw [if_pos hv, h3, h4]; rfl
    have e2 : validC L = 0 := by simp [validC, hv]
    rw [e1, e2]
    exact implCorners_loop Wn Hn h1 h1' L hL hv h3 h4 w
  case false =>
    have e1 : cornersL L = 0 := by unfold cornersL; rw [hv]; rfl
    have e2 : validC L = 1 := by simp [validC, hv]
    have HI := Lib.hid (implValid_any L hL)
    rw [hv] at HI
    rw [e1, e2]
    clear e1 e2 hv hL
    go_enter Try.func25, Try.ntmps25
    go_wp2_with fail
    have hb0 := (Below.refl w.heap.size w).alloc (Nat.le_refl _) (.cells L.cells 31)
    refine (HI.out _).mono ?_
    rintro e w1 ⟨rfl, hb1⟩
    have hb2 := below_onto hb0 hb1
    clear hb0 hb1
    go_wp2_with fail
    go_ret2
    exact ⟨rfl, hb2⟩
set_option maxRecDepth 100000 in
set_option maxHeartbeats 1000000 in
theorem specCorners_any (L : Lawn) (hL : L.Fits) (w : World) :
    Calls Try.prog 24 #[.agg L.cells] w fun e w' => e = .returned (.tuple #[.int .i64 (cornersL L), .int .i64 (validC L)]) ∧ Below w.heap.size w w' := by
  cases hv : validB L
  case true =>
    obtain ⟨Wn, Hn, ⟨h1, h1'⟩, h2, h3, h4⟩ := valid_sides hv
    have e1 : cornersL L = colZ L Wn (Hn + 1) := by unfold cornersL; rw [if_pos hv, h3, h4]; rfl
    have e2 : validC L = 0 := by simp [validC, hv]
    rw [e1, e2]
    exact specCorners_loop Wn Hn h1 h1' L hL hv h3 h4 w
  case false =>
    have e1 : cornersL L = 0 := by unfold cornersL; rw [hv]; rfl
    have e2 : validC L = 1 := by simp [validC, hv]
    have HI := Lib.hid (fun (b : Nat) (w : World) (h : Holds w b L.cells) => l01Ok_any L hL b w h)
    rw [hv] at HI
    rw [e1, e2]
    clear e1 e2 hv hL
    go_enter Try.func24, Try.ntmps24
    go_wp2_with fail
    have hb0 := (Below.refl w.heap.size w).alloc (Nat.le_refl _) (.cells L.cells 31)
    refine (HI.out _ _ (Holds.new _ _ _)).mono ?_
    rintro e w1 ⟨rfl, hb1⟩
    have hb2 := below_onto hb0 hb1
    clear hb0 hb1
    go_wp2_with fail
    go_ret2
    exact ⟨rfl, hb2⟩
end Go.Proofs.Ythpfejbigdjhlaa
