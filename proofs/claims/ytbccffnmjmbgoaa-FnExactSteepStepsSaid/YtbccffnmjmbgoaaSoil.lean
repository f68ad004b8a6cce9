/- SoilSum, of the program and of the model: the sum of all levels. -/
import Derived.Test.YtbccffnmjmbgoaaVLev
namespace Go.Proofs.Ytbccffnmjmbgoaa
open Go.RowKit
set_option linter.unusedVariables false
attribute [local go_sem ↓] loadRow loadGrid loadLawn loadMirror storeRow storeGrid storeLawn allocRow allocGrid allocLawn buildZero buildSides loadR8 loadL8 loadLv storeR8 storeLv allocR8 allocLv buildZLv

/-- The sum of the first n places. -/
def sumTo (g : Nat → Nat → Int) : Nat → Int
  | 0 => 0
  | n + 1 => sumTo g n + g (n / 10) (n % 10)
theorem sumTo_at (g : Nat → Nat → Int) (k j : Nat) (hj : j < 10) : sumTo g (k * 10 + j + 1) = sumTo g (k * 10 + j) + g k j := by
  rw [sumTo, show (k * 10 + j) / 10 = k by omega, show (k * 10 + j) % 10 = j by omega]
theorem sumTo_in {g : Nat → Nat → Int} (hg : LevFits g) : ∀ n : Nat, n ≤ 100 → -(128 * (n : Int)) ≤ sumTo g n ∧ sumTo g n ≤ 128 * (n : Int)
  | 0, _ => by simp [sumTo]
  | n + 1, h => by
    have ih := sumTo_in hg n (by omega)
    have := hg (n / 10) (n % 10) (by omega) (by omega)
    simp only [sumTo]
    omega

section
variable {P : Program} (w : World)
theorem index_wide {t e n m : Nat} (ht : P.underlying t = some (.array m e)) (hw : wideB P e n = true) (cs : Array Value) (k : Nat) (hk : k < m) : (Instr.index t (.agg cs) (.int .i64 k)).run P w = .ok (.agg (cs.extract (k * n) (k * n + n))) w := by
  obtain ⟨⟨i, hi, hs⟩, ha⟩ := wide_of hw
  have h0 : (0 : Int) ≤ (k : Int) ∧ (k : Int) < (m : Int) := by omega
  simp [Instr.index, asIntOf, Sem.run_bind, run_underlying ht, sizeOf, typeInfo, hi, hs, hk, part, ha]
theorem index_int {t e m : Nat} {q : IntKind} (ht : P.underlying t = some (.array m e)) (he : P.underlying e = some (.int q)) (hc : (P.info? e).map (·.size) = some 1) (cs : Array Value) (k : Nat) (hk : k < m) (v : Value) (hv : cs[k]? = some v) : (Instr.index t (.agg cs) (.int .i64 k)).run P w = .ok v w := by
  cases hi : P.info? e with
  | none => simp [hi] at hc
  | some i =>
    have hs : i.size = 1 := by simpa [hi] using hc
    have hp := run_part_one (P := P) w he cs k v hv
    simp [Instr.index, asIntOf, Sem.run_bind, run_underlying ht, sizeOf, typeInfo, hi, hs, hk, hp]
end
theorem sizeI8 : (Try.prog.info? 22).map (·.size) = some 1 := by kernel_rfl
theorem lev_index (g : Nat → Nat → Int) (k : Nat) (hk : k < 10) (w : World) : (Instr.index 32 (.agg (levV g)) (.int .i64 k)).run Try.prog w = .ok (.agg (srow 10 (g k))) w := by
  rw [index_wide (P := Try.prog) w Try.underlying32 wideR8 _ k hk, levV_row _ _ hk]
theorem r8_index (f : Nat → Int) (k : Nat) (hk : k < 10) (w : World) : (Instr.index 27 (.agg (srow 10 f)) (.int .i64 k)).run Try.prog w = .ok (.int .i8 (f k)) w :=
  index_int (P := Try.prog) w Try.underlying27 Try.underlying22 sizeI8 _ k hk _ (srow_get _ _ _ hk)

set_option maxRecDepth 100000 in
set_option maxHeartbeats 1000000 in
theorem implSum_any (g : Nat → Nat → Int) (hg : LevFits g) (w : World) :
    Calls Try.prog 43 #[.agg (levV g)] w fun e w' => e = .returned (.int .i64 (sumTo g 100)) ∧ Below w.heap.size w w' := by
  have HS := Lib.hid (sumTo_in hg)
  have HG := Lib.hid hg
  have HA := Lib.hid (sumTo_at g)
  clear hg
  go_enter Try.func43, Try.ntmps43
  go_wp2_with fail
  have hb0 := (Below.refl w.heap.size w).alloc (Nat.le_refl _) (.cells (levV g) 32)
  obtain ⟨W0, hW0⟩ : ∃ W0, w.alloc (.cells (levV g) 32) = W0 := ⟨_, rfl⟩
  rw [hW0] at hb0 ⊢
  clear hW0
  go_loopw [3, 9] (fun s q wr => ∃ k : Nat, k ≤ 10 ∧ q = .int .i64 k ∧ s = .int .i64 (sumTo g (k * 10)) ∧ Below w.heap.size w wr) (fun _ q _ => 10 - (intOf q).toNat)
  case atStart => exact ⟨0, by omega, rfl, rfl, hb0⟩
  case round =>
    obtain ⟨k, hk, rfl, rfl, hb⟩ := hrel
    by_cases hlt : k < 10
    · have hd : decide ((k : Int) < (10 : Int)) = true := by simp; omega
      have hix := lev_index g k hlt
      go_wp2_with fail
      have hb2 := hb.alloc hb.size (.cells (srow 10 (g k)) 27)
      obtain ⟨W1, hW1⟩ : ∃ W1, wr.alloc (.cells (srow 10 (g k)) 27) = W1 := ⟨_, rfl⟩
      rw [hW1] at hb2 ⊢
      clear hW1
      go_loopw [3, 13] (fun s q wi => ∃ j : Nat, j ≤ 10 ∧ q = .int .i64 j ∧ s = .int .i64 (sumTo g (k * 10 + j)) ∧ Below w.heap.size w wi) (fun _ q _ => 10 - (intOf q).toNat)
      case atStart => exact ⟨0, by omega, rfl, rfl, hb2⟩
      case round =>
        obtain ⟨j, hj, rfl, rfl, hbi⟩ := hrel
        by_cases hjt : j < 10
        · have hdj : decide ((j : Int) < (10 : Int)) = true := by simp; omega
          have hixj := r8_index (g k) j hjt
          have hs := HS.out (k * 10 + j) (by omega)
          have hv := HG.out k j hlt hjt
          have hw1 : IntKind.i64.wrap (g k j) = g k j := IntWalk.i64_in _ (by omega)
          have hw2 : IntKind.i64.wrap (sumTo g (k * 10 + j) + g k j) = sumTo g (k * 10 + j) + g k j := IntWalk.i64_in _ (by omega)
          go_wp2_with fail
          go_roundw
          case rel => exact ⟨j + 1, by omega, by go_num, by rw [← Nat.add_assoc, HA.out k j hjt], hbi⟩
          case measure => simp [intOf]; omega
        · obtain rfl : j = 10 := by omega
          have hdj : decide (((10 : Nat) : Int) < (10 : Int)) = false := by decide
          go_wp2_with fail
          go_roundw
          case rel => exact ⟨k + 1, by omega, by go_num, by rw [show (k + 1) * 10 = k * 10 + 10 by omega], hbi⟩
          case measure => simp [intOf]; omega
    · obtain rfl : k = 10 := by omega
      have hd : decide (((10 : Nat) : Int) < (10 : Int)) = false := by decide
      go_wp2_with fail
      go_ret
      exact ⟨rfl, hb⟩

set_option maxRecDepth 100000 in
set_option maxHeartbeats 1000000 in
theorem l06Sum_any (g : Nat → Nat → Int) (hg : LevFits g) (b : Nat) (w : World) (h : Holds w b (levV g)) :
    Calls Try.prog 42 #[.pointer (some ⟨b, 0, none⟩)] w fun e w' => e = .returned (.int .i64 (sumTo g 100)) ∧ w' = w := by
  have HS := Lib.hid (sumTo_in hg)
  have HG := Lib.hid hg
  have HA := Lib.hid (sumTo_at g)
  have HH := Lib.hid h.cell
  clear hg h
  go_enter Try.func42, Try.ntmps42
  go_wp2_with fail
  go_loopw [3, 4, 5] (fun s q _ wr => ∃ k : Nat, k ≤ 10 ∧ q = .int .i64 k ∧ s = .int .i64 (sumTo g (k * 10)) ∧ wr = w) (fun _ q _ _ => 10 - (intOf q).toNat)
  case atStart => exact ⟨0, by omega, rfl, rfl, rfl⟩
  case round =>
    obtain ⟨k, hk, rfl, rfl, rfl⟩ := hrel
    by_cases hlt : k < 10
    · have hd : decide ((k : Int) < (10 : Int)) = true := by simp; omega
      go_wp2_with fail
      go_loopw [3, 5] (fun s q wi => ∃ j : Nat, j ≤ 10 ∧ q = .int .i64 j ∧ s = .int .i64 (sumTo g (k * 10 + j)) ∧ wi = wr) (fun _ q _ => 10 - (intOf q).toNat)
      case atStart => exact ⟨0, by omega, rfl, rfl, rfl⟩
      case round =>
        obtain ⟨j, hj, rfl, rfl, rfl⟩ := hrel
        by_cases hjt : j < 10
        · have hdj : decide ((j : Int) < (10 : Int)) = true := by simp; omega
          have hc : wr.cell? ⟨b, k * 10 + j, none⟩ = some (.int .i8 (g k j)) := (HH.out _).trans (levV_get g k j hlt hjt)
          have hs := HS.out (k * 10 + j) (by omega)
          have hv := HG.out k j hlt hjt
          have hw1 : IntKind.i64.wrap (g k j) = g k j := IntWalk.i64_in _ (by omega)
          have hw2 : IntKind.i64.wrap (sumTo g (k * 10 + j) + g k j) = sumTo g (k * 10 + j) + g k j := IntWalk.i64_in _ (by omega)
          go_wp2_with fail
          go_roundw
          case rel => exact ⟨j + 1, by omega, by go_num, by rw [← Nat.add_assoc, HA.out k j hjt], trivial⟩
          case measure => simp [intOf]; omega
        · obtain rfl : j = 10 := by omega
          have hdj : decide (((10 : Nat) : Int) < (10 : Int)) = false := by decide
          go_wp2_with fail
          go_roundw
          case rel => exact ⟨k + 1, by omega, by go_num, by rw [show (k + 1) * 10 = k * 10 + 10 by omega], trivial⟩
          case measure => simp [intOf]; omega
    · obtain rfl : k = 10 := by omega
      have hd : decide (((10 : Nat) : Int) < (10 : Int)) = false := by decide
      go_wp2_with fail
      go_ret
      exact ⟨rfl, rfl⟩

/-- What SoilSum answers. -/
def soilZ (L : Lawn) (g : Nat → Nat → Int) : Int := if levB L g then sumTo g 100 else 0
def levC (L : Lawn) (g : Nat → Nat → Int) : Int := if levB L g then 0 else 1

set_option maxRecDepth 100000 in
set_option maxHeartbeats 1000000 in
theorem implSoil_any (L : Lawn) (hL : L.Fits) (g : Nat → Nat → Int) (hg : LevFits g) (w : World) :
    Calls Try.prog 16 #[.agg L.cells, .agg (levV g)] w fun e w' => e = .returned (.tuple #[.int .i64 (soilZ L g), .int .i64 (levC L g)]) ∧ Below w.heap.size w w' := by
  have HV := Lib.hid (implLevels_any L hL g)
  have HZ := Lib.hid (show soilZ L g = (if levB L g then sumTo g 100 else 0) from rfl)
  have HC := Lib.hid (show levC L g = (if levB L g then 0 else 1) from rfl)
  generalize levB L g = v at HV HZ HC
  have HS := Lib.hid (implSum_any g hg)
  clear hL hg
  have g1 := Holds.new' (w.alloc (.cells L.cells 30)) (levV g) 32 (w.heap.size + 1) (by simp)
  have hb0 := ((Below.refl w.heap.size w).alloc (Nat.le_refl _) (.cells L.cells 30)).alloc (by simp) (.cells (levV g) 32)
  go_enter Try.func16, Try.ntmps16
  go_wp2_with fail
  refine (HV.out _).mono ?_
  rintro e w1 ⟨rfl, hb1⟩
  have g2 := g1.below hb1 g1.lt
  have hb2 := below_onto hb0 hb1
  clear hb0 hb1 g1
  cases v
  · go_wp2_with fail
    go_ret2
    exact ⟨by rw [HZ.out, HC.out]; rfl, hb2⟩
  · obtain ⟨r1, -, -, -, -⟩ := g2.facts
    go_wp2_with fail
    refine (HS.out _).mono ?_
    rintro e w2 ⟨rfl, hb1⟩
    have hb3 := below_onto hb2 hb1
    clear hb1 hb2 g2 r1
    go_wp2_with fail
    go_ret2
    exact ⟨by rw [HZ.out, HC.out]; rfl, hb3⟩

set_option maxRecDepth 100000 in
set_option maxHeartbeats 1000000 in
theorem specSoil_any (L : Lawn) (hL : L.Fits) (g : Nat → Nat → Int) (hg : LevFits g) (w : World) :
    Calls Try.prog 15 #[.agg L.cells, .agg (levV g)] w fun e w' => e = .returned (.tuple #[.int .i64 (soilZ L g), .int .i64 (levC L g)]) ∧ Below w.heap.size w w' := by
  have g0 := (Holds.new w L.cells 30).alloc (.cells (levV g) 32)
  have g1 := Holds.new' (w.alloc (.cells L.cells 30)) (levV g) 32 (w.heap.size + 1) (by simp)
  have hb0 := ((Below.refl w.heap.size w).alloc (Nat.le_refl _) (.cells L.cells 30)).alloc (by simp) (.cells (levV g) 32)
  have HO := Lib.hid (l06Ok_any L hL g hg _ _ _ g0 g1)
  have HZ := Lib.hid (show soilZ L g = (if levB L g then sumTo g 100 else 0) from rfl)
  have HC := Lib.hid (show levC L g = (if levB L g then 0 else 1) from rfl)
  generalize levB L g = v at HO HZ HC
  have HS := Lib.hid (fun b => l06Sum_any g hg b)
  clear hL hg g0
  go_enter Try.func15, Try.ntmps15
  go_wp2_with fail
  refine HO.out.mono ?_
  rintro e w1 ⟨rfl, hb1⟩
  have g2 := g1.below hb1 g1.lt
  have hb2 := below_onto hb0 hb1
  clear hb0 hb1 g1 HO
  cases v
  · go_wp2_with fail
    go_ret2
    exact ⟨by rw [HZ.out, HC.out]; rfl, hb2⟩
  · go_wp2_with fail
    refine (HS.out _ _ g2).mono ?_
    rintro e w2 ⟨rfl, rfl⟩
    go_wp2_with fail
    go_ret2
    exact ⟨by rw [HZ.out, HC.out]; rfl, hb2⟩
end Go.Proofs.Ytbccffnmjmbgoaa
