/- Trimmers behind an interface: one whose line has no end. -/
import Derived.Test.YthpfejbigdjhlaaWear
import Derived.Test.YthpfejbigdjhlaaLSides
import Derived.Test.YthpfejbigdjhlaaGrowMP
import Derived.Handy
namespace Go.Proofs.Ythpfejbigdjhlaa
open Go.RowKit
set_option linter.unusedVariables false
set_option linter.unusedSimpArgs false
attribute [local go_sem ↓] loadRow loadGrid loadLawn loadMirror storeRow storeGrid storeLawn allocRow allocGrid allocLawn buildZero buildSides loadSd storeSd allocSd buildSd loadWr storeWr allocWr loadW5 storeW5 allocW5

/-- How much line the first k kinds of sides use. -/
def lineK (f u : Sd) : Nat → Int
  | 0 => 0
  | k + 1 => lineK f u k + f k * u k
theorem prod_bound {x y : Int} (hx : 0 ≤ x ∧ x ≤ 400) (hy : 0 ≤ y ∧ y ≤ 100) : 0 ≤ x * y ∧ x * y ≤ 40000 := by
  refine ⟨Int.mul_nonneg hx.1 hy.1, ?_⟩
  have := Int.mul_le_mul hx.2 hy.2 hy.1 (by omega)
  omega
theorem lineK_bound {f u : Sd} (hf : ∀ j, 0 ≤ f j ∧ f j ≤ 400) (hu : ∀ j, j < 5 → 0 ≤ u j ∧ u j ≤ 100) : ∀ k : Nat, k ≤ 5 → 0 ≤ lineK f u k ∧ lineK f u k ≤ 40000 * k
  | 0, _ => by simp [lineK]
  | k + 1, h => by
    have := lineK_bound hf hu k (by omega)
    have := prod_bound (hf k) (hu k (by omega))
    simp only [lineK]
    omega
/-- An endless trimmer behind the interface. -/
def endlessV (b : Nat) : Value := .iface 85 (.pointer (some ⟨b, 0, none⟩))

set_option maxRecDepth 100000 in
theorem endlessTrim_any (b : Nat) (n line : Int) (hn : IntKind.i64.wrap (n + line) = n + line) (w : World) (h : Holds w b #[.int .i64 n]) :
    Calls Try.prog 127 #[.pointer (some ⟨b, 0, none⟩), .int .i64 line] w fun e w' => (∃ v, e = .returned v) ∧ w' = w.setCell ⟨b, 0, none⟩ (.int .i64 (n + line)) := by
  obtain ⟨-, -, c, z, l⟩ := h.facts
  go_enter Try.func127, Try.ntmps127
  go_wp2_with fail
  go_end0
  exact ⟨⟨_, rfl⟩, rfl⟩
set_option maxRecDepth 100000 in
theorem endlessUsed_any (b : Nat) (n : Int) (w : World) (h : Holds w b #[.int .i64 n]) :
    Calls Try.prog 128 #[.pointer (some ⟨b, 0, none⟩)] w fun e w' => e = .returned (.int .i64 n) ∧ w' = w := by
  obtain ⟨-, -, c, z, l⟩ := h.facts
  go_enter Try.func128, Try.ntmps128
  go_wp2_with fail
  go_ret
  exact ⟨rfl, rfl⟩
theorem assertEndless (b : Nat) (w : World) : (Instr.typeAssert (.iface 85 (.pointer (some ⟨b, 0, none⟩))) 119 89 true).run Try.prog w = .ok (.tuple #[.pointer none, .bool false]) w := by kernel_rfl
set_option maxRecDepth 100000 in
theorem canTrimEndless_any (b : Nat) (line : Int) (w : World) :
    Calls Try.prog 97 #[endlessV b, .int .i64 line] w fun e w' => e = .returned (.bool true) ∧ w' = w := by
  unfold endlessV
  have ht := fun w => assertEndless b w
  go_enter Try.func97, Try.ntmps97
  go_wp2_with fail
  go_ret
  exact ⟨rfl, rfl⟩

set_option maxRecDepth 100000 in
set_option maxHeartbeats 2000000 in
theorem trimEndless_any (f u : Sd) (hf : ∀ j, 0 ≤ f j ∧ f j ≤ 400) (hu : ∀ j, j < 5 → 0 ≤ u j ∧ u j ≤ 100) (b : Nat) (w : World) (h : Holds w b #[.int .i64 0]) :
    Calls Try.prog 66 #[endlessV b, .agg (sdV f), .agg (wrV u)] w fun e w' => e = .returned (.tuple #[.int .i64 (lineK f u 5), .int .i64 0]) ∧ Only [b] w w' := by
  have HF := Lib.hid hf
  have HU := Lib.hid hu
  have hbw := h.lt
  clear hf hu
  unfold endlessV
  go_enter Try.func66, Try.ntmps66
  go_wp2_with fail
  obtain ⟨W0, hW0⟩ : ∃ W0, (w.alloc (.cells (sdV f) 28)).alloc (.cells (wrV u) 45) = W0 := ⟨_, rfl⟩
  have g0 : Holds W0 b #[.int .i64 0] := by rw [← hW0]; exact (h.alloc _).alloc _
  have g1 : Holds W0 (w.heap.size + 1) (wrV u) := by rw [← hW0]; exact Holds.new' _ _ _ _ (by simp)
  have hO : Only [b] w W0 := by rw [← hW0]; exact ((Only.refl _ w).alloc _).alloc _
  rw [hW0]
  clear hW0 h
  obtain ⟨s, hs⟩ : ∃ s, w.heap.size = s := ⟨_, rfl⟩
  rw [hs] at g1 hbw ⊢
  clear hs
  go_loopw [12] (fun q wr => ∃ k : Nat, k ≤ 5 ∧ q = .int .i64 k ∧ Holds wr b #[.int .i64 (lineK f u k)] ∧ Holds wr (s + 1) (wrV u) ∧ Only [b] w wr) (fun q _ => 5 - (intOf q).toNat)
  case atStart => exact ⟨0, by omega, rfl, g0, g1, hO⟩
  case round =>
    obtain ⟨k, hk, rfl, k0, k1, hb⟩ := hrel
    clear g0 g1 hO
    by_cases hlt : k < 5
    · have hd : decide ((k : Int) < (5 : Int)) = true := by simp; omega
      have hix := sd_index f k hlt
      have cu := k1.wr k hlt
      have hl1 := k1.lt
      have bf := HF.out k
      have bu := HU.out k hlt
      have hwu : IntKind.i64.wrap (u k) = u k := IntWalk.i64_in _ (by omega)
      go_wp2_with fail
      clear cu hix
      go_loopw [21] (fun q wk => ∃ c : Nat, (c : Int) ≤ f k ∧ q = .int .i64 c ∧ Holds wk b #[.int .i64 (lineK f u k + c * u k)] ∧ Holds wk (s + 1) (wrV u) ∧ Only [b] w wk) (fun q _ => (f k).toNat - (intOf q).toNat)
      case atStart => exact ⟨0, bf.1, rfl, by simpa using k0, k1, hb⟩
      case round =>
        obtain ⟨c, hc, rfl, j0, j1, hb'⟩ := hrel
        clear k0 k1 hb
        have bl := lineK_bound HF.out HU.out k (by omega)
        have bc := prod_bound (x := c) ⟨by omega, by omega⟩ bu
        by_cases hct : (c : Int) < f k
        · have hdc : decide ((c : Int) < f k) = true := by simpa using hct
          have hwr : IntKind.i64.wrap (lineK f u k + c * u k + u k) = lineK f u k + c * u k + u k := IntWalk.i64_in _ (by omega)
          have HT := Lib.hid (fun (w : World) (h : Holds w b #[.int .i64 (lineK f u k + c * u k)]) => endlessTrim_any b _ (u k) hwr w h)
          have HCT := Lib.hid (fun w => canTrimEndless_any b (u k) w)
          have HV := Lib.hid (show lineK f u k + c * u k + u k = lineK f u k + ((c + 1 : Nat) : Int) * u k by rw [Int.natCast_add, Int.add_mul]; simp [Int.add_assoc])
          unfold endlessV at HCT
          go_wp2_with fail
          refine (HCT.out _).mono ?_
          rintro e w2 ⟨rfl, hw⟩
          rw [hw]
          clear hw
          go_wp2_with fail
          refine (HT.out _ j0).mono ?_
          rintro e w2 ⟨⟨v, rfl⟩, rfl⟩
          go_wp2_with fail
          go_roundw
          case rel => exact ⟨c + 1, by omega, by go_num, by rw [← HV.out]; exact j0.setCell 0 _, j1.setCell_other _ _ (by dsimp only; omega), hb'.setCell (a := ⟨b, 0, none⟩) (.inl (by simp)) _⟩
          case measure => simp [intOf]; omega
        · have hdc : decide ((c : Int) < f k) = false := by simpa using hct
          have HV := Lib.hid (show lineK f u (k + 1) = lineK f u k + c * u k by rw [show (c : Int) = f k by omega]; rfl)
          go_wp2_with fail
          go_roundw
          case rel => exact ⟨k + 1, by omega, by go_num, by rw [HV.out]; exact j0, j1, hb'⟩
          case measure => simp [intOf]; omega
    · obtain rfl : k = 5 := by omega
      have hd : decide (((5 : Nat) : Int) < (5 : Int)) = false := by decide
      have HUS := Lib.hid (endlessUsed_any b _ _ k0)
      go_wp2_with fail
      refine HUS.out.mono ?_
      rintro e w2 ⟨rfl, hw⟩
      rw [hw]
      clear hw
      go_wp2_with fail
      go_ret2
      exact ⟨rfl, hb⟩
end Go.Proofs.Ythpfejbigdjhlaa
