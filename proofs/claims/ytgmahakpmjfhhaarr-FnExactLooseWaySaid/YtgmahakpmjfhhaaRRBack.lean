/- ReverseWay, of the program and of the model. -/
import Derived.Test.YtgmahakpmjfhhaaRRTurns
import Derived.Test.YtgmahakpmjfhhaaRRGone
import Derived.Laws.Concat
import Derived.Laws.IdiomStrings
import Derived.Laws.MakeOwn
namespace Go.Proofs.YtgmahakpmjfhhaaRR
open Go.RowKit
set_option linter.unusedVariables false

/-- The letter of the other side. -/
def oppU (c : UInt8) : UInt8 := if letN c = 0 then 83 else if letN c = 1 then 69 else if letN c = 2 then 87 else 78
/-- The first k letters of the way back. -/
def backK (l : List UInt8) (n : Nat) : Nat → List UInt8
  | 0 => []
  | k + 1 => backK l n k ++ [oppU (l.getD (n - 1 - k) 0)]
theorem backK_length (l : List UInt8) (n : Nat) : ∀ k, (backK l n k).length = k
  | 0 => rfl
  | k + 1 => by simp [backK, backK_length l n k]
def backS (s : ByteArray) : ByteArray := if wayC s = 0 then ⟨(backK s.data.toList s.size s.size).toArray⟩ else ⟨#[]⟩
theorem nwes_slice0 (w : World) : (Instr.slice 9 (.string ⟨#[78, 87, 69, 83]⟩) (some (.int .i64 0)) (some (.int .i64 1)) none).run Try.prog w = .ok (.string ⟨#[78]⟩) w := by kernel_rfl
theorem nwes_slice1 (w : World) : (Instr.slice 9 (.string ⟨#[78, 87, 69, 83]⟩) (some (.int .i64 1)) (some (.int .i64 2)) none).run Try.prog w = .ok (.string ⟨#[87]⟩) w := by kernel_rfl
theorem nwes_slice2 (w : World) : (Instr.slice 9 (.string ⟨#[78, 87, 69, 83]⟩) (some (.int .i64 2)) (some (.int .i64 3)) none).run Try.prog w = .ok (.string ⟨#[69]⟩) w := by kernel_rfl
theorem nwes_slice3 (w : World) : (Instr.slice 9 (.string ⟨#[78, 87, 69, 83]⟩) (some (.int .i64 3)) (some (.int .i64 4)) none).run Try.prog w = .ok (.string ⟨#[83]⟩) w := by kernel_rfl

set_option maxHeartbeats 1000000 in
theorem specBack_any (s : ByteArray) (hs : s.size ≤ maxLen) (w : World) :
    Calls Try.prog 55 #[.string s] w fun e w' => e = .returned (.tuple #[.string (backS s), .int .i64 (wayC s)]) ∧ Below w.heap.size w w' := by
  have HWY := Lib.hid (fun w => l02Way_any s hs w)
  obtain ⟨c, hc⟩ : ∃ c, wayC s = c := ⟨_, rfl⟩
  have hr := wayC_range s
  have HN := Lib.hid (show backS s = if c = 0 then ⟨(backK s.data.toList s.size s.size).toArray⟩ else ⟨#[]⟩ by unfold backS; rw [hc])
  have hle : c = 0 → s.size ≤ 200 := fun h => wayC_le (hc.trans h)
  have HZ := Lib.hid (show c = 0 → ∀ k (hk : k < s.size), ∃ j : Nat, j < 4 ∧ letN s[k] = j from fun h k hk => wayC_zero (hc.trans h) hk)
  rw [hc] at HWY hr ⊢
  obtain ⟨hr0, hr1⟩ := hr
  clear hc
  by_cases h0 : c = 0
  · have hsz := hle h0
    have HN2 := Lib.hid (show backS s = ⟨(backK s.data.toList s.size s.size).toArray⟩ by rw [HN.out, if_pos h0])
    have HZ2 := Lib.hid (HZ.out h0)
    subst h0
    clear hle HN hs HZ
    have hwr : wrap64 ((s.size : Int) - 1) = (s.size : Int) - 1 := by unfold wrap64; omega
    go_enter Try.func55, Try.ntmps55
    go_wp2_with fail
    refine (HWY.out _).mono ?_
    rintro e w1 ⟨rfl, rfl⟩
    go_wp2_with fail
    go_loopw [5, 6, 7] (fun v i _ wr => ∃ (m : Nat) (b : ByteArray), m ≤ s.size ∧ i = .int .i64 ((m : Int) - 1) ∧ v = .string b ∧ b = ⟨(backK s.data.toList s.size (s.size - m)).toArray⟩ ∧ Below w.heap.size w wr) (fun _ i _ _ => (intOf i + 1).toNat)
    case atStart => exact ⟨s.size, ⟨#[]⟩, Nat.le_refl _, rfl, rfl, by rw [Nat.sub_self]; rfl, Below.refl _ _⟩
    case round =>
      obtain ⟨m, b, hm, rfl, rfl, hbk, hb⟩ := hrel
      have HB := Lib.hid hbk
      have hbs : b.size ≤ 200 := by rw [hbk, ByteArray.size_mk', List.size_toArray, backK_length]; omega
      clear hbk
      cases m with
      | zero =>
        go_wp2_with fail
        go_ret2
        exact ⟨by rw [HN2.out, HB.out]; rfl, hb⟩
      | succ m =>
        have hlt : m < s.size := by omega
        have hge : decide ((0 : Int) ≤ (m : Int)) = true := by simp
        have HST := Lib.hid (show backK s.data.toList s.size (s.size - m) = backK s.data.toList s.size (s.size - (m + 1)) ++ [oppU s[m]] by
          rw [show s.size - m = (s.size - (m + 1)) + 1 by omega, backK, show s.size - 1 - (s.size - (m + 1)) = m by omega, List.getD_eq_getElem?_getD, byte_get s m hlt]
          rfl)
        obtain ⟨j, hj, hL⟩ := HZ2.out m hlt
        have hadd : ¬ (9223372036854775807 < b.size + 1) := by omega
        have q0 := nwes_slice0
        have q1 := nwes_slice1
        have q2 := nwes_slice2
        have q3 := nwes_slice3
        have HLE := Lib.hid hL
        rcases (by omega : j = 0 ∨ j = 1 ∨ j = 2 ∨ j = 3) with rfl | rfl | rfl | rfl
        all_goals
          go_wp2_with (refine (l02Letter_any s[m] _).mono ?_; rw [HLE.out]; rintro e w' ⟨rfl, rfl⟩)
          go_roundw
          case rel => exact ⟨m, _, by omega, by go_num, rfl, by rw [HB.out, HST.out, ByteArray.mk_append_mk _ [_]]; simp [oppU, HLE.out], hb⟩
          case measure => simp [intOf]
  · have HN2 := Lib.hid (show backS s = ⟨#[]⟩ by rw [HN.out, if_neg h0])
    have hb0 : (c == 0) = false := by simpa using h0
    clear hle HN hs HZ
    go_enter Try.func55, Try.ntmps55
    go_wp2_with fail
    refine (HWY.out _).mono ?_
    rintro e w1 ⟨rfl, rfl⟩
    have hb1 : (c != 0) = true := by simpa [bne] using hb0
    go_wp2_with fail
    go_ret2
    exact ⟨by rw [HN2.out]; rfl, Below.refl _ _⟩
end Go.Proofs.YtgmahakpmjfhhaaRR
