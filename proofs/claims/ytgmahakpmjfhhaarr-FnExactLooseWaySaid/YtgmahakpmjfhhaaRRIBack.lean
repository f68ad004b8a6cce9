/- ReverseWay, of the program; the law. -/
import Derived.Test.YtgmahakpmjfhhaaRRBack
namespace Go.Proofs.YtgmahakpmjfhhaaRR
open Go.RowKit
set_option linter.unusedVariables false

/-! ### Texts out of bytes -/
theorem u8Info : (Try.prog.info? 5).map (fun i => (i.zero, i.size, i.bytes)) = some (some (.int .u8 0), 1, 1) := by kernel_rfl
def u8s (l : List UInt8) : List Value := l.map fun c => .int .u8 (c.toNat : Int)
theorem u8s_length (l : List UInt8) : (u8s l).length = l.length := by simp [u8s]
theorem u8s_append (l m : List UInt8) : u8s (l ++ m) = u8s l ++ u8s m := by simp [u8s]
theorem u8s_get (l : List UInt8) (i : Nat) (h : i < l.length) : (u8s l)[i]? = some (.int .u8 (l[i].toNat : Int)) := by simp [u8s, h]
/-- An own row of bytes makes a text. -/
theorem conv_own {w : World} {B n : Nat} {v : Value} {l : List UInt8} (h : w.ownsRow B 5 1 v n (u8s l)) (hl : l.length = n) :
    (convert 22 9 v).run Try.prog w = .ok (.string ⟨l.toArray⟩) w := by
  subst hl
  obtain ⟨a, c, rfl⟩ := own_slice h
  cases l with
  | nil =>
    cases a with
    | none =>
      rw [run_convert_bytes_string w 22 9 5 none _ c Try.underlying22 Try.underlying5 Try.underlying9]
      simp [Conv.bytesToString]
      rfl
    | some a => exact run_convert_bytes_back w 22 9 5 a c [] Try.underlying22 Try.underlying5 Try.underlying9 (fun j hj => by simp at hj)
  | cons x l =>
    obtain ⟨g, cap, he, -, -⟩ := own_form h (by simp)
    simp only [Value.slice.injEq, true_and] at he
    obtain ⟨rfl, rfl⟩ := he
    refine run_convert_bytes_back w 22 9 5 _ _ (x :: l) Try.underlying22 Try.underlying5 Try.underlying9 (fun j hj => ?_)
    have := own_cell h j _ (u8s_get (x :: l) j hj)
    have he : (⟨g, 0, none⟩ : Addr).add j = ⟨g, j, none⟩ := by unfold Addr.add; split <;> simp_all
    rw [he, this]
theorem make_bytes (c : Nat) (h : c ≤ 1000) : ∃ C : Array Value, C.size = c ∧ ∀ w : World, (Instr.makeSlice 22 (.int .i64 0) (.int .i64 (c : Int))).run Try.prog w = .ok (.slice (some ⟨w.heap.size, 0, none⟩) 0 c) (w.alloc (.cells C 5)) := by
  obtain ⟨i0, hi, hz0, hz1, hz2⟩ := info_parts u8Info
  refine ⟨madeCells (Value.int .u8 0).cells (c * 1), by rw [size_madeCells]; omega, fun w => ?_⟩
  have := run_make (P := Try.prog) w 22 5 i0 _ Try.underlying22 hi hz0 .i64 .i64 0 (c : Int) (by omega) (by omega) (by rw [hz2]; omega) (by omega)
  rw [hz1] at this
  simpa using this

set_option maxHeartbeats 1000000 in
theorem opposite_any (c : UInt8) (j : Nat) (hj : j < 4) (hc : letN c = j) (w : World) :
    Calls Try.prog 178 #[.int .u8 (c.toNat : Int)] w fun e w' => e = .returned (.int .u8 ((oppU c).toNat : Int)) ∧ w = w' := by
  have HC := Lib.hid hc
  clear hc
  have i0 := nwes_index0
  have i1 := nwes_index1
  have i2 := nwes_index2
  have i3 := nwes_index3
  rcases (by omega : j = 0 ∨ j = 1 ∨ j = 2 ∨ j = 3) with rfl | rfl | rfl | rfl
  all_goals
    have HO := Lib.hid (show oppU c = _ by unfold oppU; rw [HC.out])
    go_enter Try.func178, Try.ntmps178
    go_wp2_with (refine (letter_any c _).mono ?_; rw [HC.out]; rintro e w' ⟨rfl, rfl⟩)
    go_ret
    exact ⟨by rw [HO.out]; rfl, rfl⟩

set_option maxHeartbeats 1000000 in
theorem back_any (s : ByteArray) (hsz : s.size ≤ 200) (hz : ∀ k (hk : k < s.size), ∃ j : Nat, j < 4 ∧ letN s[k] = j) (w : World) :
    Calls Try.prog 128 #[.string s] w fun e w' => e = .returned (.string ⟨(backK s.data.toList s.size s.size).toArray⟩) ∧ Below w.heap.size w w' := by
  have HZ := Lib.hid hz
  obtain ⟨C, hCs, hmk⟩ := make_bytes s.size (by omega)
  have hwr : wrap64 ((s.size : Int) - 1) = (s.size : Int) - 1 := by unfold wrap64; omega
  obtain ⟨i0, hi, hz0, hz1, hz2⟩ := info_parts u8Info
  have HI := Lib.hid (show Try.prog.info? 5 = some i0 ∧ i0.zero = some (.int .u8 0) ∧ i0.size = 1 ∧ i0.bytes = 1 from ⟨hi, hz0, hz1, hz2⟩)
  clear hz hi hz0 hz1 hz2
  have ho0 : (w.alloc (.cells C 5)).ownsRow w.heap.size 5 1 (.slice (some ⟨w.heap.size, 0, none⟩) 0 s.size) 0 [] := World.ownsRow_made w C s.size (Nat.le_refl _) (by unfold maxLen; omega) (by omega)
  have hb0 := (Below.refl w.heap.size w).alloc (Nat.le_refl _) (.cells C 5)
  have HO0 := Lib.hid ho0
  have HB0 := Lib.hid hb0
  clear ho0 hb0
  go_enter Try.func128, Try.ntmps128
  go_wp2_with fail
  go_loopw [3, 4] (fun v i wr => ∃ m : Nat, m ≤ s.size ∧ i = .int .i64 ((m : Int) - 1) ∧ wr.ownsRow w.heap.size 5 1 v (s.size - m) (u8s (backK s.data.toList s.size (s.size - m))) ∧ Below w.heap.size w wr) (fun _ i _ => (intOf i + 1).toNat)
  case atStart => exact ⟨s.size, Nat.le_refl _, rfl, by rw [Nat.sub_self]; exact HO0.out, HB0.out⟩
  case round =>
    obtain ⟨m, hm, rfl, ho, hb⟩ := hrel
    have HO := Lib.hid ho
    clear HO0 HB0 ho
    cases m with
    | zero =>
      have hcv := conv_own (by simpa using HO.out) (backK_length _ _ _)
      go_wp2_with fail
      go_ret
      exact ⟨rfl, hb⟩
    | succ m =>
      have hlt : m < s.size := by omega
      have hge : decide ((0 : Int) ≤ (m : Int)) = true := by simp
      have HST := Lib.hid (show backK s.data.toList s.size (s.size - m) = backK s.data.toList s.size (s.size - (m + 1)) ++ [oppU s[m]] by
        rw [show s.size - m = (s.size - (m + 1)) + 1 by omega, backK, show s.size - 1 - (s.size - (m + 1)) = m by omega, List.getD_eq_getElem?_getD, byte_get s m hlt]
        rfl)
      obtain ⟨j, hj, hL⟩ := HZ.out m hlt
      have HLE := Lib.hid hL
      clear hL
      go_wp2_with (first | (go_at_call 178; refine (opposite_any s[m] j hj HLE.out _).mono ?_; rintro e w' ⟨rfl, rfl⟩) | (at_builtin; refine wpList_append_own_at _ rfl _ _ 22 rfl w.heap.size 5 i0 (.int .u8 0) 1 1 Try.underlying22 HI.out.1 HI.out.2.1 HI.out.2.2.1 HI.out.2.2.2 rfl (by decide) _ _ _ rfl (HO.out.alloc _) ⟨_, 0, none⟩ 1 1 [.int .u8 ((oppU s[m]).toNat : Int)] rfl rfl ?c1 ?c2 ?c3 ?c4 ?c5 ?_))
      case c1 =>
        intro q u hu
        match q, hu with
        | 0, hu => simp at hu; subst hu; exact (Holds.new wr #[_] 5).cell 0
      case c2 => intro u hu; simp at hu; subst hu; rfl
      case c3 => unfold maxLen; omega
      case c4 => omega
      case c5 => have := hb.size; simp; omega
      intro v' w5 hown' hgrow _ hat
      have hb7 : Below w.heap.size w w5 := (hb.alloc hb.size _).grown hgrow (by have := hb.size; simp; omega) (fun k hk => own_far HO.out k hk)
      have ho5 : w5.ownsRow w.heap.size 5 1 v' (s.size - m) (u8s (backK s.data.toList s.size (s.size - m))) := by
        rw [HST.out, u8s_append, show s.size - m = s.size - (m + 1) + 1 by omega]
        exact hown'
      have HO5 := Lib.hid ho5
      clear hown' hgrow hat ho5 hb HO
      go_wp2_with fail
      go_roundw
      case rel => exact ⟨m, by omega, by go_num, HO5.out, hb7⟩
      case measure => simp [intOf]

set_option maxHeartbeats 1000000 in
/-- A method of a way that tells a text, if the way has no error. -/
theorem checkedS_any (s : ByteArray) (hs : s.size ≤ maxLen) (F : Nat) (n : ByteArray) (hE : ∀ (args : Array Value) (w : World), (callFunc F args).run Try.prog w = .ok (.enter F args) w)
    (HF : wayC s = 0 → ∀ w : World, Calls Try.prog F #[.string s] w fun e w' => e = .returned (.string n) ∧ Below w.heap.size w w') (hn : wayC s ≠ 0 → n = ⟨#[]⟩) (w : World) :
    Calls Try.prog 127 #[.string s, .func (.func F) #[.string s] #[]] w fun e w' => e = .returned (.tuple #[.string n, .int .i64 (wayC s)]) ∧ Below w.heap.size w w' := by
  have HWY := Lib.hid (fun w => check_way s hs w)
  obtain ⟨c, hc⟩ : ∃ c, wayC s = c := ⟨_, rfl⟩
  rw [hc] at HWY HF hn ⊢
  have HF' := Lib.hid HF
  have HN := Lib.hid hn
  clear hc HF hn
  by_cases h0 : c = 0
  · subst h0
    go_enter Try.func127, Try.ntmps127
    go_wp2_with fail
    refine (HWY.out _).mono ?_
    rintro e w1 ⟨rfl, rfl⟩
    go_wp2_with fail
    refine (HF'.out trivial _).mono ?_
    rintro e w1 ⟨rfl, hb⟩
    go_wp2_with fail
    go_ret2
    exact ⟨rfl, hb⟩
  · have HN2 := Lib.hid (HN.out h0)
    have hb1 : (c != 0) = true := by simpa [bne] using h0
    go_enter Try.func127, Try.ntmps127
    go_wp2_with fail
    refine (HWY.out _).mono ?_
    rintro e w1 ⟨rfl, rfl⟩
    go_wp2_with fail
    go_ret2
    exact ⟨by rw [HN2.out]; rfl, Below.refl _ _⟩

set_option maxHeartbeats 1000000 in
theorem implBack_any (s : ByteArray) (hs : s.size ≤ maxLen) (w : World) :
    Calls Try.prog 54 #[.string s] w fun e w' => e = .returned (.tuple #[.string (backS s), .int .i64 (wayC s)]) ∧ Below w.heap.size w w' := by
  have HC := Lib.hid (fun w => checkedS_any s hs 128 (backS s) (enters_of Try.func128 (by kernel_rfl) rfl)
    (fun h w => by
      have := back_any s (wayC_le h) (fun k hk => wayC_zero h hk) w
      unfold backS
      rw [if_pos h]
      exact this) (fun h => by unfold backS; rw [if_neg h]) w)
  go_enter Try.func54, Try.ntmps54
  go_wp2_with fail
  refine (HC.out _).mono ?_
  rintro e w1 ⟨rfl, hb⟩
  go_wp2_with fail
  go_ret2
  exact ⟨rfl, hb⟩

set_option maxHeartbeats 1000000 in
theorem exactReverse (s : ByteArray) (hs : s.size ≤ maxLen) (w : World) :
    Calls Try.prog 20 #[.string s] w fun e w' => e = .returned (.bool true) ∧ Below w.heap.size w w' := by
  have HI := Lib.hid (fun w => implBack_any s hs w)
  have HS := Lib.hid (fun w => specBack_any s hs w)
  unfold maxLen at hs
  by_cases hl : 1048576 < s.size
  · have hd : decide ((1048576 : Int) < (s.size : Int)) = true := by simp; omega
    go_enter Try.func20, Try.ntmps20
    go_wp2_with fail
    go_ret
    exact ⟨rfl, Below.refl _ _⟩
  · have hd : decide ((1048576 : Int) < (s.size : Int)) = false := by simp; omega
    go_enter Try.func20, Try.ntmps20
    go_wp2_with fail
    refine (HS.out _).mono ?_
    rintro e w1 ⟨rfl, hb1⟩
    go_wp2_with fail
    refine (HI.out _).mono ?_
    rintro e w2 ⟨rfl, hb2⟩
    have hb3 := below_onto hb1 hb2
    go_wp2_with fail
    go_ret
    exact ⟨rfl, hb3⟩
end Go.Proofs.YtgmahakpmjfhhaaRR
