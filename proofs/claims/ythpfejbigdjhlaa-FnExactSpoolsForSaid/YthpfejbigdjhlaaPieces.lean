/- Pieces and strips: the codes, of the program and of the model. -/
import Derived.Test.YthpfejbigdjhlaaAsked
import Derived.Test.YthpfejbigdjhlaaZC
namespace Go.Proofs.Ythpfejbigdjhlaa
open Go.RowKit
set_option linter.unusedVariables false
set_option linter.unusedSimpArgs false

/-- Whether a piece, or a strip, may be so long. -/
def lineB (n : Int) : Bool := inB n 1 5000
/-- The code of pieces and of a strip. -/
def piecesC (zs : List Int) (s : Int) : Int := if lineB s && zs.all lineB then (if 8 < zs.length then 3 else if zs.any fun z => decide (s < z) then 6 else 0) else 2
theorem lineB_true {n : Int} (h : lineB n = true) : 1 ≤ n ∧ n ≤ 5000 := inB_true h

theorem isLine_any (n : Int) (w : World) :
    Calls Try.prog 68 #[.int .i64 n] w fun e w' => e = .returned (.bool (lineB n)) ∧ w' = w := by
  by_cases h1 : 1 ≤ n
  · have d1 : decide (1 ≤ n) = true := by simpa using h1
    obtain ⟨d, hd⟩ : ∃ d, decide (n ≤ 5000) = d := ⟨_, rfl⟩
    have HV := Lib.hid (show lineB n = d by rw [lineB, inB, d1, hd, Bool.true_and])
    clear h1
    go_enter Try.func68, Try.ntmps68
    go_wp2
    go_ret
    exact ⟨by rw [HV.out, ← hd]; rfl, rfl⟩
  · have d1 : decide (1 ≤ n) = false := by simpa using h1
    have HV := Lib.hid (show lineB n = false by rw [lineB, inB, d1, Bool.false_and])
    clear h1
    go_enter Try.func68, Try.ntmps68
    go_wp2
    go_ret
    exact ⟨by rw [HV.out]; rfl, rfl⟩
theorem isLine_is (n : Int) (v : Bool) (h : lineB n = v) (w : World) :
    Calls Try.prog 68 #[.int .i64 n] w fun e w' => e = .returned (.bool v) ∧ w' = w := h ▸ isLine_any n w
theorem l05Line_is (n : Int) (v : Bool) (h : lineB n = v) (w : World) :
    Calls Try.prog 67 #[.int .i64 n] w fun e w' => e = .returned (.bool v) ∧ w' = w := by
  subst h
  go_enter Try.func67, Try.ntmps67
  go_wp2_with (go_at_call 96; refine (in_q _ _ _ _).mono ?_; rintro e w1 ⟨rfl, rfl⟩)
  go_ret
  exact ⟨rfl, rfl⟩

/-- The greatest of the numbers up to one's index. -/
def maxAt (zs : List Int) : Nat → Int
  | 0 => zs.getD 0 0
  | k + 1 => if maxAt zs k < zs.getD (k + 1) 0 then zs.getD (k + 1) 0 else maxAt zs k
theorem maxAt_lt (zs : List Int) (s : Int) : ∀ k : Nat, s < maxAt zs k ↔ ∃ j, j ≤ k ∧ s < zs.getD j 0
  | 0 => by simp [maxAt]
  | k + 1 => by
    have ih := maxAt_lt zs s k
    simp only [maxAt]
    constructor
    · intro h
      split at h
      · exact ⟨k + 1, by omega, h⟩
      · obtain ⟨j, hj, h2⟩ := ih.1 h
        exact ⟨j, by omega, h2⟩
    · rintro ⟨j, hj, h⟩
      by_cases e : j = k + 1
      · subst e
        split
        · exact h
        · omega
      · have := ih.2 ⟨j, by omega, h⟩
        split <;> omega
theorem any_max {zs : List Int} {N : Nat} (hN : zs.length = N + 1) (s : Int) : (zs.any fun z => decide (s < z)) = decide (s < maxAt zs N) := by
  rw [Bool.eq_iff_iff, List.any_eq_true, decide_eq_true_eq, maxAt_lt]
  constructor
  · rintro ⟨z, hz, h⟩
    obtain ⟨j, hj, rfl⟩ := List.mem_iff_getElem.1 hz
    exact ⟨j, by omega, by simpa [List.getElem?_eq_getElem hj] using h⟩
  · rintro ⟨j, hj, h⟩
    have hj' : j < zs.length := by omega
    exact ⟨zs[j], List.getElem_mem hj', by simpa [List.getElem?_eq_getElem hj'] using h⟩

set_option maxRecDepth 100000 in
theorem max_any (B N : Nat) (v : Value) (hN : N ≤ 2000000) (zs : List Int) (hl : zs.length = N + 1) (w : World) (ho : w.ownsRow B 2 1 v (N + 1) (intsV .i64 zs)) :
    Calls Try.prog 102 #[v] w fun e w' => e = .returned (.int .i64 (maxAt zs N)) ∧ w' = w := by
  obtain ⟨ga, cap, rfl, hBg, hg⟩ := own_form ho (by omega)
  have HO := Lib.hid ho
  obtain ⟨z0, hz0⟩ : ∃ z, zs[0]? = some z := ⟨_, List.getElem?_eq_getElem (by omega)⟩
  have c0 := own_cell ho _ _ (intsV_get (k := .i64) hz0)
  have hd1 : decide (((N + 1 : Nat) : Int) < 1) = false := by simp; omega
  have HZ0 := Lib.hid (show maxAt zs 0 = z0 by simp [maxAt, hz0])
  have hw0 : ga < w.heap.size := hg
  clear ho hz0
  go_enter Try.func102, Try.ntmps102
  go_wp2_with fail
  clear c0
  go_loopw [3, 4] (fun m i wr => ∃ k : Nat, k ≤ N ∧ i = .int .i64 ((k + 1 : Nat) : Int) ∧ m = .int .i64 (maxAt zs k) ∧ wr = w) (fun _ i _ => N + 1 - (intOf i).toNat)
  case atStart => exact ⟨0, by omega, rfl, by rw [HZ0.out], rfl⟩
  case round =>
    obtain ⟨k, hk, rfl, rfl, rfl⟩ := hrel
    by_cases hlt : k < N
    · have hd : decide (((k + 1 : Nat) : Int) < ((N + 1 : Nat) : Int)) = true := by simp; omega
      obtain ⟨z, hz⟩ : ∃ z, zs[k + 1]? = some z := ⟨_, List.getElem?_eq_getElem (by omega)⟩
      have ck := own_cell HO.out _ _ (intsV_get (k := .i64) hz)
      have HM := Lib.hid (show maxAt zs (k + 1) = if maxAt zs k < z then z else maxAt zs k by simp [maxAt, hz])
      obtain ⟨m, hm⟩ : ∃ m, maxAt zs k = m := ⟨_, rfl⟩
      rw [hm] at HM
      clear hz
      go_wp2_with fail
      go_roundw
      case rel => exact ⟨k + 1, by omega, by go_num, by rw [HM.out], trivial⟩
      case measure => simp [intOf]; omega
    · have hd : decide (k < N) = false := by simp; omega
      have HK := Lib.hid (show k = N by omega)
      clear hlt
      go_wp2_with fail
      go_ret
      exact ⟨by rw [← HK.out]; rfl, rfl⟩

theorem piecesC_strip {zs : List Int} {s : Int} (h : lineB s = false) : piecesC zs s = 2 := by simp [piecesC, h]
theorem piecesC_bad {zs : List Int} {s z : Int} {k : Nat} (hz : zs[k]? = some z) (h : lineB z = false) : piecesC zs s = 2 := by
  have : zs.all lineB = false := by
    rw [List.all_eq_false]
    exact ⟨z, List.mem_of_getElem? hz, by rw [h]; decide⟩
  simp [piecesC, this]
theorem all_lines {zs : List Int} {N : Nat} (hl : zs.length = N) (h : ∀ j z, j < N → zs[j]? = some z → lineB z = true) : zs.all lineB = true := by
  rw [List.all_eq_true]
  intro x hx
  obtain ⟨j, hj⟩ := List.mem_iff_getElem?.1 hx
  exact h j x (by have := (List.getElem?_eq_some_iff.1 hj).1; omega) hj
theorem piecesC_fine {zs : List Int} {s : Int} (hs : lineB s = true) (h : zs.all lineB = true) : piecesC zs s = if 8 < zs.length then 3 else if zs.any fun z => decide (s < z) then 6 else 0 := by
  unfold piecesC
  rw [hs, h]
  rfl

set_option maxRecDepth 100000 in
set_option maxHeartbeats 1000000 in
theorem checkPieces_any (B N : Nat) (v : Value) (hN : N ≤ 2000000) (zs : List Int) (hl : zs.length = N) (s : Int) (w : World) (ho : w.ownsRow B 2 1 v N (intsV .i64 zs)) :
    Calls Try.prog 72 #[v, .int .i64 s] w fun e w' => e = .returned (.int .i64 (piecesC zs s)) ∧ w' = w := by
  cases hs : lineB s
  case false =>
    have HC := Lib.hid (piecesC_strip (zs := zs) hs)
    have HS := Lib.hid hs
    clear hs ho
    go_enter Try.func72, Try.ntmps72
    go_wp2_with (go_at_call 68; refine (isLine_is _ _ HS.out _).mono ?_; rintro e w1 ⟨rfl, rfl⟩)
    go_ret
    exact ⟨by rw [HC.out]; rfl, rfl⟩
  case true =>
    have HS := Lib.hid hs
    obtain ⟨av, cv, rfl⟩ := own_slice ho
    have HO := Lib.hid ho
    clear hs ho
    go_enter Try.func72, Try.ntmps72
    go_wp2_with (go_at_call 68; refine (isLine_is _ _ HS.out _).mono ?_; rintro e w1 ⟨rfl, rfl⟩)
    go_loopw [12] (fun i wr => ∃ k : Nat, k ≤ N ∧ i = .int .i64 k ∧ (∀ j z, j < k → zs[j]? = some z → lineB z = true) ∧ wr = w1) (fun i _ => N - (intOf i).toNat)
    case atStart => exact ⟨0, by omega, rfl, fun j z h _ => by omega, rfl⟩
    case round =>
      obtain ⟨k, hk, rfl, hall, rfl⟩ := hrel
      have HL := Lib.hid hall
      clear hall
      by_cases hlt : k < N
      · have hd : decide ((k : Int) < (N : Int)) = true := by simp; omega
        obtain ⟨z, hzk⟩ : ∃ z, zs[k]? = some z := ⟨_, List.getElem?_eq_getElem (by omega)⟩
        have HZ := Lib.hid hzk
        have ho := HO.out
        obtain ⟨ga, cap, he, hBg, hg⟩ := own_form ho (by omega)
        simp only [Value.slice.injEq, true_and] at he
        obtain ⟨rfl, rfl⟩ := he
        have c0 := own_cell ho _ _ (intsV_get (k := .i64) hzk)
        clear ho hzk
        obtain ⟨d, hdz⟩ : ∃ d, lineB z = d := ⟨_, rfl⟩
        have HD := Lib.hid hdz
        clear hdz
        go_wp2_with fail
        refine (isLine_is _ _ HD.out _).mono ?_
        rintro e w2 ⟨rfl, rfl⟩
        cases d
        · have HF := Lib.hid (piecesC_bad (s := s) HZ.out HD.out)
          go_wp2_with fail
          go_ret
          exact ⟨by rw [HF.out]; rfl, rfl⟩
        · go_wp2_with fail
          go_roundw
          case rel => exact ⟨k + 1, by omega, by go_num, fun j y hj hy => by
            by_cases e : j = k
            · subst e; rw [HZ.out] at hy; cases hy; exact HD.out
            · exact HL.out j y (by omega) hy, trivial⟩
          case measure => simp [intOf]; omega
      · have hd : decide ((k : Int) < (N : Int)) = false := by simp; omega
        obtain rfl : k = N := by omega
        have HF := Lib.hid (piecesC_fine HS.out (all_lines hl HL.out))
        by_cases h8 : 8 < k
        · have hd8 : decide ((8 : Int) < (k : Int)) = true := by simp; omega
          have HV := Lib.hid (show piecesC zs s = 3 by rw [HF.out, if_pos (by omega)])
          go_wp2_with fail
          go_ret
          exact ⟨by rw [HV.out]; rfl, rfl⟩
        · have hd8 : decide ((8 : Int) < (k : Int)) = false := by simp; omega
          cases k with
          | zero =>
            have HV := Lib.hid (show piecesC zs s = 0 by rw [HF.out, if_neg (by omega)]; rw [List.eq_nil_of_length_eq_zero hl]; rfl)
            go_wp2_with fail
            go_ret
            exact ⟨by rw [HV.out]; rfl, rfl⟩
          | succ n =>
            have hd9 : decide ((0 : Int) < ((n + 1 : Nat) : Int)) = true := by simp
            have HM := Lib.hid (max_any B n _ (by omega) zs hl _ HO.out)
            obtain ⟨d, hdm⟩ : ∃ d, decide (s < maxAt zs n) = d := ⟨_, rfl⟩
            have HV := Lib.hid (show piecesC zs s = if d then 6 else 0 by rw [HF.out, if_neg (by omega), any_max hl, hdm])
            go_wp2_with fail
            refine HM.out.mono ?_
            rintro e w2 ⟨rfl, rfl⟩
            cases d
            all_goals
              go_wp2_with fail
              go_ret
              exact ⟨by rw [HV.out]; rfl, rfl⟩

/-- Whether the strip and the first pieces may be so long. -/
def fineTo (zs : List Int) (s : Int) (k : Nat) : Bool := lineB s && (zs.take k).all lineB
theorem fineTo_zero (zs : List Int) (s : Int) : fineTo zs s 0 = lineB s := by simp [fineTo]
theorem fineTo_succ {zs : List Int} {s z : Int} {k : Nat} (h : zs[k]? = some z) : fineTo zs s (k + 1) = (fineTo zs s k && lineB z) := by
  unfold fineTo
  rw [List.take_add_one, h]
  simp [Bool.and_assoc]
theorem fineTo_all {zs : List Int} {s : Int} {N : Nat} (h : zs.length = N) : fineTo zs s N = (lineB s && zs.all lineB) := by
  unfold fineTo
  rw [List.take_of_length_le (by omega)]

set_option maxRecDepth 100000 in
set_option maxHeartbeats 1000000 in
theorem l05Pieces_any (B N : Nat) (v : Value) (hN : N ≤ 2000000) (zs : List Int) (hl : zs.length = N) (s : Int) (w : World) (ho : w.ownsRow B 2 1 v N (intsV .i64 zs)) :
    Calls Try.prog 71 #[v, .int .i64 s] w fun e w' => e = .returned (.int .i64 (piecesC zs s)) ∧ w' = w := by
  obtain ⟨av, cv, rfl⟩ := own_slice ho
  have HO := Lib.hid ho
  clear ho
  have HS := Lib.hid (l05Line_is s _ rfl)
  go_enter Try.func71, Try.ntmps71
  go_wp2_with fail
  refine (HS.out _).mono ?_
  rintro e w2 ⟨rfl, hw⟩
  rw [hw]
  clear hw
  go_wp2_with fail
  go_loopw [5, 6] (fun f i wr => ∃ k : Nat, k ≤ N ∧ i = .int .i64 k ∧ f = .bool (fineTo zs s k) ∧ wr = w) (fun _ i _ => N - (intOf i).toNat)
  case atStart => exact ⟨0, by omega, rfl, by rw [fineTo_zero], rfl⟩
  case round =>
    obtain ⟨k, hk, rfl, rfl, rfl⟩ := hrel
    by_cases hlt : k < N
    · have hd : decide ((k : Int) < (N : Int)) = true := by simp; omega
      obtain ⟨z, hzk⟩ : ∃ z, zs[k]? = some z := ⟨_, List.getElem?_eq_getElem (by omega)⟩
      have HF := Lib.hid (fineTo_succ (s := s) hzk)
      have ho := HO.out
      obtain ⟨ga, cap, he, hBg, hg⟩ := own_form ho (by omega)
      simp only [Value.slice.injEq, true_and] at he
      obtain ⟨rfl, rfl⟩ := he
      have c0 := own_cell ho _ _ (intsV_get (k := .i64) hzk)
      clear ho hzk
      obtain ⟨b, hb⟩ : ∃ b, fineTo zs s k = b := ⟨_, rfl⟩
      rw [hb] at HF ⊢
      clear hb
      have HZ := Lib.hid (l05Line_is z _ rfl)
      cases b
      · go_wp2_with fail
        go_roundw
        case rel => exact ⟨k + 1, by omega, by go_num, by rw [HF.out, Bool.false_and], trivial⟩
        case measure => simp [intOf]; omega
      · go_wp2_with fail
        refine (HZ.out _).mono ?_
        rintro e w2 ⟨rfl, hw⟩
        rw [hw]
        clear hw
        go_wp2_with fail
        go_roundw
        case rel => exact ⟨k + 1, by omega, by go_num, by rw [HF.out, Bool.true_and], trivial⟩
        case measure => simp [intOf]; omega
    · have hd : decide ((k : Int) < (N : Int)) = false := by simp; omega
      obtain rfl : k = N := by omega
      have HF := Lib.hid (fineTo_all (s := s) hl)
      obtain ⟨b, hb⟩ : ∃ b, fineTo zs s k = b := ⟨_, rfl⟩
      rw [hb] at HF ⊢
      clear hb
      cases b
      · have HV := Lib.hid (show piecesC zs s = 2 by unfold piecesC; rw [← HF.out]; rfl)
        go_wp2_with fail
        go_ret
        exact ⟨by rw [HV.out]; rfl, rfl⟩
      · have HV := Lib.hid (show piecesC zs s = if 8 < k then 3 else if zs.any fun z => decide (s < z) then 6 else 0 by unfold piecesC; rw [← HF.out, hl]; rfl)
        by_cases h8 : 8 < k
        · have hd8 : decide ((8 : Int) < (k : Int)) = true := by simp; omega
          have HV2 := Lib.hid (show piecesC zs s = 3 by rw [HV.out, if_pos h8])
          go_wp2_with fail
          go_ret
          exact ⟨by rw [HV2.out]; rfl, rfl⟩
        · have hd8 : decide ((8 : Int) < (k : Int)) = false := by simp; omega
          have HV2 := Lib.hid (show piecesC zs s = if zs.any fun z => decide (s < z) then 6 else 0 by rw [HV.out, if_neg h8])
          have H8 := Lib.hid h8
          clear HV h8 hlt
          go_wp2_with fail
          go_loopw [7] (fun i wk => ∃ n : Nat, n ≤ k ∧ i = .int .i64 n ∧ (∀ j z, j < n → zs[j]? = some z → ¬ s < z) ∧ wk = wr) (fun i _ => k - (intOf i).toNat)
          case atStart => exact ⟨0, by omega, rfl, fun j z h _ => by omega, rfl⟩
          case round =>
            obtain ⟨n, hn, rfl, hall, rfl⟩ := hrel
            have HL := Lib.hid hall
            clear hall
            by_cases hlt : n < k
            · have hdn : decide ((n : Int) < (k : Int)) = true := by simp; omega
              obtain ⟨z, hzk⟩ : ∃ z, zs[n]? = some z := ⟨_, List.getElem?_eq_getElem (by omega)⟩
              have HZ := Lib.hid hzk
              have ho := HO.out
              obtain ⟨ga, cap, he, hBg, hg⟩ := own_form ho (by omega)
              simp only [Value.slice.injEq, true_and] at he
              obtain ⟨rfl, rfl⟩ := he
              have c0 := own_cell ho _ _ (intsV_get (k := .i64) hzk)
              clear ho hzk
              by_cases hsz : s < z
              · have hds : decide (s < z) = true := by simpa using hsz
                have HR := Lib.hid (show piecesC zs s = 6 by
                  rw [HV2.out, if_pos]
                  rw [List.any_eq_true]
                  exact ⟨z, List.mem_of_getElem? HZ.out, hds⟩)
                clear hsz
                go_wp2_with fail
                go_ret
                exact ⟨by rw [HR.out]; rfl, rfl⟩
              · have hds : decide (s < z) = false := by simpa using hsz
                have HSZ := Lib.hid hsz
                clear hsz
                go_wp2_with fail
                go_roundw
                case rel => exact ⟨n + 1, by omega, by go_num, fun j y hj hy => by
                  by_cases e : j = n
                  · subst e; rw [HZ.out] at hy; cases hy; exact HSZ.out
                  · exact HL.out j y (by omega) hy, trivial⟩
                case measure => simp [intOf]; omega
            · obtain rfl : n = k := by omega
              have HR := Lib.hid (show piecesC zs s = 0 by
                rw [HV2.out, if_neg]
                rw [List.any_eq_true]
                rintro ⟨z, hz, h⟩
                obtain ⟨j, hj⟩ := List.mem_iff_getElem?.1 hz
                exact HL.out j z (by have := (List.getElem?_eq_some_iff.1 hj).1; omega) hj (by simpa using h))
              go_wp2_with fail
              go_ret
              exact ⟨by rw [HR.out]; rfl, rfl⟩
end Go.Proofs.Ythpfejbigdjhlaa
