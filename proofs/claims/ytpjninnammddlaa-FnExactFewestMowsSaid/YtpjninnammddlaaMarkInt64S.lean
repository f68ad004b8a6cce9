/- The marks that a law writes into an answer of Int64S, and the look whether they still stand there. -/
import Derived.Test.YtpjninnammddlaaZC
namespace Go.Proofs.Ytpjninnammddlaa
open Go.RowKit
set_option linter.unusedVariables false

set_option maxRecDepth 100000 in
set_option maxHeartbeats 1000000 in
theorem markInt64S_any (B n k : Nat) (v : Value) (xs : List Value) (w : World) (hn : n ≤ 10000000) (hk : k ≤ 10000000) (h : w.ownsRow B 2 1 v n xs) :
    Calls Try.prog 13 #[v, .int .i64 k] w fun e w' => e = .returned (.int .i64 ((k + n : Nat) : Int)) ∧ w'.ownsRow B 2 1 v n (marks64 k (n * 1)) ∧ w.grownBy w' v.ownBlock := by
  by_cases hz : n = 0
  · obtain ⟨a, c, rfl⟩ := own_slice h
    subst hz
    have hx : xs = marks64 k (0 * 1) := by have := h.1; simp at this; simp [marks64, this]
    subst hx
    have H := Lib.hid h
    clear h
    go_enter Try.func13, Try.ntmps13
    go_wp2_with fail
    go_loopw [1, 5] (fun k' i wr => k' = .int .i64 k ∧ i = .int .i64 0 ∧ wr = w) (fun _ _ _ => 0)
    case atStart => exact ⟨rfl, rfl, rfl⟩
    case round =>
      obtain ⟨rfl, rfl, rfl⟩ := hrel
      go_wp2_with fail
      go_ret
      exact ⟨rfl, H.out, grown_refl _ _⟩
  · obtain ⟨g, cap, rfl, hBg, hg⟩ := own_form h (by omega)
    have hlen : xs.length = n * 1 := h.1
    have HL := Lib.hid hlen
    have H := Lib.hid h
    clear h hlen
    go_enter Try.func13, Try.ntmps13
    go_wp2_with fail
    go_loopw [1, 5] (fun k' i wr => ∃ j : Nat, j ≤ n ∧ k' = .int .i64 ((k + j : Nat) : Int) ∧ i = .int .i64 j ∧ wr.ownsRow B 2 1 (.slice (some ⟨g, 0, none⟩) n cap) n (marked (marks64 k (n * 1)) xs j) ∧ w.grownBy wr (some g)) (fun _ i _ => n - (intOf i).toNat)
    case atStart => exact ⟨0, by omega, by simp, rfl, by simpa [marked_none] using H.out, grown_refl _ _⟩
    case round =>
      obtain ⟨j, hj, rfl, rfl, ho, hgr⟩ := hrel
      by_cases hlt : j < n
      · have hd : decide ((j : Int) < (n : Int)) = true := by simp; omega
        have hml : (marked (marks64 k (n * 1)) xs j).length = n * 1 := by rw [marked_length _ _ _ (by simp [HL.out]), HL.out]
        have f0 := own_free ho (j)
        have c0 := own_cell ho (j) _ (List.getElem?_eq_getElem (by omega))
        go_wp2_with fail
        go_roundw
        case rel =>
          exact ⟨j + 1, by omega, congrArg _ (by omega), by go_num, by
            skip
            refine own_mark ho (by simp [HL.out]) ?_
            · rw [marks64_get _ _ _ (by omega), show (k : Int) + ((j : Nat) : Int) = k + j by omega], (grown_set hgr _ _)⟩
        case measure => simp [intOf]; omega
      · obtain rfl : j = n := by omega
        have e : (marked (marks64 k (j * 1)) xs j) = marks64 k (j * 1) := by
          have := marked_all (marks64 k (j * 1)) xs (by simp [HL.out]); simpa using this
        rw [e] at ho
        have HO := Lib.hid ho
        clear ho e
        go_wp2_with fail
        go_ret
        exact ⟨rfl, HO.out, hgr⟩

theorem markInt64S_one (B n M : Nat) (v : Value) (xs : List Value) (w : World) (hn : n ≤ 10000000) (hM : 1 + n = M) (h : w.ownsRow B 2 1 v n xs) :
    Calls Try.prog 13 #[v, .int .i64 1] w fun e w' => e = .returned (.int .i64 (M : Int)) ∧ w'.ownsRow B 2 1 v n (marks64 1 (n * 1)) ∧ w.grownBy w' v.ownBlock := hM ▸ markInt64S_any B n 1 v xs w hn (by omega) h

set_option maxRecDepth 100000 in
set_option maxHeartbeats 1000000 in
theorem heldInt64S_any (B n k : Nat) (v : Value) (w : World) (hn : n ≤ 10000000) (hk : k ≤ 10000000) (h : w.ownsRow B 2 1 v n (marks64 k (n * 1))) :
    Calls Try.prog 14 #[v, .int .i64 k] w fun e w' => e = .returned (.int .i64 ((k + n : Nat) : Int)) ∧ Below w.heap.size w w' := by
  by_cases hz : n = 0
  · obtain ⟨a, c, rfl⟩ := own_slice h
    subst hz
    clear h
    go_enter Try.func14, Try.ntmps14
    go_wp2_with fail
    go_loopw [1, 5] (fun k' i wr => k' = .int .i64 k ∧ i = .int .i64 0 ∧ wr = w) (fun _ _ _ => 0)
    case atStart => exact ⟨rfl, rfl, rfl⟩
    case round =>
      obtain ⟨rfl, rfl, rfl⟩ := hrel
      go_wp2_with fail
      go_ret
      exact ⟨rfl, Below.refl _ _⟩
  · obtain ⟨g, cap, rfl, hBg, hg⟩ := own_form h (by omega)
    have H := Lib.hid h
    clear h
    go_enter Try.func14, Try.ntmps14
    go_wp2_with fail
    go_loopw [1, 5] (fun k' i wr => ∃ j : Nat, j ≤ n ∧ k' = .int .i64 ((k + j : Nat) : Int) ∧ i = .int .i64 j ∧ Below w.heap.size w wr) (fun _ i _ => n - (intOf i).toNat)
    case atStart => exact ⟨0, by omega, by simp, rfl, Below.refl _ _⟩
    case round =>
      obtain ⟨j, hj, rfl, rfl, hb⟩ := hrel
      by_cases hlt : j < n
      · have hd : decide ((j : Int) < (n : Int)) = true := by simp; omega
        have ho := own_below H.out hb
        have c0 := own_cell ho j _ (marks64_get _ _ _ (by omega))
        clear ho
        go_wp2_with fail
        all_goals first
          | (go_roundw
             case rel => exact ⟨j + 1, by omega, congrArg _ (by omega), by go_num, hb⟩
             case measure => simp [intOf]; omega)
          | skip
      · obtain rfl : j = n := by omega
        go_wp2_with fail
        go_ret
        exact ⟨rfl, hb⟩
theorem heldInt64S_one (B n M : Nat) (v : Value) (w : World) (hn : n ≤ 10000000) (hM : 1 + n = M) (h : w.ownsRow B 2 1 v n (marks64 1 (n * 1))) :
    Calls Try.prog 14 #[v, .int .i64 1] w fun e w' => e = .returned (.int .i64 (M : Int)) ∧ Below w.heap.size w w' := hM ▸ heldInt64S_any B n 1 v w hn (by omega) h
end Go.Proofs.Ytpjninnammddlaa
