/- The marks that a law writes into an answer of WeatherS, and the look whether they still stand there. -/
import Derived.Test.YtpjninnammddlaaZC
namespace Go.Proofs.Ytpjninnammddlaa
open Go.RowKit
set_option linter.unusedVariables false

set_option maxRecDepth 100000 in
set_option maxHeartbeats 1000000 in
theorem markWeatherS_any (B n k : Nat) (v : Value) (xs : List Value) (w : World) (hn : n ≤ 10000000) (hk : k ≤ 10000000) (h : w.ownsRow B 46 2 v n xs) :
    Calls Try.prog 12 #[v, .int .i64 k] w fun e w' => e = .returned (.int .i64 ((k + 2 * n : Nat) : Int)) ∧ w'.ownsRow B 46 2 v n (marks8 k (n * 2)) ∧ w.grownBy w' v.ownBlock := by
  by_cases hz : n = 0
  · obtain ⟨a, c, rfl⟩ := own_slice h
    subst hz
    have hx : xs = marks8 k (0 * 2) := by have := h.1; simp at this; simp [marks8, this]
    subst hx
    have H := Lib.hid h
    clear h
    go_enter Try.func12, Try.ntmps12
    go_wp2_with fail
    go_loopw [1, 5] (fun k' i wr => k' = .int .i64 k ∧ i = .int .i64 0 ∧ wr = w) (fun _ _ _ => 0)
    case atStart => exact ⟨rfl, rfl, rfl⟩
    case round =>
      obtain ⟨rfl, rfl, rfl⟩ := hrel
      go_wp2_with fail
      go_ret
      exact ⟨rfl, H.out, grown_refl _ _⟩
  · obtain ⟨g, cap, rfl, hBg, hg⟩ := own_form h (by omega)
    have hlen : xs.length = n * 2 := h.1
    have HL := Lib.hid hlen
    have H := Lib.hid h
    clear h hlen
    go_enter Try.func12, Try.ntmps12
    go_wp2_with fail
    go_loopw [1, 5] (fun k' i wr => ∃ j : Nat, j ≤ n ∧ k' = .int .i64 ((k + 2 * j : Nat) : Int) ∧ i = .int .i64 j ∧ wr.ownsRow B 46 2 (.slice (some ⟨g, 0, none⟩) n cap) n (marked (marks8 k (n * 2)) xs (j * 2)) ∧ w.grownBy wr (some g)) (fun _ i _ => n - (intOf i).toNat)
    case atStart => exact ⟨0, by omega, by simp, rfl, by simpa [marked_none] using H.out, grown_refl _ _⟩
    case round =>
      obtain ⟨j, hj, rfl, rfl, ho, hgr⟩ := hrel
      by_cases hlt : j < n
      · have hd : decide ((j : Int) < (n : Int)) = true := by simp; omega
        have hml : (marked (marks8 k (n * 2)) xs (j * 2)).length = n * 2 := by rw [marked_length _ _ _ (by simp [HL.out]), HL.out]
        have f0 := own_free ho (j * 2)
        have c0 := own_cell ho (j * 2) _ (List.getElem?_eq_getElem (by omega))
        have f1 := own_free ho (j * 2 + 1)
        have c1 := own_cell ho (j * 2 + 1) _ (List.getElem?_eq_getElem (by omega))
        go_wp2_with fail
        go_roundw
        case rel =>
          exact ⟨j + 1, by omega, congrArg _ (by omega), by go_num, by
            rw [show (j + 1) * 2 = j * 2 + 1 + 1 by omega]
            refine own_mark (own_mark ho (by simp [HL.out]) ?_) (by simp [HL.out]) ?_
            · rw [marks8_get _ _ _ (by omega), show (k : Int) + ((j * 2 : Nat) : Int) = k + 2 * j by omega]
            · rw [marks8_get _ _ _ (by omega), show (k : Int) + ((j * 2 + 1 : Nat) : Int) = k + 2 * j + 1 by omega], (grown_set (grown_set hgr _ _) _ _)⟩
        case measure => simp [intOf]; omega
      · obtain rfl : j = n := by omega
        have e : (marked (marks8 k (j * 2)) xs (j * 2)) = marks8 k (j * 2) := by
          have := marked_all (marks8 k (j * 2)) xs (by simp [HL.out]); simpa using this
        rw [e] at ho
        have HO := Lib.hid ho
        clear ho e
        go_wp2_with fail
        go_ret
        exact ⟨rfl, HO.out, hgr⟩

theorem markWeatherS_one (B n M : Nat) (v : Value) (xs : List Value) (w : World) (hn : n ≤ 10000000) (hM : 1 + 2 * n = M) (h : w.ownsRow B 46 2 v n xs) :
    Calls Try.prog 12 #[v, .int .i64 1] w fun e w' => e = .returned (.int .i64 (M : Int)) ∧ w'.ownsRow B 46 2 v n (marks8 1 (n * 2)) ∧ w.grownBy w' v.ownBlock := hM ▸ markWeatherS_any B n 1 v xs w hn (by omega) h

end Go.Proofs.Ytpjninnammddlaa
