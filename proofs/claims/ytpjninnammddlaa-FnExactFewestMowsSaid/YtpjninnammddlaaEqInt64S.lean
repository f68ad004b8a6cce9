/- The comparison of two rows of Int64S: equal ones are found equal. -/
import Derived.Test.YtpjninnammddlaaZC
import Derived.Test.YtpjninnammddlaaZB
namespace Go.Proofs.Ytpjninnammddlaa
open Go.RowKit
set_option linter.unusedVariables false


set_option maxRecDepth 100000 in
set_option maxHeartbeats 1000000 in
theorem eqInt64S_rows (n : Nat) (xs : List Value) (hn : n ≤ 10000000) (hx : ∀ j, j < n * 1 → ∃ z, xs[j]? = some (.int .i64 z)) (v v' : Value) (B B' : Nat) (w : World) (h : w.ownsRow B 2 1 v n xs) (h' : w.ownsRow B' 2 1 v' n xs) :
    Calls Try.prog 10 #[v, v'] w fun e w' => e = .returned (.bool true) ∧ ∃ q, Below w.heap.size w w' ∧ q = 0 := by
  by_cases hz : n = 0
  · obtain ⟨a, c, rfl⟩ := own_slice h
    obtain ⟨a', c', rfl⟩ := own_slice h'
    subst hz
    clear h h' hx
    go_enter Try.func10, Try.ntmps10
    go_wp2_with fail
    go_loopw [5] (fun i wr => i = .int .i64 0 ∧ wr = w) (fun _ _ => 0)
    case atStart => exact ⟨rfl, rfl⟩
    case round =>
      obtain ⟨rfl, rfl⟩ := hrel
      go_wp2_with fail
      go_ret
      exact ⟨rfl, 0, Below.refl _ _, rfl⟩
  · obtain ⟨g, cap, rfl, -, -⟩ := own_form h (by omega)
    obtain ⟨g', cap', rfl, -, -⟩ := own_form h' (by omega)
    have H := Lib.hid h
    have H' := Lib.hid h'
    clear h h'
    go_enter Try.func10, Try.ntmps10
    go_wp2_with fail
    go_loopw [5] (fun i wr => ∃ k : Nat, k ≤ n ∧ i = .int .i64 k ∧ Below w.heap.size w wr) (fun i _ => n - (intOf i).toNat)
    case atStart => exact ⟨0, by omega, rfl, Below.refl _ _⟩
    case round =>
      obtain ⟨k, hk, rfl, hb⟩ := hrel
      by_cases hlt : k < n
      · have hd : decide ((k : Int) < (n : Int)) = true := by simp; omega
        obtain ⟨z0, hz0⟩ := hx (k) (by omega)
        have e0 := own_cell (own_below H.out hb) _ _ hz0
        have g0 := own_cell (own_below H'.out hb) _ _ hz0
        clear hz0 hx
        go_wp2_with fail
        go_quiet (fail)
        go_wp2_with fail
        go_roundw
        case rel => exact ⟨k + 1, by omega, by go_num, below_drewN hb _⟩
        case measure => simp [intOf]; omega
      · have hd : decide ((k : Int) < (n : Int)) = false := by simp; omega
        go_wp2_with fail
        go_ret
        exact ⟨rfl, 0, hb, rfl⟩
theorem eqInt64S_same (n : Nat) (xs : List Value) (hn : n ≤ 10000000) (hx : ∀ j, j < n * 1 → ∃ z, xs[j]? = some (.int .i64 z)) (v v' : Value) (B B' : Nat) (w : World) (h : w.ownsRow B 2 1 v n xs) (h' : w.ownsRow B' 2 1 v' n xs) :
    Calls Try.prog 10 #[v, v'] w fun e w' => e = .returned (.bool true) ∧ Below w.heap.size w w' :=
  (eqInt64S_rows n xs hn hx v v' B B' w h h').mono fun _ _ ⟨h1, _, h2, _⟩ => ⟨h1, h2⟩
end Go.Proofs.Ytpjninnammddlaa
