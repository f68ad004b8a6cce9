/- Small functions on numbers: bounds, sides, kinds; and a lawn of grass alone. -/
import Derived.Test.YtgmahakpmjfhhaaRREq
namespace Go.Proofs.YtgmahakpmjfhhaaRR
open Go.RowKit
attribute [local go_sem ↓] loadRow loadGrid loadLawn loadMirror storeRow storeGrid storeLawn allocRow allocGrid allocLawn buildZero buildSides

/-- Whether a number lies within bounds. -/
def inB (n a b : Int) : Bool := decide (a ≤ n) && decide (n ≤ b)
theorem inB_true {n a b : Int} (h : inB n a b = true) : a ≤ n ∧ n ≤ b := by simpa [inB] using h
theorem inB_false {n a b : Int} (h : inB n a b = false) : n < a ∨ b < n := by
  simp only [inB, Bool.and_eq_false_iff, decide_eq_false_iff_not] at h; omega
theorem inB_yes {n a b : Int} (h1 : a ≤ n) (h2 : n ≤ b) : inB n a b = true := by simp [inB, h1, h2]
theorem ret_bool {a b : Bool} (h : a = b) : Ending.returned (.bool a) = .returned (.bool b) := by rw [h]

set_option maxHeartbeats 400000 in
theorem in_any (n a b : Int) (w : World) :
    Calls Try.prog 172 #[.int .i64 n, .int .i64 a, .int .i64 b] w fun e w' => e = .returned (.bool (inB n a b)) ∧ w = w' := by
  by_cases h1 : a ≤ n <;> by_cases h2 : n ≤ b
  all_goals
    go_enter Try.func172, Try.ntmps172
    go_wp2
    go_ret
    exact ⟨ret_bool (by simp [inB]; omega), rfl⟩
theorem in_q (n a b : Int) (w : World) :
    Calls Try.prog 172 #[.int .i64 n, .int .i64 a, .int .i64 b] w fun e w' => e = .returned (.bool (inB n a b)) ∧ w' = w := (in_any n a b w).mono fun _ _ ⟨h, k⟩ => ⟨h, k.symm⟩
theorem in_no (n a b : Int) (w : World) (h : inB n a b = false) :
    Calls Try.prog 172 #[.int .i64 n, .int .i64 a, .int .i64 b] w fun e w' => e = .returned (.bool false) ∧ w' = w := h ▸ in_q n a b w
theorem in_yes (n a b : Int) (w : World) (h : inB n a b = true) :
    Calls Try.prog 172 #[.int .i64 n, .int .i64 a, .int .i64 b] w fun e w' => e = .returned (.bool true) ∧ w' = w := h ▸ in_q n a b w
set_option maxHeartbeats 400000 in
theorem isSide_any (n : Int) (w : World) :
    Calls Try.prog 161 #[.int .i64 n] w fun e w' => e = .returned (.bool (inB n 1 10)) ∧ w = w' := by
  by_cases h1 : 1 ≤ n <;> by_cases h2 : n ≤ 10
  all_goals
    go_enter Try.func161, Try.ntmps161
    go_wp2
    go_ret
    exact ⟨ret_bool (by simp [inB]; omega), rfl⟩
set_option maxHeartbeats 400000 in
theorem isKind_any (n : Int) (w : World) :
    Calls Try.prog 162 #[.int .i64 n] w fun e w' => e = .returned (.bool (inB n 0 3)) ∧ w = w' := by
  by_cases h1 : 0 ≤ n <;> by_cases h2 : n ≤ 3
  all_goals
    go_enter Try.func162, Try.ntmps162
    go_wp2
    go_ret
    exact ⟨ret_bool (by simp [inB]; omega), rfl⟩
set_option maxHeartbeats 400000 in
theorem l01Side_any (n : Int) (w : World) :
    Calls Try.prog 169 #[.int .i64 n] w fun e w' => e = .returned (.bool (inB n 1 10)) ∧ w = w' := by
  go_enter Try.func169, Try.ntmps169
  go_wp2_with (go_at_call 172; refine (in_any _ _ _ _).mono ?_; rintro e w1 ⟨rfl, rfl⟩)
  go_ret
  exact ⟨rfl, rfl⟩
set_option maxHeartbeats 400000 in
theorem l01Kind_any (n : Int) (w : World) :
    Calls Try.prog 106 #[.int .i64 n] w fun e w' => e = .returned (.bool (inB n 0 3)) ∧ w = w' := by
  go_enter Try.func106, Try.ntmps106
  go_wp2_with (go_at_call 172; refine (in_any _ _ _ _).mono ?_; rintro e w1 ⟨rfl, rfl⟩)
  go_ret
  exact ⟨rfl, rfl⟩

theorem side_is (n : Int) (v : Bool) (h : inB n 1 10 = v) (w : World) :
    Calls Try.prog 161 #[.int .i64 n] w fun e w' => e = .returned (.bool v) ∧ w = w' := h ▸ isSide_any n w
theorem kind_is (n : Int) (v : Bool) (h : inB n 0 3 = v) (w : World) :
    Calls Try.prog 162 #[.int .i64 n] w fun e w' => e = .returned (.bool v) ∧ w = w' := h ▸ isKind_any n w
theorem l01Side_is (n : Int) (v : Bool) (h : inB n 1 10 = v) (w : World) :
    Calls Try.prog 169 #[.int .i64 n] w fun e w' => e = .returned (.bool v) ∧ w = w' := h ▸ l01Side_any n w
theorem l01Kind_is (n : Int) (v : Bool) (h : inB n 0 3 = v) (w : World) :
    Calls Try.prog 106 #[.int .i64 n] w fun e w' => e = .returned (.bool v) ∧ w = w' := h ▸ l01Kind_any n w
def Lawn.zero : Lawn := ⟨0, 0, fun _ _ => 0⟩
/-- What NewLawn answers. -/
def newOf (a b : Int) : Value := if inB a 1 10 && inB b 1 10 then .tuple #[.agg (Lawn.cells ⟨a, b, fun _ _ => 0⟩), .int .i64 0] else .tuple #[.agg Lawn.zero.cells, .int .i64 2]


end Go.Proofs.YtgmahakpmjfhhaaRR
