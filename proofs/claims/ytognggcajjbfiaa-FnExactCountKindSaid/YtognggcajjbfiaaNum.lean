/- Small functions on numbers: bounds, sides, kinds; and a lawn of grass alone. -/
import Derived.Test.YtognggcajjbfiaaEq
namespace Go.Proofs.Ytognggcajjbfiaa
open Go.RowKit
attribute [local go_sem ↓] loadRow loadGrid loadLawn loadMirror storeRow storeGrid storeLawn allocRow allocGrid allocLawn buildZero buildSides

/-- Whether a number lies within bounds. -/
def inB (n a b : Int) : Bool := decide (a ≤ n) && decide (n ≤ b)
theorem inB_true {n a b : Int} (h : inB n a b = true) : a ≤ n ∧ n ≤ b := by simpa [inB] using h
theorem inB_false {n a b : Int} (h : inB n a b = false) : n < a ∨ b < n := by
  simp only [inB, Bool.and_eq_false_iff, decide_eq_false_iff_not] at h; omega
theorem inB_yes {n a b : Int} (h1 : a ≤ n) (h2 : n ≤ b) : inB n a b = true := by simp [inB, h1, h2]
theorem ret_bool {a b : Bool} (h : a = b) : Ending.returned (.bool a) = .returned (.bool b) := by rw [h]

set_option maxHeartbeats 400000 in
theorem in_any (n a b : Int) (w : World) :
    Calls Try.prog 123 #[.int .i64 n, .int .i64 a, .int .i64 b] w fun e w' => e = .returned (.bool (inB n a b)) ∧ w = w' := by
  by_cases h1 : a ≤ n <;> by_cases h2 : n ≤ b
  all_goals
    go_enter Try.func123, Try.ntmps123
    go_wp2
    go_ret
    exact ⟨ret_bool (by simp [inB]; omega), rfl⟩
theorem in_q (n a b : Int) (w : World) :
    Calls Try.prog 123 #[.int .i64 n, .int .i64 a, .int .i64 b] w fun e w' => e = .returned (.bool (inB n a b)) ∧ w' = w := (in_any n a b w).mono fun _ _ ⟨h, k⟩ => ⟨h, k.symm⟩
theorem in_no (n a b : Int) (w : World) (h : inB n a b = false) :
    Calls Try.prog 123 #[.int .i64 n, .int .i64 a, .int .i64 b] w fun e w' => e = .returned (.bool false) ∧ w' = w := h ▸ in_q n a b w
theorem in_yes (n a b : Int) (w : World) (h : inB n a b = true) :
    Calls Try.prog 123 #[.int .i64 n, .int .i64 a, .int .i64 b] w fun e w' => e = .returned (.bool true) ∧ w' = w := h ▸ in_q n a b w
set_option maxHeartbeats 400000 in
theorem isSide_any (n : Int) (w : World) :
    Calls Try.prog 95 #[.int .i64 n] w fun e w' => e = .returned (.bool (inB n 1 10)) ∧ w = w' := by
  by_cases h1 : 1 ≤ n <;> by_cases h2 : n ≤ 10
  all_goals
    go_enter Try.func95, Try.ntmps95
    go_wp2
    go_ret
    exact ⟨ret_bool (by simp [inB]; omega), rfl⟩
set_option maxHeartbeats 400000 in
theorem isKind_any (n : Int) (w : World) :
    Calls Try.prog 96 #[.int .i64 n] w fun e w' => e = .returned (.bool (inB n 0 3)) ∧ w = w' := by
  by_cases h1 : 0 ≤ n <;> by_cases h2 : n ≤ 3
  all_goals
    go_enter Try.func96, Try.ntmps96
    go_wp2
    go_ret
    exact ⟨ret_bool (by simp [inB]; omega), rfl⟩
set_option maxHeartbeats 400000 in
theorem l01Side_any (n : Int) (w : World) :
    Calls Try.prog 97 #[.int .i64 n] w fun e w' => e = .returned (.bool (inB n 1 10)) ∧ w = w' := by
  go_enter Try.func97, Try.ntmps97
  go_wp2_with (go_at_call 123; refine (in_any _ _ _ _).mono ?_; rintro e w1 ⟨rfl, rfl⟩)
  go_ret
  exact ⟨rfl, rfl⟩
set_option maxHeartbeats 400000 in
theorem l01Kind_any (n : Int) (w : World) :
    Calls Try.prog 88 #[.int .i64 n] w fun e w' => e = .returned (.bool (inB n 0 3)) ∧ w = w' := by
  go_enter Try.func88, Try.ntmps88
  go_wp2_with (go_at_call 123; refine (in_any _ _ _ _).mono ?_; rintro e w1 ⟨rfl, rfl⟩)
  go_ret
  exact ⟨rfl, rfl⟩

theorem side_is (n : Int) (v : Bool) (h : inB n 1 10 = v) (w : World) :
    Calls Try.prog 95 #[.int .i64 n] w fun e w' => e = .returned (.bool v) ∧ w = w' := h ▸ isSide_any n w
theorem kind_is (n : Int) (v : Bool) (h : inB n 0 3 = v) (w : World) :
    Calls Try.prog 96 #[.int .i64 n] w fun e w' => e = .returned (.bool v) ∧ w = w' := h ▸ isKind_any n w
theorem l01Side_is (n : Int) (v : Bool) (h : inB n 1 10 = v) (w : World) :
    Calls Try.prog 97 #[.int .i64 n] w fun e w' => e = .returned (.bool v) ∧ w = w' := h ▸ l01Side_any n w
theorem l01Kind_is (n : Int) (v : Bool) (h : inB n 0 3 = v) (w : World) :
    Calls Try.prog 88 #[.int .i64 n] w fun e w' => e = .returned (.bool v) ∧ w = w' := h ▸ l01Kind_any n w
def Lawn.zero : Lawn := ⟨0, 0, fun _ _ => 0⟩
/-- What NewLawn answers. -/
def newOf (a b : Int) : Value := if inB a 1 10 && inB b 1 10 then .tuple #[.agg (Lawn.cells ⟨a, b, fun _ _ => 0⟩), .int .i64 0] else .tuple #[.agg Lawn.zero.cells, .int .i64 2]

set_option maxHeartbeats 400000 in
theorem specNew_any (a b : Int) (w : World) :
    Calls Try.prog 40 #[.int .i64 a, .int .i64 b] w fun e w' => e = .returned (newOf a b) ∧ Below w.heap.size w w' := by
  cases ha : inB a 1 10 <;> cases hb : inB b 1 10
  all_goals
    try obtain ⟨a1, a2⟩ := inB_true ha
    try obtain ⟨b1, b2⟩ := inB_true hb
    have Ha := Lib.hid ha
    have Hb := Lib.hid hb
    go_enter Try.func40, Try.ntmps40
    go_wp2_with (go_at_call 97; refine (l01Side_any _ _).mono ?_; rintro e w1 ⟨rfl, rfl⟩)
    refine bodyPost_ret (results_cell_tmp_holds rfl wideLawn _ rfl (Holds.new _ _ _) (by simp)) rfl ⟨?_, (Below.refl _ _).alloc (Nat.le_refl _) _⟩
    simp [newOf, Ha.out, Hb.out, Lawn.zero]
set_option maxHeartbeats 400000 in
theorem implNew_any (a b : Int) (w : World) :
    Calls Try.prog 41 #[.int .i64 a, .int .i64 b] w fun e w' => e = .returned (newOf a b) ∧ Below w.heap.size w w' := by
  cases ha : inB a 1 10 <;> cases hb : inB b 1 10
  all_goals
    try obtain ⟨a1, a2⟩ := inB_true ha
    try obtain ⟨b1, b2⟩ := inB_true hb
    have Ha := Lib.hid ha
    have Hb := Lib.hid hb
    go_enter Try.func41, Try.ntmps41
    go_wp2_with (go_at_call 95; refine (isSide_any _ _).mono ?_; rintro e w1 ⟨rfl, rfl⟩)
    refine bodyPost_ret (results_cell_tmp_holds rfl wideLawn _ rfl (Holds.new _ _ _) (by simp)) rfl ⟨?_, (Below.refl _ _).alloc (Nat.le_refl _) _⟩
    simp [newOf, Ha.out, Hb.out, Lawn.zero]

set_option maxRecDepth 100000 in
set_option maxHeartbeats 400000 in
/-- The law on NewLawn answers true. -/
theorem exactNew (a b : Int) (w : World) :
    Calls Try.prog 6 #[.int .i64 a, .int .i64 b] w fun e w' => e = .returned (.bool true) ∧ Below w.heap.size w w' := by
  obtain ⟨L, c, hn⟩ : ∃ (L : Lawn) (c : Int), newOf a b = .tuple #[.agg L.cells, .int .i64 c] := by
    unfold newOf; split <;> exact ⟨_, _, rfl⟩
  have HS : ∀ w : World, Calls Try.prog 40 #[.int .i64 a, .int .i64 b] w fun e w' => e = .returned (.tuple #[.agg L.cells, .int .i64 c]) ∧ Below w.heap.size w w' := fun w => hn ▸ specNew_any a b w
  have HI : ∀ w : World, Calls Try.prog 41 #[.int .i64 a, .int .i64 b] w fun e w' => e = .returned (.tuple #[.agg L.cells, .int .i64 c]) ∧ Below w.heap.size w w' := fun w => hn ▸ implNew_any a b w
  clear hn
  have HS := Lib.hid HS
  have HI := Lib.hid HI
  go_enter Try.func6, Try.ntmps6
  go_wp2_with fail
  refine (HS.out _).mono ?_
  rintro e w1 ⟨rfl, hb1⟩
  go_wp2_with fail
  refine (HI.out _).mono ?_
  rintro e w2 ⟨rfl, hb2⟩
  have h1 : Holds w2 w1.heap.size L.cells := (Holds.new _ _ _).below hb2 (by simp)
  have l1 : w1.heap.size < w2.heap.size := h1.lt
  have hb : Below w.heap.size w w2 := (hb1.alloc hb1.size _).trans (hb2.mono (by simp; have := hb1.size; omega))
  obtain ⟨r1, -, -, -, -⟩ := h1.facts
  clear hb1 hb2 h1
  go_wp2_with fail
  refine (eqLawn_same _ _).mono ?_
  rintro e w3 ⟨rfl, hb3⟩
  go_wp2
  go_ret
  exact ⟨rfl, (hb.alloc hb.size _).trans (hb3.mono (by simp; have := hb.size; omega))⟩
end Go.Proofs.Ytognggcajjbfiaa
