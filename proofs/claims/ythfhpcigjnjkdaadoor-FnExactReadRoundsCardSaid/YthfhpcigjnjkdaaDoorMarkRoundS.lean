/- The marks that a law writes into an answer of RoundS, and the look whether they still stand there. -/
import Derived.Test.YthfhpcigjnjkdaaDoorZC
namespace Go.Proofs.YthfhpcigjnjkdaaDoor
open Go.RowKit
set_option linter.unusedVariables false

/-- Marks in rounds. -/
def marksR (k m : Nat) : List Value := (List.range m).map fun i : Nat => if i % 2 = 0 then .int .i8 (IntKind.i8.wrap ((k : Int) + i)) else .bool (((k : Int) + i) % 3 == 0)
@[simp] theorem marksR_length (k m : Nat) : (marksR k m).length = m := by simp [marksR]
theorem marksR_even (k m j : Nat) (h : j * 2 < m) : (marksR k m)[j * 2]? = some (.int .i8 (IntKind.i8.wrap ((k : Int) + 2 * j))) := by
  unfold marksR
  rw [List.getElem?_map, List.getElem?_range h, Option.map_some, if_pos (by omega), show (k : Int) + ((j * 2 : Nat) : Int) = k + 2 * j by omega]
theorem marksR_odd (k m j : Nat) (h : j * 2 + 1 < m) : (marksR k m)[j * 2 + 1]? = some (.bool (((k : Int) + 2 * j + 1) % 3 == 0)) := by
  unfold marksR
  rw [List.getElem?_map, List.getElem?_range h, Option.map_some, if_neg (by omega), show (k : Int) + ((j * 2 + 1 : Nat) : Int) = k + 2 * j + 1 by omega]

set_option maxRecDepth 100000 in
set_option maxHeartbeats 1000000 in
theorem markRoundS_any (B n k : Nat) (v : Value) (xs : List Value) (w : World) (hn : n ≤ 10000000) (hk : k ≤ 10000000) (h : w.ownsRow B 143 2 v n xs) :
    Calls Tryd.prog 55 #[v, .int .i64 k] w fun e w' => e = .returned (.int .i64 ((k + 2 * n : Nat) : Int)) ∧ w'.ownsRow B 143 2 v n (marksR k (n * 2)) ∧ w.grownBy w' v.ownBlock := by
  by_cases hz : n = 0
  · obtain ⟨a, c, rfl⟩ := own_slice h
    subst hz
    have hx : xs = marksR k (0 * 2) := by have := h.1; simp at this; simp [marksR, this]
    subst hx
    have H := Lib.hid h
    clear h
    go_enter Tryd.func55, Tryd.ntmps55
    go_wp2_with fail
    go_loopw [1, 5] (fun k' i wr => k' = .int .i64 k ∧ i = .int .i64 0 ∧ wr = w) (fun _ _ _ => 0)
    case atStart => exact ⟨rfl, rfl, rfl⟩
    case round =>
      obtain ⟨rfl, rfl, rfl⟩ := hrel
      go_wp2_with fail
      go_ret
      exact ⟨rfl, H.out, grown_refl _ _⟩
  · obtain ⟨g, cap, rfl, hBg, hg⟩ := own_form h (by omega)
    have hlen : xs.length = n * 2 := h.1
    have HL := Lib.hid hlen
    have H := Lib.hid h
    clear h hlen
    go_enter Tryd.func55, Tryd.ntmps55
    go_wp2_with fail
    go_loopw [1, 5] (fun k' i wr => ∃ j : Nat, j ≤ n ∧ k' = .int .i64 ((k + 2 * j : Nat) : Int) ∧ i = .int .i64 j ∧ wr.ownsRow B 143 2 (.slice (some ⟨g, 0, none⟩) n cap) n (marked (marksR k (n * 2)) xs (j * 2)) ∧ w.grownBy wr (some g)) (fun _ i _ => n - (intOf i).toNat)
    case atStart => exact ⟨0, by omega, by simp, rfl, by simpa [marked_none] using H.out, grown_refl _ _⟩
    case round =>
      obtain ⟨j, hj, rfl, rfl, ho, hgr⟩ := hrel
      by_cases hlt : j < n
      · have hd : decide ((j : Int) < (n : Int)) = true := by simp; omega
        have hml : (marked (marksR k (n * 2)) xs (j * 2)).length = n * 2 := by rw [marked_length _ _ _ (by simp [HL.out]), HL.out]
        have f0 := own_free ho (j * 2)
        have c0 := own_cell ho (j * 2) _ (List.getElem?_eq_getElem (by omega))
        have f1 := own_free ho (j * 2 + 1)
        have c1 := own_cell ho (j * 2 + 1) _ (List.getElem?_eq_getElem (by omega))
        go_wp2_with fail
        go_roundw
        case rel =>
          exact ⟨j + 1, by omega, congrArg _ (by omega), by go_num, by
            rw [show (j + 1) * 2 = j * 2 + 1 + 1 by omega]
            refine own_mark (own_mark ho (by simp [HL.out]) ?_) (by simp [HL.out]) ?_
            · rw [marksR_even _ _ _ (by omega)]
            · rw [marksR_odd _ _ _ (by omega)], (grown_set (grown_set hgr _ _) _ _)⟩
        case measure => simp [intOf]; omega
      · obtain rfl : j = n := by omega
        have e : (marked (marksR k (j * 2)) xs (j * 2)) = marksR k (j * 2) := by
          have := marked_all (marksR k (j * 2)) xs (by simp [HL.out]); simpa using this
        rw [e] at ho
        have HO := Lib.hid ho
        clear ho e
        go_wp2_with fail
        go_ret
        exact ⟨rfl, HO.out, hgr⟩

theorem markRoundS_one (B n M : Nat) (v : Value) (xs : List Value) (w : World) (hn : n ≤ 10000000) (hM : 1 + 2 * n = M) (h : w.ownsRow B 143 2 v n xs) :
    Calls Tryd.prog 55 #[v, .int .i64 1] w fun e w' => e = .returned (.int .i64 (M : Int)) ∧ w'.ownsRow B 143 2 v n (marksR 1 (n * 2)) ∧ w.grownBy w' v.ownBlock := hM ▸ markRoundS_any B n 1 v xs w hn (by omega) h

set_option maxRecDepth 100000 in
set_option maxHeartbeats 1000000 in
theorem heldRoundS_any (B n k : Nat) (v : Value) (w : World) (hn : n ≤ 10000000) (hk : k ≤ 10000000) (h : w.ownsRow B 143 2 v n (marksR k (n * 2))) :
    Calls Tryd.prog 56 #[v, .int .i64 k] w fun e w' => e = .returned (.int .i64 ((k + 2 * n : Nat) : Int)) ∧ Below w.heap.size w w' := by
  by_cases hz : n = 0
  · obtain ⟨a, c, rfl⟩ := own_slice h
    subst hz
    clear h
    go_enter Tryd.func56, Tryd.ntmps56
    go_wp2_with fail
    go_loopw [1, 5] (fun k' i wr => k' = .int .i64 k ∧ i = .int .i64 0 ∧ wr = w) (fun _ _ _ => 0)
    case atStart => exact ⟨rfl, rfl, rfl⟩
    case round =>
      obtain ⟨rfl, rfl, rfl⟩ := hrel
      go_wp2_with fail
      go_ret
      exact ⟨rfl, Below.refl _ _⟩
  · obtain ⟨g, cap, rfl, hBg, hg⟩ := own_form h (by omega)
    have H := Lib.hid h
    clear h
    go_enter Tryd.func56, Tryd.ntmps56
    go_wp2_with fail
    go_loopw [1, 5] (fun k' i wr => ∃ j : Nat, j ≤ n ∧ k' = .int .i64 ((k + 2 * j : Nat) : Int) ∧ i = .int .i64 j ∧ Below w.heap.size w wr) (fun _ i _ => n - (intOf i).toNat)
    case atStart => exact ⟨0, by omega, by simp, rfl, Below.refl _ _⟩
    case round =>
      obtain ⟨j, hj, rfl, rfl, hb⟩ := hrel
      by_cases hlt : j < n
      · have hd : decide ((j : Int) < (n : Int)) = true := by simp; omega
        have ho := own_below H.out hb
        have c0 := own_cell ho (j * 2) _ (marksR_even _ _ _ (by omega))
        have c1 := own_cell ho (j * 2 + 1) _ (marksR_odd _ _ _ (by omega))
        clear ho
        go_wp2_with fail
        all_goals first
          | (go_roundw
             case rel => exact ⟨j + 1, by omega, congrArg _ (by omega), by go_num, hb⟩
             case measure => simp [intOf]; omega)
          | skip
      · obtain rfl : j = n := by omega
        go_wp2_with fail
        go_ret
        exact ⟨rfl, hb⟩
theorem heldRoundS_one (B n M : Nat) (v : Value) (w : World) (hn : n ≤ 10000000) (hM : 1 + 2 * n = M) (h : w.ownsRow B 143 2 v n (marksR 1 (n * 2))) :
    Calls Tryd.prog 56 #[v, .int .i64 1] w fun e w' => e = .returned (.int .i64 (M : Int)) ∧ Below w.heap.size w w' := hM ▸ heldRoundS_any B n 1 v w hn (by omega) h
end Go.Proofs.YthfhpcigjnjkdaaDoor
