/- The comparison of two rows of WeatherS: equal ones are found equal. -/
import Derived.Test.YtpjninnammddlaaZC
import Derived.Test.YtpjninnammddlaaZB
namespace Go.Proofs.Ytpjninnammddlaa
open Go.RowKit
set_option linter.unusedVariables false


set_option maxRecDepth 100000 in
theorem eqWeather_same (x y : Int) (w : World) :
    Calls Try.prog 26 #[.agg #[.int .i8 x, .int .i8 y], .agg #[.int .i8 x, .int .i8 y]] w fun e w' => e = .returned (.bool true) ∧ Below w.heap.size w w' := by
  go_enter Try.func26, Try.ntmps26
  go_wp2
  all_goals
    go_ret
    exact ⟨rfl, ((Below.refl _ _).alloc (Nat.le_refl _) _).alloc (by simp) _⟩

set_option maxRecDepth 100000 in
set_option maxHeartbeats 1000000 in
theorem eqWeatherS_rows (n : Nat) (xs : List Value) (hn : n ≤ 10000000) (hx : ∀ j, j < n * 2 → ∃ z, xs[j]? = some (.int .i8 z)) (v v' : Value) (B B' : Nat) (w : World) (h : w.ownsRow B 46 2 v n xs) (h' : w.ownsRow B' 46 2 v' n xs) :
    Calls Try.prog 11 #[v, v'] w fun e w' => e = .returned (.bool true) ∧ ∃ q, Below w.heap.size w w' ∧ q = 0 := by
  by_cases hz : n = 0
  · obtain ⟨a, c, rfl⟩ := own_slice h
    obtain ⟨a', c', rfl⟩ := own_slice h'
    subst hz
    clear h h' hx
    go_enter Try.func11, Try.ntmps11
    go_wp2_with fail
    go_loopw [5] (fun i wr => i = .int .i64 0 ∧ wr = w) (fun _ _ => 0)
    case atStart => exact ⟨rfl, rfl⟩
    case round =>
      obtain ⟨rfl, rfl⟩ := hrel
      go_wp2_with fail
      go_ret
      exact ⟨rfl, 0, Below.refl _ _, rfl⟩
  · obtain ⟨g, cap, rfl, -, -⟩ := own_form h (by omega)
    obtain ⟨g', cap', rfl, -, -⟩ := own_form h' (by omega)
    have H := Lib.hid h
    have H' := Lib.hid h'
    clear h h'
    go_enter Try.func11, Try.ntmps11
    go_wp2_with fail
    go_loopw [5] (fun i wr => ∃ k : Nat, k ≤ n ∧ i = .int .i64 k ∧ Below w.heap.size w wr) (fun i _ => n - (intOf i).toNat)
    case atStart => exact ⟨0, by omega, rfl, Below.refl _ _⟩
    case round =>
      obtain ⟨k, hk, rfl, hb⟩ := hrel
      by_cases hlt : k < n
      · have hd : decide ((k : Int) < (n : Int)) = true := by simp; omega
        obtain ⟨z0, hz0⟩ := hx (k * 2) (by omega)
        obtain ⟨z1, hz1⟩ := hx (k * 2 + 1) (by omega)
        have c0 := fun w' hw' => own_cell (own_below (own_below H.out hb) (W' := w') hw') _ _ hz0
        have d0 := fun w' hw' => own_cell (own_below (own_below H'.out hb) (W' := w') hw') _ _ hz0
        have c1 := fun w' hw' => own_cell (own_below (own_below H.out hb) (W' := w') hw') _ _ hz1
        have d1 := fun w' hw' => own_cell (own_below (own_below H'.out hb) (W' := w') hw') _ _ hz1
        clear hz0 hz1 hx
        go_wp2_with fail
        refine wp_region_grow 9 (by kernel_rfl) (by kernel_rfl) ?_
        simp only [List.take_succ_cons, List.take_zero, List.drop_succ_cons, List.drop_zero]
        iterate 9
          apply wpGrow_plain rfl
          · intro w' hw' K hK
            have e0 := c0 _ hw'
            have g0 := d0 _ hw'
            have e1 := c1 _ hw'
            have g1 := d1 _ hw'
            go_wp2_with (go_at_call 26; refine (eqWeather_same _ _ _).mono ?_; rintro e w2 ⟨rfl, hb2⟩)
            first | exact hK _ _ rfl hw' | exact hK _ _ rfl (below_onto hw' hb2)
          simp only [Act.put, List.setIfInBounds_toArray, List.set_cons_succ, List.set_cons_zero]
        refine wpGrow_nil ?_
        intro W2 hW2
        have hb2 := below_onto hb hW2
        clear c0 d0 c1 d1 hW2 hb
        go_wp2_with fail
        go_roundw
        case rel => exact ⟨k + 1, by omega, by go_num, hb2⟩
        case measure => simp [intOf]; omega
      · have hd : decide ((k : Int) < (n : Int)) = false := by simp; omega
        go_wp2_with fail
        go_ret
        exact ⟨rfl, 0, hb, rfl⟩
theorem eqWeatherS_same (n : Nat) (xs : List Value) (hn : n ≤ 10000000) (hx : ∀ j, j < n * 2 → ∃ z, xs[j]? = some (.int .i8 z)) (v v' : Value) (B B' : Nat) (w : World) (h : w.ownsRow B 46 2 v n xs) (h' : w.ownsRow B' 46 2 v' n xs) :
    Calls Try.prog 11 #[v, v'] w fun e w' => e = .returned (.bool true) ∧ Below w.heap.size w w' :=
  (eqWeatherS_rows n xs hn hx v v' B B' w h h').mono fun _ _ ⟨h1, _, h2, _⟩ => ⟨h1, h2⟩
end Go.Proofs.Ytpjninnammddlaa
