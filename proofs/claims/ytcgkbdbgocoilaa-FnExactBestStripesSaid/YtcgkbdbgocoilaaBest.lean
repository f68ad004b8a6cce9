/- BestStripes: the turned lawn is valid; the model. -/
import Derived.Test.YtcgkbdbgocoilaaBestP
import Derived.Test.YtcgkbdbgocoilaaKeys
import Derived.Laws.Small
import Derived.OwnWalk
namespace Go.Proofs.Ytcgkbdbgocoilaa
open Go.RowKit
set_option linter.unusedVariables false
attribute [local go_sem ↓] loadRow loadGrid loadLawn loadMirror storeRow storeGrid storeLawn allocRow allocGrid allocLawn buildZero buildSides

theorem fits_of_valid {L : Lawn} (h : validB L = true) : L.Fits := by
  obtain ⟨⟨a, b⟩, ⟨c, d⟩, k⟩ := validB_true h
  refine ⟨by omega, by omega, by omega, by omega, fun y x hy hx => ?_, fun y x hy hx => ?_⟩
  all_goals
    have := k y x hy hx
    simp only [okAt, Bool.and_eq_true] at this
    have := inB_true this.1
    omega
theorem drawn_from {W H : Nat} (to : Fin W × Fin H → Nat × Nat) (K : Nat → Nat → Int) (y x : Nat) : ∀ r : List (Fin W × Fin H), drawn to K r.reverse y x = 0 ∨ ∃ c, to c = (y, x) ∧ drawn to K r.reverse y x = K c.2 c.1
  | [] => .inl rfl
  | d :: r => by
    rw [List.reverse_cons, drawn_snoc]
    unfold upd
    split
    · rename_i h
      exact .inr ⟨d, Prod.ext h.1.symm h.2.symm, rfl⟩
    · exact drawn_from to K y x r
theorem turn_valid {L : Lawn} (hv : validB L = true) : validB (turnLawnR L) = true := by
  obtain ⟨W, H, ⟨hW10, hH10⟩, ⟨hW1, hH1⟩, e1, e2, hW, hH⟩ := side_nats hv
  have hR : turnLawnR L = ⟨L.high, L.wide, drawn (turnLawnTo W H) L.kind (allC W H)⟩ := by
    have : turnLawnR L = ⟨L.high, L.wide, drawn (turnLawnTo L.wide.toNat L.high.toNat) L.kind (allC L.wide.toNat L.high.toNat)⟩ := by simp [turnLawnR, hv]
    rw [this, e1, e2]
  obtain ⟨-, -, k⟩ := validB_true hv
  rw [hR]
  refine validB_of (by simp [inB]; omega) (by simp [inB]; omega) fun y x hy hx _ => ?_
  have h := drawn_from (turnLawnTo W H) L.kind y x (allC W H).reverse
  rw [List.reverse_reverse] at h
  unfold okAt
  simp only
  rcases h with h | ⟨c, hc, h⟩
  · rw [h]; rfl
  · have q1 := c.1.isLt
    have q2 := c.2.isLt
    have := k c.2 c.1 (by omega) (by omega)
    simp only [okAt, Bool.and_eq_true] at this
    rw [h, this.1]
    simp only [turnLawnTo, Prod.mk.injEq] at hc
    have hb : isB ⟨L.high, L.wide, drawn (turnLawnTo W H) L.kind (allC W H)⟩ x y = true := by
      simp only [isB, inB, Bool.and_eq_true, decide_eq_true_eq]
      omega
    rw [hb]
    simp
theorem grass_eq {L T : Lawn} (h : lawnEq L T = true) (hv : validB L = true) (x y : Int) : grassB L x y = grassB T x y := by
  simp only [lawnEq, Bool.and_eq_true, beq_iff_eq] at h
  obtain ⟨h1, h2, h3⟩ := h
  obtain ⟨a, b, -⟩ := validB_true hv
  have hi : isB L x y = isB T x y := by simp [isB, h1, h2]
  unfold grassB
  rw [← hi]
  cases hb : isB L x y
  · rfl
  · have := isB_in hb
    rw [gridEq_true h3 y.toNat x.toNat (by omega) (by omega)]
theorem runs_eq {L T : Lawn} (h : lawnEq L T = true) (hv : validB L = true) (hT : validB T = true) (across : Bool) : (runsC T across).length = (runsC L across).length := by
  have c1 : (runsC T across).length = cnt2 (headB T across) T.wide.toNat T.high.toNat := by
    have : runsC T across = filtB (headB T across) (allC T.wide.toNat T.high.toNat) := by simp [runsC, hT]
    rw [this, filtB_count]
  have c2 : (runsC L across).length = cnt2 (headB L across) L.wide.toNat L.high.toNat := by
    have : runsC L across = filtB (headB L across) (allC L.wide.toNat L.high.toNat) := by simp [runsC, hv]
    rw [this, filtB_count]
  have hh : headB T across = headB L across := by
    funext a b
    simp only [headB, grass_eq h hv]
  simp only [lawnEq, Bool.and_eq_true, beq_iff_eq] at h
  rw [c1, c2, hh, h.1, h.2.1]

/-- What BestStripes answers. -/
def bestB (L : Lawn) : Bool := validB L && decide (((runsC L true).length : Int) ≤ (runsC L false).length)
def bestN (L : Lawn) : Int := if validB L then (if ((runsC L false).length : Int) < (runsC L true).length then ((runsC L false).length : Int) else (runsC L true).length) else 0

set_option maxHeartbeats 400000 in
theorem min_any (a b : Int) (w : World) :
    Calls Try.prog 85 #[.int .i64 a, .int .i64 b] w fun e w' => e = .returned (.int .i64 (if b < a then b else a)) ∧ w = w' := by
  go_enter Try.func85, Try.ntmps85
  by_cases h : a < b
  · have hd : decide (a < b) = true := by simpa using h
    rw [if_neg (by omega)]
    go_wp2_with fail
    all_goals
      go_ret
      exact ⟨rfl, rfl⟩
  · have hd : decide (a < b) = false := by simpa using h
    have hv : (if b < a then b else a) = b := by split <;> omega
    rw [hv]
    go_wp2_with fail
    all_goals
      go_ret
      exact ⟨rfl, rfl⟩
theorem min_is (a b c : Int) (h : (if b < a then b else a) = c) (w : World) :
    Calls Try.prog 85 #[.int .i64 a, .int .i64 b] w fun e w' => e = .returned (.int .i64 c) ∧ w = w' := h ▸ min_any a b w

set_option maxRecDepth 100000 in
set_option maxHeartbeats 1000000 in
theorem specBest_any (L : Lawn) (hL : L.Fits) (w : World) :
    Calls Try.prog 43 #[.agg L.cells] w fun e w' => e = .returned (.tuple #[.bool (bestB L), .int .i64 (bestN L), .int .i64 (validC L)]) ∧ Below w.heap.size w w' := by
  obtain ⟨n, hn⟩ : ∃ n, (runsC L true).length = n := ⟨_, rfl⟩
  obtain ⟨m, hm⟩ : ∃ m, (runsC L false).length = m := ⟨_, rfl⟩
  have hn1 : n ≤ 100 := by have := runsC_le L true; omega
  have hm1 : m ≤ 100 := by have := runsC_le L false; omega
  obtain ⟨vl, hvl⟩ : ∃ v, validB L = v := ⟨_, rfl⟩
  obtain ⟨q, hq⟩ : ∃ q : Int, (if (m : Int) < n then (m : Int) else n) = q := ⟨_, rfl⟩
  have e1 : bestB L = (vl && decide ((n : Int) ≤ m)) := by simp only [bestB, hvl, hn, hm]
  have e2 : bestN L = if vl then q else 0 := by simp only [bestN, hvl, hn, hm, hq]
  have e3 : validC L = if vl then 0 else 1 := by simp [validC, hvl]
  have HVL := Lib.hid hvl
  have HN := Lib.hid hn
  have HM := Lib.hid hm
  have HQ := Lib.hid hq
  have HL := Lib.hid hL
  rw [e1, e2, e3]
  have g0 := Holds.new w L.cells 30
  have hb0 := (Below.refl w.heap.size w).alloc (Nat.le_refl _) (.cells L.cells 30)
  clear e1 e2 e3 hn hm hvl hL hq
  go_enter Try.func43, Try.ntmps43
  go_wp2_with fail
  refine (l01Ok_any L HL.out _ _ g0).mono ?_
  rw [HVL.out]
  rintro e w1 ⟨rfl, hb1⟩
  have j0 := g0.below hb1 g0.lt
  have jB := below_onto hb0 hb1
  clear g0 hb0 hb1
  cases vl
  case false =>
    go_wp2_with fail
    go_ret3
    exact ⟨rfl, jB⟩
  case true =>
    obtain ⟨h1, h2, -⟩ := validB_true HVL.out
    have HC := Lib.hid (fun (across : Bool) (b : Nat) (w : World) (h : Holds w b L.cells) => l01Runs_any L.wide.toNat L.high.toNat (by omega) (by omega) (by omega) (by omega) L HL.out (by omega) (by omega) HVL.out across b w h)
    clear h1 h2
    go_wp2_with fail
    refine (HC.out true _ _ j0).mono ?_
    rintro e w2 ⟨v, rfl, ho, hb1⟩
    have hr1 : runsC L true = filtB (headB L true) (allC L.wide.toNat L.high.toNat) := by simp [runsC, HVL.out]
    rw [← hr1, HN.out] at ho
    obtain ⟨av, cv, rfl⟩ := own_slice ho
    have i0 := j0.below hb1 j0.lt
    have iB := below_onto jB hb1
    clear j0 jB ho hr1 hb1
    go_wp2_with fail
    refine (HC.out false _ _ i0).mono ?_
    rintro e w3 ⟨v, rfl, ho, hb1⟩
    have hr1 : runsC L false = filtB (headB L false) (allC L.wide.toNat L.high.toNat) := by simp [runsC, HVL.out]
    rw [← hr1, HM.out] at ho
    obtain ⟨av, cv, rfl⟩ := own_slice ho
    have iB := below_onto iB hb1
    clear i0 ho hr1 hb1 HC
    go_wp2_with fail
    refine (min_is _ _ q HQ.out _).mono ?_
    rintro e w4 ⟨rfl, rfl⟩
    go_wp2_with fail
    go_ret3
    exact ⟨by simp, iB⟩
end Go.Proofs.Ytcgkbdbgocoilaa
