/- Runs down of a lawn are as many as runs across of the turned lawn. -/
import Derived.Test.YtcgkbdbgocoilaaStripeP
import Derived.Test.YtcgkbdbgocoilaaTurnLawn
namespace Go.Proofs.Ytcgkbdbgocoilaa
open Go.RowKit
set_option linter.unusedVariables false

/-- How many numbers below n are so. -/
def cnt1 (p : Nat → Bool) : Nat → Nat
  | 0 => 0
  | n + 1 => cnt1 p n + if p n then 1 else 0
/-- How many pairs are so. -/
def cnt2 (p : Nat → Nat → Bool) (W : Nat) : Nat → Nat
  | 0 => 0
  | n + 1 => cnt2 p W n + cnt1 (p n) W
theorem cnt1_congr {p q : Nat → Bool} : ∀ n, (∀ i, i < n → p i = q i) → cnt1 p n = cnt1 q n
  | 0, _ => rfl
  | n + 1, h => by simp only [cnt1, cnt1_congr n (fun i hi => h i (by omega)), h n (by omega)]
theorem cnt2_congr {p q : Nat → Nat → Bool} {W : Nat} : ∀ n, (∀ i j, i < n → j < W → p i j = q i j) → cnt2 p W n = cnt2 q W n
  | 0, _ => rfl
  | n + 1, h => by simp only [cnt2, cnt2_congr n (fun i j hi hj => h i j (by omega) hj), cnt1_congr W (fun j hj => h n j (by omega) hj)]
theorem cnt1_front (p : Nat → Bool) : ∀ n, cnt1 p (n + 1) = (if p 0 then 1 else 0) + cnt1 (fun i => p (i + 1)) n
  | 0 => by simp [cnt1]
  | n + 1 => by
    have ih := cnt1_front p n
    simp only [cnt1] at ih ⊢
    omega
theorem cnt1_rev (p : Nat → Bool) : ∀ n, cnt1 (fun i => p (n - 1 - i)) n = cnt1 p n
  | 0 => rfl
  | n + 1 => by
    rw [cnt1_front]
    have ih := cnt1_rev p n
    have e : cnt1 (fun i => p (n + 1 - 1 - (i + 1))) n = cnt1 (fun i => p (n - 1 - i)) n := cnt1_congr n fun i hi => by
      rw [show n + 1 - 1 - (i + 1) = n - 1 - i by omega]
    rw [e, ih]
    simp only [cnt1]
    rw [show n + 1 - 1 - 0 = n by omega]
    omega
theorem cnt2_col (p : Nat → Nat → Bool) (W : Nat) : ∀ n, cnt2 p (W + 1) n = cnt2 p W n + cnt1 (fun i => p i W) n
  | 0 => rfl
  | n + 1 => by
    simp only [cnt2, cnt1, cnt2_col p W n]
    omega
theorem cnt2_swap (p : Nat → Nat → Bool) (n : Nat) : ∀ W, cnt2 p W n = cnt2 (fun i j => p j i) n W
  | 0 => by
    simp only [cnt2]
    induction n with
    | zero => rfl
    | succ n ih => simp only [cnt2, ih, cnt1]
  | W + 1 => by rw [cnt2_col, cnt2_swap p n W]; rfl
def prevB (g : Nat → Bool) : Nat → Bool
  | 0 => false
  | j + 1 => g j
/-- In a row of n there are as many beginnings as ends. -/
theorem heads_ends (g : Nat → Bool) (n : Nat) (hn : g n = false) : cnt1 (fun i => g i && !prevB g i) n = cnt1 (fun i => g i && !g (i + 1)) n := by
  have key : ∀ m, cnt1 (fun i => g i && !prevB g i) m = cnt1 (fun i => g i && !g (i + 1)) m + if prevB g m && g m then 1 else 0 := by
    intro m
    induction m with
    | zero => rfl
    | succ m ih =>
      simp only [cnt1, ih]
      have e : prevB g (m + 1) = g m := rfl
      rw [e]
      by_cases a : prevB g m = true <;> by_cases b : g m = true <;> by_cases c : g (m + 1) = true <;> simp_all
  rw [key n]
  simp [hn]

theorem cnt_flat {W : Nat} (p : Nat → Nat → Bool) : ∀ (H : Nat) (l : List (Fin H)), ((l.flatMap fun y => (List.finRange W).map fun x => ((x, y) : Fin W × Fin H)).filter fun c => p c.2 c.1).length = (l.map fun y : Fin H => ((List.finRange W).filter fun x : Fin W => p y.val x.val).length).sum
  | H, [] => rfl
  | H, a :: l => by
    rw [List.flatMap_cons, List.filter_append, List.length_append, cnt_flat p H l, List.map_cons, List.sum_cons, List.filter_map, List.length_map]
    rfl
theorem cnt_fin (p : Nat → Bool) : ∀ n, ((List.finRange n).filter fun x => p x.val).length = cnt1 p n
  | 0 => rfl
  | n + 1 => by
    rw [List.finRange_succ_last, List.filter_append, List.length_append, List.filter_map, List.length_map]
    have := cnt_fin p n
    simp only [cnt1, ← this]
    congr 1
    simp only [List.filter_cons, List.filter_nil, Fin.val_last]
    by_cases h : p n = true <;> simp [h]
theorem sum_fin (f : Nat → Nat) : ∀ n, ((List.finRange n).map fun y => f y.val).sum = (List.range n).foldl (fun s i => s + f i) 0 := by
  intro n
  induction n with
  | zero => rfl
  | succ n ih =>
    rw [List.finRange_succ_last, List.map_append, List.sum_append, List.map_map, List.range_succ, List.foldl_append, ← ih]
    simp [Function.comp_def]
theorem cnt2_fold (p : Nat → Nat → Bool) (W : Nat) : ∀ n, cnt2 p W n = (List.range n).foldl (fun s i => s + cnt1 (p i) W) 0
  | 0 => rfl
  | n + 1 => by rw [List.range_succ, List.foldl_append, ← cnt2_fold p W n]; rfl
theorem filtB_count (W H : Nat) (p : Nat → Nat → Bool) : (filtB p (allC W H)).length = cnt2 p W H := by
  unfold filtB allC
  rw [cnt_flat p H]
  have : (fun y : Fin H => ((List.finRange W).filter fun x => p y.val x.val).length) = fun y : Fin H => cnt1 (p y.val) W := funext fun y => cnt_fin (p y.val) W
  rw [this, sum_fin (fun y => cnt1 (p y) W) H, cnt2_fold]

theorem drawn_at {W H : Nat} (to : Fin W × Fin H → Nat × Nat) (hto : ∀ c d, to c = to d → c = d) (K : Nat → Nat → Int) (c : Fin W × Fin H) :
    ∀ pre : List (Fin W × Fin H), c ∈ pre → drawn to K pre (to c).1 (to c).2 = K c.2 c.1 := by
  have key : ∀ r : List (Fin W × Fin H), c ∈ r → drawn to K r.reverse (to c).1 (to c).2 = K c.2 c.1 := by
    intro r
    induction r with
    | nil => intro h; cases h
    | cons d r ih =>
      intro h
      rw [List.reverse_cons, drawn_snoc]
      unfold upd
      by_cases e : to c = to d
      · have := hto c d e
        subst this
        simp
      · have hne : ¬ ((to c).1 = (to d).1 ∧ (to c).2 = (to d).2) := fun h => e (Prod.ext h.1 h.2)
        rw [if_neg hne]
        rcases List.mem_cons.1 h with h | h
        · subst h; exact absurd rfl e
        · exact ih h
  intro pre h
  have := key pre.reverse (by simpa using h)
  simpa using this

theorem grassB_nat {L : Lawn} {W H : Nat} (hW : L.wide = W) (hH : L.high = H) (x y : Nat) : grassB L x y = (decide (x < W) && decide (y < H) && L.kind y x == 0) := by
  rw [Bool.eq_iff_iff]
  simp only [grassB, isB, inB, Bool.and_eq_true, decide_eq_true_eq, beq_iff_eq, Int.toNat_natCast]
  omega
theorem turn_runs {L : Lawn} (hv : validB L = true) (hvT : validB (turnLawnR L) = true) : (runsC (turnLawnR L) true).length = (runsC L false).length := by
  obtain ⟨W, H, ⟨hW10, hH10⟩, ⟨hW1, hH1⟩, e1, e2, hW, hH⟩ := side_nats hv
  have hR : turnLawnR L = ⟨L.high, L.wide, drawn (turnLawnTo W H) L.kind (allC W H)⟩ := by
    have : turnLawnR L = ⟨L.high, L.wide, drawn (turnLawnTo L.wide.toNat L.high.toNat) L.kind (allC L.wide.toNat L.high.toNat)⟩ := by simp [turnLawnR, hv]
    rw [this, e1, e2]
  have hinj : ∀ c d : Fin W × Fin H, turnLawnTo W H c = turnLawnTo W H d → c = d := by
    intro c d h
    simp only [turnLawnTo, Prod.mk.injEq] at h
    have := c.2.isLt; have := d.2.isLt
    exact Prod.ext (Fin.ext h.1) (Fin.ext (by omega))
  have hTg : ∀ x y : Nat, grassB (turnLawnR L) x y = (decide (x < H) && decide (y < W) && L.kind (H - 1 - x) y == 0) := by
    intro x y
    rw [grassB_nat (W := H) (H := W) (by rw [hR]; exact hH) (by rw [hR]; exact hW)]
    by_cases h : x < H ∧ y < W
    · have := drawn_at (turnLawnTo W H) hinj L.kind (⟨y, h.2⟩, ⟨H - 1 - x, by omega⟩) (allC W H) (allC_mem _ _ _)
      simp only [turnLawnTo] at this
      rw [show H - 1 - (H - 1 - x) = x by omega] at this
      rw [hR]
      simp only
      rw [this]
    · have : (decide (x < H) && decide (y < W)) = false := by
        rw [Bool.eq_false_iff]; simp; omega
      simp [this]
  have c1 : (runsC (turnLawnR L) true).length = cnt2 (headB (turnLawnR L) true) H W := by
    have : runsC (turnLawnR L) true = filtB (headB (turnLawnR L) true) (allC (turnLawnR L).wide.toNat (turnLawnR L).high.toNat) := by simp [runsC, hvT]
    rw [this, filtB_count]
    rw [show (turnLawnR L).wide.toNat = H by rw [hR]; exact e2, show (turnLawnR L).high.toNat = W by rw [hR]; exact e1]
  have c2 : (runsC L false).length = cnt2 (headB L false) W H := by
    have : runsC L false = filtB (headB L false) (allC L.wide.toNat L.high.toNat) := by simp [runsC, hv]
    rw [this, filtB_count, e1, e2]
  rw [c1, c2, cnt2_swap (headB L false) H W]
  -- column by column
  have cols : ∀ n, n ≤ W → cnt2 (headB (turnLawnR L) true) H n = cnt2 (fun i j => headB L false j i) H n := by
    intro n
    induction n with
    | zero => intro _; rfl
    | succ n ih =>
      intro hn
      simp only [cnt2]
      rw [ih (by omega)]
      congr 1
      -- g: the grass of column n of the lawn
      have hg : ∀ y : Nat, grassB L n y = (decide (y < H) && L.kind y n == 0) := fun y => by
        rw [grassB_nat hW hH]; simp [show n < W by omega]
      have h1 : cnt1 (headB (turnLawnR L) true n) H = cnt1 (fun i => (fun i : Nat => grassB L n (i : Int) && !grassB L n ((i + 1 : Nat) : Int)) (H - 1 - i)) H := cnt1_congr H fun i hi => by
        simp only [headB, stepX, stepY, if_true, hTg, hg, Int.sub_zero]
        have a1 : decide (i < H) = true := by simpa using hi
        have a2 : decide (n < W) = true := by simp; omega
        have a3 : decide (H - 1 - i < H) = true := by simp; omega
        rw [a1, a2, a3]
        match i, hi with
        | 0, hi =>
          have : grassB (turnLawnR L) ((0 : Nat) - 1 : Int) n = false := grass_out (by simp)
          rw [this]
          have : decide (H - 1 - 0 + 1 < H) = false := by simp; omega
          rw [this]
          simp
        | i + 1, hi =>
          rw [show (((i + 1 : Nat) : Int) - 1) = ((i : Nat) : Int) by omega, hTg]
          rw [show H - 1 - (i + 1) + 1 = H - 1 - i by omega]
          have b1 : decide (i < H) = true := by simp; omega
          have b2 : decide (H - 1 - i < H) = true := by simp; omega
          rw [b1, b2, a2]
          simp
      rw [h1, cnt1_rev (fun i : Nat => grassB L n (i : Int) && !grassB L n ((i + 1 : Nat) : Int)) H]
      have := heads_ends (fun i : Nat => grassB L n (i : Int)) H (by simp only [hg]; simp)
      rw [← this]
      refine cnt1_congr H fun i hi => ?_
      simp only [headB, stepX, stepY, Bool.false_eq_true, if_false, Int.sub_zero]
      match i with
      | 0 => rw [show (((0 : Nat) : Int) - 1) = -1 by omega, grass_out (L := L) (x := (n : Int)) (y := -1) (by omega)]; rfl
      | i + 1 => rw [show (((i + 1 : Nat) : Int) - 1) = ((i : Nat) : Int) by omega]; rfl
  exact cols W (Nat.le_refl _)
end Go.Proofs.Ytcgkbdbgocoilaa
