/- MayBeFrom, of the program and of the model. -/
import Derived.Test.YtemjppchnhemjaaDoorBestRow
namespace Go.Proofs.YtemjppchnhemjaaDoor
open Go.RowKit
set_option linter.unusedVariables false
set_option linter.unusedSimpArgs false
attribute [local go_sem ↓] loadRow loadGrid loadLawn loadMirror storeRow storeGrid storeLawn allocRow allocGrid allocLawn buildZero buildSides loadWd storeWd allocWd buildZWd eqlWd

/-- In how many of the first rows two weeds differ. -/
def diffN (t d : Nat → Nat → Bool) : Nat → Nat
  | 0 => 0
  | k + 1 => diffN t d k + (if rowN (t k) == rowN (d k) then 0 else 1)
theorem diffN_le (t d : Nat → Nat → Bool) : ∀ k, diffN t d k ≤ k
  | 0 => Nat.le_refl _
  | k + 1 => by have := diffN_le t d k; simp only [diffN]; split <;> omega
theorem diffN_hit {t d : Nat → Nat → Bool} {k : Nat} (h : rowN (t k) ≠ rowN (d k)) : diffN t d (k + 1) = diffN t d k + 1 := by simp [diffN, h]
theorem diffN_miss {t d : Nat → Nat → Bool} {k : Nat} (h : rowN (t k) = rowN (d k)) : diffN t d (k + 1) = diffN t d k := by simp [diffN, h]
theorem diffN_one {t d : Nat → Nat → Bool} {r : Nat} : ∀ {k : Nat}, (∀ y, y < k → y ≠ r → rowN (t y) = rowN (d y)) → diffN t d k ≤ if r < k then 1 else 0
  | 0, _ => by simp [diffN]
  | k + 1, h => by
    have ih := diffN_one (r := r) (k := k) fun y hy hr => h y (by omega) hr
    by_cases e : k = r
    · subst e
      rw [if_neg (by omega)] at ih
      rw [if_pos (by omega)]
      simp only [diffN]
      split <;> omega
    · rw [diffN_miss (h k (by omega) e)]
      split at ih <;> split <;> omega
theorem diffN_none {t d : Nat → Nat → Bool} : ∀ {k : Nat}, diffN t d k = 0 → ∀ y, y < k → rowN (t y) = rowN (d y)
  | k + 1, h, y, hy => by
    simp only [diffN] at h
    by_cases e : rowN (t k) = rowN (d k)
    · rcases Nat.lt_or_ge y k with hl | hl
      · exact diffN_none (k := k) (by omega) y hl
      · obtain rfl : y = k := by omega
        exact e
    · simp [e] at h
theorem diffN_few {t d : Nat → Nat → Bool} : ∀ {k : Nat}, diffN t d k ≤ 1 → ∃ r, ∀ y, y < k → y ≠ r → rowN (t y) = rowN (d y)
  | 0, _ => ⟨0, fun y hy => by omega⟩
  | k + 1, h => by
    by_cases e : rowN (t k) = rowN (d k)
    · rw [diffN_miss e] at h
      obtain ⟨r, hr⟩ := diffN_few h
      refine ⟨r, fun y hy hn => ?_⟩
      rcases Nat.lt_or_ge y k with hl | hl
      · exact hr y hl hn
      · obtain rfl : y = k := by omega
        exact e
    · rw [diffN_hit e] at h
      refine ⟨k, fun y hy hn => diffN_none (k := k) (by omega) y (by omega)⟩
def mayD (t d : Nat → Nat → Bool) : Bool := bEq 10 t (fun y x => t y x && d y x) && decide (diffN t d 10 ≤ 1)
theorem row_sub {a b : Nat → Bool} : rowN (fun x => a x && !b x) = 0 ↔ ∀ x, x < 16 → a x = true → b x = true := by
  rw [← rowN_zero]
  constructor
  · intro h x hx ha
    have := rowN_inj h x hx
    simp only [ha, Bool.true_and, Bool.not_eq_false'] at this
    exact this
  · intro h
    refine rowN_ext fun x hx => ?_
    cases ha : a x with
    | false => rfl
    | true => rw [h x hx ha]; rfl
theorem may_no {t d : Nat → Nat → Bool} {k : Nat} (hk : k < 10) (h : rowN (fun x => t k x && !d k x) ≠ 0) : mayD t d = false := by
  unfold mayD
  cases hb : bEq 10 t (fun y x => t y x && d y x) with
  | false => rfl
  | true =>
    refine absurd (row_sub.2 fun x hx ha => ?_) h
    have := bEq_true hb k x hk hx
    rw [ha] at this
    simpa using this.symm
theorem may_sub {t d : Nat → Nat → Bool} (h : ∀ k, k < 10 → rowN (fun x => t k x && !d k x) = 0) : mayD t d = decide (diffN t d 10 ≤ 1) := by
  unfold mayD
  rw [bEq_of fun y x hy hx => ?_, Bool.true_and]
  cases ha : t y x with
  | false => rfl
  | true => rw [row_sub.1 (h y hy) x hx ha]; rfl
/-- Weeds without a row. -/
def offS (L : Lawn) (r : Nat) (t : Nat → Nat → Bool) : Nat → Nat → Bool := fun y x => t y x && !takeS L r true y x
theorem off_row {L : Lawn} {t : Nat → Nat → Bool} (hw : weedB L t = true) (r x : Nat) (hr : r < 10) (hx : x < 16) : offS L r t r x = false := by
  obtain ⟨hv, hs⟩ := weedB_true hw
  unfold offS takeS takeTo
  cases h : t r x with
  | false => rfl
  | true =>
    have := isB_in (kindS_in (hs r x hr hx h))
    have hi := kindS_in (hs r x hr hx h)
    simp only [isB, inB, Bool.and_eq_true, decide_eq_true_eq] at hi
    simp [show x < L.wide.toNat by omega]
theorem off_other {L : Lawn} (t : Nat → Nat → Bool) {r y : Nat} (h : y ≠ r) (x : Nat) : offS L r t y x = t y x := by simp [offS, takeS, takeTo, h]
theorem may_hit {L : Lawn} {t d : Nat → Nat → Bool} (hb : bEq 10 t (fun y x => t y x && d y x) = true) {r : Nat} (hr : r < 10) (h : bEq 10 (offS L r t) (offS L r d) = true) : mayD t d = true := by
  have h1 := diffN_one (t := t) (d := d) (r := r) (k := 10) fun y hy hn => rowN_ext fun x hx => by
    have := bEq_true h y x hy hx
    rwa [off_other t hn, off_other d hn] at this
  rw [if_pos hr] at h1
  simp [mayD, hb, h1]
theorem may_miss {L : Lawn} {t d : Nat → Nat → Bool} (ht : weedB L t = true) (hd : weedB L d = true) {H : Nat} (hH : L.high = H) (h : ∀ r, r < H → bEq 10 (offS L r t) (offS L r d) = false) : mayD t d = false := by
  cases hm : mayD t d with
  | false => rfl
  | true =>
    simp only [mayD, Bool.and_eq_true, decide_eq_true_eq] at hm
    obtain ⟨r, hr⟩ := diffN_few hm.2
    obtain ⟨hv, hs⟩ := weedB_true ht
    obtain ⟨-, hs2⟩ := weedB_true hd
    obtain ⟨hv1, hv2, -⟩ := validB_true hv
    have low : ∀ y x, y < 10 → x < 16 → H ≤ y → t y x = false ∧ d y x = false := by
      intro y x hy hx hl
      have K : ∀ v : Nat → Nat → Bool, (v y x = true → soilS L y x = true) → v y x = false := fun v hv => by
        cases h : v y x with
        | false => rfl
        | true =>
          have hi := kindS_in (hv h)
          simp only [isB, inB, Bool.and_eq_true, decide_eq_true_eq] at hi
          omega
      exact ⟨K t (hs y x hy hx), K d (hs2 y x hy hx)⟩
    obtain ⟨q, hq, hqq⟩ : ∃ q, q < H ∧ ∀ y, y < 10 → y ≠ q → rowN (t y) = rowN (d y) := by
      rcases Nat.lt_or_ge r H with hl | hl
      · exact ⟨r, hl, hr⟩
      · refine ⟨0, by omega, fun y hy hn => ?_⟩
        by_cases e : y = r
        · subst e
          exact rowN_ext fun x hx => by rw [(low y x hy hx hl).1, (low y x hy hx hl).2]
        · exact hr y hy e
    have hq10 : q < 10 := by omega
    have := bEq_of (n := 10) (s := offS L q t) (t := offS L q d) fun y x hy hx => by
      by_cases e : y = q
      · subst e
        rw [off_row ht y x hy hx, off_row hd y x hy hx]
      · rw [off_other t e, off_other d e]
        exact rowN_inj (hqq y hy e) x hx
    rw [h q hq] at this
    cases this
def mayC (L : Lawn) (s t : Nat → Nat → Bool) (need : Int) : Int := told (weedB L s && weedB L t) (inB need 1 4)
def mayR (L : Lawn) (s t : Nat → Nat → Bool) (need : Int) : Bool := if weedB L s && weedB L t && inB need 1 4 then mayD t (dayS (soilS L) need.toNat s) else false

section
variable (ρ : Operand → Value) (dst : Option Tmp) (x y : Operand) (t : TypeId) (pos : String) (aft : Array Edge) (g : Option (Nat × Bool)) (w : World)
/-- '!=' of two weeds. -/
def opNeq (P : Program) (ty : TypeId) (x y : Operand) (u v : Value) (w : World) : Result Next := Sem.run P (do let r ← (do eqGuard .neq ty x y u v; binOp .neq ty u v); pure (Next.value r)) w
theorem neqWd : (execOp ρ ⟨dst, .binOp .neq 33 x y 33, t, pos, aft, g⟩).run Tryd.prog w = opNeq Tryd.prog 33 x y (ρ x) (ρ y) w := rfl
theorem neqWd' (q : Option Nat) : (Oper.semAt q ρ ⟨dst, .binOp .neq 33 x y 33, t, pos, aft, g⟩).run Tryd.prog w = opNeq Tryd.prog 33 x y (ρ x) (ρ y) w := by
  have h : Oper.semAt q ρ ⟨dst, .binOp .neq 33 x y 33, t, pos, aft, g⟩ = execOp ρ ⟨dst, .binOp .neq 33 x y 33, t, pos, aft, g⟩ := by cases q <;> rfl
  rw [h, neqWd]
end
@[go_sem] theorem neqWd_at (x y : Operand) (s u : Nat → Nat → Bool) (w : World) : opNeq Tryd.prog 33 x y (.agg (bV 10 s)) (.agg (bV 10 u)) w = .ok (.value (.bool (!bEq 10 s u))) w := by
  have he := equal_bV (P := Tryd.prog) w 9998 Tryd.underlying33 Tryd.underlying27 cellsU16 s u
  simp only [opNeq, Sem.run_bind, run_eqGuard_agg (P := Tryd.prog) w .neq _ x y _ _ guardWd, Result.andThen_ok, run_neq_struct (P := Tryd.prog) w]
  rw [show (10000 : Nat) = 9998 + 2 from rfl, he]
  rfl
attribute [local go_sem ↓] neqWd neqWd'
theorem mayC_bad {L : Lawn} {s t : Nat → Nat → Bool} {need : Int} (h : mayC L s t need ≠ 0) : mayR L s t need = false := by
  unfold mayC told at h
  unfold mayR
  cases hv : weedB L s <;> cases ht : weedB L t <;> cases hf : inB need 1 4 <;> simp_all
end Go.Proofs.YtemjppchnhemjaaDoor
