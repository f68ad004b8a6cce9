/- MayBeFrom, of the program and of the model. -/
import Derived.Test.YtoengjabakcpjaaDoorBestRow
namespace Go.Proofs.YtoengjabakcpjaaDoor
open Go.RowKit
set_option linter.unusedVariables false
set_option linter.unusedSimpArgs false
attribute [local go_sem ↓] loadRow loadGrid loadLawn loadMirror storeRow storeGrid storeLawn allocRow allocGrid allocLawn buildZero buildSides loadWd storeWd allocWd buildZWd eqlWd

/-- In how many of the first rows two weeds differ. -/
def diffN (t d : Nat → Nat → Bool) : Nat → Nat
  | 0 => 0
  | k + 1 => diffN t d k + (if rowN (t k) == rowN (d k) then 0 else 1)
theorem diffN_le (t d : Nat → Nat → Bool) : ∀ k, diffN t d k ≤ k
  | 0 => Nat.le_refl _
  | k + 1 => by have := diffN_le t d k; simp only [diffN]; split <;> omega
theorem diffN_hit {t d : Nat → Nat → Bool} {k : Nat} (h : rowN (t k) ≠ rowN (d k)) : diffN t d (k + 1) = diffN t d k + 1 := by simp [diffN, h]
theorem diffN_miss {t d : Nat → Nat → Bool} {k : Nat} (h : rowN (t k) = rowN (d k)) : diffN t d (k + 1) = diffN t d k := by simp [diffN, h]
theorem diffN_one {t d : Nat → Nat → Bool} {r : Nat} : ∀ {k : Nat}, (∀ y, y < k → y ≠ r → rowN (t y) = rowN (d y)) → diffN t d k ≤ if r < k then 1 else 0
  | 0, _ => by simp [diffN]
  | k + 1, h => by
    have ih := diffN_one (r := r) (k := k) fun y hy hr => h y (by omega) hr
    by_cases e : k = r
    · subst e
      rw [if_neg (by omega)] at ih
      rw [if_pos (by omega)]
      simp only [diffN]
      split <;> omega
    · rw [diffN_miss (h k (by omega) e)]
      split at ih <;> split <;> omega
theorem diffN_none {t d : Nat → Nat → Bool} : ∀ {k : Nat}, diffN t d k = 0 → ∀ y, y < k → rowN (t y) = rowN (d y)
  | k + 1, h, y, hy => by
    simp only [diffN] at h
    by_cases e : rowN (t k) = rowN (d k)
    · rcases Nat.lt_or_ge y k with hl | hl
      · exact diffN_none (k := k) (by omega) y hl
      · obtain rfl : y = k := by omega
        exact e
    · simp [e] at h
theorem diffN_few {t d : Nat → Nat → Bool} : ∀ {k : Nat}, diffN t d k ≤ 1 → ∃ r, ∀ y, y < k → y ≠ r → rowN (t y) = rowN (d y)
  | 0, _ => ⟨0, fun y hy => by omega⟩
  | k + 1, h => by
    by_cases e : rowN (t k) = rowN (d k)
    · rw [diffN_miss e] at h
      obtain ⟨r, hr⟩ := diffN_few h
      refine ⟨r, fun y hy hn => ?_⟩
      rcases Nat.lt_or_ge y k with hl | hl
      · exact hr y hl hn
      · obtain rfl : y = k := by omega
        exact e
    · rw [diffN_hit e] at h
      refine ⟨k, fun y hy hn => diffN_none (k := k) (by omega) y (by omega)⟩
def mayD (t d : Nat → Nat → Bool) : Bool := bEq 10 t (fun y x => t y x && d y x) && decide (diffN t d 10 ≤ 1)
theorem row_sub {a b : Nat → Bool} : rowN (fun x => a x && !b x) = 0 ↔ ∀ x, x < 16 → a x = true → b x = true := by
  rw [← rowN_zero]
  constructor
  · intro h x hx ha
    have := rowN_inj h x hx
    simp only [ha, Bool.true_and, Bool.not_eq_false'] at this
    exact this
  · intro h
    refine rowN_ext fun x hx => ?_
    cases ha : a x with
    | false => rfl
    | true => rw [h x hx ha]; rfl
theorem may_no {t d : Nat → Nat → Bool} {k : Nat} (hk : k < 10) (h : rowN (fun x => t k x && !d k x) ≠ 0) : mayD t d = false := by
  unfold mayD
  cases hb : bEq 10 t (fun y x => t y x && d y x) with
  | false => rfl
  | true =>
    refine absurd (row_sub.2 fun x hx ha => ?_) h
    have := bEq_true hb k x hk hx
    rw [ha] at this
    simpa using this.symm
theorem may_sub {t d : Nat → Nat → Bool} (h : ∀ k, k < 10 → rowN (fun x => t k x && !d k x) = 0) : mayD t d = decide (diffN t d 10 ≤ 1) := by
  unfold mayD
  rw [bEq_of fun y x hy hx => ?_, Bool.true_and]
  cases ha : t y x with
  | false => rfl
  | true => rw [row_sub.1 (h y hy) x hx ha]; rfl
/-- Weeds without a row. -/
def offS (L : Lawn) (r : Nat) (t : Nat → Nat → Bool) : Nat → Nat → Bool := fun y x => t y x && !takeS L r true y x
theorem off_row {L : Lawn} {t : Nat → Nat → Bool} (hw : weedB L t = true) (r x : Nat) (hr : r < 10) (hx : x < 16) : offS L r t r x = false := by
  obtain ⟨hv, hs⟩ := weedB_true hw
  unfold offS takeS takeTo
  cases h : t r x with
  | false => rfl
  | true =>
    have := isB_in (kindS_in (hs r x hr hx h))
    have hi := kindS_in (hs r x hr hx h)
    simp only [isB, inB, Bool.and_eq_true, decide_eq_true_eq] at hi
    simp [show x < L.wide.toNat by omega]
theorem off_other {L : Lawn} (t : Nat → Nat → Bool) {r y : Nat} (h : y ≠ r) (x : Nat) : offS L r t y x = t y x := by simp [offS, takeS, takeTo, h]
theorem may_hit {L : Lawn} {t d : Nat → Nat → Bool} (hb : bEq 10 t (fun y x => t y x && d y x) = true) {r : Nat} (hr : r < 10) (h : bEq 10 (offS L r t) (offS L r d) = true) : mayD t d = true := by
  have h1 := diffN_one (t := t) (d := d) (r := r) (k := 10) fun y hy hn => rowN_ext fun x hx => by
    have := bEq_true h y x hy hx
    rwa [off_other t hn, off_other d hn] at this
  rw [if_pos hr] at h1
  simp [mayD, hb, h1]
theorem may_miss {L : Lawn} {t d : Nat → Nat → Bool} (ht : weedB L t = true) (hd : weedB L d = true) {H : Nat} (hH : L.high = H) (h : ∀ r, r < H → bEq 10 (offS L r t) (offS L r d) = false) : mayD t d = false := by
  cases hm : mayD t d with
  | false => rfl
  | true =>
    simp only [mayD, Bool.and_eq_true, decide_eq_true_eq] at hm
    obtain ⟨r, hr⟩ := diffN_few hm.2
    obtain ⟨hv, hs⟩ := weedB_true ht
    obtain ⟨-, hs2⟩ := weedB_true hd
    obtain ⟨hv1, hv2, -⟩ := validB_true hv
    have low : ∀ y x, y < 10 → x < 16 → H ≤ y → t y x = false ∧ d y x = false := by
      intro y x hy hx hl
      have K : ∀ v : Nat → Nat → Bool, (v y x = true → soilS L y x = true) → v y x = false := fun v hv => by
        cases h : v y x with
        | false => rfl
        | true =>
          have hi := kindS_in (hv h)
          simp only [isB, inB, Bool.and_eq_true, decide_eq_true_eq] at hi
          omega
      exact ⟨K t (hs y x hy hx), K d (hs2 y x hy hx)⟩
    obtain ⟨q, hq, hqq⟩ : ∃ q, q < H ∧ ∀ y, y < 10 → y ≠ q → rowN (t y) = rowN (d y) := by
      rcases Nat.lt_or_ge r H with hl | hl
      · exact ⟨r, hl, hr⟩
      · refine ⟨0, by omega, fun y hy hn => ?_⟩
        by_cases e : y = r
        · subst e
          exact rowN_ext fun x hx => by rw [(low y x hy hx hl).1, (low y x hy hx hl).2]
        · exact hr y hy e
    have hq10 : q < 10 := by omega
    have := bEq_of (n := 10) (s := offS L q t) (t := offS L q d) fun y x hy hx => by
      by_cases e : y = q
      · subst e
        rw [off_row ht y x hy hx, off_row hd y x hy hx]
      · rw [off_other t e, off_other d e]
        exact rowN_inj (hqq y hy e) x hx
    rw [h q hq] at this
    cases this
def mayC (L : Lawn) (s t : Nat → Nat → Bool) (need : Int) : Int := told (weedB L s && weedB L t) (inB need 1 4)
def mayR (L : Lawn) (s t : Nat → Nat → Bool) (need : Int) : Bool := if weedB L s && weedB L t && inB need 1 4 then mayD t (dayS (soilS L) need.toNat s) else false

section
variable (ρ : Operand → Value) (dst : Option Tmp) (x y : Operand) (t : TypeId) (pos : String) (aft : Array Edge) (g : Option (Nat × Bool)) (w : World)
/-- '!=' of two weeds. -/
def opNeq (P : Program) (ty : TypeId) (x y : Operand) (u v : Value) (w : World) : Result Next := Sem.run P (do let r ← (do eqGuard .neq ty x y u v; binOp .neq ty u v); pure (Next.value r)) w
theorem neqWd : (execOp ρ ⟨dst, .binOp .neq 33 x y 33, t, pos, aft, g⟩).run Tryd.prog w = opNeq Tryd.prog 33 x y (ρ x) (ρ y) w := rfl
theorem neqWd' (q : Option Nat) : (Oper.semAt q ρ ⟨dst, .binOp .neq 33 x y 33, t, pos, aft, g⟩).run Tryd.prog w = opNeq Tryd.prog 33 x y (ρ x) (ρ y) w := by
  have h : Oper.semAt q ρ ⟨dst, .binOp .neq 33 x y 33, t, pos, aft, g⟩ = execOp ρ ⟨dst, .binOp .neq 33 x y 33, t, pos, aft, g⟩ := by cases q <;> rfl
  rw [h, neqWd]
end
@[go_sem] theorem neqWd_at (x y : Operand) (s u : Nat → Nat → Bool) (w : World) : opNeq Tryd.prog 33 x y (.agg (bV 10 s)) (.agg (bV 10 u)) w = .ok (.value (.bool (!bEq 10 s u))) w := by
  have he := equal_bV (P := Tryd.prog) w 9998 Tryd.underlying33 Tryd.underlying27 cellsU16 s u
  simp only [opNeq, Sem.run_bind, run_eqGuard_agg (P := Tryd.prog) w .neq _ x y _ _ guardWd, Result.andThen_ok, run_neq_struct (P := Tryd.prog) w]
  rw [show (10000 : Nat) = 9998 + 2 from rfl, he]
  rfl
attribute [local go_sem ↓] neqWd neqWd'
theorem mayC_bad {L : Lawn} {s t : Nat → Nat → Bool} {need : Int} (h : mayC L s t need ≠ 0) : mayR L s t need = false := by
  unfold mayC told at h
  unfold mayR
  cases hv : weedB L s <;> cases ht : weedB L t <;> cases hf : inB need 1 4 <;> simp_all
set_option maxRecDepth 100000 in
set_option maxHeartbeats 4000000 in
theorem specMayBe_any (L : Lawn) (hL : L.Fits) (s t : Nat → Nat → Bool) (need : Int) (w : World) :
    Calls Tryd.prog 31 #[.agg L.cells, .agg (bV 10 s), .agg (bV 10 t), .int .i64 need] w fun e w' => e = .returned (.tuple #[.bool (mayR L s t need), .int .i64 (mayC L s t need)]) ∧ Below w.heap.size w w' := by
  obtain ⟨u, hu⟩ : ∃ u, w.heap.size = u := ⟨_, rfl⟩
  obtain ⟨W1, hW1⟩ : ∃ W1, ((w.alloc (.cells L.cells 31)).alloc (.cells (bV 10 s) 33)).alloc (.cells (bV 10 t) 33) = W1 := ⟨_, rfl⟩
  have g0 : Holds W1 u L.cells := by rw [← hW1]; exact ((Holds.new' _ _ _ _ hu.symm).alloc _).alloc _
  have g1 : Holds W1 (u + 1) (bV 10 s) := by rw [← hW1]; exact (Holds.new' _ _ _ _ (by simp; omega)).alloc _
  have g2 : Holds W1 (u + 2) (bV 10 t) := by rw [← hW1]; exact Holds.new' _ _ _ _ (by simp; omega)
  have hB1 : Below u w W1 := by rw [← hW1]; exact (((Below.refl u w).alloc (by omega) _).alloc (by simp; omega) _).alloc (by simp; omega) _
  have HU := Lib.hid hu
  obtain ⟨vn, hvn⟩ : ∃ vn, inB need 1 4 = vn := ⟨_, rfl⟩
  have HN := Lib.hid (l07Need_is need vn hvn)
  have HOS := Lib.hid (fun a b w ha hb => l07Ok_any L hL s a b w ha hb)
  have HOT := Lib.hid (fun a b w ha hb => l07Ok_any L hL t a b w ha hb)
  have HCC := Lib.hid (show mayC L s t need = told (weedB L s && weedB L t) vn by rw [mayC, hvn])
  have HRR := Lib.hid (show mayR L s t need = if weedB L s && weedB L t && vn then mayD t (dayS (soilS L) need.toNat s) else false by rw [mayR, hvn])
  have HNB := Lib.hid (show vn = true → 1 ≤ need ∧ need ≤ 4 from fun h => inB_true (hvn.trans h))
  have HDY := Lib.hid (fun (hw : weedB L s = true) (n : Nat) (hn : n ≤ 4) (a b : Nat) (w : World) ha hb => l07Day_any L hL s hw n hn a b w ha hb)
  obtain ⟨vs, hvs⟩ : ∃ vs, weedB L s = vs := ⟨_, rfl⟩
  obtain ⟨vt, hvt⟩ : ∃ vt, weedB L t = vt := ⟨_, rfl⟩
  rw [hvs] at HOS
  rw [hvt] at HOT
  rw [hvs, hvt] at HCC HRR
  have HVS := Lib.hid hvs
  clear hL hvn hvs hvt
  go_enter Tryd.func31, Tryd.ntmps31
  go_wp2_with fail
  try simp only [hu, Nat.add_assoc, Nat.reduceAdd]
  try rw [hW1]
  clear hW1 hu
  refine (HOS.out _ _ _ g0 g1).mono ?_
  rintro e W2 ⟨rfl, hb2⟩
  have j0 := g0.below hb2 g0.lt
  have j1 := g1.below hb2 g1.lt
  have j2 := g2.below hb2 g2.lt
  have hB2 : Below u w W2 := hB1.trans (hb2.mono (by have := g0.lt; omega))
  clear hb2 g0 g1 g2 hB1 HOS
  cases vs
  · have hE := HRR.out
    have HE := Lib.hid (show mayR L s t need = false by rw [hE]; rfl)
    have HE2 := Lib.hid (show mayC L s t need = 1 by rw [HCC.out]; rfl)
    clear hE HRR HCC
    go_wp2_with fail
    go_ret2
    exact ⟨by rw [HE.out, HE2.out]; rfl, by rw [HU.out]; exact hB2⟩
  · go_wp2_with fail
    refine (HOT.out _ _ _ j0 j2).mono ?_
    rintro e W3 ⟨rfl, hb3⟩
    have k0 := j0.below hb3 j0.lt
    have k1 := j1.below hb3 j1.lt
    have k2 := j2.below hb3 j2.lt
    have hB3 : Below u w W3 := hB2.trans (hb3.mono (by have := j0.lt; omega))
    clear hb3 j0 j1 j2 hB2 HOT
    cases vt
    · have hE := HRR.out
      have HE := Lib.hid (show mayR L s t need = false by rw [hE]; rfl)
      have HE2 := Lib.hid (show mayC L s t need = 1 by rw [HCC.out]; rfl)
      clear hE HRR HCC
      go_wp2_with fail
      go_ret2
      exact ⟨by rw [HE.out, HE2.out]; rfl, by rw [HU.out]; exact hB3⟩
    · go_wp2_with fail
      refine (HN.out _).mono ?_
      rintro e W4 ⟨rfl, hw4⟩
      rw [hw4]
      clear hw4 HN
      cases vn
      · have hE := HRR.out
        have HE := Lib.hid (show mayR L s t need = false by rw [hE]; rfl)
        have HE2 := Lib.hid (show mayC L s t need = 2 by rw [HCC.out]; rfl)
        clear hE HRR HCC
        go_wp2_with fail
        go_ret2
        exact ⟨by rw [HE.out, HE2.out]; rfl, by rw [HU.out]; exact hB3⟩
      · have hnb := HNB.out (by trivial)
        obtain ⟨n, rfl⟩ : ∃ n : Nat, need = n := ⟨need.toNat, by omega⟩
        have HE2 := Lib.hid (show mayC L s t n = 0 by rw [HCC.out]; rfl)
        have hE : mayR L s t n = mayD t (dayS (soilS L) n s) := by rw [HRR.out]; simp
        have HDYn := Lib.hid (HDY.out HVS.out n (by omega))
        obtain ⟨d, hd⟩ : ∃ d, dayS (soilS L) n s = d := ⟨_, rfl⟩
        rw [hd] at hE HDYn
        have HE := Lib.hid hE
        clear hnb hE hd HRR HCC HNB HDY
        go_wp2_with fail
        refine (HDYn.out _ _ _ k0 k1).mono ?_
        rintro e W5 ⟨rfl, hb5⟩
        obtain ⟨z, hz⟩ : ∃ z, W5.heap.size = z := ⟨_, rfl⟩
        have m2 := k2.below hb5 k2.lt
        have hB5 : Below u w W5 := hB3.trans (hb5.mono (by have := k0.lt; omega))
        have n2 := m2.alloc (.cells (bV 10 d) 33)
        have np := Holds.new' W5 (bV 10 d) 33 z hz.symm
        have hB6 : Below u w (W5.alloc (.cells (bV 10 d) 33)) := hB5.alloc (by have := m2.lt; omega) _
        clear hb5 k0 k1 k2 m2 hB3 hB5 HDYn
        go_wp2_with fail
        obtain ⟨W6, hW6⟩ : ∃ W6, W5.alloc (.cells (bV 10 d) 33) = W6 := ⟨_, rfl⟩
        try simp only [hz]
        try rw [hW6]
        rw [hW6] at n2 np hB6
        clear hW6 hz
        go_loopw [11, 12] (fun a x wr => ∃ k : Nat, k ≤ 10 ∧ x = .int .i64 k ∧ a = .int .i64 (diffN t d k : Nat) ∧ (∀ y, y < k → rowN (fun x => t y x && !d y x) = 0) ∧ Holds wr (u + 2) (bV 10 t) ∧ Holds wr z (bV 10 d) ∧ Below u w wr) (fun _ x _ => 10 - (intOf x).toNat)
        case atStart => exact ⟨0, by omega, rfl, rfl, fun y hy => by omega, n2, np, hB6⟩
        case round =>
          obtain ⟨k, hk, rfl, rfl, hall, h2, hp, hb⟩ := hrel
          have HALL := Lib.hid hall
          have hdl := diffN_le t d k
          clear hall
          by_cases hlt : k < 10
          · have hdd : decide ((k : Int) < (10 : Int)) = true := by simp; omega
            obtain ⟨-, -, c2, -, l2⟩ := h2.facts
            obtain ⟨-, -, cp, -, lp⟩ := hp.facts
            have ck2 := (c2 k).trans (bV_get 10 t k hlt)
            have ckp := (cp k).trans (bV_get 10 d k hlt)
            have HNO := Lib.hid (fun h => may_no (t := t) (d := d) hlt h)
            have HDH := Lib.hid (fun h => diffN_hit (t := t) (d := d) (k := k) h)
            have HDM := Lib.hid (fun h => diffN_miss (t := t) (d := d) (k := k) h)
            obtain ⟨D, hD⟩ : ∃ D, diffN t d k = D := ⟨_, rfl⟩
            rw [hD] at HDH HDM hdl ⊢
            clear c2 cp hD
            by_cases hz : rowN (fun x => t k x && !d k x) = 0
            · have HZ := Lib.hid hz
              have HAL2 := Lib.hid (show ∀ y, y < k + 1 → rowN (fun x => t y x && !d y x) = 0 from fun y hy => by
                rcases Nat.lt_or_ge y k with h | h
                · exact HALL.out y h
                · obtain rfl : y = k := by omega
                  exact HZ.out)
              have hzI : ((((rowN fun x => t k x && !d k x) : Nat) : Int) != 0) = false := by rw [hz]; rfl
              clear hz
              by_cases he : rowN (t k) = rowN (d k)
              · have hN := Lib.hid (HDM.out he)
                have heI : (((rowN (t k) : Nat) : Int) != ((rowN (d k) : Nat) : Int)) = false := by rw [he]; simp
                clear he HDH HDM
                go_wp2_with fail
                go_quiet (fail)
                go_wp2_with fail
                go_quiet (fail)
                go_wp2_with fail
                go_roundw
                case rel => exact ⟨k + 1, by omega, by go_num, by rw [hN.out], HAL2.out, h2.drewN _, hp.drewN _, below_drewN hb _⟩
                case measure => simp [intOf]; omega
              · have hN := Lib.hid (HDH.out he)
                have heI : (((rowN (t k) : Nat) : Int) != ((rowN (d k) : Nat) : Int)) = true := by simp only [bne_iff_ne, ne_eq]; exact fun h => he (Int.ofNat.inj h)
                have hw1 : IntKind.i64.wrap ((D : Int) + 1) = ((D + 1 : Nat) : Int) := by rw [IntWalk.i64_in _ (by omega)]; rfl
                clear he HDH HDM
                go_wp2_with fail
                go_quiet (fail)
                go_wp2_with fail
                go_quiet (fail)
                go_wp2_with fail
                go_roundw
                case rel => exact ⟨k + 1, by omega, by go_num, by rw [hN.out]; rfl, HAL2.out, h2.drewN _, hp.drewN _, below_drewN hb _⟩
                case measure => simp [intOf]; omega
            · have HE3 := Lib.hid (HNO.out hz)
              have hzI : ((((rowN fun x => t k x && !d k x) : Nat) : Int) != 0) = true := by simpa using hz
              clear hz
              go_wp2_with fail
              go_quiet (fail)
              go_wp2_with fail
              go_ret2
              exact ⟨by rw [HE.out, HE2.out, HE3.out]; rfl, by rw [HU.out]; exact below_drewN hb _⟩
          · obtain rfl : k = 10 := by omega
            have HE4 := Lib.hid (may_sub HALL.out)
            obtain ⟨D, hD⟩ : ∃ D, diffN t d 10 = D := ⟨_, rfl⟩
            rw [hD] at HE4 hdl ⊢
            clear hD
            by_cases h1 : D ≤ 1
            · have hn1 : decide (D ≤ 1) = true := by simpa using h1
              have hi1 : decide ((D : Int) ≤ 1) = true := by simp; omega
              rw [hn1] at HE4
              go_wp2_with fail
              go_ret2
              exact ⟨by rw [HE.out, HE2.out, HE4.out]; rfl, by rw [HU.out]; exact hb⟩
            · have hn1 : decide (D ≤ 1) = false := by simpa using h1
              have hi1 : decide ((D : Int) ≤ 1) = false := by simp; omega
              rw [hn1] at HE4
              go_wp2_with fail
              go_ret2
              exact ⟨by rw [HE.out, HE2.out, HE4.out]; rfl, by rw [HU.out]; exact hb⟩
end Go.Proofs.YtoengjabakcpjaaDoor
