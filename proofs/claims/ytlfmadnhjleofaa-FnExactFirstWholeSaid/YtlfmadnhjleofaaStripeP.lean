/- In which run a cell lies: the numbers alone. -/
import Derived.Test.YtlfmadnhjleofaaLongest
namespace Go.Proofs.Ytlfmadnhjleofaa
open Go.RowKit
set_option linter.unusedVariables false

theorem allC_index {W H i : Nat} {c : Fin W × Fin H} (h : (allC W H)[i]? = some c) : i = c.2.val * W + c.1.val := by
  have hlt := (List.getElem?_eq_some_iff.1 h).1
  rw [allC_length] at hlt
  have hW : 0 < W := by
    rcases Nat.eq_zero_or_pos W with e | e
    · subst e; simp at hlt
    · exact e
  have hj := Nat.mod_lt i hW
  have hk : i / W < H := (Nat.div_lt_iff_lt_mul hW).2 hlt
  have e : i / W * W + i % W = i := by rw [Nat.mul_comm]; exact Nat.div_add_mod i W
  have := allC_get W H (i / W) (i % W) hj hk
  rw [e, h] at this
  cases this
  exact e.symm
theorem allC_nodup (W H : Nat) : (allC W H).Nodup := by
  rw [List.nodup_iff_pairwise_ne, List.pairwise_iff_getElem]
  intro i j hi hj hij he
  have h1 := allC_index (List.getElem?_eq_getElem hi)
  have h2 := allC_index (List.getElem?_eq_getElem hj)
  rw [he] at h1
  omega
theorem nodup_index {α : Type} : ∀ {l : List α}, l.Nodup → ∀ {i j : Nat} {c : α}, l[i]? = some c → l[j]? = some c → i = j := by
  intro l hn i j c hi hj
  obtain ⟨h1, h2⟩ := List.getElem?_eq_some_iff.1 hi
  obtain ⟨h3, h4⟩ := List.getElem?_eq_some_iff.1 hj
  rw [List.nodup_iff_pairwise_ne, List.pairwise_iff_getElem] at hn
  rcases Nat.lt_trichotomy i j with h | h | h
  · exact absurd (h2.trans h4.symm) (hn i j h1 h3 h)
  · exact h
  · exact absurd (h4.trans h2.symm) (hn j i h3 h1 h)
theorem filtB_nodup {W H : Nat} (p : Nat → Nat → Bool) : (filtB p (allC W H)).Nodup := (allC_nodup W H).filter _

theorem least_no (P : Nat → Bool) : ∀ n, P n = false → ∃ k, k ≤ n ∧ P k = false ∧ ∀ i, i < k → P i = true := by
  have key : ∀ n, (∀ i, i < n → P i = true) ∨ ∃ k, k < n ∧ P k = false ∧ ∀ i, i < k → P i = true := by
    intro n
    induction n with
    | zero => exact .inl fun i hi => by omega
    | succ n ih =>
      rcases ih with h | ⟨k, h1, h2, h3⟩
      · cases hP : P n with
        | true =>
          refine .inl fun i hi => ?_
          by_cases e : i = n
          · subst e; exact hP
          · exact h i (by omega)
        | false => exact .inr ⟨n, by omega, hP, h⟩
      · exact .inr ⟨k, by omega, h2, h3⟩
  intro n hn
  rcases key n with h | ⟨k, h1, h2, h3⟩
  · exact ⟨n, Nat.le_refl _, hn, h⟩
  · exact ⟨k, by omega, h2, h3⟩

/-- The i-th cell before one, in a run. -/
def negX (across : Bool) (x : Int) (i : Nat) : Int := if across then x - i else x
def negY (across : Bool) (y : Int) (i : Nat) : Int := if across then y else y - i
theorem negX_zero (across : Bool) (x : Int) : negX across x 0 = x := by cases across <;> simp [negX]
theorem negY_zero (across : Bool) (x : Int) : negY across x 0 = x := by cases across <;> simp [negY]
theorem negX_succ (across : Bool) (x : Int) (i : Nat) : negX across x i - stepX across = negX across x (i + 1) := by cases across <;> simp [negX, stepX]; omega
theorem negY_succ (across : Bool) (x : Int) (i : Nat) : negY across x i - stepY across = negY across x (i + 1) := by cases across <;> simp [negY, stepY]; omega
theorem grass_out {L : Lawn} {x y : Int} (h : x < 0 ∨ y < 0) : grassB L x y = false := by
  cases hg : grassB L x y with
  | false => rfl
  | true => have := isB_in (grassB_in hg); omega
theorem run_exists {L : Lawn} (hv : validB L = true) (across : Bool) (x y : Int) (hx : 0 ≤ x) (hy : 0 ≤ y) : ∃ n, n ≤ 10 ∧ RunIs L across x y n ∧ runLen L across x y = n := by
  obtain ⟨h1, h2, -⟩ := validB_true hv
  obtain ⟨k, hk, h3, h4⟩ := least_no (fun i => grassB L (posX across x i) (posY across y i)) 10 (by
    cases hg : grassB L (posX across x 10) (posY across y 10) with
    | false => rfl
    | true =>
      have := isB_in (grassB_in hg)
      cases across <;> simp [posX, posY] at this <;> omega)
  exact ⟨k, hk, ⟨h4, h3⟩, runLen_of ⟨h4, h3⟩ hk⟩

/-- What is known of the run of a cell of grass: its place I in the list, and how many cells kk lie before the cell. -/
structure Stripe (L : Lawn) (across : Bool) (x y : Int) (I kk : Nat) : Prop where
  lt : I < (runsT L across).length
  k9 : kk ≤ 9
  back : ∀ i, i ≤ kk → grassB L (negX across x i) (negY across y i) = true
  stop : grassB L (negX across x (kk + 1)) (negY across y (kk + 1)) = false
  head : ∀ (i : Nat) t, (runsT L across)[i]? = some t → ((t.1 = negX across x kk ∧ t.2.1 = negY across y kk) ↔ i = I)
  hit : ∀ (i : Nat) t (k : Nat), (runsT L across)[i]? = some t → (k : Int) < t.2.2 → ((posX across t.1 k = x ∧ posY across t.2.1 k = y) ↔ (i = I ∧ k = kk))
  long : ∀ t, (runsT L across)[I]? = some t → (kk : Int) < t.2.2
  small : ∀ (i : Nat) t, (runsT L across)[i]? = some t → (0 ≤ t.1 ∧ t.1 ≤ 9) ∧ (0 ≤ t.2.1 ∧ t.2.1 ≤ 9) ∧ 0 ≤ t.2.2 ∧ t.2.2 ≤ 10

theorem stripe_of {L : Lawn} (hv : validB L = true) (across : Bool) {x y : Int} (hg : grassB L x y = true) : ∃ I kk, Stripe L across x y I kk := by
  obtain ⟨hw, hh, -⟩ := validB_true hv
  have hin := isB_in (grassB_in hg)
  obtain ⟨kk, hk, hk1, hk2⟩ := least_no (fun i => grassB L (negX across x (i + 1)) (negY across y (i + 1))) 9 (grass_out (by
    cases across <;> simp [negX, negY] <;> omega))
  have hback : ∀ i, i ≤ kk → grassB L (negX across x i) (negY across y i) = true := by
    intro i hi
    match i with
    | 0 => rw [negX_zero, negY_zero]; exact hg
    | i + 1 => exact hk2 i (by omega)
  have hh0 := isB_in (grassB_in (hback kk (Nat.le_refl _)))
  obtain ⟨hx, hhx⟩ : ∃ n : Nat, negX across x kk = n := ⟨(negX across x kk).toNat, by omega⟩
  obtain ⟨hy, hhy⟩ : ∃ n : Nat, negY across y kk = n := ⟨(negY across y kk).toNat, by omega⟩
  have hxW : hx < L.wide.toNat := by omega
  have hyH : hy < L.high.toNat := by omega
  have hhead : headB L across hy hx = true := by
    have h1 := hback kk (Nat.le_refl _)
    have h2 := hk1
    rw [← negX_succ, ← negY_succ, hhx, hhy] at h2
    rw [hhx, hhy] at h1
    simp [headB, h1, h2]
  have hC : runsC L across = filtB (headB L across) (allC L.wide.toNat L.high.toNat) := by simp [runsC, hv]
  have hmem : ((⟨hx, hxW⟩, ⟨hy, hyH⟩) : Fin L.wide.toNat × Fin L.high.toNat) ∈ runsC L across := by
    rw [hC]; simp only [filtB, List.mem_filter]; exact ⟨allC_mem _ _ _, hhead⟩
  obtain ⟨I, hI, hIc⟩ := List.mem_iff_getElem.1 hmem
  have hnd : (runsC L across).Nodup := by rw [hC]; exact filtB_nodup _
  have hIs : (runsC L across)[I]? = some (⟨hx, hxW⟩, ⟨hy, hyH⟩) := by rw [List.getElem?_eq_getElem hI, hIc]
  have hget : ∀ (i : Nat) t, (runsT L across)[i]? = some t → ∃ c, (runsC L across)[i]? = some c ∧ t = runT L across c := by
    intro i t ht
    simp only [runsT, List.getElem?_map, Option.map_eq_some_iff] at ht
    obtain ⟨c, h1, h2⟩ := ht
    exact ⟨c, h1, h2.symm⟩
  have hhd : ∀ (i : Nat) c, (runsC L across)[i]? = some c → headB L across c.2 c.1 = true := by
    intro i c hc
    have := List.mem_of_getElem? hc
    rw [hC] at this
    simp only [filtB, List.mem_filter] at this
    exact this.2
  have hcell : ∀ (i : Nat) c, (runsC L across)[i]? = some c → (c.1.val = hx ∧ c.2.val = hy ↔ i = I) := by
    intro i c hc
    constructor
    · rintro ⟨e1, e2⟩
      have : c = (⟨hx, hxW⟩, ⟨hy, hyH⟩) := Prod.ext (Fin.ext e1) (Fin.ext e2)
      rw [this] at hc
      exact nodup_index hnd hc hIs
    · rintro rfl
      rw [hIs] at hc; cases hc; exact ⟨rfl, rfl⟩
  have hxy : (x = posX across hx kk) ∧ y = posY across hy kk := by
    cases across <;> simp [negX, negY, posX, posY] at hhx hhy ⊢ <;> omega
  have hlong : kk < runLen L across hx hy := by
    obtain ⟨n, hn, hr, e⟩ := run_exists hv across (hx : Int) (hy : Int) (by omega) (by omega)
    rw [e]
    rcases Nat.lt_or_ge kk n with h | h
    · exact h
    · have h1 := hr.2
      have h2 := hback (kk - n) (by omega)
      have e1 : negX across x (kk - n) = posX across hx n := by cases across <;> simp [negX, posX] at hxy ⊢ <;> omega
      have e2 : negY across y (kk - n) = posY across hy n := by cases across <;> simp [negY, posY] at hxy ⊢ <;> omega
      rw [e1, e2, h1] at h2
      cases h2
  refine ⟨I, kk, ⟨by simpa [runsT] using hI, hk, hback, hk1, fun i t ht => ?_, fun i t k ht hkl => ?_, fun t ht => ?_, fun i t ht => ?_⟩⟩
  · obtain ⟨c, hc, rfl⟩ := hget i t ht
    rw [← hcell i c hc]
    simp only [runT, hhx, hhy]
    omega
  · obtain ⟨c, hc, rfl⟩ := hget i t ht
    rw [← hcell i c hc]
    simp only [runT] at hkl ⊢
    constructor
    · rintro ⟨e1, e2⟩
      have hkl' : k < runLen L across c.1.val c.2.val := by omega
      obtain ⟨n, hn, hr, e⟩ := run_exists hv across (c.1.val : Int) (c.2.val : Int) (by omega) (by omega)
      rw [e] at hkl'
      have hbef : grassB L ((c.1.val : Int) - stepX across) ((c.2.val : Int) - stepY across) = false := by
        have := hhd i c hc
        simp only [headB, Bool.and_eq_true, Bool.not_eq_true'] at this
        exact this.2
      rcases Nat.lt_trichotomy k kk with h | h | h
      · have h2 := hback (k + 1) (by omega)
        have e3 : negX across x (k + 1) = (c.1.val : Int) - stepX across := by rw [← e1]; cases across <;> simp [negX, posX, stepX] <;> omega
        have e4 : negY across y (k + 1) = (c.2.val : Int) - stepY across := by rw [← e2]; cases across <;> simp [negY, posY, stepY] <;> omega
        rw [e3, e4, hbef] at h2
        cases h2
      · subst h
        refine ⟨?_, rfl⟩
        obtain ⟨h3, h4⟩ := hxy
        cases across <;> simp [posX, posY] at e1 e2 h3 h4 <;> omega
      · have h2 := hr.1 (k - kk - 1) (by omega)
        have h5 := hk1
        have e3 : negX across x (kk + 1) = posX across (c.1.val : Int) (k - kk - 1) := by rw [← e1]; cases across <;> simp [negX, posX] <;> omega
        have e4 : negY across y (kk + 1) = posY across (c.2.val : Int) (k - kk - 1) := by rw [← e2]; cases across <;> simp [negY, posY] <;> omega
        rw [e3, e4, h2] at h5
        cases h5
    · rintro ⟨⟨e1, e2⟩, rfl⟩
      obtain ⟨h3, h4⟩ := hxy
      rw [e1, e2]
      exact ⟨h3.symm, h4.symm⟩
  · obtain ⟨c, hc, rfl⟩ := hget I t ht
    obtain ⟨e1, e2⟩ := (hcell I c hc).2 rfl
    simp only [runT, e1, e2]
    omega
  · obtain ⟨c, hc, rfl⟩ := hget i t ht
    have h1 := c.1.isLt
    have h2 := c.2.isLt
    obtain ⟨n, hn, -, e⟩ := run_exists hv across (c.1.val : Int) (c.2.val : Int) (by omega) (by omega)
    simp only [runT, e]
    omega
end Go.Proofs.Ytlfmadnhjleofaa
