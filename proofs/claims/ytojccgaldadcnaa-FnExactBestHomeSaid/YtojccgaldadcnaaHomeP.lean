/- BestHome: the pure part. -/
import Derived.Test.YtojccgaldadcnaaSLeast
namespace Go.Proofs.Ytojccgaldadcnaa
open Go.RowKit
set_option linter.unusedVariables false

theorem subset_back {α : Type} [DecidableEq α] : ∀ (l1 l2 : List α), l1.Nodup → (∀ a ∈ l1, a ∈ l2) → l2.length ≤ l1.length → ∀ a ∈ l2, a ∈ l1
  | [], l2, _, _, hl, a, ha => by
    have : l2 = [] := List.eq_nil_of_length_eq_zero (by simpa using hl)
    rw [this] at ha; cases ha
  | b :: l1, l2, hn, hs, hl, a, ha => by
    by_cases e : a = b
    · simp [e]
    · have hb := hs b (by simp)
      rw [List.nodup_cons] at hn
      have h1 := subset_back l1 (l2.erase b) hn.2 (fun c hc => (List.mem_erase_of_ne (fun h => by rw [h] at hc; exact hn.1 hc)).2 (hs c (by simp [hc]))) (by
        rw [List.length_erase_of_mem hb]; simp at hl; omega) a ((List.mem_erase_of_ne e).2 ha)
      simp [h1]
theorem length_sub {α : Type} [DecidableEq α] : ∀ (l1 l2 : List α), l1.Nodup → (∀ a ∈ l1, a ∈ l2) → l1.length ≤ l2.length
  | [], l2, _, _ => by simp
  | b :: l1, l2, hn, hs => by
    have hb := hs b (by simp)
    rw [List.nodup_cons] at hn
    have h1 := length_sub l1 (l2.erase b) hn.2 (fun c hc => (List.mem_erase_of_ne (fun h => by rw [h] at hc; exact hn.1 hc)).2 (hs c (by simp [hc])))
    rw [List.length_erase_of_mem hb] at h1
    have : 0 < l2.length := List.length_pos_of_mem hb
    simp; omega
def ptOf {W H : Nat} (c : Fin W × Fin H) : Pt := ((c.1.val : Int), (c.2.val : Int))
theorem ptOf_inj {W H : Nat} {a b : Fin W × Fin H} (h : ptOf a = ptOf b) : a = b := by
  have h1 := congrArg Prod.fst h
  have h2 := congrArg Prod.snd h
  simp only [ptOf] at h1 h2
  ext <;> omega
theorem allC_nodup (W H : Nat) : (allC W H).Nodup := by
  rw [List.nodup_iff_pairwise_ne, List.pairwise_iff_getElem]
  intro i j hi hj hij he
  have hl := allC_length W H
  have h0 : 0 < W := Nat.pos_of_ne_zero (fun h => by rw [hl, h] at hi; omega)
  have gi := allC_get W H (i / W) (i % W) (Nat.mod_lt _ h0) (by rw [Nat.div_lt_iff_lt_mul h0]; omega)
  have gj := allC_get W H (j / W) (j % W) (Nat.mod_lt _ h0) (by rw [Nat.div_lt_iff_lt_mul h0]; omega)
  have ei : i / W * W + i % W = i := by rw [Nat.mul_comm]; exact Nat.div_add_mod i W
  have ej : j / W * W + j % W = j := by rw [Nat.mul_comm]; exact Nat.div_add_mod j W
  rw [ei, List.getElem?_eq_getElem hi] at gi
  rw [ej, List.getElem?_eq_getElem hj] at gj
  have : (some ((⟨i % W, Nat.mod_lt _ h0⟩, ⟨i / W, by rw [Nat.div_lt_iff_lt_mul h0]; omega⟩) : Fin W × Fin H)) = some (⟨j % W, Nat.mod_lt _ h0⟩, ⟨j / W, by rw [Nat.div_lt_iff_lt_mul h0]; omega⟩) := by rw [← gi, ← gj, he]
  simp only [Option.some.injEq, Prod.mk.injEq, Fin.mk.injEq] at this
  rw [← ei, ← ej, this.1, this.2] at hij
  omega

/-- That all grass is found shows in how much is found. -/
theorem whole_length {L : Lawn} {W H : Nat} (hW : L.wide = W) (hH : L.high = H) {x y : Int} (ho : openB L x y = true) : decide ((aroundL L x y).length = (ofKind L W H 0).length) = wholeB L W H x y := by
  have hgood := found_good (pass := openP L) (s := (x, y)) ho 100
  have hmem : ∀ p, p ∈ aroundL L x y ↔ p ∈ found (openP L) (x, y) 100 ∧ grassP L p.1 = true := fun p => List.mem_filter
  have hn1 : ((aroundL L x y).map (·.1)).Nodup := by
    unfold aroundL
    exact List.Nodup.sublist (List.Sublist.map _ List.filter_sublist) hgood.nodup
  have hn2 : ((ofKind L W H 0).map ptOf).Nodup := by
    unfold ofKind
    rw [List.nodup_iff_pairwise_ne, List.pairwise_map]
    exact List.Pairwise.imp (fun h e => h (ptOf_inj e)) ((allC_nodup W H).sublist List.filter_sublist)
  have hs : ∀ a ∈ (aroundL L x y).map (·.1), a ∈ (ofKind L W H 0).map ptOf := fun a ha => by
    obtain ⟨p, hp, rfl⟩ := List.mem_map.1 ha
    obtain ⟨c, hc, hcp⟩ := grass_at hW hH ((hmem p).1 hp).2
    exact List.mem_map.2 ⟨c, hc, hcp⟩
  have hbk : wholeB L W H x y = true ↔ ∀ a ∈ (ofKind L W H 0).map ptOf, a ∈ (aroundL L x y).map (·.1) := by
    unfold wholeB
    rw [List.all_eq_true]
    constructor
    · intro h a ha
      obtain ⟨c, hc, rfl⟩ := List.mem_map.1 ha
      have h1 := h c hc
      simp only [decide_eq_true_eq] at h1
      unfold stepsAt at h1
      cases hk : alLook (found (openP L) (x, y) 100) ((c.1.val : Int), (c.2.val : Int)) with
      | none => rw [hk] at h1; simp at h1
      | some z => exact List.mem_map.2 ⟨_, (hmem _).2 ⟨alLook_in hk, at_grass hW hH hc⟩, rfl⟩
    · intro h c hc
      obtain ⟨p, hp, hpc⟩ := List.mem_map.1 (h _ (List.mem_map.2 ⟨c, hc, rfl⟩))
      have hp1 := ((hmem p).1 hp).1
      have e1 : p.1.1 = (c.1.val : Int) := congrArg Prod.fst hpc
      have e2 : p.1.2 = (c.2.val : Int) := congrArg Prod.snd hpc
      have h2 := alLook_mem hgood.nodup (k := p.1) (v := p.2) hp1
      rw [hpc] at h2
      unfold stepsAt
      unfold ptOf at h2
      rw [h2]
      obtain ⟨j, hj, hje⟩ := List.getElem_of_mem hp1
      have := hgood.val j _ (List.getElem?_eq_getElem hj)
      rw [hje] at this
      simpa using this.1
  have hl1 := length_sub _ _ hn1 hs
  simp only [List.length_map] at hl1
  rw [Bool.eq_iff_iff, decide_eq_true_eq, hbk]
  constructor
  · intro he
    exact subset_back _ _ hn1 hs (by simp only [List.length_map]; omega)
  · intro h
    have hl2 := length_sub _ _ hn2 h
    simp only [List.length_map] at hl2
    omega

/-- The best home of the cells that have come: its place, and its charge, less than 0 as long as there is none. -/
def homeOk {W H : Nat} (L : Lawn) (c : Fin W × Fin H) : Bool := openB L c.1.val c.2.val && wholeB L W H c.1.val c.2.val
def homeZ {W H : Nat} (L : Lawn) (c : Fin W × Fin H) : Int := 2 * mostZ (aroundL L c.1.val c.2.val)
def homeStep {W H : Nat} (L : Lawn) (s : Int × Int × Int) (c : Fin W × Fin H) : Int × Int × Int := if homeOk L c && (decide (s.2.2 < 0) || decide (homeZ L c < s.2.2)) then ((c.1.val : Int), (c.2.val : Int), homeZ L c) else s
def homeL {W H : Nat} (L : Lawn) (l : List (Fin W × Fin H)) : Int × Int × Int := l.foldl (homeStep L) (0, 0, -1)
theorem homeL_snoc {W H : Nat} (L : Lawn) (l : List (Fin W × Fin H)) (c : Fin W × Fin H) : homeL L (l ++ [c]) = homeStep L (homeL L l) c := by simp [homeL]
theorem most_bound {l : Found} (h : ∀ p ∈ l, 0 ≤ p.2 ∧ p.2 < 100) : 0 ≤ mostZ l ∧ mostZ l < 100 := by
  rcases (mostZ_is l).2 with h2 | ⟨p, hp, h2⟩
  · omega
  · have := h p hp; omega
theorem homeZ_bound {W H : Nat} {L : Lawn} (hv : validB L = true) {c : Fin W × Fin H} (ho : openB L c.1.val c.2.val = true) : 0 ≤ homeZ L c ∧ homeZ L c < 200 := by
  have := most_bound (around_val hv ho)
  unfold homeZ
  omega
theorem homeL_bound {W H : Nat} {L : Lawn} (hv : validB L = true) (l : List (Fin W × Fin H)) : -1 ≤ (homeL L l).2.2 ∧ (homeL L l).2.2 < 200 := by
  have key : ∀ (l : List (Fin W × Fin H)) (s : Int × Int × Int), -1 ≤ s.2.2 ∧ s.2.2 < 200 → -1 ≤ (l.foldl (homeStep L) s).2.2 ∧ (l.foldl (homeStep L) s).2.2 < 200 := by
    intro l
    induction l with
    | nil => exact fun s h => h
    | cons c l ih =>
      intro s h
      refine ih _ ?_
      unfold homeStep
      split
      · rename_i hc
        simp only [homeOk, Bool.and_eq_true] at hc
        have := homeZ_bound hv (c := c) hc.1.1
        dsimp only
        omega
      · exact h
  exact key l _ (by decide)
end Go.Proofs.Ytojccgaldadcnaa
