/- The cell to which the most moles come: the pure part. -/
import Derived.Test.YtabemgplddfemaaGreatDoorMostP
import Derived.Test.YtabemgplddfemaaGreatDoorZQ
namespace Go.Proofs.YtabemgplddfemaaGreatDoor
open Go.RowKit
set_option linter.unusedVariables false
/-- The cells of a list's first i, each one once, in the order in which they come. -/
def newK (ps : List Pt) : Nat → List Pt
  | 0 => []
  | i + 1 => match ps[i]? with
    | none => newK ps i
    | some c => if (ps.take i).contains c then newK ps i else newK ps i ++ [c]
theorem newK_hit {ps : List Pt} {i : Nat} {c : Pt} (h : ps[i]? = some c) (hc : (ps.take i).contains c = false) : newK ps (i + 1) = newK ps i ++ [c] := by simp only [newK, h, hc]; rfl
theorem newK_miss {ps : List Pt} {i : Nat} {c : Pt} (h : ps[i]? = some c) (hc : (ps.take i).contains c = true) : newK ps (i + 1) = newK ps i := by simp only [newK, h, hc, if_true]
theorem newK_mem (ps : List Pt) : ∀ i, i ≤ ps.length → ∀ c, c ∈ newK ps i ↔ c ∈ ps.take i
  | 0, _, c => by simp [newK]
  | i + 1, hi, c => by
    obtain ⟨a, ha⟩ : ∃ a, ps[i]? = some a := ⟨_, List.getElem?_eq_getElem (by omega)⟩
    have ih := newK_mem ps i (by omega)
    have e : ps.take (i + 1) = ps.take i ++ [a] := by rw [List.take_add_one, ha]; rfl
    rw [e, List.mem_append, List.mem_singleton]
    cases h : (ps.take i).contains a with
    | true =>
      rw [newK_miss ha h, ih]
      rw [List.contains_iff_mem] at h
      exact ⟨.inl, fun k => k.elim id (fun k => k ▸ h)⟩
    | false => rw [newK_hit ha h, List.mem_append, List.mem_singleton, ih]
theorem newK_le (ps : List Pt) : ∀ i, (newK ps i).length ≤ i
  | 0 => by simp [newK]
  | i + 1 => by
    have ih := newK_le ps i
    simp only [newK]
    split
    · omega
    · split
      · omega
      · simp; omega
theorem idx_first {ps : List Pt} {i : Nat} {c : Pt} (h : ps[i]? = some c) : (idxP ps c == (i : Int)) = !(ps.take i).contains c := by
  have hmem : ∀ k : Nat, k < i → ps[k]? = (ps.take i)[k]? := fun k hk => by rw [List.getElem?_take, if_pos hk]
  cases hc : (ps.take i).contains c with
  | false =>
    rw [idxP_at h (fun j z hj hz e => by
      have : (ps.take i).contains c = true := by
        rw [List.contains_iff_mem]
        exact List.mem_of_getElem? (by rw [← hmem j hj, hz, e])
      rw [this] at hc
      cases hc)]
    simp
  | true =>
    rw [List.contains_iff_mem] at hc
    obtain ⟨k, hk, hkc⟩ := List.mem_iff_getElem.1 hc
    have hki : k < i := by
      have := hk
      rw [List.length_take] at this
      omega
    have hp : ps[k]? = some c := by rw [hmem k hki, List.getElem?_eq_getElem hk, hkc]
    have hle : idxP ps c < i := by
      unfold idxP
      cases hf : ps.findIdx? (· == c) with
      | none => rw [List.findIdx?_eq_none_iff] at hf; have := hf c (List.mem_of_getElem? hp); simp at this
      | some m =>
        rw [List.findIdx?_eq_some_iff_getElem] at hf
        obtain ⟨hm1, hm2, hm3⟩ := hf
        have : m ≤ k := by
          apply Nat.le_of_not_lt
          intro hlt
          have := hm3 k hlt
          rw [List.getElem?_eq_some_iff] at hp
          obtain ⟨hp1, hp2⟩ := hp
          rw [hp2] at this
          simp at this
        dsimp only
        omega
    rw [Bool.not_true, beq_eq_false_iff_ne]
    omega

section
variable (L : Lawn) (g : Nat → Nat → Int) (N : Nat) {W H : Nat}
/-- The way of a mole that begins at a cell; all cells to which moles come, each mole's cells once. -/
def trapW (c : Fin W × Fin H) : List Pt := (pathQ L g (toQ (ptOf c)) N).map ptQ
def trapC (l : List (Fin W × Fin H)) : List Pt := l.flatMap fun c => newK (trapW L g N c) (N + 1)
theorem trapW_length (c : Fin W × Fin H) : (trapW L g N c).length = N + 1 := by unfold trapW; rw [List.length_map, pathQ_length]
theorem trapC_snoc (l : List (Fin W × Fin H)) (c : Fin W × Fin H) : trapC L g N (l ++ [c]) = trapC L g N l ++ newK (trapW L g N c) (N + 1) := by simp [trapC]
theorem trapC_le (l : List (Fin W × Fin H)) : (trapC L g N l).length ≤ l.length * (N + 1) := by
  induction l with
  | nil => simp [trapC]
  | cons c l ih =>
    have h := newK_le (trapW L g N c) (N + 1)
    show (newK (trapW L g N c) (N + 1) ++ trapC L g N l).length ≤ _
    rw [List.length_append, List.length_cons, Nat.succ_mul]
    omega
end
theorem newK_q10 {ps : List Pt} (h : ∀ c ∈ ps, ∃ d : Q10, ptOf d = c) : ∀ i, ∀ c ∈ newK ps i, ∃ d : Q10, ptOf d = c
  | 0, c, hc => by simp [newK] at hc
  | i + 1, c, hc => by
    simp only [newK] at hc
    split at hc
    · exact newK_q10 h i c hc
    · rename_i a ha
      split at hc
      · exact newK_q10 h i c hc
      · rw [List.mem_append, List.mem_singleton] at hc
        rcases hc with hc | rfl
        · exact newK_q10 h i c hc
        · exact h _ (List.mem_of_getElem? ha)
theorem trapW_q10 (L : Lawn) (g : Nat → Nat → Int) (N : Nat) {W H : Nat} (c : Fin W × Fin H) : ∀ p ∈ trapW L g N c, ∃ d : Q10, ptOf d = p := fun p hp => by
  obtain ⟨d, -, hd⟩ := List.mem_map.1 hp
  exact ⟨d, hd⟩
theorem trapC_q10 (L : Lawn) (g : Nat → Nat → Int) (N : Nat) {W H : Nat} (l : List (Fin W × Fin H)) : ∀ p ∈ trapC L g N l, ∃ d : Q10, ptOf d = p := fun p hp => by
  obtain ⟨c, hc, hpc⟩ := List.mem_flatMap.1 hp
  exact newK_q10 (trapW_q10 L g N c) _ p hpc
theorem visM_len10 {cs : List Pt} (h10 : ∀ c ∈ cs, ∃ d : Q10, ptOf d = c) : (visM cs).length ≤ 100 := by
  have hks := vis_sorted (W := 10) (H := 10) h10
  have h1 := (sortC_perm ((visM cs).map (·.1))).length_eq
  rw [hks, List.length_map, List.length_map] at h1
  rw [← h1]
  refine Nat.le_trans (List.length_filter_le _ _) ?_
  rw [allC_length]
  exact Nat.le_refl _
theorem visN_le (cs : List Pt) (c : Pt) : 0 ≤ visN cs c ∧ visN cs c ≤ cs.length := by
  have h := visN_range cs cs.length c
  rwa [List.take_length] at h
theorem ofKind_grass {L : Lawn} {W H : Nat} (hW : L.wide = W) (hH : L.high = H) {c : Fin W × Fin H} (h : c ∈ ofKind L W H 0) : grassP L (ptOf c) = true := by
  have hk := (List.mem_filter.1 h).2
  obtain ⟨⟨x, hx⟩, ⟨y, hy⟩⟩ := c
  dsimp only at hk
  show grassB L (x : Int) (y : Int) = true
  have hb : isB L (x : Int) (y : Int) = true := by
    simp only [isB, inB, Bool.and_eq_true, decide_eq_true_eq]
    omega
  unfold grassB
  rw [hb]
  simpa using hk
theorem toQ_pt {W H : Nat} (hW : W ≤ 10) (hH : H ≤ 10) (c : Fin W × Fin H) : ptQ (toQ (ptOf c)) = ptOf c := ptQ_toQ (by
  have := c.1.isLt
  have := c.2.isLt
  unfold ptOf
  dsimp only
  omega)
theorem grass_ofKind {L : Lawn} {W H : Nat} {c : Fin W × Fin H} (h : grassP L (ptOf c) = true) : c ∈ ofKind L W H 0 := by
  obtain ⟨⟨x, hx⟩, ⟨y, hy⟩⟩ := c
  have h : grassB L (x : Int) (y : Int) = true := h
  unfold grassB at h
  rw [Bool.and_eq_true] at h
  exact List.mem_filter.2 ⟨allC_mem _ _ _, by simpa using h.2⟩
section
variable {L : Lawn} {g : Nat → Nat → Int} (hv : levB L g = true) (N : Nat) {W H : Nat} (hW10 : W ≤ 10) (hH10 : H ≤ 10) (hW : L.wide = W) (hH : L.high = H)
include hv hW10 hH10 hW hH
theorem trapW_grass {c : Fin W × Fin H} (hc : c ∈ ofKind L W H 0) : ∀ p ∈ trapW L g N c, grassP L p = true := fun p hp => by
  obtain ⟨d, hd, rfl⟩ := List.mem_map.1 hp
  obtain ⟨i, -, rfl⟩ := List.mem_map.1 hd
  exact (stQ_fine hv (by rw [toQ_pt hW10 hH10]; exact ofKind_grass hW hH hc) i).2
theorem trapC_grass : ∀ p ∈ trapC L g N (ofKind L W H 0), grassP L p = true := fun p hp => by
  obtain ⟨c, hc, hpc⟩ := List.mem_flatMap.1 hp
  have h := (newK_mem _ (N + 1) (by rw [trapW_length]; exact Nat.le_refl _) p).1 hpc
  exact trapW_grass hv N hW10 hH10 hW hH hc p (List.mem_of_mem_take h)
theorem trapC_fin : ∀ p ∈ trapC L g N (ofKind L W H 0), ∃ d : Fin W × Fin H, ptOf d = p := fun p hp => by
  have h := trapC_grass hv N hW10 hH10 hW hH p hp
  obtain ⟨x, y⟩ := p
  have := isB_in (grassB_in (show grassB L x y = true from h))
  refine ⟨(⟨x.toNat, by omega⟩, ⟨y.toNat, by omega⟩), ?_⟩
  unfold ptOf
  dsimp only
  rw [Prod.mk.injEq]
  omega
/-- Every cell of grass has a number, and no other one. -/
theorem trap_up (c : Fin W × Fin H) : decide (0 < visN (trapC L g N (ofKind L W H 0)) (ptOf c)) = (L.kind c.2 c.1 == 0) := by
  have hr := look_range (vis_counts (trapC L g N (ofKind L W H 0))) (ptOf c)
  cases hk : (L.kind c.2 c.1 == 0) with
  | true =>
    have hm : c ∈ ofKind L W H 0 := List.mem_filter.2 ⟨allC_mem _ _ _, hk⟩
    have h0 : ptOf c ∈ trapC L g N (ofKind L W H 0) := List.mem_flatMap.2 ⟨c, hm, (newK_mem _ (N + 1) (by rw [trapW_length]; exact Nat.le_refl _) _).2 (by
      rw [List.take_of_length_le (by rw [trapW_length]; exact Nat.le_refl _)]
      refine List.mem_map.2 ⟨toQ (ptOf c), List.mem_map.2 ⟨0, by simp, rfl⟩, toQ_pt hW10 hH10 c⟩)⟩
    have h1 := visN_up _ (trapC L g N (ofKind L W H 0)).length (Nat.le_refl _) (ptOf c) (by rw [List.take_length]; exact h0)
    rw [List.take_length] at h1
    exact decide_eq_true h1
  | false =>
    refine decide_eq_false fun h => ?_
    have h2 := trapC_grass hv N hW10 hH10 hW hH _ (vis_keys (hr.2.2.2.2 h))
    have h3 := (List.mem_filter.1 (grass_ofKind h2)).2
    rw [hk] at h3
    cases h3
theorem trap_list : (visS (trapC L g N (ofKind L W H 0))).map ptOf = (ofKind L W H 0).map ptOf := by
  have hf := trapC_fin hv N hW10 hH10 hW hH
  have e1 := vis_sorted hf
  have e2 := vis_sorted (W := 10) (H := 10) (fun c hc => by
    obtain ⟨d, rfl⟩ := hf c hc
    exact ⟨toQ (ptOf d), toQ_pt hW10 hH10 d⟩)
  unfold visS
  rw [← e2, e1]
  congr 1
  exact List.filter_congr fun c _ => trap_up hv N hW10 hH10 hW hH c
end
/-- What is told. -/
def trapA (L : Lawn) (g : Nat → Nat → Int) (N W H : Nat) : Pt × Int × Int := mostR (mostL (visN (trapC L g N (ofKind L W H 0))) ((visS (trapC L g N (ofKind L W H 0))).map ptOf))
theorem trapA_best {L : Lawn} {g : Nat → Nat → Int} (hv : levB L g = true) (N : Nat) {W H : Nat} (hW10 : W ≤ 10) (hH10 : H ≤ 10) (hW : L.wide = W) (hH : L.high = H) {d : Fin W × Fin H}
    (hd : bestL (gtN (visN (trapC L g N (ofKind L W H 0)))) (ofKind L W H 0) (ofKind L W H 0).length = some d) : trapA L g N W H = (ptOf d, visN (trapC L g N (ofKind L W H 0)) (ptOf d), 0) := by
  unfold trapA
  rw [trap_list hv N hW10 hH10 hW hH]
  have hp : ∀ c ∈ ofKind L W H 0, 0 < visN (trapC L g N (ofKind L W H 0)) (ptOf c) := fun c hc => of_decide_eq_true (by rw [trap_up hv N hW10 hH10 hW hH]; exact (List.mem_filter.1 hc).2)
  have h := most_best hp (ofKind L W H 0).length (Nat.le_refl _)
  rw [List.take_length, hd] at h
  rw [h]
  have h2 := hp d (bestL_mem _ _ _ hd)
  unfold mostR
  rw [if_neg (by dsimp only; omega)]
theorem trapA_none {L : Lawn} {g : Nat → Nat → Int} (N : Nat) {W H : Nat} (h0 : ofKind L W H 0 = []) : trapA L g N W H = ((0, 0), 0, 6) := by
  unfold trapA
  rw [h0]
  have h2 : visS (trapC L g N ([] : List (Fin W × Fin H))) = [] := List.filter_eq_nil_iff.2 fun c _ => by simp [trapC, visN, visM, alLook]
  rw [h2]
  rfl
end Go.Proofs.YtabemgplddfemaaGreatDoor
