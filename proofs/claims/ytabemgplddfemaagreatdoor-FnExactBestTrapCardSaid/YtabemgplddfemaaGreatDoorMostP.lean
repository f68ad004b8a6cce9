/- Where a mole is most often: the pure part. -/
import Derived.Test.YtabemgplddfemaaGreatDoorVisP
import Derived.Test.YtabemgplddfemaaGreatDoorZN
namespace Go.Proofs.YtabemgplddfemaaGreatDoor
open Go.RowKit
set_option linter.unusedVariables false
/-- The cells behind the nights, and what is told of them. -/
def visC (L : Lawn) (g : Nat → Nat → Int) (q : Q10) (N : Nat) : List Pt := ((pathQ L g q N).drop 1).map ptQ
def visA (L : Lawn) (g : Nat → Nat → Int) (q : Q10) (N : Nat) : Pt × Int × Int := mostR (mostL (visN (visC L g q N)) ((visS (visC L g q N)).map ptOf))
theorem visC_q10 (L : Lawn) (g : Nat → Nat → Int) (q : Q10) (N : Nat) : ∀ c ∈ visC L g q N, ∃ d : Q10, ptOf d = c := fun c hc => by
  obtain ⟨d, -, hd⟩ := List.mem_map.1 hc
  exact ⟨d, hd⟩
theorem visC_length (L : Lawn) (g : Nat → Nat → Int) (q : Q10) (N : Nat) : (visC L g q N).length = N := by
  unfold visC
  rw [List.length_map, List.length_drop, pathQ_length]
  omega
theorem visM_length (cs : List Pt) (k : Nat) : (visM (cs.take k)).length ≤ k := Nat.le_trans (vis_counts _).len (by rw [List.length_take]; omega)
theorem visN_range (cs : List Pt) (k : Nat) (c : Pt) : 0 ≤ visN (cs.take k) c ∧ visN (cs.take k) c ≤ k := by
  have h := look_range (vis_counts (cs.take k)) c
  have h2 : (cs.take k).length ≤ k := by rw [List.length_take]; omega
  exact ⟨h.1, by have := h.2.1; unfold visN; omega⟩
theorem visC_get {L : Lawn} {g : Nat → Nat → Int} {q : Q10} {N : Nat} (k : Nat) (c : Pt) (h : (visC L g q N)[k]? = some c) : ∃ d : Q10, c = ((d.1.val : Int), (d.2.val : Int)) ∧ (pathQ L g q N)[1 + k]? = some d := by
  unfold visC at h
  rw [List.getElem?_map, List.getElem?_drop, Option.map_eq_some_iff] at h
  obtain ⟨d, h1, rfl⟩ := h
  exact ⟨d, rfl, h1⟩
theorem visC_grass {L : Lawn} {g : Nat → Nat → Int} (hv : levB L g = true) {q : Q10} (hq : grassP L (ptQ q) = true) (N : Nat) : ∀ c ∈ visC L g q N, grassP L c = true := fun c hc => by
  obtain ⟨d, hd, rfl⟩ := List.mem_map.1 hc
  obtain ⟨i, -, rfl⟩ := List.mem_map.1 (List.mem_of_mem_drop hd)
  exact (stQ_fine hv hq i).2
theorem visC_fin {L : Lawn} {g : Nat → Nat → Int} (hv : levB L g = true) {q : Q10} (hq : grassP L (ptQ q) = true) (N : Nat) {W H : Nat} (hW : L.wide = W) (hH : L.high = H) : ∀ c ∈ visC L g q N, ∃ d : Fin W × Fin H, ptOf d = c := fun c hc => by
  have h := visC_grass hv hq N c hc
  obtain ⟨x, y⟩ := c
  have := isB_in (grassB_in (show grassB L x y = true from h))
  refine ⟨(⟨x.toNat, by omega⟩, ⟨y.toNat, by omega⟩), ?_⟩
  unfold ptOf
  dsimp only
  rw [Prod.mk.injEq]
  omega
theorem visN_up (cs : List Pt) : ∀ k, k ≤ cs.length → ∀ c ∈ cs.take k, 0 < visN (cs.take k) c
  | 0, _, c, h => by simp at h
  | k + 1, hk, c, h => by
    obtain ⟨a, ha⟩ : ∃ a, cs[k]? = some a := ⟨_, List.getElem?_eq_getElem (by omega)⟩
    have e : cs.take (k + 1) = cs.take k ++ [a] := by rw [List.take_add_one, ha]; rfl
    rw [e] at h ⊢
    rw [visN_snoc]
    have h0 := visN_range cs k c
    split
    · omega
    · rename_i hne
      rw [List.mem_append, List.mem_singleton] at h
      exact visN_up cs k (by omega) c (h.resolve_right hne)
theorem most_ge (N : Pt → Int) : ∀ (l : List Pt) (b : Pt × Int), b.2 ≤ (l.foldl (mostStep N) b).2 ∧ ∀ c ∈ l, N c ≤ (l.foldl (mostStep N) b).2
  | [], b => ⟨Int.le_refl _, by simp⟩
  | a :: l, b => by
    obtain ⟨h1, h2⟩ := most_ge N l (mostStep N b a)
    have h3 : b.2 ≤ (mostStep N b a).2 ∧ N a ≤ (mostStep N b a).2 := by
      unfold mostStep
      split
      · dsimp only; omega
      · omega
    rw [List.foldl_cons]
    refine ⟨by omega, fun c hc => ?_⟩
    rw [List.mem_cons] at hc
    rcases hc with rfl | hc
    · omega
    · exact h2 c hc
/-- Once a night was, what is told is what all cells of the lawn say. -/
theorem visA_all {L : Lawn} {g : Nat → Nat → Int} (hv : levB L g = true) {q : Q10} (hq : grassP L (ptQ q) = true) (N : Nat) (hN : 0 < N) {W H : Nat} (hW : L.wide = W) (hH : L.high = H) :
    visA L g q N = ((mostL (visN (visC L g q N)) ((allC W H).map ptOf)).1, (mostL (visN (visC L g q N)) ((allC W H).map ptOf)).2, 0) := by
  unfold visA
  have hf := visC_fin hv hq N hW hH
  rw [vis_most hf (visC_q10 L g q N)]
  have hl := visC_length L g q N
  obtain ⟨cs, hcs⟩ : ∃ cs, visC L g q N = cs := ⟨_, rfl⟩
  rw [hcs] at hf hl ⊢
  obtain ⟨c, hc⟩ : ∃ c, cs[0]? = some c := ⟨_, List.getElem?_eq_getElem (by omega)⟩
  have hm := List.mem_of_getElem? hc
  obtain ⟨d, rfl⟩ := hf c hm
  have h1 := visN_up cs cs.length (Nat.le_refl _) (ptOf d) (by rw [List.take_length]; exact hm)
  rw [List.take_length] at h1
  have h2 := (most_ge (visN cs) ((allC W H).map ptOf) ((0, 0), 0)).2 (ptOf d) (List.mem_map.2 ⟨d, allC_mem _ _ _, rfl⟩)
  unfold mostR
  rw [if_neg]
  unfold mostL
  omega
theorem visA_none (L : Lawn) (g : Nat → Nat → Int) (q : Q10) : visA L g q 0 = ((0, 0), 0, 6) := by
  have h : visC L g q 0 = [] := rfl
  unfold visA
  rw [h]
  have h2 : visS [] = [] := List.filter_eq_nil_iff.2 fun c _ => by simp [visN, visM, alLook]
  rw [h2]
  rfl
/-- How often it is at each cell, as a grid. -/
def visG (cs : List Pt) (y x : Nat) : Int := visN cs ((x : Int), (y : Int))
end Go.Proofs.YtabemgplddfemaaGreatDoor
