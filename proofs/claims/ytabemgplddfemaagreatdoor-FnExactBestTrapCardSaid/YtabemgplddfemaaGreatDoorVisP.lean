/- How often cells come in a list, and the first one that comes most often: the pure part. -/
import Derived.Test.YtabemgplddfemaaGreatDoorZL
import Derived.Test.YtabemgplddfemaaGreatDoorZK
import Derived.Test.YtabemgplddfemaaGreatDoorMoleP
import Derived.Test.YtabemgplddfemaaGreatDoorDepthP
namespace Go.Proofs.YtabemgplddfemaaGreatDoor
open Go.RowKit
set_option linter.unusedVariables false

/-- A map that counts has the numbers from 1 to n, each cell once. -/
structure Counts (m : Found) (n : Nat) : Prop where
  nodup : (m.map (·.1)).Nodup
  val : ∀ p ∈ m, 1 ≤ p.2 ∧ p.2 ≤ n
  len : m.length ≤ n
theorem alPut_keys (m : Found) (a : Pt) (v : Int) : (alPut m a v).map (·.1) = if a ∈ m.map (·.1) then m.map (·.1) else m.map (·.1) ++ [a] := by
  induction m with
  | nil => simp [alPut]
  | cons p m ih =>
    obtain ⟨b, u⟩ := p
    simp only [alPut]
    by_cases h : a = b
    · subst h; simp
    · simp only [h, if_false, List.map_cons, ih, List.mem_cons, false_or]
      split <;> simp
theorem alPut_mem (m : Found) (a : Pt) (v : Int) (p : Pt × Int) (hp : p ∈ alPut m a v) : p = (a, v) ∨ p ∈ m := by
  induction m with
  | nil => simp [alPut] at hp; exact .inl hp
  | cons q m ih =>
    obtain ⟨b, u⟩ := q
    simp only [alPut] at hp
    by_cases h : a = b
    · subst h
      rw [if_pos rfl, List.mem_cons] at hp
      rcases hp with hp | hp
      · exact .inl hp
      · exact .inr (List.mem_cons_of_mem _ hp)
    · rw [if_neg h, List.mem_cons] at hp
      rcases hp with hp | hp
      · exact .inr (by rw [hp]; simp)
      · rcases ih hp with h2 | h2
        · exact .inl h2
        · exact .inr (List.mem_cons_of_mem _ h2)
theorem look_range {m : Found} {n : Nat} (h : Counts m n) (c : Pt) : 0 ≤ (alLook m c).getD 0 ∧ (alLook m c).getD 0 ≤ n ∧ ((alLook m c).isSome = decide (0 < (alLook m c).getD 0)) ∧ (c ∈ m.map (·.1) ↔ 0 < (alLook m c).getD 0) := by
  cases hk : alLook m c with
  | none =>
    have := alLook_none hk
    simp [this]
  | some v =>
    have hm := alLook_in hk
    have hv := h.val _ hm
    dsimp only at hv
    have : c ∈ m.map (·.1) := List.mem_map.2 ⟨_, hm, rfl⟩
    simp only [Option.getD_some, Option.isSome_some]
    refine ⟨by omega, by omega, ?_, ⟨fun _ => by omega, fun _ => this⟩⟩
    simp; omega
theorem counts_put {m : Found} {n : Nat} (h : Counts m n) (a : Pt) : Counts (alPut m a ((alLook m a).getD 0 + 1)) (n + 1) := by
  have hr := look_range h a
  refine ⟨?_, fun p hp => ?_, ?_⟩
  · rw [alPut_keys]
    split
    · exact h.nodup
    · rename_i hn
      rw [List.nodup_append]
      exact ⟨h.nodup, by simp, fun x hx y hy => by rw [List.mem_singleton.1 hy]; exact fun e => hn (e ▸ hx)⟩
  · rcases alPut_mem _ _ _ _ hp with rfl | h2
    · dsimp only; omega
    · have := h.val _ h2; omega
  · have := alPut_length_le m a ((alLook m a).getD 0 + 1)
    have := h.len
    omega
/-- How often each cell comes. -/
def visM (cs : List Pt) : Found := cs.foldl (fun m a => alPut m a ((alLook m a).getD 0 + 1)) []
def visN (cs : List Pt) (c : Pt) : Int := (alLook (visM cs) c).getD 0
theorem visM_snoc (cs : List Pt) (a : Pt) : visM (cs ++ [a]) = alPut (visM cs) a (visN cs a + 1) := by simp [visM, visN]
theorem visN_snoc (cs : List Pt) (a c : Pt) : visN (cs ++ [a]) c = if c = a then visN cs c + 1 else visN cs c := by
  unfold visN
  rw [visM_snoc, alLook_put]
  by_cases h : c = a
  · subst h; simp [visN]
  · simp [h]
theorem counts_fold : ∀ (cs : List Pt) (m : Found) (n : Nat), Counts m n → Counts (cs.foldl (fun m a => alPut m a ((alLook m a).getD 0 + 1)) m) (n + cs.length)
  | [], m, n, h => h
  | a :: cs, m, n, h => by
    rw [List.foldl_cons, List.length_cons, show n + (cs.length + 1) = (n + 1) + cs.length by omega]
    exact counts_fold cs _ _ (counts_put h a)
theorem vis_counts (cs : List Pt) : Counts (visM cs) cs.length := by
  have := counts_fold cs [] 0 ⟨by simp, fun p hp => by simp at hp, by simp⟩
  rw [Nat.zero_add] at this
  exact this
theorem visM_keys_in : ∀ (cs : List Pt) (m : Found), (∀ c, c ∈ (cs.foldl (fun m a => alPut m a ((alLook m a).getD 0 + 1)) m).map (·.1) → c ∈ m.map (·.1) ∨ c ∈ cs)
  | [], m, c, h => .inl h
  | a :: cs, m, c, h => by
    rw [List.foldl_cons] at h
    rcases visM_keys_in cs _ c h with h2 | h2
    · rw [alPut_keys] at h2
      split at h2
      · exact .inl h2
      · rw [List.mem_append, List.mem_singleton] at h2
        rcases h2 with h2 | h2
        · exact .inl h2
        · exact .inr (by rw [h2]; simp)
    · exact .inr (List.mem_cons_of_mem _ h2)
theorem vis_keys {cs : List Pt} {c : Pt} (h : c ∈ (visM cs).map (·.1)) : c ∈ cs := by
  rcases visM_keys_in cs [] c h with h2 | h2
  · simp at h2
  · exact h2

/-- The first cell with the greatest number. -/
def mostStep (N : Pt → Int) (b : Pt × Int) (c : Pt) : Pt × Int := if b.2 < N c then (c, N c) else b
def mostL (N : Pt → Int) (l : List Pt) : Pt × Int := l.foldl (mostStep N) ((0, 0), 0)
theorem mostL_snoc (N : Pt → Int) (l : List Pt) (c : Pt) : mostL N (l ++ [c]) = mostStep N (mostL N l) c := by simp [mostL]
theorem mostStep_up (N : Pt → Int) (b : Pt × Int) (c : Pt) (h : 0 ≤ b.2) : 0 ≤ (mostStep N b c).2 := by
  unfold mostStep; split
  · dsimp only; omega
  · exact h
theorem most_filter {N : Pt → Int} : ∀ (l : List Pt) (b : Pt × Int), 0 ≤ b.2 → (l.filter fun c => decide (0 < N c)).foldl (mostStep N) b = l.foldl (mostStep N) b
  | [], b, _ => rfl
  | c :: l, b, hb => by
    by_cases h : 0 < N c
    · rw [List.filter_cons_of_pos (by simpa using h), List.foldl_cons, List.foldl_cons]
      exact most_filter l _ (mostStep_up N b c hb)
    · rw [List.filter_cons_of_neg (by simpa using h), List.foldl_cons]
      have : mostStep N b c = b := by unfold mostStep; rw [if_neg (by omega)]
      rw [this]
      exact most_filter l _ hb
def gtN {W H : Nat} (N : Pt → Int) (c d : Fin W × Fin H) : Bool := decide (N (ptOf d) < N (ptOf c))
theorem most_best {W H : Nat} {N : Pt → Int} {l : List (Fin W × Fin H)} (hp : ∀ c ∈ l, 0 < N (ptOf c)) : ∀ i, i ≤ l.length → mostL N ((l.take i).map ptOf) = (match bestL (gtN N) l i with | none => ((0, 0), 0) | some c => (ptOf c, N (ptOf c)))
  | 0, _ => by simp [mostL, bestL]
  | i + 1, hi => by
    obtain ⟨c, hc⟩ : ∃ c, l[i]? = some c := ⟨_, List.getElem?_eq_getElem (by omega)⟩
    have ih := most_best hp i (by omega)
    rw [List.take_add_one, hc, List.map_append, bestL_succ _ hc]
    show mostL N (_ ++ [ptOf c]) = _
    rw [mostL_snoc, ih]
    have h0 := hp c (List.mem_of_getElem? hc)
    cases bestL (gtN N) l i with
    | none => simp [mostStep, pickL, h0]
    | some d =>
      simp only [pickL, mostStep, gtN]
      by_cases h : N (ptOf d) < N (ptOf c)
      · simp [h]
      · simp [h]
/-- The cells that come, in their order. -/
def visS (cs : List Pt) : List Q10 := (allC 10 10).filter fun c => decide (0 < visN cs (ptOf c))
theorem vis_sorted {cs : List Pt} {W H : Nat} (h : ∀ c ∈ cs, ∃ d : Fin W × Fin H, ptOf d = c) : sortC ((visM cs).map (·.1)) = ((allC W H).filter fun c => decide (0 < visN cs (ptOf c))).map ptOf := by
  have hc := vis_counts cs
  refine sortC_filt _ hc.nodup fun c => ?_
  have hr := look_range hc c
  constructor
  · intro h1
    obtain ⟨d, rfl⟩ := h c (vis_keys h1)
    exact List.mem_map.2 ⟨d, List.mem_filter.2 ⟨allC_mem _ _ _, decide_eq_true (hr.2.2.2.1 h1)⟩, rfl⟩
  · intro h1
    obtain ⟨d, hd, rfl⟩ := List.mem_map.1 h1
    obtain ⟨-, hd2⟩ := List.mem_filter.1 hd
    exact hr.2.2.2.2 (of_decide_eq_true hd2)
/-- What the map's sorted keys say is what all cells say. -/
theorem vis_most {cs : List Pt} {W H : Nat} (h : ∀ c ∈ cs, ∃ d : Fin W × Fin H, ptOf d = c) (h10 : ∀ c ∈ cs, ∃ d : Q10, ptOf d = c) : mostL (visN cs) ((visS cs).map ptOf) = mostL (visN cs) ((allC W H).map ptOf) := by
  have e1 := vis_sorted h
  have e2 := vis_sorted h10
  unfold visS
  rw [← e2, e1]
  unfold mostL
  rw [← most_filter ((allC W H).map ptOf) _ (by simp), List.filter_map]
  rfl
/-- What is told of the cell that comes most often. -/
def mostR (b : Pt × Int) : Pt × Int × Int := if b.2 ≤ 0 then ((0, 0), 0, 6) else (b.1, b.2, 0)
def cellNN3 (r : Pt × Int × Int) : Value := .tuple #[.agg #[.int .i8 r.1.1, .int .i8 r.1.2], .int .i64 r.2.1, .int .i64 r.2.2]
end Go.Proofs.YtabemgplddfemaaGreatDoor
