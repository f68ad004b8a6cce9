/- FirstWhole: how many letters are enough, as counted by the program's map and by the model's lists. -/
import Derived.Test.YtlfmadnhjleofaaSMownBy
import Derived.Test.YtlfmadnhjleofaaStripeP
namespace Go.Proofs.Ytlfmadnhjleofaa
open Go.RowKit
set_option linter.unusedVariables false

theorem nodup_le {α : Type} [DecidableEq α] : ∀ (l m : List α), l.Nodup → (∀ x ∈ l, x ∈ m) → l.length ≤ m.length
  | [], m, _, _ => by simp
  | a :: l, m, hn, hs => by
    have ha : a ∈ m := hs a (by simp)
    have h1 := nodup_le l (m.erase a) (List.nodup_cons.1 hn).2 (fun x hx => by
      have : x ≠ a := fun e => (List.nodup_cons.1 hn).1 (e ▸ hx)
      exact (List.mem_erase_of_ne this).2 (hs x (by simp [hx])))
    rw [List.length_erase_of_mem ha] at h1
    have := List.length_pos_of_mem ha
    simp; omega
theorem alPut_fst {κ ν : Type} [DecidableEq κ] (l : List (κ × ν)) (k : κ) (v : ν) : (alPut l k v).map (·.1) = if k ∈ l.map (·.1) then l.map (·.1) else l.map (·.1) ++ [k] := by
  induction l with
  | nil => simp [alPut]
  | cons p l ih =>
    obtain ⟨a, u⟩ := p
    simp only [alPut]
    by_cases h : k = a
    · subst h; simp
    · simp only [h, if_false, List.map_cons, ih, List.mem_cons, false_or]
      split <;> simp

theorem timeN_mem (L : Lawn) (c : Pt) (cs : List Pt) : ∀ k, k ≤ cs.length → (0 < timeN L (cs.take k) c ↔ grassP L c = true ∧ c ∈ cs.take k)
  | 0, _ => by simp [timeN_nil]
  | k + 1, h => by
    have ih := timeN_mem L c cs k (by omega)
    have h0 := (timeN_range L c cs k (by omega)).1
    rw [List.take_add_one, List.getElem?_eq_getElem (by omega), Option.toList_some, timeN_snoc, List.mem_append, List.mem_singleton]
    by_cases g : grassP L cs[k] = true ∧ c = cs[k]
    · rw [if_pos g]
      exact ⟨fun _ => ⟨by rw [g.2]; exact g.1, .inr g.2⟩, fun _ => by omega⟩
    · rw [if_neg g, ih]
      constructor
      · rintro ⟨a, b⟩; exact ⟨a, .inl b⟩
      · rintro ⟨a, b | b⟩
        · exact ⟨a, b⟩
        · exact absurd ⟨b ▸ a, b⟩ g

/-- The map of cells that are mown. -/
def setM (L : Lawn) (cs : List Pt) : List (Pt × Bool) := cs.foldl (fun m c => if grassP L c then alPut m c true else m) []
theorem setM_snoc (L : Lawn) (cs : List Pt) (a : Pt) : setM L (cs ++ [a]) = if grassP L a then alPut (setM L cs) a true else setM L cs := by simp [setM, List.foldl_append]
theorem setM_keys (L : Lawn) (cs : List Pt) : ∀ k, k ≤ cs.length → ((setM L (cs.take k)).map (·.1)).Nodup ∧ ∀ c, c ∈ (setM L (cs.take k)).map (·.1) ↔ grassP L c = true ∧ c ∈ cs.take k
  | 0, _ => by simp [setM]
  | k + 1, h => by
    obtain ⟨h1, h2⟩ := setM_keys L cs k (by omega)
    rw [List.take_add_one, List.getElem?_eq_getElem (by omega), Option.toList_some, setM_snoc]
    by_cases g : grassP L cs[k] = true
    · rw [if_pos g, alPut_fst]
      by_cases m : cs[k] ∈ (setM L (cs.take k)).map (·.1)
      · rw [if_pos m]
        refine ⟨h1, fun c => ?_⟩
        rw [h2, List.mem_append, List.mem_singleton]
        constructor
        · rintro ⟨a, b⟩; exact ⟨a, .inl b⟩
        · rintro ⟨a, b | b⟩
          · exact ⟨a, b⟩
          · rw [b]; exact (h2 _).1 m
      · rw [if_neg m]
        refine ⟨?_, fun c => ?_⟩
        · rw [List.nodup_append]
          refine ⟨h1, by simp, ?_⟩
          intro a ha b hb e
          simp at hb
          subst hb; subst e
          exact m ha
        · rw [List.mem_append, List.mem_singleton, h2, List.mem_append, List.mem_singleton]
          constructor
          · rintro (⟨a, b⟩ | rfl)
            · exact ⟨a, .inl b⟩
            · exact ⟨g, .inr rfl⟩
          · rintro ⟨a, b | b⟩
            · exact .inl ⟨a, b⟩
            · exact .inr b
    · rw [if_neg g]
      refine ⟨h1, fun c => ?_⟩
      rw [h2, List.mem_append, List.mem_singleton]
      constructor
      · rintro ⟨a, b⟩; exact ⟨a, .inl b⟩
      · rintro ⟨a, b | b⟩
        · exact ⟨a, b⟩
        · exact absurd (b ▸ a) g
theorem setM_length (L : Lawn) (cs : List Pt) : ∀ k, k ≤ cs.length → (setM L (cs.take k)).length ≤ k
  | 0, _ => by simp [setM]
  | k + 1, h => by
    have ih := setM_length L cs k (by omega)
    rw [List.take_add_one, List.getElem?_eq_getElem (by omega), Option.toList_some, setM_snoc]
    split
    · have := alPut_length_le (setM L (cs.take k)) cs[k] true
      omega
    · omega

def ptC {W H : Nat} (c : Fin W × Fin H) : Pt := ((c.1.val : Int), (c.2.val : Int))
theorem ptC_inj {W H : Nat} {a b : Fin W × Fin H} (h : ptC a = ptC b) : a = b := by
  obtain ⟨⟨a1, _⟩, ⟨a2, _⟩⟩ := a
  obtain ⟨⟨b1, _⟩, ⟨b2, _⟩⟩ := b
  simp only [ptC, Prod.mk.injEq] at h
  simp only [Prod.mk.injEq, Fin.mk.injEq]
  omega
theorem map_nodup {α β : Type} {f : α → β} (hf : ∀ a b, f a = f b → a = b) : ∀ {l : List α}, l.Nodup → (l.map f).Nodup
  | [], _ => by simp
  | a :: l, h => by
    rw [List.map_cons, List.nodup_cons]
    refine ⟨fun hm => ?_, map_nodup hf (List.nodup_cons.1 h).2⟩
    obtain ⟨b, hb, e⟩ := List.mem_map.1 hm
    exact (List.nodup_cons.1 h).1 (hf _ _ e ▸ hb)

/-- After k cells all grass is mown, if the map has as many cells as there is grass. -/
theorem set_full {L : Lawn} {W H : Nat} (hW : L.wide = W) (hH : L.high = H) (cs : List Pt) (k : Nat) (hk : k ≤ cs.length) :
    (filtB (mownB L (cs.take k) false) (allC W H)).length = 0 ↔ (setM L (cs.take k)).length = (ofKind L W H 0).length := by
  obtain ⟨hn, hm⟩ := setM_keys L cs k hk
  have hgn : ((ofKind L W H 0).map ptC).Nodup := map_nodup (fun a b h => ptC_inj h) ((allC_nodup W H).filter _)
  have hgm : ∀ c : Pt, c ∈ (ofKind L W H 0).map ptC ↔ grassP L c = true := by
    intro c
    simp only [List.mem_map, ofKind, List.mem_filter]
    constructor
    · rintro ⟨q, ⟨-, hq⟩, rfl⟩
      have h1 : isB L ((q.1 : Nat) : Int) ((q.2 : Nat) : Int) = true := isB_fin hW hH q
      simp only [grassP, grassB, ptC, h1, Bool.true_and]
      simpa using hq
    · intro h
      have h1 := isB_in (grassB_in h)
      refine ⟨(⟨c.1.toNat, by omega⟩, ⟨c.2.toNat, by omega⟩), ⟨allC_mem _ _ _, ?_⟩, ?_⟩
      · simp only [grassP, grassB, Bool.and_eq_true] at h
        simpa using h.2
      · simp only [ptC]
        exact Prod.ext (by simp; omega) (by simp; omega)
  have hsub : ∀ c ∈ (setM L (cs.take k)).map (·.1), c ∈ (ofKind L W H 0).map ptC := fun c hc => (hgm c).2 ((hm c).1 hc).1
  have h1 := nodup_le _ _ hn hsub
  rw [List.length_map, List.length_map] at h1
  have hall : (filtB (mownB L (cs.take k) false) (allC W H)).length = 0 ↔ ∀ c ∈ (ofKind L W H 0).map ptC, c ∈ (setM L (cs.take k)).map (·.1) := by
    rw [List.length_eq_zero_iff]
    unfold filtB
    rw [List.filter_eq_nil_iff]
    constructor
    · intro h c hc
      have hg := (hgm c).1 hc
      obtain ⟨q, -, rfl⟩ := List.mem_map.1 hc
      refine (hm _).2 ⟨hg, ?_⟩
      have hg' : grassB L ((q.1 : Nat) : Int) ((q.2 : Nat) : Int) = true := hg
      by_cases ht : 0 < timeN L (cs.take k) (ptC q)
      · exact ((timeN_mem L _ cs k hk).1 ht).2
      · exact absurd (show mownB L (cs.take k) false q.2 q.1 = true by
          simp only [mownB, hg', Bool.true_and]
          rw [decide_eq_false (show ¬ 0 < timeN L (cs.take k) (((q.1 : Nat) : Int), ((q.2 : Nat) : Int)) from ht)]
          rfl) (h q (allC_mem _ _ _))
    · intro h q hq hb
      simp only [mownB, Bool.and_eq_true, beq_iff_eq, decide_eq_false_iff_not] at hb
      exact hb.2 ((timeN_mem L _ cs k hk).2 ((hm _).1 (h (ptC q) ((hgm _).2 hb.1))))
  rw [hall]
  constructor
  · intro h
    have := nodup_le _ _ hgn h
    rw [List.length_map, List.length_map] at this
    omega
  · intro he c hc
    by_cases hin : c ∈ (setM L (cs.take k)).map (·.1)
    · exact hin
    · have := nodup_le (c :: (setM L (cs.take k)).map (·.1)) _ (List.nodup_cons.2 ⟨hin, hn⟩) (fun x hx => by
        rcases List.mem_cons.1 hx with rfl | hx
        · exact hc
        · exact hsub x hx)
      simp only [List.length_cons, List.length_map] at this
      omega

/-- An own row cut at its end. -/
theorem own_cut2 {w : World} {B : Nat} {e : TypeId} {size n m g cap : Nat} {xs : List Value} (h : w.ownsRow B e size (.slice (some ⟨g, 0, none⟩) n cap) n xs) (hm : m ≤ n) :
    w.ownsRow B e size (.slice (some ⟨g, 0, none⟩) m cap) m (xs.take (m * size)) := by
  obtain ⟨hl, h | ⟨g', cap', cur, he, hb, hg, hn, hc, hs, hx⟩⟩ := h
  · simp at h
  · simp only [Value.slice.injEq, Option.some.injEq, Addr.mk.injEq, and_true, true_and] at he
    obtain ⟨rfl, rfl⟩ := he
    have hms : m * size ≤ n * size := Nat.mul_le_mul_right _ hm
    refine ⟨by rw [List.length_take]; omega, .inr ⟨g, cap, cur, rfl, hb, hg, by omega, hc, hs, ?_⟩⟩
    rw [← hx, List.take_take, Nat.min_eq_left hms]
theorem own_room2 {w : World} {B : Nat} {e : TypeId} {size n g cap : Nat} {xs : List Value} (h : w.ownsRow B e size (.slice (some ⟨g, 0, none⟩) n cap) n xs) : n ≤ cap := by
  obtain ⟨hl, h | ⟨g', cap', cur, he, hb, hg, hn, hc, hs, hx⟩⟩ := h
  · simp at h
  · simp only [Value.slice.injEq, Option.some.injEq, Addr.mk.injEq, and_true, true_and] at he
    obtain ⟨rfl, rfl⟩ := he
    exact hn
theorem flatP_take : ∀ (l : List Pt) (k : Nat), (flatP l).take (k * 2) = flatP (l.take k)
  | [], k => by simp [flatP]
  | a :: l, 0 => by simp [flatP]
  | a :: l, k + 1 => by
    have := flatP_take l k
    simp only [flatP, List.flatMap_cons, List.take_succ_cons] at *
    rw [show (k + 1) * 2 = k * 2 + 1 + 1 by omega]
    simp [List.take_succ_cons, this]
end Go.Proofs.Ytlfmadnhjleofaa
