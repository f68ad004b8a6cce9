/- Regions that draw their order, of which some operations store into blocks that the others do not look at (results, as a rule); all others grow. -/
import Derived.Test.YtabemgplddfemaaGreatDoorZD
import Derived.Test.YtabemgplddfemaaGreatDoorZB
namespace Go.Proofs.YtabemgplddfemaaGreatDoor
open Go.RowKit
set_option linter.unusedVariables false

/-- A store: which operation, which block, what lay there and what then lies there. -/
structure StoreAt where
  s : Nat
  g : Nat
  Z : Array Value
  C : Array Value

section
variable {P : Program} {ops : Array Oper}
def stepS (P : Program) (ops : Array Oper) (w0 : World) (ss : List StoreAt) (j : Nat) (o : Oper) (v : Value) (a : Act) : Prop :=
  match ss.find? (fun e => e.s == j) with
  | some e => ∀ w, Only (ss.map (·.g)) w0 w → Holds w e.g e.Z → GYR P ops (fun w' => w' = w.setRow e.g e.C) o v a w
  | none => ∀ w, Only (ss.map (·.g)) w0 w → GYR P ops (fun w' => Below w.heap.size w w') o v a w
def seqS (P : Program) (ops : Array Oper) (w0 : World) (ss : List StoreAt) (vs : List Value) (L : Act → Prop) : Nat → List Oper → Act → Prop
  | _, [], a => L a
  | j, o :: rest, a => stepS P ops w0 ss j o (vs.getD j undef) a ∧ seqS P ops w0 ss vs L (j + 1) rest (a.put o.dst (vs.getD j undef))
theorem seqS_spec {w0 : World} {ss : List StoreAt} {vs : List Value} {L : Act → Prop} {n : Nat} {a0 : Act} : ∀ (l : List Oper) (m : Nat), (∀ j, j < l.length → l[j]? = ops[m + j]?) → m + l.length = n →
    seqS P ops w0 ss vs L m l (fill ops (fun j => vs.getD j undef) (fun _ => true) a0 m) →
    (∀ (j : Nat) (oj : Oper), m ≤ j → j < n → ops[j]? = some oj → stepS P ops w0 ss j oj (vs.getD j undef) (fill ops (fun j => vs.getD j undef) (fun _ => true) a0 j)) ∧ L (fill ops (fun j => vs.getD j undef) (fun _ => true) a0 n)
  | [], m, _, hk, h => by
    have : m = n := by simpa using hk
    subst this
    exact ⟨fun j _ h1 h2 => by omega, h⟩
  | o :: l, m, hl, hk, ⟨hy, h⟩ => by
    have h0 : ops[m]? = some o := by simpa using (hl 0 (by simp)).symm
    have step : fill ops (fun j => vs.getD j undef) (fun _ => true) a0 (m + 1) = (fill ops (fun j => vs.getD j undef) (fun _ => true) a0 m).put o.dst (vs.getD m undef) := by
      show (fill ops (fun j => vs.getD j undef) (fun _ => true) a0 m).put (dstOf ops m) (vs.getD m undef) = _
      simp [dstOf, h0]
    rw [← step] at h
    obtain ⟨e2, e3⟩ := seqS_spec (n := n) l (m + 1) (fun j hj => by have := hl (j + 1) (by simp; omega); simpa [Nat.add_assoc, Nat.add_comm 1 j] using this) (by simp at hk; omega) h
    refine ⟨fun j oj h1 h2 hj => ?_, e3⟩
    by_cases e : j = m
    · subst e
      rw [h0] at hj; cases hj
      exact hy
    · exact e2 j oj (by omega) h2 hj

theorem wp_region_growS {id : Nat} {Q : Exit → Act → World → Prop} {a : Act} {w : World} {l : List Oper} (n : Nat) (ss : List StoreAt) (vs : List Value) (hm : P.follows .mixedOrders = true) (hB : growB l.toArray n = true)
    (hs : ∀ e ∈ ss, e.s < n) (h1 : ∀ e ∈ ss, ∀ e' ∈ ss, e.s = e'.s → e = e') (h2 : ∀ e ∈ ss, ∀ e' ∈ ss, e.g = e'.g → e = e') (hZ : ∀ e ∈ ss, Holds w e.g e.Z)
    (h : seqS P l.toArray w ss vs (fun a' => ∀ w', Only (ss.map (·.g)) w w' → (∀ e ∈ ss, Holds w' e.g e.C) → wpList P l.toArray Q (l.drop n) a' w') 0 (l.take n) a) : (Code.region id l.toArray true).wp P Q a w := by
  have ok := growB_ok hB
  have hlen : l.length = n + 1 := by simpa using ok.size
  have hsp := seqS_spec (n := n) (a0 := a) (ops := l.toArray) (P := P) (l.take n) 0 (fun j hj => by
    have : j < n := by simp at hj; omega
    simp [this]) (by simp; omega) h
  have start : HeadInv .any l.toArray n (Array.replicate l.toArray.size false) :=
    ⟨by simp, (fun j oj _ hl => by rw [getD_replicate_false] at hl; cases hl), fun t _ ht => getD_in (by simpa using ht) (getD_replicate_false _ _)⟩
  have zero : ∀ val : Nat → Value, ∀ k, fill l.toArray val (flag (Array.replicate l.toArray.size false)) a k = a := by
    intro val k
    induction k with
    | zero => rfl
    | succ k ih =>
      show (if flag (Array.replicate l.toArray.size false) k then _ else _) = a
      rw [show flag (Array.replicate l.toArray.size false) k = false from getD_replicate_false _ _]
      exact ih
  have most : ∀ k, left (Array.replicate l.toArray.size false) k ≤ k := by
    intro k
    induction k with
    | zero => exact Nat.le_refl _
    | succ k ih => unfold left; split <;> omega
  refine wp_region_any hm ?_
  have := any_of_state (P := P) (Q := Q) (σ := Unit) (a0 := a) (val := fun _ j => vs.getD j undef)
    (J := fun f _ w' => Only (ss.map (·.g)) w w' ∧ ∀ e ∈ ss, Holds w' e.g (if f e.s then e.C else e.Z)) ok
    (fun f p w1 j oj hj hoj hun hd hJ => by
      obtain ⟨hO, hH⟩ := hJ
      refine ⟨(), fun i _ => rfl, ?_⟩
      have hst := hsp.1 j oj (Nat.zero_le _) hj hoj
      unfold stepS at hst
      cases hf : ss.find? (fun e => e.s == j) with
      | some e =>
        rw [hf] at hst
        have hes : e.s = j := by simpa using List.find?_some hf
        have hem := List.mem_of_find?_eq_some hf
        have hHe := hH e hem
        rw [hes, hun] at hHe
        refine (hst w1 hO hHe).mono fun w' ew f' hf' ho => ?_
        subst ew
        refine ⟨hO.setRow (.inl (List.mem_map.2 ⟨e, hem, rfl⟩)) _, fun e' he' => ?_⟩
        by_cases ee : e'.g = e.g
        · have := h2 e' he' e hem ee
          subst this
          rw [hes, hf']
          exact hHe.setRow _
        · have hne : e'.s ≠ j := fun h => ee (by rw [h1 e' he' e hem (h.trans hes.symm)])
          rw [ho _ hne]
          exact (hH e' he').setRow_other _ ee
      | none =>
        rw [hf] at hst
        refine (hst w1 hO).mono fun w' hb f' hf' ho => ?_
        refine ⟨hO.onto hb, fun e' he' => ?_⟩
        have hne : e'.s ≠ j := by
          have := List.find?_eq_none.1 hf e' he'
          simpa using this
        rw [ho _ hne]
        exact (hH e' he').below hb (hH e' he').lt)
    (fun f p w1 hall hJ => by
      obtain ⟨hO, hH⟩ := hJ
      have hn := hsp.2 w1 hO (fun e he => by
        have := hH e he
        rwa [hall e.s (hs e he)] at this)
      have hd : l.drop n = [l[n]] := by
        rw [List.drop_eq_getElem_cons (by omega), List.drop_eq_nil_of_le (by omega)]
      rw [hd] at hn
      unfold wpOp
      have ho : l.toArray[n]? = some l[n] := by simp
      simp only [ho]
      exact hn) n (Array.replicate l.toArray.size false) () w.drew start (most n)
      ⟨(Only.refl _ w).drew, fun e he => by rw [show flag (Array.replicate l.toArray.size false) e.s = false from getD_replicate_false _ _]; exact hZ e he⟩
  rw [zero _ n, ok.size] at this
  rw [ok.size]
  exact this

/-- One store. -/
theorem wp_region_growS1 {id : Nat} {Q : Exit → Act → World → Prop} {a : Act} {w : World} {l : List Oper} (n s g : Nat) (Z C : Array Value) (vs : List Value) (hm : P.follows .mixedOrders = true) (hB : growB l.toArray n = true)
    (hs : s < n) (hZ : Holds w g Z)
    (h : seqS P l.toArray w [⟨s, g, Z, C⟩] vs (fun a' => ∀ w', Only [g] w w' → Holds w' g C → wpList P l.toArray Q (l.drop n) a' w') 0 (l.take n) a) : (Code.region id l.toArray true).wp P Q a w := by
  refine wp_region_growS n [⟨s, g, Z, C⟩] vs hm hB (by simpa using hs) (by simp) (by simp) (by simpa using hZ) ?_
  simp only [List.map_cons, List.map_nil, List.mem_singleton, forall_eq]
  exact h

theorem seqS_nil {w0 : World} {ss : List StoreAt} {vs : List Value} {L : Act → Prop} {j : Nat} {a : Act} (h : L a) : seqS P ops w0 ss vs L j [] a := h
theorem seqS_other {w0 : World} {ss : List StoreAt} {vs : List Value} {L : Act → Prop} {j : Nat} {o : Oper} {rest : List Oper} {a : Act} (hf : ss.find? (fun e => e.s == j) = none) (hg : o.guard = none) {v : Value} (hv : vs.getD j undef = v)
    (h : ∀ w, Only (ss.map (·.g)) w0 w → ∀ K : Act → World → Prop, (∀ a' w', a' = a.put o.dst v → Below w.heap.size w w' → K a' w') → o.wp P a w K (fun _ _ _ => False)) (hr : seqS P ops w0 ss vs L (j + 1) rest (a.put o.dst v)) :
    seqS P ops w0 ss vs L j (o :: rest) a := by
  refine ⟨?_, by rw [hv]; exact hr⟩
  unfold stepS
  rw [hf, hv]
  exact fun w hw => GYR.plain hg (h w hw)
theorem seqS_store {w0 : World} {ss : List StoreAt} {vs : List Value} {L : Act → Prop} {j : Nat} {o : Oper} {rest : List Oper} {a : Act} {e : StoreAt} (hf : ss.find? (fun e => e.s == j) = some e) (hg : o.guard = none) (hd : o.dst = none)
    (h : ∀ w, Only (ss.map (·.g)) w0 w → Holds w e.g e.Z → ∀ K : Act → World → Prop, K a (w.setRow e.g e.C) → o.wp P a w K (fun _ _ _ => False)) (hr : seqS P ops w0 ss vs L (j + 1) rest a) :
    seqS P ops w0 ss vs L j (o :: rest) a := by
  have e0 : ∀ v, a.put o.dst v = a := fun v => by rw [hd]; rfl
  refine ⟨?_, by rw [e0]; exact hr⟩
  unfold stepS
  rw [hf]
  exact fun w hO hH => GYR.plain hg fun K hK => h w hO hH K (hK a _ (e0 _).symm rfl)
end
end Go.Proofs.YtabemgplddfemaaGreatDoor
