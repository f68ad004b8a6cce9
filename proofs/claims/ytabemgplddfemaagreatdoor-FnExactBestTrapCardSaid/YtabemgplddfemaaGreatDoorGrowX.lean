/- Regions that draw their order: any operation may answer what is known by what holds of a number: where a block lies, say. -/
import Derived.Test.YtabemgplddfemaaGreatDoorGrowV
namespace Go.Proofs.YtabemgplddfemaaGreatDoor
open Go.RowKit
set_option linter.unusedVariables false

section
variable {P : Program} {ops : Array Oper}

theorem GYX.map {σ τ : Type} (f : σ → τ) {R : σ → World → Prop} {R' : τ → World → Prop} {o : Oper} {v : σ → Value} {v' : τ → Value} {a : Act} {w : World} (h : GYX P ops R o v a w) (hv : ∀ s, v' (f s) = v s) (hr : ∀ s w', R s w' → R' (f s) w') : GYX P ops R' o v' a w := by
  unfold GYX at h ⊢
  split
  · rename_i hwt
    rw [if_pos hwt] at h
    exact fun K hK => h K fun s a' w' e r => hK (f s) a' w' (by rw [hv]; exact e) (hr s w' r)
  · rename_i hwt
    rw [if_neg hwt] at h
    obtain ⟨s, h1, h2⟩ := h
    exact ⟨f s, (hv s).trans h1, hr s w h2⟩

def shX (sh : List (Nat → Value)) (j : Nat) : Nat → Value := sh.getD j (fun _ => undef)
def inX (I : List (Nat → World → Prop)) (j : Nat) : Nat → World → Prop := I.getD j (fun _ _ => True)
def depX (ops : Array Oper) (n : Nat) (D : List (List Nat)) : Bool :=
  (List.range n).all fun j => (D.getD j []).all fun i => decide (i < n) && match ops[j]? with
    | some o => o.after.any fun e => Region.binds .any e && (e.on == i || (decide (e.on < n) && (D.getD e.on []).contains i))
    | none => false
/-- One operation's step: it may lean on what is known of those in its list. -/
def actX (P : Program) (ops : Array Oper) (w0 : World) (sh : List (Nat → Value)) (I : List (Nat → World → Prop)) (D : List (List Nat)) (s : Nat → Nat) (j : Nat) (o : Oper) (a : Act) : Prop :=
  ∀ w, Below w0.heap.size w0 w → (∀ i, i ∈ D.getD j [] → inX I i (s i) w) → GYX P ops (fun q w' => Below w.heap.size w w' ∧ inX I j q w') o (shX sh j) a w
def seqX (P : Program) (ops : Array Oper) (w0 : World) (sh : List (Nat → Value)) (I : List (Nat → World → Prop)) (D : List (List Nat)) (s : Nat → Nat) (L : Act → Prop) : Nat → List Oper → Act → Prop
  | _, [], a => L a
  | j, o :: rest, a => actX P ops w0 sh I D s j o a ∧ seqX P ops w0 sh I D s L (j + 1) rest (a.put o.dst (shX sh j (s j)))
def valX (sh : List (Nat → Value)) (s : Nat → Nat) (j : Nat) : Value := shX sh j (s j)
theorem seqX_spec {w0 : World} {sh : List (Nat → Value)} {I : List (Nat → World → Prop)} {D : List (List Nat)} {s : Nat → Nat} {L : Act → Prop} {n : Nat} {a0 : Act} : ∀ (l : List Oper) (m : Nat), (∀ j, j < l.length → l[j]? = ops[m + j]?) → m + l.length = n →
    seqX P ops w0 sh I D s L m l (fill ops (valX sh s) (fun _ => true) a0 m) →
    (∀ (j : Nat) (oj : Oper), m ≤ j → j < n → ops[j]? = some oj → actX P ops w0 sh I D s j oj (fill ops (valX sh s) (fun _ => true) a0 j)) ∧ L (fill ops (valX sh s) (fun _ => true) a0 n)
  | [], m, _, hk, h => by
    have : m = n := by simpa using hk
    subst this
    exact ⟨fun j _ h1 h2 => by omega, h⟩
  | o :: l, m, hl, hk, ⟨hy, h⟩ => by
    have h0 : ops[m]? = some o := by simpa using (hl 0 (by simp)).symm
    have step : fill ops (valX sh s) (fun _ => true) a0 (m + 1) = (fill ops (valX sh s) (fun _ => true) a0 m).put o.dst (shX sh m (s m)) := by
      show (fill ops (valX sh s) (fun _ => true) a0 m).put (dstOf ops m) (valX sh s m) = _
      simp [dstOf, h0, valX]
    rw [← step] at h
    obtain ⟨e2, e3⟩ := seqX_spec (n := n) l (m + 1) (fun j hj => by have := hl (j + 1) (by simp; omega); simpa [Nat.add_assoc, Nat.add_comm 1 j] using this) (by simp at hk; omega) h
    refine ⟨fun j oj h1 h2 hj => ?_, e3⟩
    by_cases e : j = m
    · subst e
      rw [h0] at hj; cases hj
      exact hy
    · exact e2 j oj (by omega) h2 hj

theorem wp_region_growX {id : Nat} {Q : Exit → Act → World → Prop} {a : Act} {w : World} {l : List Oper} (n : Nat) (sh : List (Nat → Value)) (I : List (Nat → World → Prop)) (D : List (List Nat))
    (hI : ∀ j p w w', inX I j p w → Below w.heap.size w w' → inX I j p w')
    (hm : P.follows .mixedOrders = true) (hB : growB l.toArray n = true) (hD : depX l.toArray n D = true)
    (h : ∀ s, seqX P l.toArray w sh I D s (fun a' => ∀ w', Below w.heap.size w w' → (∀ i, i < n → inX I i (s i) w') → wpList P l.toArray Q (l.drop n) a' w') 0 (l.take n) a) : (Code.region id l.toArray true).wp P Q a w := by
  have ok := growB_ok hB
  have hlen : l.length = n + 1 := by simpa using ok.size
  have hsp := fun s => seqX_spec (n := n) (a0 := a) (ops := l.toArray) (P := P) (l.take n) 0 (fun j hj => by
    have : j < n := by simp at hj; omega
    simp [this]) (by simp; omega) (h s)
  have start : HeadInv .any l.toArray n (Array.replicate l.toArray.size false) :=
    ⟨by simp, (fun j oj _ hl => by rw [getD_replicate_false] at hl; cases hl), fun t _ ht => getD_in (by simpa using ht) (getD_replicate_false _ _)⟩
  have zero : ∀ val : Nat → Value, ∀ k, fill l.toArray val (flag (Array.replicate l.toArray.size false)) a k = a := by
    intro val k
    induction k with
    | zero => rfl
    | succ k ih =>
      show (if flag (Array.replicate l.toArray.size false) k then _ else _) = a
      rw [show flag (Array.replicate l.toArray.size false) k = false from getD_replicate_false _ _]
      exact ih
  have most : ∀ k, left (Array.replicate l.toArray.size false) k ≤ k := by
    intro k
    induction k with
    | zero => exact Nat.le_refl _
    | succ k ih => unfold left; split <;> omega
  refine wp_region_any hm ?_
  have := any_of_stateX (P := P) (Q := Q) (σ := Nat → Nat) (a0 := a) (val := valX sh)
    (J := fun f s w' => Below w.heap.size w w' ∧ ∀ j, j < n → f j = true → inX I j (s j) w' ∧ ∀ i, i ∈ D.getD j [] → f i = true) ok
    (fun f s w1 j oj hj hoj hun hd hJ => by
      obtain ⟨hb, hh⟩ := hJ
      have hdj : ∀ i, i ∈ D.getD j [] → i < n ∧ f i = true := by
        intro i hi
        have h1 := List.all_eq_true.1 (List.all_eq_true.1 hD j (List.mem_range.2 hj)) i hi
        rw [hoj] at h1
        simp only [Bool.and_eq_true, decide_eq_true_eq] at h1
        obtain ⟨e, he, hb⟩ := Array.any_eq_true'.1 h1.2
        simp only [Bool.and_eq_true, Bool.or_eq_true, beq_iff_eq, decide_eq_true_eq] at hb
        have hl := hd e he hb.1
        rcases hb.2 with h4 | h4
        · rw [h4] at hl; exact ⟨h1.1, hl⟩
        · exact ⟨h1.1, (hh e.on h4.1 hl).2 i (by simpa using h4.2)⟩
      have hst := (hsp s).1 j oj (Nat.zero_le _) hj hoj w1 hb fun i hi => (hh i (hdj i hi).1 (hdj i hi).2).1
      refine hst.map (fun q i => if i = j then q else s i) (fun q => by simp [valX]) fun q w' hr => ⟨fun i hi => ?_, fun f' hf' ho => ⟨below_onto hb hr.1, fun i hin hfi => ?_⟩⟩
      · have : i ≠ j := fun e => by rw [e, hun] at hi; cases hi
        simp [valX, this]
      · by_cases e : i = j
        · subst e
          refine ⟨by simpa using hr.2, fun k hk => ?_⟩
          by_cases ek : k = i
          · rw [ek]; exact hf'
          · rw [ho k ek]; exact (hdj k hk).2
        · rw [ho i e] at hfi
          obtain ⟨h1, h2⟩ := hh i hin hfi
          refine ⟨by simpa [e] using hI i _ _ _ h1 hr.1, fun k hk => ?_⟩
          by_cases ek : k = j
          · rw [ek]; exact hf'
          · rw [ho k ek]; exact h2 k hk)
    (fun f s w1 hall hJ => by
      obtain ⟨hb, hh⟩ := hJ
      have hn := (hsp s).2 w1 hb fun i hi => (hh i hi (hall i hi)).1
      have hd : l.drop n = [l[n]] := by
        rw [List.drop_eq_getElem_cons (by omega), List.drop_eq_nil_of_le (by omega)]
      rw [hd] at hn
      unfold wpOp
      have ho : l.toArray[n]? = some l[n] := by simp
      simp only [ho]
      exact hn) n (Array.replicate l.toArray.size false) (fun _ => 0) w.drew start (most n)
      ⟨(Below.refl _ w).drew, (fun j _ h => by rw [show flag (Array.replicate l.toArray.size false) j = false from getD_replicate_false _ _] at h; cases h)⟩
  rw [zero _ n, ok.size] at this
  rw [ok.size]
  exact this

theorem seqX_nil {w0 : World} {sh : List (Nat → Value)} {I : List (Nat → World → Prop)} {D : List (List Nat)} {s : Nat → Nat} {L : Act → Prop} {j : Nat} {a : Act} (h : L a) : seqX P ops w0 sh I D s L j [] a := h
/-- An operation that answers a known value. -/
theorem seqX_lit {w0 : World} {sh : List (Nat → Value)} {I : List (Nat → World → Prop)} {D : List (List Nat)} {s : Nat → Nat} {L : Act → Prop} {j : Nat} {o : Oper} {rest : List Oper} {a : Act} (hg : o.guard = none) {v : Value} (hv : ∀ q, shX sh j q = v) (hI : ∀ q w, inX I j q w)
    (h : ∀ w, Below w0.heap.size w0 w → (∀ i, i ∈ D.getD j [] → inX I i (s i) w) → ∀ K : Act → World → Prop, (∀ a' w', a' = a.put o.dst v → Below w.heap.size w w' → K a' w') → o.wp P a w K (fun _ _ _ => False)) (hr : seqX P ops w0 sh I D s L (j + 1) rest (a.put o.dst v)) :
    seqX P ops w0 sh I D s L j (o :: rest) a := by
  refine ⟨?_, by rw [hv]; exact hr⟩
  intro w hw hd
  unfold GYX
  rw [if_pos (by simp [Region.wanted, hg])]
  exact fun K hK => h w hw hd K fun a' w' ha hb => hK 0 a' w' (ha.trans (congrArg (a.put o.dst) (hv 0).symm)) ⟨hb, hI _ _⟩
/-- An operation that answers what hangs on a number. -/
theorem seqX_num {w0 : World} {sh : List (Nat → Value)} {I : List (Nat → World → Prop)} {D : List (List Nat)} {s : Nat → Nat} {L : Act → Prop} {j : Nat} {o : Oper} {rest : List Oper} {a : Act} (hg : o.guard = none) {v : Nat → Value} (hv : ∀ q, shX sh j q = v q)
    (h : ∀ w, Below w0.heap.size w0 w → (∀ i, i ∈ D.getD j [] → inX I i (s i) w) → ∀ K : Act → World → Prop, (∀ q a' w', a' = a.put o.dst (v q) → Below w.heap.size w w' → inX I j q w' → K a' w') → o.wp P a w K (fun _ _ _ => False)) (hr : seqX P ops w0 sh I D s L (j + 1) rest (a.put o.dst (v (s j)))) :
    seqX P ops w0 sh I D s L j (o :: rest) a := by
  refine ⟨?_, by rw [hv]; exact hr⟩
  intro w hw hd
  unfold GYX
  rw [if_pos (by simp [Region.wanted, hg])]
  exact fun K hK => h w hw hd K fun q a' w' ha hb hi => hK q a' w' (ha.trans (congrArg (a.put o.dst) (hv q).symm)) ⟨hb, hi⟩
end
end Go.Proofs.YtabemgplddfemaaGreatDoor
