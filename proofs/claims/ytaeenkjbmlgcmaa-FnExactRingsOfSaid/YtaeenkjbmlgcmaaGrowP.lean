/- Regions that draw their order and hold one call whose answer lies in memory that it makes: where it lies hangs on the order that is drawn. -/
import Derived.Test.YtaeenkjbmlgcmaaZD
namespace Go.Proofs.Ytaeenkjbmlgcmaa
open Go.RowKit
set_option linter.unusedVariables false

section
variable {P : Program} {ops : Array Oper}

/-- The operations of dep hang on operation k, by their edges. -/
def depB (ops : Array Oper) (n k : Nat) (dep : List Nat) : Bool :=
  decide (k < n) && dep.all fun j => decide (j < n) && j != k && match ops[j]? with
    | some o => o.after.any fun e => Region.binds .any e && (e.on == k || dep.contains e.on)
    | none => false
theorem depB_at {n k : Nat} {dep : List Nat} (h : depB ops n k dep = true) : k < n ∧ ∀ j, dep.contains j = true → j < n ∧ j ≠ k ∧ ∀ oj, ops[j]? = some oj → ∃ e ∈ oj.after, Region.binds .any e = true ∧ (e.on = k ∨ dep.contains e.on = true) := by
  simp only [depB, Bool.and_eq_true, decide_eq_true_eq, List.all_eq_true] at h
  refine ⟨h.1, fun j hj => ?_⟩
  obtain ⟨⟨h1, h2⟩, h3⟩ := h.2 j (by simpa using hj)
  refine ⟨h1, by simpa using h2, fun oj ho => ?_⟩
  rw [ho] at h3
  obtain ⟨e, he, hb⟩ := Array.any_eq_true'.1 h3
  simp only [Bool.and_eq_true, Bool.or_eq_true, beq_iff_eq] at hb
  exact ⟨e, he, hb.1, hb.2⟩

def valP (vs : Nat → List Value) (p j : Nat) : Value := (vs p).getD j undef
/-- One operation's step: k answers what lies at p, of which I holds from then on; those of dep may lean on I. -/
def stepP (P : Program) (ops : Array Oper) (w0 : World) (k : Nat) (dep : List Nat) (I : Nat → World → Prop) (p j : Nat) (o : Oper) (v : Value) (a : Act) : Prop :=
  if j = k then ∀ w, Below w0.heap.size w0 w → p = w.heap.size → GYR P ops (fun w' => Below w.heap.size w w' ∧ I p w') o v a w
  else if dep.contains j then ∀ w, Below w0.heap.size w0 w → I p w → GYR P ops (fun w' => Below w.heap.size w w') o v a w
  else ∀ w, Below w0.heap.size w0 w → GYR P ops (fun w' => Below w.heap.size w w') o v a w
def seqP (P : Program) (ops : Array Oper) (w0 : World) (k : Nat) (dep : List Nat) (I : Nat → World → Prop) (vs : Nat → List Value) (L : Act → Prop) (p : Nat) : Nat → List Oper → Act → Prop
  | _, [], a => L a
  | j, o :: rest, a => stepP P ops w0 k dep I p j o (valP vs p j) a ∧ seqP P ops w0 k dep I vs L p (j + 1) rest (a.put o.dst (valP vs p j))

theorem seqP_spec {w0 : World} {k : Nat} {dep : List Nat} {I : Nat → World → Prop} {vs : Nat → List Value} {L : Act → Prop} {p n : Nat} {a0 : Act} : ∀ (l : List Oper) (m : Nat), (∀ j, j < l.length → l[j]? = ops[m + j]?) → m + l.length = n →
    seqP P ops w0 k dep I vs L p m l (fill ops (valP vs p) (fun _ => true) a0 m) →
    (∀ (j : Nat) (oj : Oper), m ≤ j → j < n → ops[j]? = some oj → stepP P ops w0 k dep I p j oj (valP vs p j) (fill ops (valP vs p) (fun _ => true) a0 j)) ∧ L (fill ops (valP vs p) (fun _ => true) a0 n)
  | [], m, _, hk, h => by
    have : m = n := by simpa using hk
    subst this
    exact ⟨fun j _ h1 h2 => by omega, h⟩
  | o :: l, m, hl, hk, ⟨hy, h⟩ => by
    have h0 : ops[m]? = some o := by simpa using (hl 0 (by simp)).symm
    have step : fill ops (valP vs p) (fun _ => true) a0 (m + 1) = (fill ops (valP vs p) (fun _ => true) a0 m).put o.dst (valP vs p m) := by
      show (fill ops (valP vs p) (fun _ => true) a0 m).put (dstOf ops m) (valP vs p m) = _
      simp [dstOf, h0]
    rw [← step] at h
    obtain ⟨e2, e3⟩ := seqP_spec (n := n) l (m + 1) (fun j hj => by have := hl (j + 1) (by simp; omega); simpa [Nat.add_assoc, Nat.add_comm 1 j] using this) (by simp at hk; omega) h
    refine ⟨fun j oj h1 h2 hj => ?_, e3⟩
    by_cases e : j = m
    · subst e
      rw [h0] at hj; cases hj
      exact hy
    · exact e2 j oj (by omega) h2 hj

theorem wp_region_growP {id : Nat} {Q : Exit → Act → World → Prop} {a : Act} {w : World} {l : List Oper} (n k : Nat) (dep : List Nat) (I : Nat → World → Prop) (hI : ∀ p w w', I p w → Below w.heap.size w w' → I p w') (vs : Nat → List Value) (hv : ∀ p p' j, j ≠ k → dep.contains j = false → (vs p).getD j undef = (vs p').getD j undef)
    (hm : P.follows .mixedOrders = true) (hB : growB l.toArray n = true) (hD : depB l.toArray n k dep = true)
    (h : ∀ p, seqP P l.toArray w k dep I vs (fun a' => ∀ w', w.heap.size ≤ w'.heap.size → Below w.heap.size w w' → I p w' → wpList P l.toArray Q (l.drop n) a' w') p 0 (l.take n) a) : (Code.region id l.toArray true).wp P Q a w := by
  have ok := growB_ok hB
  obtain ⟨hkn, hdp⟩ := depB_at hD
  have hlen : l.length = n + 1 := by simpa using ok.size
  have hsp := fun p => seqP_spec (n := n) (a0 := a) (ops := l.toArray) (P := P) (l.take n) 0 (fun j hj => by
    have : j < n := by simp at hj; omega
    simp [this]) (by simp; omega) (h p)
  have start : HeadInv .any l.toArray n (Array.replicate l.toArray.size false) :=
    ⟨by simp, (fun j oj _ hl => by rw [getD_replicate_false] at hl; cases hl), fun t _ ht => getD_in (by simpa using ht) (getD_replicate_false _ _)⟩
  have zero : ∀ val : Nat → Value, ∀ k, fill l.toArray val (flag (Array.replicate l.toArray.size false)) a k = a := by
    intro val k
    induction k with
    | zero => rfl
    | succ k ih =>
      show (if flag (Array.replicate l.toArray.size false) k then _ else _) = a
      rw [show flag (Array.replicate l.toArray.size false) k = false from getD_replicate_false _ _]
      exact ih
  have most : ∀ k, left (Array.replicate l.toArray.size false) k ≤ k := by
    intro k
    induction k with
    | zero => exact Nat.le_refl _
    | succ k ih => unfold left; split <;> omega
  refine wp_region_any hm ?_
  have := any_of_state (P := P) (Q := Q) (σ := Nat) (a0 := a) (val := valP vs)
    (J := fun f p w' => Below w.heap.size w w' ∧ (∀ j, dep.contains j = true → f j = true → f k = true) ∧ (f k = true → I p w')) ok
    (fun f p w1 j oj hj hoj hun hd hJ => by
      obtain ⟨hb, hdk, hh⟩ := hJ
      by_cases ejk : j = k
      · subst ejk
        refine ⟨w1.heap.size, fun i hi => ?_, ?_⟩
        · refine hv _ _ i (fun e => by rw [e, hun] at hi; cases hi) ?_
          cases hc : dep.contains i with
          | false => rfl
          | true => have := hdk i hc hi; rw [hun] at this; cases this
        · have hst := (hsp w1.heap.size).1 j oj (Nat.zero_le _) hj hoj
          unfold stepP at hst
          rw [if_pos rfl] at hst
          refine (hst w1 hb rfl).mono fun w' e f' hf' ho => ?_
          exact ⟨below_onto hb e.1, fun i _ _ => hf', fun _ => e.2⟩
      · have hvk : ∀ f' : Nat → Bool, (∀ i, i ≠ j → f' i = f i) → f' k = f k := fun f' ho => ho k (Ne.symm ejk)
        refine ⟨p, fun i _ => rfl, ?_⟩
        have hst := (hsp p).1 j oj (Nat.zero_le _) hj hoj
        unfold stepP at hst
        rw [if_neg ejk] at hst
        cases hc : dep.contains j with
        | true =>
          rw [if_pos hc] at hst
          have hfk : f k = true := by
            obtain ⟨-, -, h3⟩ := hdp j hc
            obtain ⟨e, he, hb, h4⟩ := h3 oj (by simpa using hoj)
            have hl := hd e he hb
            rcases h4 with h4 | h4
            · rwa [h4] at hl
            · exact hdk _ h4 hl
          refine (hst w1 hb (hh hfk)).mono fun w' e f' hf' ho => ?_
          have ek := hvk f' ho
          exact ⟨below_onto hb e, fun i _ _ => ek.trans hfk, fun _ => hI _ _ _ (hh hfk) e⟩
        | false =>
          rw [if_neg (by rw [hc]; simp)] at hst
          refine (hst w1 hb).mono fun w' e f' hf' ho => ?_
          have ek := hvk f' ho
          refine ⟨below_onto hb e, fun i hi hfi => ?_, fun h => hI _ _ _ (hh (by rwa [ek] at h)) e⟩
          rw [ek]
          have hij : i ≠ j := fun e => by rw [e, hc] at hi; cases hi
          exact hdk i hi (by rwa [ho i hij] at hfi))
    (fun f p w1 hall hJ => by
      obtain ⟨hb, -, hh⟩ := hJ
      have hn := (hsp p).2 w1 hb.size hb (hh (hall k hkn))
      have hd : l.drop n = [l[n]] := by
        rw [List.drop_eq_getElem_cons (by omega), List.drop_eq_nil_of_le (by omega)]
      rw [hd] at hn
      unfold wpOp
      have ho : l.toArray[n]? = some l[n] := by simp
      simp only [ho]
      exact hn) n (Array.replicate l.toArray.size false) 0 w.drew start (most n)
      ⟨(Below.refl _ w).drew, (fun j _ h => by rw [show flag (Array.replicate l.toArray.size false) j = false from getD_replicate_false _ _] at h; cases h), fun h => by rw [show flag (Array.replicate l.toArray.size false) k = false from getD_replicate_false _ _] at h; cases h⟩
  rw [zero _ n, ok.size] at this
  rw [ok.size]
  exact this

theorem seqP_nil {w0 : World} {k : Nat} {dep : List Nat} {I : Nat → World → Prop} {vs : Nat → List Value} {L : Act → Prop} {p j : Nat} {a : Act} (h : L a) : seqP P ops w0 k dep I vs L p j [] a := h
theorem seqP_free {w0 : World} {k : Nat} {dep : List Nat} {I : Nat → World → Prop} {vs : Nat → List Value} {L : Act → Prop} {p j : Nat} {o : Oper} {rest : List Oper} {a : Act} (hk : (j == k) = false) (hs : dep.contains j = false) (hg : o.guard = none) {v : Value} (hv : (vs p).getD j undef = v)
    (h : ∀ w, Below w0.heap.size w0 w → ∀ K : Act → World → Prop, (∀ a' w', a' = a.put o.dst v → Below w.heap.size w w' → K a' w') → o.wp P a w K (fun _ _ _ => False)) (hr : seqP P ops w0 k dep I vs L p (j + 1) rest (a.put o.dst v)) :
    seqP P ops w0 k dep I vs L p j (o :: rest) a := by
  have hk' : j ≠ k := by simpa using hk
  have e : valP vs p j = v := hv
  refine ⟨?_, by rw [e]; exact hr⟩
  unfold stepP
  rw [if_neg hk', if_neg (by rw [hs]; simp), e]
  exact fun w hw => GYR.plain hg (h w hw)
theorem seqP_dep {w0 : World} {k : Nat} {dep : List Nat} {I : Nat → World → Prop} {vs : Nat → List Value} {L : Act → Prop} {p j : Nat} {o : Oper} {rest : List Oper} {a : Act} (hk : (j == k) = false) (hs : dep.contains j = true) (hg : o.guard = none) {v : Value} (hv : (vs p).getD j undef = v)
    (h : ∀ w, Below w0.heap.size w0 w → I p w → ∀ K : Act → World → Prop, (∀ a' w', a' = a.put o.dst v → Below w.heap.size w w' → K a' w') → o.wp P a w K (fun _ _ _ => False)) (hr : seqP P ops w0 k dep I vs L p (j + 1) rest (a.put o.dst v)) :
    seqP P ops w0 k dep I vs L p j (o :: rest) a := by
  have hk' : j ≠ k := by simpa using hk
  have e : valP vs p j = v := hv
  refine ⟨?_, by rw [e]; exact hr⟩
  unfold stepP
  rw [if_neg hk', if_pos hs, e]
  exact fun w hw hi => GYR.plain hg (h w hw hi)
theorem seqP_call {w0 : World} {k : Nat} {dep : List Nat} {I : Nat → World → Prop} {vs : Nat → List Value} {L : Act → Prop} {p j : Nat} {o : Oper} {rest : List Oper} {a : Act} (hk : (j == k) = true) (hg : o.guard = none) {v : Value} (hv : (vs p).getD j undef = v)
    (h : ∀ w, Below w0.heap.size w0 w → p = w.heap.size → ∀ K : Act → World → Prop, (∀ a' w', a' = a.put o.dst v → Below w.heap.size w w' → I p w' → K a' w') → o.wp P a w K (fun _ _ _ => False)) (hr : seqP P ops w0 k dep I vs L p (j + 1) rest (a.put o.dst v)) :
    seqP P ops w0 k dep I vs L p j (o :: rest) a := by
  have hk' : j = k := by simpa using hk
  have e : valP vs p j = v := hv
  refine ⟨?_, by rw [e]; exact hr⟩
  unfold stepP
  rw [if_pos hk', e]
  exact fun w hw hp => GYR.plain hg fun K hK => h w hw hp K fun a' w' ha hb hi => hK a' w' ha ⟨hb, hi⟩
theorem GYR.on {R : World → Prop} {o : Oper} {v : Value} {a : Act} {w : World} (hwt : Region.wanted o (yielded ops a.tmps) = true) (h : ∀ K : Act → World → Prop, (∀ a' w', a' = a.put o.dst v → R w' → K a' w') → o.wp P a w K (fun _ _ _ => False)) : GYR P ops R o v a w := by
  unfold GYR
  rw [if_pos hwt]
  exact h
/-- The same for operations behind a condition that holds. -/
theorem seqP_freeW {w0 : World} {k : Nat} {dep : List Nat} {I : Nat → World → Prop} {vs : Nat → List Value} {L : Act → Prop} {p j : Nat} {o : Oper} {rest : List Oper} {a : Act} (hk : (j == k) = false) (hs : dep.contains j = false) (hwt : Region.wanted o (yielded ops a.tmps) = true) {v : Value} (hv : (vs p).getD j undef = v)
    (h : ∀ w, Below w0.heap.size w0 w → ∀ K : Act → World → Prop, (∀ a' w', a' = a.put o.dst v → Below w.heap.size w w' → K a' w') → o.wp P a w K (fun _ _ _ => False)) (hr : seqP P ops w0 k dep I vs L p (j + 1) rest (a.put o.dst v)) :
    seqP P ops w0 k dep I vs L p j (o :: rest) a := by
  have hk' : j ≠ k := by simpa using hk
  have e : valP vs p j = v := hv
  refine ⟨?_, by rw [e]; exact hr⟩
  unfold stepP
  rw [if_neg hk', if_neg (by rw [hs]; simp), e]
  exact fun w hw => GYR.on hwt (h w hw)
theorem seqP_depW {w0 : World} {k : Nat} {dep : List Nat} {I : Nat → World → Prop} {vs : Nat → List Value} {L : Act → Prop} {p j : Nat} {o : Oper} {rest : List Oper} {a : Act} (hk : (j == k) = false) (hs : dep.contains j = true) (hwt : Region.wanted o (yielded ops a.tmps) = true) {v : Value} (hv : (vs p).getD j undef = v)
    (h : ∀ w, Below w0.heap.size w0 w → I p w → ∀ K : Act → World → Prop, (∀ a' w', a' = a.put o.dst v → Below w.heap.size w w' → K a' w') → o.wp P a w K (fun _ _ _ => False)) (hr : seqP P ops w0 k dep I vs L p (j + 1) rest (a.put o.dst v)) :
    seqP P ops w0 k dep I vs L p j (o :: rest) a := by
  have hk' : j ≠ k := by simpa using hk
  have e : valP vs p j = v := hv
  refine ⟨?_, by rw [e]; exact hr⟩
  unfold stepP
  rw [if_neg hk', if_pos hs, e]
  exact fun w hw hi => GYR.on hwt (h w hw hi)
theorem seqP_callW {w0 : World} {k : Nat} {dep : List Nat} {I : Nat → World → Prop} {vs : Nat → List Value} {L : Act → Prop} {p j : Nat} {o : Oper} {rest : List Oper} {a : Act} (hk : (j == k) = true) (hwt : Region.wanted o (yielded ops a.tmps) = true) {v : Value} (hv : (vs p).getD j undef = v)
    (h : ∀ w, Below w0.heap.size w0 w → p = w.heap.size → ∀ K : Act → World → Prop, (∀ a' w', a' = a.put o.dst v → Below w.heap.size w w' → I p w' → K a' w') → o.wp P a w K (fun _ _ _ => False)) (hr : seqP P ops w0 k dep I vs L p (j + 1) rest (a.put o.dst v)) :
    seqP P ops w0 k dep I vs L p j (o :: rest) a := by
  have hk' : j = k := by simpa using hk
  have e : valP vs p j = v := hv
  refine ⟨?_, by rw [e]; exact hr⟩
  unfold stepP
  rw [if_pos hk', e]
  exact fun w hw hp => GYR.on hwt fun K hK => h w hw hp K fun a' w' ha hb hi => hK a' w' ha ⟨hb, hi⟩
end
end Go.Proofs.Ytaeenkjbmlgcmaa
