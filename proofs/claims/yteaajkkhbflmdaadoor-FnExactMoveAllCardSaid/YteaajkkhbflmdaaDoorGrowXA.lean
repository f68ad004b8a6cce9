/- Regions that draw their order: any operation may answer what is known by what holds of a number, one makes a variable, and one stores to it; what leans on others is done ahead of the store. -/
import Derived.Test.YteaajkkhbflmdaaDoorGrowX
namespace Go.Proofs.YteaajkkhbflmdaaDoor
open Go.RowKit
set_option linter.unusedVariables false

section
variable {P : Program} {ops : Array Oper}

def actXA (P : Program) (ops : Array Oper) (w0 : World) (k S : Nat) (Z C : Array Value) (t : TypeId) (sh : List (Nat → Value)) (I : List (Nat → World → Prop)) (D : List (List Nat)) (s : Nat → Nat) (j : Nat) (o : Oper) (a : Act) : Prop :=
  if j = k then ∀ w, GYX P ops (fun q w' => q = w.heap.size ∧ w' = w.alloc (.cells Z t)) o (shX sh j) a w
  else if j = S then ∀ w, w0.heap.size ≤ s k → Holds w (s k) Z → GYX P ops (fun _ w' => w' = w.setRow (s k) C) o (shX sh j) a w
  else actX P ops w0 sh I D s j o a
def seqXA (P : Program) (ops : Array Oper) (w0 : World) (k S : Nat) (Z C : Array Value) (t : TypeId) (sh : List (Nat → Value)) (I : List (Nat → World → Prop)) (D : List (List Nat)) (s : Nat → Nat) (L : Act → Prop) : Nat → List Oper → Act → Prop
  | _, [], a => L a
  | j, o :: rest, a => actXA P ops w0 k S Z C t sh I D s j o a ∧ seqXA P ops w0 k S Z C t sh I D s L (j + 1) rest (a.put o.dst (shX sh j (s j)))
theorem seqXA_spec {w0 : World} {k S : Nat} {Z C : Array Value} {t : TypeId} {sh : List (Nat → Value)} {I : List (Nat → World → Prop)} {D : List (List Nat)} {s : Nat → Nat} {L : Act → Prop} {n : Nat} {a0 : Act} : ∀ (l : List Oper) (m : Nat), (∀ j, j < l.length → l[j]? = ops[m + j]?) → m + l.length = n →
    seqXA P ops w0 k S Z C t sh I D s L m l (fill ops (valX sh s) (fun _ => true) a0 m) →
    (∀ (j : Nat) (oj : Oper), m ≤ j → j < n → ops[j]? = some oj → actXA P ops w0 k S Z C t sh I D s j oj (fill ops (valX sh s) (fun _ => true) a0 j)) ∧ L (fill ops (valX sh s) (fun _ => true) a0 n)
  | [], m, _, hk, h => by
    have : m = n := by simpa using hk
    subst this
    exact ⟨fun j _ h1 h2 => by omega, h⟩
  | o :: l, m, hl, hk, ⟨hy, h⟩ => by
    have h0 : ops[m]? = some o := by simpa using (hl 0 (by simp)).symm
    have step : fill ops (valX sh s) (fun _ => true) a0 (m + 1) = (fill ops (valX sh s) (fun _ => true) a0 m).put o.dst (shX sh m (s m)) := by
      show (fill ops (valX sh s) (fun _ => true) a0 m).put (dstOf ops m) (valX sh s m) = _
      simp [dstOf, h0, valX]
    rw [← step] at h
    obtain ⟨e2, e3⟩ := seqXA_spec (n := n) l (m + 1) (fun j hj => by have := hl (j + 1) (by simp; omega); simpa [Nat.add_assoc, Nat.add_comm 1 j] using this) (by simp at hk; omega) h
    refine ⟨fun j oj h1 h2 hj => ?_, e3⟩
    by_cases e : j = m
    · subst e
      rw [h0] at hj; cases hj
      exact hy
    · exact e2 j oj (by omega) h2 hj

theorem wp_region_growXA {id : Nat} {Q : Exit → Act → World → Prop} {a : Act} {w : World} {l : List Oper} (n k S : Nat) (Z C : Array Value) (t : TypeId) (sh : List (Nat → Value)) (I : List (Nat → World → Prop)) (D : List (List Nat))
    (hI : ∀ j p w w', inX I j p w → Below w.heap.size w w' → inX I j p w')
    (hIk : ∀ q w', inX I k q w') (hm : P.follows .mixedOrders = true) (hB : growB l.toArray n = true) (hD : depX l.toArray n D = true)
    (hks : (k < n && S < n && k != S && (D.getD S []).contains k && (List.range n).all fun j => (D.getD j []).isEmpty || j == S || (D.getD S []).contains j) = true)
    (h : ∀ s, seqXA P l.toArray w k S Z C t sh I D s (fun a' => ∀ w', w.heap.size ≤ s k → Below w.heap.size w w' → Holds w' (s k) C → wpList P l.toArray Q (l.drop n) a' w') 0 (l.take n) a) : (Code.region id l.toArray true).wp P Q a w := by
  have ok := growB_ok hB
  have hlen : l.length = n + 1 := by simpa using ok.size
  simp only [Bool.and_eq_true, decide_eq_true_eq, bne_iff_ne] at hks
  obtain ⟨⟨⟨⟨hkn, hSn⟩, hne⟩, hSk⟩, hfree⟩ := hks
  have hfr : ∀ j, j < n → j ≠ S → D.getD j [] ≠ [] → j ∈ D.getD S [] := by
    intro j hj hjS hjD
    have := List.all_eq_true.1 hfree j (List.mem_range.2 hj)
    simp only [Bool.or_eq_true, List.isEmpty_iff, beq_iff_eq, List.contains_iff_mem] at this
    rcases this with (h1 | h1) | h1
    · exact absurd h1 hjD
    · exact absurd h1 hjS
    · exact h1
  have hSk' : k ∈ D.getD S [] := by simpa using hSk
  have hsp := fun s => seqXA_spec (n := n) (a0 := a) (ops := l.toArray) (P := P) (l.take n) 0 (fun j hj => by
    have : j < n := by simp at hj; omega
    simp [this]) (by simp; omega) (h s)
  have start : HeadInv .any l.toArray n (Array.replicate l.toArray.size false) :=
    ⟨by simp, (fun j oj _ hl => by rw [getD_replicate_false] at hl; cases hl), fun t _ ht => getD_in (by simpa using ht) (getD_replicate_false _ _)⟩
  have zero : ∀ val : Nat → Value, ∀ k, fill l.toArray val (flag (Array.replicate l.toArray.size false)) a k = a := by
    intro val k
    induction k with
    | zero => rfl
    | succ k ih =>
      show (if flag (Array.replicate l.toArray.size false) k then _ else _) = a
      rw [show flag (Array.replicate l.toArray.size false) k = false from getD_replicate_false _ _]
      exact ih
  have most : ∀ k, left (Array.replicate l.toArray.size false) k ≤ k := by
    intro k
    induction k with
    | zero => exact Nat.le_refl _
    | succ k ih => unfold left; split <;> omega
  refine wp_region_any hm ?_
  have := any_of_stateX (P := P) (Q := Q) (σ := Nat → Nat) (a0 := a) (val := valX sh)
    (J := fun f s w' => Below w.heap.size w w' ∧ (∀ j, j < n → f j = true → (f S = false → inX I j (s j) w') ∧ ∀ i, i ∈ D.getD j [] → f i = true) ∧ (f k = true → w.heap.size ≤ s k ∧ Holds w' (s k) (if f S then C else Z))) ok
    (fun f s w1 j oj hj hoj hun hd hJ => by
      obtain ⟨hb, hh, hH⟩ := hJ
      have hdj : ∀ i, i ∈ D.getD j [] → i < n ∧ f i = true := by
        intro i hi
        have h1 := List.all_eq_true.1 (List.all_eq_true.1 hD j (List.mem_range.2 hj)) i hi
        rw [hoj] at h1
        simp only [Bool.and_eq_true, decide_eq_true_eq] at h1
        obtain ⟨e, he, hb⟩ := Array.any_eq_true'.1 h1.2
        simp only [Bool.and_eq_true, Bool.or_eq_true, beq_iff_eq, decide_eq_true_eq] at hb
        have hl := hd e he hb.1
        rcases hb.2 with h4 | h4
        · rw [h4] at hl; exact ⟨h1.1, hl⟩
        · exact ⟨h1.1, (hh e.on h4.1 hl).2 i (by simpa using h4.2)⟩
      have hst := (hsp s).1 j oj (Nat.zero_le _) hj hoj
      unfold actXA at hst
      by_cases ejk : j = k
      · rw [if_pos ejk] at hst
        have hfS : f S = false := by
          cases e : f S with
          | false => rfl
          | true => have := (hh S hSn e).2 k hSk'; rw [← ejk, hun] at this; cases this
        refine (hst w1).map (fun q i => if i = j then q else s i) (fun q => by simp [valX]) fun q w' hr => ⟨fun i hi => ?_, fun f' hf' ho => ?_⟩
        · have : i ≠ j := fun e => by rw [e, hun] at hi; cases hi
          simp [valX, this]
        · obtain ⟨rfl, rfl⟩ := hr
          have hS' : f' S = false := (ho S (by rw [ejk]; exact Ne.symm hne)).trans hfS
          refine ⟨hb.alloc hb.size _, fun i hin hfi => ?_, fun _ => ?_⟩
          · by_cases e : i = j
            · subst e
              refine ⟨fun _ => ?_, fun m hm => ?_⟩
              · exact ejk ▸ hIk _ _
              · by_cases em : m = i
                · rw [em]; exact hf'
                · rw [ho m em]; exact (hdj m hm).2
            · rw [ho i e] at hfi
              obtain ⟨h1, h2⟩ := hh i hin hfi
              refine ⟨fun _ => by simpa [e] using hI i _ _ _ (h1 hfS) ((Below.refl _ w1).alloc (Nat.le_refl _) _), fun m hm => ?_⟩
              by_cases em : m = j
              · rw [em]; exact hf'
              · rw [ho m em]; exact h2 m hm
          · rw [hS']
            simp only [← ejk, if_true]
            exact ⟨hb.size, Holds.new _ _ _⟩
      · rw [if_neg ejk] at hst
        by_cases ejS : j = S
        · rw [if_pos ejS] at hst
          obtain ⟨hp, hHH⟩ := hH (hdj k (by rw [ejS]; exact hSk')).2
          rw [← ejS, hun] at hHH
          refine (hst w1 hp hHH).map (fun q i => if i = j then q else s i) (fun q => by simp [valX]) fun q w' hr => ⟨fun i hi => ?_, fun f' hf' ho => ?_⟩
          · have : i ≠ j := fun e => by rw [e, hun] at hi; cases hi
            simp [valX, this]
          · subst hr
            rw [ejS] at hf'
            refine ⟨below_setRow' hb hp _, fun i hin hfi => ⟨fun hc => (by rw [hf'] at hc; cases hc), fun m hm => ?_⟩, fun _ => ?_⟩
            · by_cases em : m = j
              · rw [em, ejS]; exact hf'
              · by_cases e : i = j
                · rw [ho m em]; exact (hdj m (by rw [← e]; exact hm)).2
                · rw [ho i e] at hfi; rw [ho m em]; exact (hh i hin hfi).2 m hm
            · show w.heap.size ≤ (if k = j then q else s k) ∧ Holds _ (if k = j then q else s k) _
              rw [hf', if_neg (Ne.symm ejk)]
              exact ⟨hp, by simpa using hHH.setRow C⟩
        · rw [if_neg ejS] at hst
          have hfacts : ∀ i, i ∈ D.getD j [] → inX I i (s i) w1 := fun i hi => by
            refine (hh i (hdj i hi).1 (hdj i hi).2).1 ?_
            cases e : f S with
            | false => rfl
            | true =>
              have := (hh S hSn e).2 j (hfr j hj ejS (fun h0 => by rw [h0] at hi; cases hi))
              rw [hun] at this; cases this
          refine (hst w1 hb hfacts).map (fun q i => if i = j then q else s i) (fun q => by simp [valX]) fun q w' hr => ⟨fun i hi => ?_, fun f' hf' ho => ?_⟩
          · have : i ≠ j := fun e => by rw [e, hun] at hi; cases hi
            simp [valX, this]
          · have hS' := ho S (Ne.symm ejS)
            have hk' := ho k (Ne.symm ejk)
            refine ⟨below_onto hb hr.1, fun i hin hfi => ?_, fun hfk => ?_⟩
            · by_cases e : i = j
              · subst e
                refine ⟨fun _ => by simpa using hr.2, fun m hm => ?_⟩
                by_cases em : m = i
                · rw [em]; exact hf'
                · rw [ho m em]; exact (hdj m hm).2
              · rw [ho i e] at hfi
                obtain ⟨h1, h2⟩ := hh i hin hfi
                refine ⟨fun hc => by simpa [e] using hI i _ _ _ (h1 (hS' ▸ hc)) hr.1, fun m hm => ?_⟩
                by_cases em : m = j
                · rw [em]; exact hf'
                · rw [ho m em]; exact h2 m hm
            · rw [hk'] at hfk
              obtain ⟨hp, hHH⟩ := hH hfk
              show w.heap.size ≤ (if k = j then q else s k) ∧ Holds _ (if k = j then q else s k) _
              rw [hS', if_neg (Ne.symm ejk)]
              exact ⟨hp, hHH.below hr.1 hHH.lt⟩)
    (fun f s w1 hall hJ => by
      obtain ⟨hb, -, hH⟩ := hJ
      obtain ⟨hp, hHH⟩ := hH (hall k hkn)
      rw [hall S hSn] at hHH
      have hn := (hsp s).2 w1 hp hb hHH
      have hd : l.drop n = [l[n]] := by
        rw [List.drop_eq_getElem_cons (by omega), List.drop_eq_nil_of_le (by omega)]
      rw [hd] at hn
      unfold wpOp
      have ho : l.toArray[n]? = some l[n] := by simp
      simp only [ho]
      exact hn) n (Array.replicate l.toArray.size false) (fun _ => 0) w.drew start (most n)
      ⟨(Below.refl _ w).drew, (fun j _ h => by rw [show flag (Array.replicate l.toArray.size false) j = false from getD_replicate_false _ _] at h; cases h), (fun h => by rw [show flag (Array.replicate l.toArray.size false) k = false from getD_replicate_false _ _] at h; cases h)⟩
  rw [zero _ n, ok.size] at this
  rw [ok.size]
  exact this
end

section
variable {P : Program} {ops : Array Oper} {w0 : World} {k S : Nat} {Z C : Array Value} {t : TypeId} {sh : List (Nat → Value)} {I : List (Nat → World → Prop)} {D : List (List Nat)} {s : Nat → Nat} {L : Act → Prop} {j : Nat} {o : Oper} {rest : List Oper} {a : Act}
theorem seqXA_nil (h : L a) : seqXA P ops w0 k S Z C t sh I D s L j [] a := h
/-- An operation that answers a known value. -/
theorem seqXA_lit (hk : (j == k) = false) (hS : (j == S) = false) (hg : o.guard = none) {v : Value} (hv : ∀ q, shX sh j q = v) (hI : ∀ q w, inX I j q w)
    (h : ∀ w, Below w0.heap.size w0 w → (∀ i, i ∈ D.getD j [] → inX I i (s i) w) → ∀ K : Act → World → Prop, (∀ a' w', a' = a.put o.dst v → Below w.heap.size w w' → K a' w') → o.wp P a w K (fun _ _ _ => False)) (hr : seqXA P ops w0 k S Z C t sh I D s L (j + 1) rest (a.put o.dst v)) :
    seqXA P ops w0 k S Z C t sh I D s L j (o :: rest) a := by
  have hk' : j ≠ k := by simpa using hk
  have hS' : j ≠ S := by simpa using hS
  refine ⟨?_, by rw [hv]; exact hr⟩
  unfold actXA
  rw [if_neg hk', if_neg hS']
  intro w hw hd
  unfold GYX
  rw [if_pos (by simp [Region.wanted, hg])]
  exact fun K hK => h w hw hd K fun a' w' ha hb => hK 0 a' w' (ha.trans (congrArg (a.put o.dst) (hv 0).symm)) ⟨hb, hI _ _⟩
/-- An operation that answers what hangs on a number. -/
theorem seqXA_num (hk : (j == k) = false) (hS : (j == S) = false) (hg : o.guard = none) {v : Nat → Value} (hv : ∀ q, shX sh j q = v q)
    (h : ∀ w, Below w0.heap.size w0 w → (∀ i, i ∈ D.getD j [] → inX I i (s i) w) → ∀ K : Act → World → Prop, (∀ q a' w', a' = a.put o.dst (v q) → Below w.heap.size w w' → inX I j q w' → K a' w') → o.wp P a w K (fun _ _ _ => False)) (hr : seqXA P ops w0 k S Z C t sh I D s L (j + 1) rest (a.put o.dst (v (s j)))) :
    seqXA P ops w0 k S Z C t sh I D s L j (o :: rest) a := by
  have hk' : j ≠ k := by simpa using hk
  have hS' : j ≠ S := by simpa using hS
  refine ⟨?_, by rw [hv]; exact hr⟩
  unfold actXA
  rw [if_neg hk', if_neg hS']
  intro w hw hd
  unfold GYX
  rw [if_pos (by simp [Region.wanted, hg])]
  exact fun K hK => h w hw hd K fun q a' w' ha hb hi => hK q a' w' (ha.trans (congrArg (a.put o.dst) (hv q).symm)) ⟨hb, hi⟩
/-- The operation that makes the variable. -/
theorem seqXA_make (hk : (j == k) = true) (hg : o.guard = none) (hv : ∀ q, shX sh j q = .pointer (some ⟨q, 0, none⟩))
    (h : ∀ w, ∀ K : Act → World → Prop, (∀ a', a' = a.put o.dst (.pointer (some ⟨w.heap.size, 0, none⟩)) → K a' (w.alloc (.cells Z t))) → o.wp P a w K (fun _ _ _ => False)) (hr : seqXA P ops w0 k S Z C t sh I D s L (j + 1) rest (a.put o.dst (.pointer (some ⟨s k, 0, none⟩)))) :
    seqXA P ops w0 k S Z C t sh I D s L j (o :: rest) a := by
  have hk' : j = k := by simpa using hk
  subst hk'
  refine ⟨?_, by rw [hv]; exact hr⟩
  unfold actXA
  rw [if_pos rfl]
  intro w
  unfold GYX
  rw [if_pos (by simp [Region.wanted, hg])]
  exact fun K hK => h w K fun a' ha => hK w.heap.size a' _ (by rw [hv]; exact ha) ⟨rfl, rfl⟩
/-- The store to it. -/
theorem seqXA_store (hk : (j == k) = false) (hS : (j == S) = true) (hg : o.guard = none) (hd : o.dst = none)
    (h : ∀ w, w0.heap.size ≤ s k → Holds w (s k) Z → ∀ K : Act → World → Prop, K a (w.setRow (s k) C) → o.wp P a w K (fun _ _ _ => False)) (hr : seqXA P ops w0 k S Z C t sh I D s L (j + 1) rest a) :
    seqXA P ops w0 k S Z C t sh I D s L j (o :: rest) a := by
  have hk' : j ≠ k := by simpa using hk
  have hS' : j = S := by simpa using hS
  have e : ∀ v, a.put o.dst v = a := fun v => by rw [hd]; rfl
  refine ⟨?_, by rw [e]; exact hr⟩
  unfold actXA
  rw [if_neg hk', if_pos hS']
  intro w hp hH
  unfold GYX
  rw [if_pos (by simp [Region.wanted, hg])]
  exact fun K hK => h w hp hH K (hK 0 a _ (e _).symm rfl)
end
end Go.Proofs.YteaajkkhbflmdaaDoor
