/- Regions that draw their order: growing operations, one of which makes a block whose address comes into slots; behind them a sequence. -/
import Derived.Test.YtaeenkjbmlgcmaaGrowP
import Derived.Test.YtaeenkjbmlgcmaaZD
namespace Go.Proofs.Ytaeenkjbmlgcmaa
open Go.RowKit
set_option linter.unusedVariables false

section
variable {P : Program}
theorem wp_region_growMP {id : Nat} {Q : Exit → Act → World → Prop} {a : Act} {w : World} {l : List Oper} (n k : Nat) (dep : List Nat) (I : Nat → World → Prop) (hI : ∀ p w w', I p w → Below w.heap.size w w' → I p w') (vs : Nat → List Value) (hv : ∀ p p' j, j ≠ k → dep.contains j = false → (vs p).getD j undef = (vs p').getD j undef)
    (hm : P.follows .mixedOrders = true) (hnl : n ≤ l.length) (hB : growKB l.toArray n = true) (hS : Region.seqB .any l.toArray (l.length - n) n (listedTo n (l.length - n)) = true) (hD : depB l.toArray n k dep = true)
    (h : ∀ p, seqP P l.toArray w k dep I vs (fun a' => ∀ w', w.heap.size ≤ w'.heap.size → Below w.heap.size w w' → I p w' → wpList P l.toArray Q (l.drop n) a' w') p 0 (l.take n) a) : (Code.region id l.toArray true).wp P Q a w := by
  have ok := growKB_ok hB
  obtain ⟨hkn, hdp⟩ := depB_at hD
  have hsp := fun p => seqP_spec (n := n) (a0 := a) (ops := l.toArray) (P := P) (l.take n) 0 (fun j hj => by
    have : j < n := by simp at hj; omega
    simp [this]) (by simp; omega) (h p)
  have start : HeadInv .any l.toArray n (Array.replicate l.toArray.size false) :=
    ⟨by simp, (fun j oj _ hl => by rw [getD_replicate_false] at hl; cases hl), fun t _ ht => getD_in (by simpa using ht) (getD_replicate_false _ _)⟩
  have zero : ∀ val : Nat → Value, ∀ k, fill l.toArray val (flag (Array.replicate l.toArray.size false)) a k = a := by
    intro val k
    induction k with
    | zero => rfl
    | succ k ih =>
      show (if flag (Array.replicate l.toArray.size false) k then _ else _) = a
      rw [show flag (Array.replicate l.toArray.size false) k = false from getD_replicate_false _ _]
      exact ih
  have full : left (Array.replicate l.toArray.size false) n = n := by
    have : ∀ k, left (Array.replicate l.toArray.size false) k = k := by
      intro k
      induction k with
      | zero => rfl
      | succ k ih => unfold left; rw [ih, show flag (Array.replicate l.toArray.size false) k = false from getD_replicate_false _ _]; rfl
    exact this _
  refine wp_region_any hm ?_
  have := any_of_stateK (P := P) (Q := Q) (σ := Nat) (a0 := a) (val := valP vs)
    (J := fun f p w' => Below w.heap.size w w' ∧ (∀ j, dep.contains j = true → f j = true → f k = true) ∧ (f k = true → I p w')) ok
    (fun f p w1 j oj hj hoj hun hd hJ => by
      obtain ⟨hb, hdk, hh⟩ := hJ
      by_cases ejk : j = k
      · subst ejk
        refine ⟨w1.heap.size, fun i hi => ?_, ?_⟩
        · refine hv _ _ i (fun e => by rw [e, hun] at hi; cases hi) ?_
          cases hc : dep.contains i with
          | false => rfl
          | true => have := hdk i hc hi; rw [hun] at this; cases this
        · have hst := (hsp w1.heap.size).1 j oj (Nat.zero_le _) hj hoj
          unfold stepP at hst
          rw [if_pos rfl] at hst
          refine (hst w1 hb rfl).mono fun w' e f' hf' ho => ?_
          exact ⟨below_onto hb e.1, fun i _ _ => hf', fun _ => e.2⟩
      · have hvk : ∀ f' : Nat → Bool, (∀ i, i ≠ j → f' i = f i) → f' k = f k := fun f' ho => ho k (Ne.symm ejk)
        refine ⟨p, fun i _ => rfl, ?_⟩
        have hst := (hsp p).1 j oj (Nat.zero_le _) hj hoj
        unfold stepP at hst
        rw [if_neg ejk] at hst
        cases hc : dep.contains j with
        | true =>
          rw [if_pos hc] at hst
          have hfk : f k = true := by
            obtain ⟨-, -, h3⟩ := hdp j hc
            obtain ⟨e, he, hb, h4⟩ := h3 oj (by simpa using hoj)
            have hl := hd e he hb
            rcases h4 with h4 | h4
            · rwa [h4] at hl
            · exact hdk _ h4 hl
          refine (hst w1 hb (hh hfk)).mono fun w' e f' hf' ho => ?_
          have ek := hvk f' ho
          exact ⟨below_onto hb e, fun i _ _ => ek.trans hfk, fun _ => hI _ _ _ (hh hfk) e⟩
        | false =>
          rw [if_neg (by rw [hc]; simp)] at hst
          refine (hst w1 hb).mono fun w' e f' hf' ho => ?_
          have ek := hvk f' ho
          refine ⟨below_onto hb e, fun i hi hfi => ?_, fun h => hI _ _ _ (hh (by rwa [ek] at h)) e⟩
          rw [ek]
          have hij : i ≠ j := fun e => by rw [e, hc] at hi; cases hi
          exact hdk i hi (by rwa [ho i hij] at hfi))
    (fun listed p w1 hall inv hJ => by
      obtain ⟨hb, -, hh⟩ := hJ
      have hn := (hsp p).2 w1 hb.size hb (hh (hall k hkn))
      rw [listed_eq (by simpa using hnl) hall inv]
      have hsz : l.toArray.size - n = (l.drop n).length := by simp
      rw [hsz]
      refine wpAny_of_seq (l.drop n) n _ _ _ (fun j => by simp) ?_ hn
      have : (l.drop n).length = l.length - n := by simp
      rw [this]; exact hS) n (Array.replicate l.toArray.size false) 0 w.drew start full
      ⟨(Below.refl _ w).drew, (fun j _ h => by rw [show flag (Array.replicate l.toArray.size false) j = false from getD_replicate_false _ _] at h; cases h), fun h => by rw [show flag (Array.replicate l.toArray.size false) k = false from getD_replicate_false _ _] at h; cases h⟩
  rw [zero _ n] at this
  have hsz : n + (l.toArray.size - n) = l.toArray.size := by simp; omega
  rw [hsz] at this
  exact this

/-- The same, with one operation behind them, and growing operations again. -/
theorem wp_region_growMS {id : Nat} {Q : Exit → Act → World → Prop} {a : Act} {w : World} {l : List Oper} (n k : Nat) (dep : List Nat) (I : Nat → World → Prop) (hI : ∀ p w w', I p w → Below w.heap.size w w' → I p w') (vs : Nat → List Value) (hv : ∀ p p' j, j ≠ k → dep.contains j = false → (vs p).getD j undef = (vs p').getD j undef)
    {o : Oper} (ho : l[n]? = some o) (hg : o.guard = none) (hm : P.follows .mixedOrders = true) (hB : stagesB l.toArray n = true) (hD : depB l.toArray n k dep = true)
    (h : ∀ p, seqP P l.toArray w k dep I vs (fun a' => ∀ w', w.heap.size ≤ w'.heap.size → Below w.heap.size w w' → I p w' → o.wp P a' w' (fun a2 w2 => wpGrow P l.toArray w2 (fun a3 => ∀ w3, Below w2.heap.size w2 w3 → Q .normal a3 w3) (l.drop (n + 1)) a2) Q) p 0 (l.take n) a) : (Code.region id l.toArray true).wp P Q a w := by
  simp only [stagesB, Bool.and_eq_true, decide_eq_true_eq] at hB
  obtain ⟨⟨⟨⟨hB1, hB2⟩, hB3⟩, hB4⟩, hB5⟩ := hB
  have ok := growKB_ok hB1
  have ok2 := growKB_ok hB2
  have hlt : n < l.length := by simpa using hB3
  have hnl : n ≤ l.length := Nat.le_of_lt hlt
  have hoA : l.toArray[n]? = some o := by simpa using ho
  rw [hoA] at hB4
  obtain ⟨hkn, hdp⟩ := depB_at hD
  have hsp := fun p => seqP_spec (n := n) (a0 := a) (ops := l.toArray) (P := P) (l.take n) 0 (fun j hj => by
    have : j < n := by simp at hj; omega
    simp [this]) (by simp; omega) (h p)
  have start : HeadInv .any l.toArray n (Array.replicate l.toArray.size false) :=
    ⟨by simp, (fun j oj _ hl => by rw [getD_replicate_false] at hl; cases hl), fun t _ ht => getD_in (by simpa using ht) (getD_replicate_false _ _)⟩
  have zero : ∀ val : Nat → Value, ∀ k, fill l.toArray val (flag (Array.replicate l.toArray.size false)) a k = a := by
    intro val k
    induction k with
    | zero => rfl
    | succ k ih =>
      show (if flag (Array.replicate l.toArray.size false) k then _ else _) = a
      rw [show flag (Array.replicate l.toArray.size false) k = false from getD_replicate_false _ _]
      exact ih
  have full : left (Array.replicate l.toArray.size false) n = n := by
    have : ∀ k, left (Array.replicate l.toArray.size false) k = k := by
      intro k
      induction k with
      | zero => rfl
      | succ k ih => unfold left; rw [ih, show flag (Array.replicate l.toArray.size false) k = false from getD_replicate_false _ _]; rfl
    exact this _
  refine wp_region_any hm ?_
  have := any_of_stateK (P := P) (Q := Q) (σ := Nat) (a0 := a) (val := valP vs)
    (J := fun f p w' => Below w.heap.size w w' ∧ (∀ j, dep.contains j = true → f j = true → f k = true) ∧ (f k = true → I p w')) ok
    (fun f p w1 j oj hj hoj hun hd hJ => by
      obtain ⟨hb, hdk, hh⟩ := hJ
      by_cases ejk : j = k
      · subst ejk
        refine ⟨w1.heap.size, fun i hi => ?_, ?_⟩
        · refine hv _ _ i (fun e => by rw [e, hun] at hi; cases hi) ?_
          cases hc : dep.contains i with
          | false => rfl
          | true => have := hdk i hc hi; rw [hun] at this; cases this
        · have hst := (hsp w1.heap.size).1 j oj (Nat.zero_le _) hj hoj
          unfold stepP at hst
          rw [if_pos rfl] at hst
          refine (hst w1 hb rfl).mono fun w' e f' hf' ho => ?_
          exact ⟨below_onto hb e.1, fun i _ _ => hf', fun _ => e.2⟩
      · have hvk : ∀ f' : Nat → Bool, (∀ i, i ≠ j → f' i = f i) → f' k = f k := fun f' ho => ho k (Ne.symm ejk)
        refine ⟨p, fun i _ => rfl, ?_⟩
        have hst := (hsp p).1 j oj (Nat.zero_le _) hj hoj
        unfold stepP at hst
        rw [if_neg ejk] at hst
        cases hc : dep.contains j with
        | true =>
          rw [if_pos hc] at hst
          have hfk : f k = true := by
            obtain ⟨-, -, h3⟩ := hdp j hc
            obtain ⟨e, he, hb, h4⟩ := h3 oj (by simpa using hoj)
            have hl := hd e he hb
            rcases h4 with h4 | h4
            · rwa [h4] at hl
            · exact hdk _ h4 hl
          refine (hst w1 hb (hh hfk)).mono fun w' e f' hf' ho => ?_
          have ek := hvk f' ho
          exact ⟨below_onto hb e, fun i _ _ => ek.trans hfk, fun _ => hI _ _ _ (hh hfk) e⟩
        | false =>
          rw [if_neg (by rw [hc]; simp)] at hst
          refine (hst w1 hb).mono fun w' e f' hf' ho => ?_
          have ek := hvk f' ho
          refine ⟨below_onto hb e, fun i hi hfi => ?_, fun h => hI _ _ _ (hh (by rwa [ek] at h)) e⟩
          rw [ek]
          have hij : i ≠ j := fun e => by rw [e, hc] at hi; cases hi
          exact hdk i hi (by rwa [ho i hij] at hfi))
    (fun listed p w1 hall inv hJ => by
      obtain ⟨hb, -, hh⟩ := hJ
      have hn := (hsp p).2 w1 hb.size hb (hh (hall k hkn))
      refine any_sink hoA (fun e he hb => ?_) ok.bar (.inr trivial) hall inv (fun t ot ht hot => ?_) ?_
      · have := Array.all_eq_true_iff_forall_mem.1 hB4 e he
        simpa [hb] using this
      · have htl : t < l.toArray.size := (Array.getElem?_eq_some_iff.1 hot).1
        have := List.all_eq_true.1 hB5 t (List.mem_range.2 htl)
        rw [hot] at this
        simp only [Bool.or_eq_true, decide_eq_true_eq] at this
        obtain ⟨e, he, hb⟩ := Array.any_eq_true'.1 (this.resolve_left (by omega))
        simp only [Bool.and_eq_true, decide_eq_true_eq] at hb
        exact ⟨e, he, hb.1.1, hb.1.2, hb.2⟩
      · have hop : wpOp P l.toArray Q n (fun a2 w2 => wpGrow P l.toArray w2 (fun a3 => ∀ w3, Below w2.heap.size w2 w3 → Q .normal a3 w3) (l.drop (n + 1)) a2) (fill l.toArray (valP vs p) (fun _ => true) a n) w1 := by
          unfold wpOp
          simp only [hoA]
          rw [if_pos (by simp [Region.wanted, hg])]
          exact .inl hn
        refine wpOp_mono (fun a2 w2 h2' => ?_) hop
        intro listed2 hall2 inv2
        refine any_stage (P := P) (Q := Q) (w0 := w2) (k := n + 1) (n := l.toArray.size) (ops := l.toArray) (l.drop (n + 1)) (fun j hj => by simp [Nat.add_comm]) (by simp; omega) ok2 hall2 inv2 (Below.refl _ _) ?_
        refine wpGrow_mono (fun a3 h3' => ?_) h2'
        intro w3 listed3 hw3 hall3 inv3
        refine ready_done ?_ _ _ _ (h3' w3 hw3)
        apply List.eq_nil_iff_forall_not_mem.2
        intro j hj
        obtain ⟨g1, oj, hoj, -⟩ := mem_ready.1 hj
        have := hall3 j (Array.getElem?_eq_some_iff.1 hoj).1
        unfold flag at this
        rw [getD_both g1] at this
        cases this) n (Array.replicate l.toArray.size false) 0 w.drew start full
      ⟨(Below.refl _ w).drew, (fun j _ h => by rw [show flag (Array.replicate l.toArray.size false) j = false from getD_replicate_false _ _] at h; cases h), fun h => by rw [show flag (Array.replicate l.toArray.size false) k = false from getD_replicate_false _ _] at h; cases h⟩
  rw [zero _ n] at this
  have hsz : n + (l.toArray.size - n) = l.toArray.size := by simp; omega
  rw [hsz] at this
  exact this
end
end Go.Proofs.Ytaeenkjbmlgcmaa
