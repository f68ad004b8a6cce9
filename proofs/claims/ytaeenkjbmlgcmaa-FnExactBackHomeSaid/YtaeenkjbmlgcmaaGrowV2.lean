/- Regions that draw their order and hold two calls, each of whose answers is known by what holds of it. -/
import Derived.Test.YtaeenkjbmlgcmaaGrowV
namespace Go.Proofs.Ytaeenkjbmlgcmaa
open Go.RowKit
set_option linter.unusedVariables false

section
variable {P : Program} {ops : Array Oper}

theorem GYX.map {σ τ : Type} {R : σ → World → Prop} {R' : τ → World → Prop} {o : Oper} {v : σ → Value} {u : τ → Value} {a : Act} {w : World} (f : σ → τ) (h : GYX P ops R o v a w) (hv : ∀ s, u (f s) = v s) (hr : ∀ s w', R s w' → R' (f s) w') : GYX P ops R' o u a w := by
  unfold GYX at h ⊢
  split
  · rename_i hwt
    rw [if_pos hwt] at h
    exact fun K hK => h K fun s a' w' e r => hK (f s) a' w' (by rw [hv]; exact e) (hr s w' r)
  · rename_i hwt
    rw [if_neg hwt] at h
    obtain ⟨s, h1, h2⟩ := h
    exact ⟨f s, (hv s).trans h1, hr s w h2⟩

def dep2B (ops : Array Oper) (n k m : Nat) (dep : List Nat) : Bool :=
  decide (k < n) && decide (m < n) && decide (k ≠ m) && !dep.contains k && !dep.contains m && (match ops[m]? with
    | none => false
    | some om => om.after.any fun e => Region.binds .any e && e.on == k) && dep.all fun j => match ops[j]? with
    | none => false
    | some oj => oj.after.any fun e => Region.binds .any e && (e.on == m || dep.contains e.on)
theorem dep2B_at {n k m : Nat} {dep : List Nat} (h : dep2B ops n k m dep = true) : k < n ∧ m < n ∧ k ≠ m ∧ dep.contains k = false ∧ dep.contains m = false ∧ (∀ om, ops[m]? = some om → ∃ e ∈ om.after, Region.binds .any e = true ∧ e.on = k) ∧ ∀ j, dep.contains j = true → ∀ oj, ops[j]? = some oj → ∃ e ∈ oj.after, Region.binds .any e = true ∧ (e.on = m ∨ dep.contains e.on = true) := by
  simp only [dep2B, Bool.and_eq_true, decide_eq_true_eq, List.all_eq_true, Bool.not_eq_true'] at h
  obtain ⟨⟨⟨⟨⟨⟨h1, h2⟩, h3⟩, h4⟩, h5⟩, h8⟩, h6⟩ := h
  refine ⟨h1, h2, h3, h4, h5, fun om ho => ?_, fun j hj oj ho => ?_⟩
  · rw [ho] at h8
    obtain ⟨e, he, hb⟩ := Array.any_eq_true'.1 h8
    simp only [Bool.and_eq_true, beq_iff_eq] at hb
    exact ⟨e, he, hb⟩
  · have h7 := h6 j (by simpa using hj)
    rw [ho] at h7
    obtain ⟨e, he, hb⟩ := Array.any_eq_true'.1 h7
    simp only [Bool.and_eq_true, Bool.or_eq_true, beq_iff_eq] at hb
    exact ⟨e, he, hb⟩

def valV2 (vs : Value → Value → List Value) (p q : Value) (j : Nat) : Value := (vs p q).getD j undef
/-- One operation's step: k answers p, of which I holds from then on, and m answers q, of which I' holds; those of dep may lean on both. -/
def stepV2 (P : Program) (ops : Array Oper) (w0 : World) (k m : Nat) (dep : List Nat) (I I' : Value → World → Prop) (p q : Value) (j : Nat) (o : Oper) (v : Value) (a : Act) : Prop :=
  if j = k then ∀ w, Below w0.heap.size w0 w → GYX P ops (fun p' w' => Below w.heap.size w w' ∧ I p' w') o (fun p' => p') a w
  else if j = m then ∀ w, Below w0.heap.size w0 w → I p w → GYX P ops (fun q' w' => Below w.heap.size w w' ∧ I' q' w') o (fun q' => q') a w
  else if dep.contains j then ∀ w, Below w0.heap.size w0 w → I p w → I' q w → GYR P ops (fun w' => Below w.heap.size w w') o v a w
  else ∀ w, Below w0.heap.size w0 w → GYR P ops (fun w' => Below w.heap.size w w') o v a w
def seqV2 (P : Program) (ops : Array Oper) (w0 : World) (k m : Nat) (dep : List Nat) (I I' : Value → World → Prop) (vs : Value → Value → List Value) (L : Act → Prop) (p q : Value) : Nat → List Oper → Act → Prop
  | _, [], a => L a
  | j, o :: rest, a => stepV2 P ops w0 k m dep I I' p q j o (valV2 vs p q j) a ∧ seqV2 P ops w0 k m dep I I' vs L p q (j + 1) rest (a.put o.dst (valV2 vs p q j))

theorem seqV2_spec {w0 : World} {k m : Nat} {dep : List Nat} {I I' : Value → World → Prop} {vs : Value → Value → List Value} {L : Act → Prop} {p q : Value} {n : Nat} {a0 : Act} : ∀ (l : List Oper) (b : Nat), (∀ j, j < l.length → l[j]? = ops[b + j]?) → b + l.length = n →
    seqV2 P ops w0 k m dep I I' vs L p q b l (fill ops (valV2 vs p q) (fun _ => true) a0 b) →
    (∀ (j : Nat) (oj : Oper), b ≤ j → j < n → ops[j]? = some oj → stepV2 P ops w0 k m dep I I' p q j oj (valV2 vs p q j) (fill ops (valV2 vs p q) (fun _ => true) a0 j)) ∧ L (fill ops (valV2 vs p q) (fun _ => true) a0 n)
  | [], b, _, hk, h => by
    have : b = n := by simpa using hk
    subst this
    exact ⟨fun j _ h1 h2 => by omega, h⟩
  | o :: l, b, hl, hk, ⟨hy, h⟩ => by
    have h0 : ops[b]? = some o := by simpa using (hl 0 (by simp)).symm
    have step : fill ops (valV2 vs p q) (fun _ => true) a0 (b + 1) = (fill ops (valV2 vs p q) (fun _ => true) a0 b).put o.dst (valV2 vs p q b) := by
      show (fill ops (valV2 vs p q) (fun _ => true) a0 b).put (dstOf ops b) (valV2 vs p q b) = _
      simp [dstOf, h0]
    rw [← step] at h
    obtain ⟨e2, e3⟩ := seqV2_spec (n := n) l (b + 1) (fun j hj => by have := hl (j + 1) (by simp; omega); simpa [Nat.add_assoc, Nat.add_comm 1 j] using this) (by simp at hk; omega) h
    refine ⟨fun j oj h1 h2 hj => ?_, e3⟩
    by_cases e : j = b
    · subst e
      rw [h0] at hj; cases hj
      exact hy
    · exact e2 j oj (by omega) h2 hj

theorem wp_region_growV2 {id : Nat} {Q : Exit → Act → World → Prop} {a : Act} {w : World} {l : List Oper} (n k m : Nat) (dep : List Nat) (I I' : Value → World → Prop) (hI : ∀ p w w', I p w → Below w.heap.size w w' → I p w') (hI' : ∀ p w w', I' p w → Below w.heap.size w w' → I' p w')
    (vs : Value → Value → List Value) (hv : ∀ p q p' q' j, j ≠ k → j ≠ m → dep.contains j = false → (vs p q).getD j undef = (vs p' q').getD j undef) (hk : ∀ p q, (vs p q).getD k undef = p) (hm' : ∀ p q, (vs p q).getD m undef = q)
    (hm : P.follows .mixedOrders = true) (hB : growB l.toArray n = true) (hD : dep2B l.toArray n k m dep = true)
    (h : ∀ p q, seqV2 P l.toArray w k m dep I I' vs (fun a' => ∀ w', w.heap.size ≤ w'.heap.size → Below w.heap.size w w' → I p w' → I' q w' → wpList P l.toArray Q (l.drop n) a' w') p q 0 (l.take n) a) : (Code.region id l.toArray true).wp P Q a w := by
  have ok := growB_ok hB
  obtain ⟨hkn, hmn, hkm, hck, hcm, hmk, hdp⟩ := dep2B_at hD
  have hlen : l.length = n + 1 := by simpa using ok.size
  have hsp := fun p q => seqV2_spec (n := n) (a0 := a) (ops := l.toArray) (P := P) (l.take n) 0 (fun j hj => by
    have : j < n := by simp at hj; omega
    simp [this]) (by simp; omega) (h p q)
  have start : HeadInv .any l.toArray n (Array.replicate l.toArray.size false) :=
    ⟨by simp, (fun j oj _ hl => by rw [getD_replicate_false] at hl; cases hl), fun t _ ht => getD_in (by simpa using ht) (getD_replicate_false _ _)⟩
  have zero : ∀ val : Nat → Value, ∀ k, fill l.toArray val (flag (Array.replicate l.toArray.size false)) a k = a := by
    intro val k
    induction k with
    | zero => rfl
    | succ k ih =>
      show (if flag (Array.replicate l.toArray.size false) k then _ else _) = a
      rw [show flag (Array.replicate l.toArray.size false) k = false from getD_replicate_false _ _]
      exact ih
  have most : ∀ k, left (Array.replicate l.toArray.size false) k ≤ k := by
    intro k
    induction k with
    | zero => exact Nat.le_refl _
    | succ k ih => unfold left; split <;> omega
  refine wp_region_any hm ?_
  have := any_of_stateX (P := P) (Q := Q) (σ := Value × Value) (a0 := a) (val := fun s => valV2 vs s.1 s.2)
    (J := fun f s w' => Below w.heap.size w w' ∧ (∀ j, dep.contains j = true → f j = true → f m = true) ∧ (f m = true → f k = true) ∧ (f k = true → I s.1 w') ∧ (f m = true → I' s.2 w')) ok
    (fun f s w1 j oj hj hoj hun hd hJ => by
      obtain ⟨p, q⟩ := s
      obtain ⟨hb, hdk, hmf, hh, hh'⟩ := hJ
      dsimp only at hh hh' ⊢
      have hst := (hsp p q).1 j oj (Nat.zero_le _) hj hoj
      unfold stepV2 at hst
      by_cases ejk : j = k
      · subst ejk
        rw [if_pos rfl] at hst
        have hfm : f m = false := by
          cases hfm : f m with
          | false => rfl
          | true => have := hmf hfm; rw [hun] at this; cases this
        refine (hst w1 hb).map (fun p' => (p', q)) (fun p' => hk p' q) fun p' w' e => ⟨fun i hi => ?_, fun f' hf' ho => ⟨below_onto hb e.1, fun i hi hfi => ?_, fun _ => hf', fun _ => e.2, fun hfm' => ?_⟩⟩
        · refine hv _ _ _ _ i (fun e => by rw [e, hun] at hi; cases hi) (fun e => by rw [e, hfm] at hi; cases hi) ?_
          cases hc : dep.contains i with
          | false => rfl
          | true => have := hdk i hc hi; rw [hfm] at this; cases this
        · have hij : i ≠ j := fun e => by rw [e, hck] at hi; cases hi
          rw [ho i hij] at hfi
          have := hdk i hi hfi
          rw [hfm] at this; cases this
        · rw [ho m (Ne.symm hkm), hfm] at hfm'; cases hfm'
      · rw [if_neg ejk] at hst
        by_cases ejm : j = m
        · subst ejm
          rw [if_pos rfl] at hst
          have hfk : f k = true := by
            obtain ⟨e, he, hb2, hon⟩ := hmk oj (by simpa using hoj)
            have := hd e he hb2
            rwa [hon] at this
          refine (hst w1 hb (hh hfk)).map (fun q' => (p, q')) (fun q' => hm' p q') fun q' w' e => ⟨fun i hi => ?_, fun f' hf' ho => ⟨below_onto hb e.1, fun i hi hfi => ?_, fun _ => (ho k hkm).trans hfk, fun _ => hI _ _ _ (hh hfk) e.1, fun _ => e.2⟩⟩
          · by_cases eik : i = k
            · rw [eik]; exact (hk p q').trans (hk p q).symm
            · refine hv _ _ _ _ i eik (fun e => by rw [e, hun] at hi; cases hi) ?_
              cases hc : dep.contains i with
              | false => rfl
              | true => have := hdk i hc hi; rw [hun] at this; cases this
          · have hij : i ≠ j := fun e => by rw [e, hcm] at hi; cases hi
            rw [ho i hij] at hfi
            have := hdk i hi hfi
            rw [hun] at this; cases this
        · rw [if_neg ejm] at hst
          cases hc : dep.contains j with
          | true =>
            rw [if_pos hc] at hst
            have hfm : f m = true := by
              obtain ⟨e1, he1, hb1, h1⟩ := hdp j hc oj (by simpa using hoj)
              have hl := hd e1 he1 hb1
              rcases h1 with h1 | h1
              · rwa [h1] at hl
              · exact hdk _ h1 hl
            have hfk : f k = true := hmf hfm
            refine GYX.of (p, q) (hst w1 hb (hh hfk) (hh' hfm)) rfl fun w' e => ⟨fun i _ => rfl, fun f' hf' ho => ?_⟩
            have ek := ho k (Ne.symm ejk)
            have em := ho m (Ne.symm ejm)
            exact ⟨below_onto hb e, fun i _ _ => em.trans hfm, fun _ => ek.trans hfk, fun _ => hI _ _ _ (hh hfk) e, fun _ => hI' _ _ _ (hh' hfm) e⟩
          | false =>
            rw [if_neg (by rw [hc]; simp)] at hst
            refine GYX.of (p, q) (hst w1 hb) rfl fun w' e => ⟨fun i _ => rfl, fun f' hf' ho => ?_⟩
            have ek := ho k (Ne.symm ejk)
            have em := ho m (Ne.symm ejm)
            refine ⟨below_onto hb e, fun i hi hfi => ?_, fun h => ek.trans (hmf (by rwa [em] at h)), fun h => hI _ _ _ (hh (by rwa [ek] at h)) e, fun h => hI' _ _ _ (hh' (by rwa [em] at h)) e⟩
            rw [em]
            have hij : i ≠ j := fun e => by rw [e, hc] at hi; cases hi
            exact hdk i hi (by rwa [ho i hij] at hfi))
    (fun f s w1 hall hJ => by
      obtain ⟨p, q⟩ := s
      obtain ⟨hb, -, -, hh, hh'⟩ := hJ
      have hn := (hsp p q).2 w1 hb.size hb (hh (hall k hkn)) (hh' (hall m hmn))
      have hd : l.drop n = [l[n]] := by
        rw [List.drop_eq_getElem_cons (by omega), List.drop_eq_nil_of_le (by omega)]
      rw [hd] at hn
      unfold wpOp
      have ho : l.toArray[n]? = some l[n] := by simp
      simp only [ho]
      exact hn) n (Array.replicate l.toArray.size false) (undef, undef) w.drew start (most n)
      ⟨(Below.refl _ w).drew, (fun j _ h => by rw [show flag (Array.replicate l.toArray.size false) j = false from getD_replicate_false _ _] at h; cases h), (fun h => by rw [show flag (Array.replicate l.toArray.size false) m = false from getD_replicate_false _ _] at h; cases h), (fun h => by rw [show flag (Array.replicate l.toArray.size false) k = false from getD_replicate_false _ _] at h; cases h), fun h => by rw [show flag (Array.replicate l.toArray.size false) m = false from getD_replicate_false _ _] at h; cases h⟩
  rw [zero _ n, ok.size] at this
  rw [ok.size]
  exact this

section
variable {w0 : World} {k m : Nat} {dep : List Nat} {I I' : Value → World → Prop} {vs : Value → Value → List Value} {L : Act → Prop} {p q : Value} {j : Nat} {o : Oper} {rest : List Oper} {a : Act}
theorem seqV2_nil (h : L a) : seqV2 P ops w0 k m dep I I' vs L p q j [] a := h
theorem seqV2_free (hk : (j == k) = false) (hm : (j == m) = false) (hs : dep.contains j = false) (hg : o.guard = none) {v : Value} (hv : (vs p q).getD j undef = v)
    (h : ∀ w, Below w0.heap.size w0 w → ∀ K : Act → World → Prop, (∀ a' w', a' = a.put o.dst v → Below w.heap.size w w' → K a' w') → o.wp P a w K (fun _ _ _ => False)) (hr : seqV2 P ops w0 k m dep I I' vs L p q (j + 1) rest (a.put o.dst v)) :
    seqV2 P ops w0 k m dep I I' vs L p q j (o :: rest) a := by
  have hk' : j ≠ k := by simpa using hk
  have hm' : j ≠ m := by simpa using hm
  have e : valV2 vs p q j = v := hv
  refine ⟨?_, by rw [e]; exact hr⟩
  unfold stepV2
  rw [if_neg hk', if_neg hm', if_neg (by rw [hs]; simp), e]
  exact fun w hw => GYR.plain hg (h w hw)
theorem seqV2_dep (hk : (j == k) = false) (hm : (j == m) = false) (hs : dep.contains j = true) (hg : o.guard = none) {v : Value} (hv : (vs p q).getD j undef = v)
    (h : ∀ w, Below w0.heap.size w0 w → I p w → I' q w → ∀ K : Act → World → Prop, (∀ a' w', a' = a.put o.dst v → Below w.heap.size w w' → K a' w') → o.wp P a w K (fun _ _ _ => False)) (hr : seqV2 P ops w0 k m dep I I' vs L p q (j + 1) rest (a.put o.dst v)) :
    seqV2 P ops w0 k m dep I I' vs L p q j (o :: rest) a := by
  have hk' : j ≠ k := by simpa using hk
  have hm' : j ≠ m := by simpa using hm
  have e : valV2 vs p q j = v := hv
  refine ⟨?_, by rw [e]; exact hr⟩
  unfold stepV2
  rw [if_neg hk', if_neg hm', if_pos hs, e]
  exact fun w hw hi hi' => GYR.plain hg (h w hw hi hi')
theorem seqV2_call (hk : (j == k) = true) (hg : o.guard = none) (hv : (vs p q).getD j undef = p)
    (h : ∀ w, Below w0.heap.size w0 w → ∀ K : Act → World → Prop, (∀ p' a' w', a' = a.put o.dst p' → Below w.heap.size w w' → I p' w' → K a' w') → o.wp P a w K (fun _ _ _ => False)) (hr : seqV2 P ops w0 k m dep I I' vs L p q (j + 1) rest (a.put o.dst p)) :
    seqV2 P ops w0 k m dep I I' vs L p q j (o :: rest) a := by
  have hk' : j = k := by simpa using hk
  have e : valV2 vs p q j = p := hv
  refine ⟨?_, by rw [e]; exact hr⟩
  unfold stepV2
  rw [if_pos hk']
  intro w hw
  unfold GYX
  rw [if_pos (by simp [Region.wanted, hg])]
  exact fun K hK => h w hw K fun p' a' w' ha hb hi => hK p' a' w' ha ⟨hb, hi⟩
theorem seqV2_call2 (hk : (j == k) = false) (hm : (j == m) = true) (hg : o.guard = none) (hv : (vs p q).getD j undef = q)
    (h : ∀ w, Below w0.heap.size w0 w → I p w → ∀ K : Act → World → Prop, (∀ p' a' w', a' = a.put o.dst p' → Below w.heap.size w w' → I' p' w' → K a' w') → o.wp P a w K (fun _ _ _ => False)) (hr : seqV2 P ops w0 k m dep I I' vs L p q (j + 1) rest (a.put o.dst q)) :
    seqV2 P ops w0 k m dep I I' vs L p q j (o :: rest) a := by
  have hk' : j ≠ k := by simpa using hk
  have hm' : j = m := by simpa using hm
  have e : valV2 vs p q j = q := hv
  refine ⟨?_, by rw [e]; exact hr⟩
  unfold stepV2
  rw [if_neg hk', if_pos hm']
  intro w hw hi0
  unfold GYX
  rw [if_pos (by simp [Region.wanted, hg])]
  exact fun K hK => h w hw hi0 K fun p' a' w' ha hb hi => hK p' a' w' ha ⟨hb, hi⟩
end
end
end Go.Proofs.Ytaeenkjbmlgcmaa
