/- Regions that draw their order and hold one call whose answer is known by what holds of it. -/
import Derived.Test.YtaeenkjbmlgcmaaGrowP
namespace Go.Proofs.Ytaeenkjbmlgcmaa
open Go.RowKit
set_option linter.unusedVariables false

section
variable {P : Program} {ops : Array Oper}

/-- An operation answers one of several, told by a state that its world after knows. -/
def GYX {σ : Type} (P : Program) (ops : Array Oper) (R : σ → World → Prop) (o : Oper) (v : σ → Value) (a : Act) (w : World) : Prop :=
  if Region.wanted o (yielded ops a.tmps) then ∀ K : Act → World → Prop, (∀ s a' w', a' = a.put o.dst (v s) → R s w' → K a' w') → o.wp P a w K (fun _ _ _ => False)
  else ∃ s, v s = undef ∧ R s w
theorem GYX.of {σ : Type} {R : World → Prop} {o : Oper} {u : Value} {v : σ → Value} {a : Act} {w : World} (s : σ) (h : GYR P ops R o u a w) (hu : v s = u) {R' : σ → World → Prop} (hr : ∀ w', R w' → R' s w') : GYX P ops R' o v a w := by
  unfold GYR at h
  unfold GYX
  split
  · rename_i hwt
    rw [if_pos hwt] at h
    exact fun K hK => h K fun a' w' e r => hK s a' w' (by rw [hu]; exact e) (hr w' r)
  · rename_i hwt
    rw [if_neg hwt] at h
    exact ⟨s, hu.trans h.1, hr w h.2⟩
theorem GYX.mono {σ : Type} {R R' : σ → World → Prop} {o : Oper} {v : σ → Value} {a : Act} {w : World} (h : GYX P ops R o v a w) (hr : ∀ s w', R s w' → R' s w') : GYX P ops R' o v a w := by
  unfold GYX at h ⊢
  split
  · rename_i hwt
    rw [if_pos hwt] at h
    exact fun K hK => h K fun s a' w' e r => hK s a' w' e (hr s w' r)
  · rename_i hwt
    rw [if_neg hwt] at h
    obtain ⟨s, h1, h2⟩ := h
    exact ⟨s, h1, hr s w h2⟩
theorem GYX.at {σ : Type} {R : σ → World → Prop} {o : Oper} {v : σ → Value} {a b : Act} {w : World} (h : GYX P ops R o v a w) (hs : ∀ cs c, o.op ≠ .select cs c) (hab : Agree (o.looksAt ops) a b) {K : Act → World → Prop} {Q : Exit → Act → World → Prop}
    (hK : ∀ s w', R s w' → K (b.put o.dst (v s)) w') : if Region.wanted o (yielded ops b.tmps) then o.wp P b w K Q else K (b.put o.dst undef) w := by
  unfold GYX at h
  rw [hab.wants] at h
  split
  · rename_i hwt
    rw [if_pos hwt] at h
    have h := h (fun a' w' => ∃ s, a' = a.put o.dst (v s) ∧ R s w') (fun s a' w' h1 h2 => ⟨s, h1, h2⟩)
    unfold Oper.wp at h ⊢
    rw [hab.exec hs] at h
    have fin : ∀ (u : Value) (w' : World), (∃ s, a.put o.dst u = a.put o.dst (v s) ∧ R s w') → K (b.put o.dst u) w' := fun u w' ⟨s, e1, e2⟩ => by rw [put_eq hab.1 e1]; exact hK s w' e2
    unfold Oper.upon at h ⊢
    split at h
    · exact fin _ _ h
    · exact fin _ _ h
    · rename_i d w' hr
      obtain ⟨s, h1, -⟩ := h
      have hd := congrArg Act.defers h1
      rw [put_def, put_def] at hd
      exact absurd hd (by simp)
    · refine h.mono fun e w'' he => ?_
      cases e with
      | returned u => exact fin _ _ he
      | panicked c => exact he.elim
      | outgrown => obtain ⟨_, _, h⟩ := he; exact h.elim
    · exact h.mono fun u w'' he => fin _ _ he
    · exact h.elim
    · exact h.elim
  · rename_i hwt
    rw [if_neg hwt] at h
    obtain ⟨s, h1, h2⟩ := h
    rw [← h1]
    exact hK s w h2

/-- All orders come to the same slots, but for what hangs on a state that an operation's run tells. -/
theorem any_of_stateX {σ : Type} {n : Nat} (ok : GrowOk ops n) {a0 : Act} {val : σ → Nat → Value} {J : (Nat → Bool) → σ → World → Prop} {Q : Exit → Act → World → Prop}
    (hY : ∀ (l : Nat → Bool) (s : σ) (w : World) (j : Nat) (oj : Oper), j < n → ops[j]? = some oj → l j = false → (∀ e ∈ oj.after, Region.binds .any e = true → l e.on = true) → J l s w →
      GYX P ops (fun s' w' => (∀ i, l i = true → val s' i = val s i) ∧ ∀ l' : Nat → Bool, l' j = true → (∀ i, i ≠ j → l' i = l i) → J l' s' w') oj (fun s' => val s' j) (fill ops (val s) (fun _ => true) a0 j) w)
    (hlast : ∀ (l : Nat → Bool) s w, (∀ i, i < n → l i = true) → J l s w → wpOp P ops Q n (Q .normal) (fill ops (val s) (fun _ => true) a0 n) w) :
    ∀ (f : Nat) (listed : Array Bool) (s : σ) (w : World), HeadInv .any ops n listed → left listed n ≤ f → J (flag listed) s w → wpAny P .any ops Q (f + 1) listed (fill ops (val s) (flag listed) a0 n) w := by
  intro f
  induction f with
  | zero =>
    intro listed s w inv hl hw
    have hall := left_zero n (Nat.le_zero.1 hl)
    rw [fill_congr (val s) (val s) (flag listed) (fun _ => true) a0 n (fun i hi => ⟨hall i hi, rfl⟩)]
    exact ready_last ok hall inv.size (inv.tail n (Nat.le_refl _) (by rw [ok.size]; omega)) _ (hlast _ s w hall hw)
  | succ f ih =>
    intro listed s w inv hl hw
    by_cases hz : left listed n = 0
    · have hall := left_zero n hz
      rw [fill_congr (val s) (val s) (flag listed) (fun _ => true) a0 n (fun i hi => ⟨hall i hi, rfl⟩)]
      exact ready_last ok hall inv.size (inv.tail n (Nat.le_refl _) (by rw [ok.size]; omega)) _ (hlast _ s w hall hw)
    · obtain ⟨m, hm, hmun, hmin⟩ : ∃ m, m < n ∧ flag listed m = false ∧ ∀ j, j < m → flag listed j = true := by
        clear hl
        have key : ∀ k, k ≤ n → (∀ j, j < k → flag listed j = true) ∨ ∃ m, m < k ∧ flag listed m = false ∧ ∀ j, j < m → flag listed j = true := by
          intro k hk
          induction k with
          | zero => exact .inl fun j hj => by omega
          | succ k ihk =>
            rcases ihk (by omega) with h | ⟨m, h1, h2, h3⟩
            · cases hf : flag listed k with
              | true =>
                refine .inl (fun j hj => ?_)
                by_cases e : j = k
                · subst e; exact hf
                · exact h j (by omega)
              | false => exact .inr ⟨k, by omega, hf, h⟩
            · exact .inr ⟨m, by omega, h2, h3⟩
        rcases key n (Nat.le_refl _) with h | h
        · refine absurd ?_ hz
          have : ∀ k, k ≤ n → left listed k = 0 := by
            intro k hk
            induction k with
            | zero => rfl
            | succ k ihk => unfold left; rw [ihk (by omega), h k (by omega)]; rfl
          exact this n (Nat.le_refl _)
        · exact h
      have hms : m < listed.size := by rw [inv.size, ok.size]; omega
      obtain ⟨om, hom⟩ : ∃ om, ops[m]? = some om := ⟨_, Array.getElem?_eq_getElem (by rw [ok.size]; omega)⟩
      have hmr : m ∈ Region.ready .any ops listed := mem_ready.2 ⟨getD_in hms hmun, om, hom, fun e he hb => hmin _ (ok.back m om hom e he hb)⟩
      refine ⟨fun h => (by rw [h] at hmr; cases hmr), fun i hi => ?_⟩
      obtain ⟨h1, oi, hoi, hdep⟩ := mem_ready.1 hi
      have hin : i < n := by
        rcases Nat.lt_or_ge i n with h | h
        · exact h
        · exact absurd hi (tail_waits ok.sink ok.chain (by rw [ok.size]; omega) inv _ m rfl hm (getD_in hms hmun) i h)
      have his : i < listed.size := by rw [inv.size, ok.size]; omega
      have hiun : flag listed i = false := getD_both h1
      have hy := hY (flag listed) s w i oi hin hoi hiun hdep hw
      have hother : ∀ j, j ≠ i → flag (listed.setIfInBounds i true) j = flag listed j := fun j hj => getD_set_ne false (Ne.symm hj)
      have hself : flag (listed.setIfInBounds i true) i = true := by simp [flag, his]
      have hfs : ∀ s' : σ, (∀ i, flag listed i = true → val s' i = val s i) → fill ops (val s') (flag (listed.setIfInBounds i true)) a0 n = (fill ops (val s) (flag listed) a0 n).put (dstOf ops i) (val s' i) := fun s' hv => by
        rw [fill_same (val s) (val s') (flag listed) a0 n (fun j _ hj => (hv j hj).symm)]
        exact fill_set (val s') (flag listed) (flag (listed.setIfInBounds i true)) a0 i hiun hself hother n hin (ok.dist i hin)
      have hdst : dstOf ops i = oi.dst := by simp [dstOf, hoi]
      have hagree : Agree (oi.looksAt ops) (fill ops (val s) (fun _ => true) a0 i) (fill ops (val s) (flag listed) a0 n) := by
        have e1 : fill ops (val s) (fun _ => true) a0 i = fill ops (val s) (fun j => decide (j < i)) a0 i := fill_congr _ _ _ _ _ i (fun j hj => ⟨by simp [hj], rfl⟩)
        have e2 : ∀ k, i ≤ k → fill ops (val s) (fun j => decide (j < i)) a0 k = fill ops (val s) (fun j => decide (j < i)) a0 i := by
          intro k hk
          induction k with
          | zero => rw [show i = 0 by omega]
          | succ k ihk =>
            by_cases e : i = k + 1
            · rw [e]
            · rw [← ihk (by omega)]
              show (if decide (k < i) then _ else _) = _
              rw [show decide (k < i) = false by simp; omega]
              rfl
        rw [e1, ← e2 n (by omega)]
        refine fill_agree (val s) _ _ a0 _ n (fun j hj hne d hd hl => ?_)
        obtain ⟨e, he, hb, hon⟩ := ok.looks i oi hoi j hj d hd hl
        have hlisted := hdep e he hb
        rw [hon] at hlisted
        have hback := ok.back i oi hoi e he hb
        rw [hon] at hback
        exact hne (by show decide (j < i) = flag listed j; unfold flag; rw [hlisted]; simp [hback])
      have hat := hy.at (fun cs c => ok.sel i oi cs c hoi) hagree (K := wpAny P .any ops Q (f + 1) (listed.setIfInBounds i true)) (Q := Q) (fun s' w' hw' => by
        rw [← hdst, ← hfs s' hw'.1]
        exact ih (listed.setIfInBounds i true) s' w' (inv.set hi hin) (by have := left_set hiun his n hin; omega) (hw'.2 _ hself hother))
      unfold wpOp
      simp only [hoi]
      split
      · rename_i hwt; rw [if_pos hwt] at hat; exact .inl hat
      · rename_i hwt; rw [if_neg hwt] at hat; exact hat
def valV (vs : Value → List Value) (p : Value) (j : Nat) : Value := (vs p).getD j undef
/-- One operation's step: k answers what lies at p, of which I holds from then on; those of dep may lean on I. -/
def stepV (P : Program) (ops : Array Oper) (w0 : World) (k : Nat) (dep : List Nat) (I : Value → World → Prop) (p : Value) (j : Nat) (o : Oper) (v : Value) (vk : Value → Value) (a : Act) : Prop :=
  if j = k then ∀ w, Below w0.heap.size w0 w → GYX P ops (fun q w' => Below w.heap.size w w' ∧ I q w') o vk a w
  else if dep.contains j then ∀ w, Below w0.heap.size w0 w → I p w → GYR P ops (fun w' => Below w.heap.size w w') o v a w
  else ∀ w, Below w0.heap.size w0 w → GYR P ops (fun w' => Below w.heap.size w w') o v a w
def seqV (P : Program) (ops : Array Oper) (w0 : World) (k : Nat) (dep : List Nat) (I : Value → World → Prop) (vs : Value → List Value) (L : Act → Prop) (p : Value) : Nat → List Oper → Act → Prop
  | _, [], a => L a
  | j, o :: rest, a => stepV P ops w0 k dep I p j o (valV vs p j) (fun q => valV vs q j) a ∧ seqV P ops w0 k dep I vs L p (j + 1) rest (a.put o.dst (valV vs p j))

theorem seqV_spec {w0 : World} {k : Nat} {dep : List Nat} {I : Value → World → Prop} {vs : Value → List Value} {L : Act → Prop} {p : Value} {n : Nat} {a0 : Act} : ∀ (l : List Oper) (m : Nat), (∀ j, j < l.length → l[j]? = ops[m + j]?) → m + l.length = n →
    seqV P ops w0 k dep I vs L p m l (fill ops (valV vs p) (fun _ => true) a0 m) →
    (∀ (j : Nat) (oj : Oper), m ≤ j → j < n → ops[j]? = some oj → stepV P ops w0 k dep I p j oj (valV vs p j) (fun q => valV vs q j) (fill ops (valV vs p) (fun _ => true) a0 j)) ∧ L (fill ops (valV vs p) (fun _ => true) a0 n)
  | [], m, _, hk, h => by
    have : m = n := by simpa using hk
    subst this
    exact ⟨fun j _ h1 h2 => by omega, h⟩
  | o :: l, m, hl, hk, ⟨hy, h⟩ => by
    have h0 : ops[m]? = some o := by simpa using (hl 0 (by simp)).symm
    have step : fill ops (valV vs p) (fun _ => true) a0 (m + 1) = (fill ops (valV vs p) (fun _ => true) a0 m).put o.dst (valV vs p m) := by
      show (fill ops (valV vs p) (fun _ => true) a0 m).put (dstOf ops m) (valV vs p m) = _
      simp [dstOf, h0]
    rw [← step] at h
    obtain ⟨e2, e3⟩ := seqV_spec (n := n) l (m + 1) (fun j hj => by have := hl (j + 1) (by simp; omega); simpa [Nat.add_assoc, Nat.add_comm 1 j] using this) (by simp at hk; omega) h
    refine ⟨fun j oj h1 h2 hj => ?_, e3⟩
    by_cases e : j = m
    · subst e
      rw [h0] at hj; cases hj
      exact hy
    · exact e2 j oj (by omega) h2 hj

theorem wp_region_growV {id : Nat} {Q : Exit → Act → World → Prop} {a : Act} {w : World} {l : List Oper} (n k : Nat) (dep : List Nat) (I : Value → World → Prop) (hI : ∀ p w w', I p w → Below w.heap.size w w' → I p w') (vs : Value → List Value) (hv : ∀ p p' j, j ≠ k → dep.contains j = false → (vs p).getD j undef = (vs p').getD j undef)
    (hm : P.follows .mixedOrders = true) (hB : growB l.toArray n = true) (hD : depB l.toArray n k dep = true)
    (h : ∀ p, seqV P l.toArray w k dep I vs (fun a' => ∀ w', w.heap.size ≤ w'.heap.size → Below w.heap.size w w' → I p w' → wpList P l.toArray Q (l.drop n) a' w') p 0 (l.take n) a) : (Code.region id l.toArray true).wp P Q a w := by
  have ok := growB_ok hB
  obtain ⟨hkn, hdp⟩ := depB_at hD
  have hlen : l.length = n + 1 := by simpa using ok.size
  have hsp := fun p => seqV_spec (n := n) (a0 := a) (ops := l.toArray) (P := P) (l.take n) 0 (fun j hj => by
    have : j < n := by simp at hj; omega
    simp [this]) (by simp; omega) (h p)
  have start : HeadInv .any l.toArray n (Array.replicate l.toArray.size false) :=
    ⟨by simp, (fun j oj _ hl => by rw [getD_replicate_false] at hl; cases hl), fun t _ ht => getD_in (by simpa using ht) (getD_replicate_false _ _)⟩
  have zero : ∀ val : Nat → Value, ∀ k, fill l.toArray val (flag (Array.replicate l.toArray.size false)) a k = a := by
    intro val k
    induction k with
    | zero => rfl
    | succ k ih =>
      show (if flag (Array.replicate l.toArray.size false) k then _ else _) = a
      rw [show flag (Array.replicate l.toArray.size false) k = false from getD_replicate_false _ _]
      exact ih
  have most : ∀ k, left (Array.replicate l.toArray.size false) k ≤ k := by
    intro k
    induction k with
    | zero => exact Nat.le_refl _
    | succ k ih => unfold left; split <;> omega
  refine wp_region_any hm ?_
  have := any_of_stateX (P := P) (Q := Q) (σ := Value) (a0 := a) (val := valV vs)
    (J := fun f p w' => Below w.heap.size w w' ∧ (∀ j, dep.contains j = true → f j = true → f k = true) ∧ (f k = true → I p w')) ok
    (fun f p w1 j oj hj hoj hun hd hJ => by
      obtain ⟨hb, hdk, hh⟩ := hJ
      by_cases ejk : j = k
      · subst ejk
        have hst := (hsp p).1 j oj (Nat.zero_le _) hj hoj
        unfold stepV at hst
        rw [if_pos rfl] at hst
        refine (hst w1 hb).mono fun q w' e => ⟨fun i hi => ?_, fun f' hf' ho => ⟨below_onto hb e.1, fun i _ _ => hf', fun _ => e.2⟩⟩
        refine hv _ _ i (fun e => by rw [e, hun] at hi; cases hi) ?_
        cases hc : dep.contains i with
        | false => rfl
        | true => have := hdk i hc hi; rw [hun] at this; cases this
      · have hvk : ∀ f' : Nat → Bool, (∀ i, i ≠ j → f' i = f i) → f' k = f k := fun f' ho => ho k (Ne.symm ejk)
        have hst := (hsp p).1 j oj (Nat.zero_le _) hj hoj
        unfold stepV at hst
        rw [if_neg ejk] at hst
        cases hc : dep.contains j with
        | true =>
          rw [if_pos hc] at hst
          have hfk : f k = true := by
            obtain ⟨-, -, h3⟩ := hdp j hc
            obtain ⟨e, he, hb, h4⟩ := h3 oj (by simpa using hoj)
            have hl := hd e he hb
            rcases h4 with h4 | h4
            · rwa [h4] at hl
            · exact hdk _ h4 hl
          refine GYX.of p (hst w1 hb (hh hfk)) rfl fun w' e => ⟨fun i _ => rfl, fun f' hf' ho => ?_⟩
          have ek := hvk f' ho
          exact ⟨below_onto hb e, fun i _ _ => ek.trans hfk, fun _ => hI _ _ _ (hh hfk) e⟩
        | false =>
          rw [if_neg (by rw [hc]; simp)] at hst
          refine GYX.of p (hst w1 hb) rfl fun w' e => ⟨fun i _ => rfl, fun f' hf' ho => ?_⟩
          have ek := hvk f' ho
          refine ⟨below_onto hb e, fun i hi hfi => ?_, fun h => hI _ _ _ (hh (by rwa [ek] at h)) e⟩
          rw [ek]
          have hij : i ≠ j := fun e => by rw [e, hc] at hi; cases hi
          exact hdk i hi (by rwa [ho i hij] at hfi))
    (fun f p w1 hall hJ => by
      obtain ⟨hb, -, hh⟩ := hJ
      have hn := (hsp p).2 w1 hb.size hb (hh (hall k hkn))
      have hd : l.drop n = [l[n]] := by
        rw [List.drop_eq_getElem_cons (by omega), List.drop_eq_nil_of_le (by omega)]
      rw [hd] at hn
      unfold wpOp
      have ho : l.toArray[n]? = some l[n] := by simp
      simp only [ho]
      exact hn) n (Array.replicate l.toArray.size false) undef w.drew start (most n)
      ⟨(Below.refl _ w).drew, (fun j _ h => by rw [show flag (Array.replicate l.toArray.size false) j = false from getD_replicate_false _ _] at h; cases h), fun h => by rw [show flag (Array.replicate l.toArray.size false) k = false from getD_replicate_false _ _] at h; cases h⟩
  rw [zero _ n, ok.size] at this
  rw [ok.size]
  exact this

theorem seqV_nil {w0 : World} {k : Nat} {dep : List Nat} {I : Value → World → Prop} {vs : Value → List Value} {L : Act → Prop} {p : Value} {j : Nat} {a : Act} (h : L a) : seqV P ops w0 k dep I vs L p j [] a := h
theorem seqV_free {w0 : World} {k : Nat} {dep : List Nat} {I : Value → World → Prop} {vs : Value → List Value} {L : Act → Prop} {p : Value} {j : Nat} {o : Oper} {rest : List Oper} {a : Act} (hk : (j == k) = false) (hs : dep.contains j = false) (hg : o.guard = none) {v : Value} (hv : (vs p).getD j undef = v)
    (h : ∀ w, Below w0.heap.size w0 w → ∀ K : Act → World → Prop, (∀ a' w', a' = a.put o.dst v → Below w.heap.size w w' → K a' w') → o.wp P a w K (fun _ _ _ => False)) (hr : seqV P ops w0 k dep I vs L p (j + 1) rest (a.put o.dst v)) :
    seqV P ops w0 k dep I vs L p j (o :: rest) a := by
  have hk' : j ≠ k := by simpa using hk
  have e : valV vs p j = v := hv
  refine ⟨?_, by rw [e]; exact hr⟩
  unfold stepV
  rw [if_neg hk', if_neg (by rw [hs]; simp), e]
  exact fun w hw => GYR.plain hg (h w hw)
theorem seqV_dep {w0 : World} {k : Nat} {dep : List Nat} {I : Value → World → Prop} {vs : Value → List Value} {L : Act → Prop} {p : Value} {j : Nat} {o : Oper} {rest : List Oper} {a : Act} (hk : (j == k) = false) (hs : dep.contains j = true) (hg : o.guard = none) {v : Value} (hv : (vs p).getD j undef = v)
    (h : ∀ w, Below w0.heap.size w0 w → I p w → ∀ K : Act → World → Prop, (∀ a' w', a' = a.put o.dst v → Below w.heap.size w w' → K a' w') → o.wp P a w K (fun _ _ _ => False)) (hr : seqV P ops w0 k dep I vs L p (j + 1) rest (a.put o.dst v)) :
    seqV P ops w0 k dep I vs L p j (o :: rest) a := by
  have hk' : j ≠ k := by simpa using hk
  have e : valV vs p j = v := hv
  refine ⟨?_, by rw [e]; exact hr⟩
  unfold stepV
  rw [if_neg hk', if_pos hs, e]
  exact fun w hw hi => GYR.plain hg (h w hw hi)
theorem seqV_call {w0 : World} {k : Nat} {dep : List Nat} {I : Value → World → Prop} {vs : Value → List Value} {L : Act → Prop} {p : Value} {j : Nat} {o : Oper} {rest : List Oper} {a : Act} (hk : (j == k) = true) (hg : o.guard = none) (hv : ∀ q, (vs q).getD j undef = q)
    (h : ∀ w, Below w0.heap.size w0 w → ∀ K : Act → World → Prop, (∀ q a' w', a' = a.put o.dst q → Below w.heap.size w w' → I q w' → K a' w') → o.wp P a w K (fun _ _ _ => False)) (hr : seqV P ops w0 k dep I vs L p (j + 1) rest (a.put o.dst p)) :
    seqV P ops w0 k dep I vs L p j (o :: rest) a := by
  have hk' : j = k := by simpa using hk
  have e : ∀ q, valV vs q j = q := hv
  refine ⟨?_, by rw [e]; exact hr⟩
  unfold stepV
  rw [if_pos hk']
  intro w hw
  unfold GYX
  rw [if_pos (by simp [Region.wanted, hg])]
  exact fun K hK => h w hw K fun q a' w' ha hb hi => hK q a' w' (ha.trans (congrArg (a.put o.dst) (e q).symm)) ⟨hb, hi⟩
end
end Go.Proofs.Ytaeenkjbmlgcmaa
