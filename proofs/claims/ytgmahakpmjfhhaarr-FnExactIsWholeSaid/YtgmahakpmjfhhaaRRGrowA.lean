/- The same for a region that also makes one variable and stores to it: an operation k makes it, an operation s stores; where it lies hangs on the order that is drawn. -/
import Derived.Test.YtgmahakpmjfhhaaRRGrow
namespace Go.Proofs.YtgmahakpmjfhhaaRR
open Go.RowKit

section
variable {P : Program} {ops : Array Oper}

/-- An operation answers v, and its world after has R. -/
def GYR (P : Program) (ops : Array Oper) (R : World → Prop) (o : Oper) (v : Value) (a : Act) (w : World) : Prop :=
  if Region.wanted o (yielded ops a.tmps) then ∀ K : Act → World → Prop, (∀ a' w', a' = a.put o.dst v → R w' → K a' w') → o.wp P a w K (fun _ _ _ => False)
  else v = undef ∧ R w
theorem GYR.mono {R R' : World → Prop} {o : Oper} {v : Value} {a : Act} {w : World} (h : GYR P ops R o v a w) (hr : ∀ w', R w' → R' w') : GYR P ops R' o v a w := by
  unfold GYR at h ⊢
  split
  · rename_i hwt
    rw [if_pos hwt] at h
    exact fun K hK => h K fun a' w' e r => hK a' w' e (hr w' r)
  · rename_i hwt
    rw [if_neg hwt] at h
    exact ⟨h.1, hr w h.2⟩
theorem GYR.plain {R : World → Prop} {o : Oper} {v : Value} {a : Act} {w : World} (hg : o.guard = none) (h : ∀ K : Act → World → Prop, (∀ a' w', a' = a.put o.dst v → R w' → K a' w') → o.wp P a w K (fun _ _ _ => False)) : GYR P ops R o v a w := by
  unfold GYR
  rw [if_pos (by simp [Region.wanted, hg])]
  exact h
theorem GYR.at {R : World → Prop} {o : Oper} {v : Value} {a b : Act} {w : World} (h : GYR P ops R o v a w) (hs : ∀ cs c, o.op ≠ .select cs c) (hab : Agree (o.looksAt ops) a b) {K : Act → World → Prop} {Q : Exit → Act → World → Prop}
    (hK : ∀ w', R w' → K (b.put o.dst v) w') : if Region.wanted o (yielded ops b.tmps) then o.wp P b w K Q else K (b.put o.dst undef) w := by
  unfold GYR at h
  rw [hab.wants] at h
  split
  · rename_i hwt
    rw [if_pos hwt] at h
    have h := h (fun a' w' => a' = a.put o.dst v ∧ R w') (fun a' w' h1 h2 => ⟨h1, h2⟩)
    unfold Oper.wp at h ⊢
    rw [hab.exec hs] at h
    have fin : ∀ (u : Value) (w' : World), (a.put o.dst u = a.put o.dst v ∧ R w') → K (b.put o.dst u) w' := fun u w' ⟨e1, e2⟩ => by rw [put_eq hab.1 e1]; exact hK w' e2
    unfold Oper.upon at h ⊢
    split at h
    · exact fin _ _ h
    · exact fin _ _ h
    · rename_i d w' hr
      have hd := congrArg Act.defers h.1
      rw [put_def, put_def] at hd
      exact absurd hd (by simp)
    · refine h.mono fun e w'' he => ?_
      cases e with
      | returned u => exact fin _ _ he
      | panicked c => exact he.elim
      | outgrown => obtain ⟨_, _, h⟩ := he; exact h.elim
    · exact h.mono fun u w'' he => fin _ _ he
    · exact h.elim
    · exact h.elim
  · rename_i hwt
    rw [if_neg hwt] at h
    rw [← h.1]
    exact hK w h.2

theorem fill_same (val val' : Nat → Value) (l : Nat → Bool) (a0 : Act) : ∀ n, (∀ i, i < n → l i = true → val i = val' i) → fill ops val l a0 n = fill ops val' l a0 n
  | 0, _ => rfl
  | n + 1, h => by
    have ih := fill_same val val' l a0 n (fun i hi => h i (by omega))
    unfold fill
    rw [ih]
    cases hl : l n with
    | false => rfl
    | true => rw [h n (by omega) hl]
theorem ready_last {n : Nat} (ok : GrowOk ops n) {listed : Array Bool} (hall : ∀ i, i < n → flag listed i = true) (hsz : listed.size = ops.size) (hun : listed.getD n true = false) {Q : Exit → Act → World → Prop} {a : Act} {w : World} (f : Nat)
    (h : wpOp P ops Q n (Q .normal) a w) : wpAny P .any ops Q (f + 1) listed a w := by
  have hn : n < listed.size := by rw [hsz, ok.size]; omega
  obtain ⟨on, hon⟩ : ∃ on, ops[n]? = some on := ⟨_, Array.getElem?_eq_getElem (by rw [ok.size]; omega)⟩
  have hnr : n ∈ Region.ready .any ops listed := mem_ready.2 ⟨hun, on, hon, fun e he hb => hall _ (ok.back n on hon e he hb)⟩
  refine ⟨fun h => (by rw [h] at hnr; cases hnr), fun i hi => ?_⟩
  obtain ⟨h1, oi, hoi, -⟩ := mem_ready.1 hi
  have hin : i = n := by
    have hlt : i < n + 1 := by rw [← ok.size]; exact (Array.getElem?_eq_some_iff.1 hoi).1
    by_cases e : i < n
    · have := hall i e; unfold flag at this; rw [getD_both h1] at this; cases this
    · omega
  subst hin
  refine wpOp_mono (fun a' w' hq => ready_done ?_ _ _ _ hq) h
  apply List.eq_nil_iff_forall_not_mem.2
  intro j hj
  obtain ⟨g1, oj, hoj, -⟩ := mem_ready.1 hj
  have hjlt : j < i + 1 := by rw [← ok.size]; exact (Array.getElem?_eq_some_iff.1 hoj).1
  by_cases e : j = i
  · subst e; simp [hn] at g1
  · rw [getD_set_ne true (Ne.symm e)] at g1
    have := hall j (by omega); unfold flag at this; rw [getD_both g1] at this; cases this

/-- All orders come to the same slots, but for what hangs on a state. -/
theorem any_of_state {σ : Type} {n : Nat} (ok : GrowOk ops n) {a0 : Act} {val : σ → Nat → Value} {J : (Nat → Bool) → σ → World → Prop} {Q : Exit → Act → World → Prop}
    (hY : ∀ (l : Nat → Bool) (s : σ) (w : World) (j : Nat) (oj : Oper), j < n → ops[j]? = some oj → l j = false → (∀ e ∈ oj.after, Region.binds .any e = true → l e.on = true) → J l s w →
      ∃ s', (∀ i, l i = true → val s' i = val s i) ∧ GYR P ops (fun w' => ∀ l' : Nat → Bool, l' j = true → (∀ i, i ≠ j → l' i = l i) → J l' s' w') oj (val s' j) (fill ops (val s') (fun _ => true) a0 j) w)
    (hlast : ∀ (l : Nat → Bool) s w, (∀ i, i < n → l i = true) → J l s w → wpOp P ops Q n (Q .normal) (fill ops (val s) (fun _ => true) a0 n) w) :
    ∀ (f : Nat) (listed : Array Bool) (s : σ) (w : World), HeadInv .any ops n listed → left listed n ≤ f → J (flag listed) s w → wpAny P .any ops Q (f + 1) listed (fill ops (val s) (flag listed) a0 n) w := by
  intro f
  induction f with
  | zero =>
    intro listed s w inv hl hw
    have hall := left_zero n (Nat.le_zero.1 hl)
    rw [fill_congr (val s) (val s) (flag listed) (fun _ => true) a0 n (fun i hi => ⟨hall i hi, rfl⟩)]
    exact ready_last ok hall inv.size (inv.tail n (Nat.le_refl _) (by rw [ok.size]; omega)) _ (hlast _ s w hall hw)
  | succ f ih =>
    intro listed s w inv hl hw
    by_cases hz : left listed n = 0
    · have hall := left_zero n hz
      rw [fill_congr (val s) (val s) (flag listed) (fun _ => true) a0 n (fun i hi => ⟨hall i hi, rfl⟩)]
      exact ready_last ok hall inv.size (inv.tail n (Nat.le_refl _) (by rw [ok.size]; omega)) _ (hlast _ s w hall hw)
    · obtain ⟨m, hm, hmun, hmin⟩ : ∃ m, m < n ∧ flag listed m = false ∧ ∀ j, j < m → flag listed j = true := by
        clear hl
        have key : ∀ k, k ≤ n → (∀ j, j < k → flag listed j = true) ∨ ∃ m, m < k ∧ flag listed m = false ∧ ∀ j, j < m → flag listed j = true := by
          intro k hk
          induction k with
          | zero => exact .inl fun j hj => by omega
          | succ k ihk =>
            rcases ihk (by omega) with h | ⟨m, h1, h2, h3⟩
            · cases hf : flag listed k with
              | true =>
                refine .inl (fun j hj => ?_)
                by_cases e : j = k
                · subst e; exact hf
                · exact h j (by omega)
              | false => exact .inr ⟨k, by omega, hf, h⟩
            · exact .inr ⟨m, by omega, h2, h3⟩
        rcases key n (Nat.le_refl _) with h | h
        · refine absurd ?_ hz
          have : ∀ k, k ≤ n → left listed k = 0 := by
            intro k hk
            induction k with
            | zero => rfl
            | succ k ihk => unfold left; rw [ihk (by omega), h k (by omega)]; rfl
          exact this n (Nat.le_refl _)
        · exact h
      have hms : m < listed.size := by rw [inv.size, ok.size]; omega
      obtain ⟨om, hom⟩ : ∃ om, ops[m]? = some om := ⟨_, Array.getElem?_eq_getElem (by rw [ok.size]; omega)⟩
      have hmr : m ∈ Region.ready .any ops listed := mem_ready.2 ⟨getD_in hms hmun, om, hom, fun e he hb => hmin _ (ok.back m om hom e he hb)⟩
      refine ⟨fun h => (by rw [h] at hmr; cases hmr), fun i hi => ?_⟩
      obtain ⟨h1, oi, hoi, hdep⟩ := mem_ready.1 hi
      have hin : i < n := by
        rcases Nat.lt_or_ge i n with h | h
        · exact h
        · exact absurd hi (tail_waits ok.sink ok.chain (by rw [ok.size]; omega) inv _ m rfl hm (getD_in hms hmun) i h)
      have his : i < listed.size := by rw [inv.size, ok.size]; omega
      have hiun : flag listed i = false := getD_both h1
      obtain ⟨s', hv, hy⟩ := hY (flag listed) s w i oi hin hoi hiun hdep hw
      rw [fill_same (val s) (val s') (flag listed) a0 n (fun j _ hj => (hv j hj).symm)]
      have hother : ∀ j, j ≠ i → flag (listed.setIfInBounds i true) j = flag listed j := fun j hj => getD_set_ne false (Ne.symm hj)
      have hself : flag (listed.setIfInBounds i true) i = true := by simp [flag, his]
      have hfs : fill ops (val s') (flag (listed.setIfInBounds i true)) a0 n = (fill ops (val s') (flag listed) a0 n).put (dstOf ops i) (val s' i) :=
        fill_set (val s') (flag listed) (flag (listed.setIfInBounds i true)) a0 i hiun hself hother n hin (ok.dist i hin)
      have hdst : dstOf ops i = oi.dst := by simp [dstOf, hoi]
      have hagree : Agree (oi.looksAt ops) (fill ops (val s') (fun _ => true) a0 i) (fill ops (val s') (flag listed) a0 n) := by
        have e1 : fill ops (val s') (fun _ => true) a0 i = fill ops (val s') (fun j => decide (j < i)) a0 i := fill_congr _ _ _ _ _ i (fun j hj => ⟨by simp [hj], rfl⟩)
        have e2 : ∀ k, i ≤ k → fill ops (val s') (fun j => decide (j < i)) a0 k = fill ops (val s') (fun j => decide (j < i)) a0 i := by
          intro k hk
          induction k with
          | zero => rw [show i = 0 by omega]
          | succ k ihk =>
            by_cases e : i = k + 1
            · rw [e]
            · rw [← ihk (by omega)]
              show (if decide (k < i) then _ else _) = _
              rw [show decide (k < i) = false by simp; omega]
              rfl
        rw [e1, ← e2 n (by omega)]
        refine fill_agree (val s') _ _ a0 _ n (fun j hj hne d hd hl => ?_)
        obtain ⟨e, he, hb, hon⟩ := ok.looks i oi hoi j hj d hd hl
        have hlisted := hdep e he hb
        rw [hon] at hlisted
        have hback := ok.back i oi hoi e he hb
        rw [hon] at hback
        exact hne (by show decide (j < i) = flag listed j; unfold flag; rw [hlisted]; simp [hback])
      have hat := hy.at (fun cs c => ok.sel i oi cs c hoi) hagree (K := wpAny P .any ops Q (f + 1) (listed.setIfInBounds i true)) (Q := Q) (fun w' hw' => by
        rw [← hdst, ← hfs]
        exact ih (listed.setIfInBounds i true) s' w' (inv.set hi hin) (by have := left_set hiun his n hin; omega) (hw' _ hself hother))
      unfold wpOp
      simp only [hoi]
      split
      · rename_i hwt; rw [if_pos hwt] at hat; exact .inl hat
      · rename_i hwt; rw [if_neg hwt] at hat; exact hat

/-- What lies in the slots, where the variable lies at block p. -/
def valA (vs : List Value) (k : Nat) (p j : Nat) : Value := if j = k then .pointer (some ⟨p, 0, none⟩) else vs.getD j undef
/-- One operation's step: k makes the variable (with the cells Z), s stores C to it, all others answer the same in every world that has grown. -/
def stepA (P : Program) (ops : Array Oper) (w0 : World) (k s : Nat) (Z C : Array Value) (t : TypeId) (p j : Nat) (o : Oper) (v : Value) (a : Act) : Prop :=
  if j = k then ∀ w, p = w.heap.size → GYR P ops (fun w' => w' = w.alloc (.cells Z t)) o v a w
  else if j = s then ∀ w, w0.heap.size ≤ p → Holds w p Z → GYR P ops (fun w' => w' = w.setRow p C) o v a w
  else ∀ w, Below w0.heap.size w0 w → GYR P ops (fun w' => Below w.heap.size w w') o v a w
def seqA (P : Program) (ops : Array Oper) (w0 : World) (k s : Nat) (Z C : Array Value) (t : TypeId) (vs : List Value) (L : Act → Prop) (p : Nat) : Nat → List Oper → Act → Prop
  | _, [], a => L a
  | j, o :: rest, a => stepA P ops w0 k s Z C t p j o (valA vs k p j) a ∧ seqA P ops w0 k s Z C t vs L p (j + 1) rest (a.put o.dst (valA vs k p j))

theorem seqA_spec {w0 : World} {k s : Nat} {Z C : Array Value} {t : TypeId} {vs : List Value} {L : Act → Prop} {p n : Nat} {a0 : Act} : ∀ (l : List Oper) (m : Nat), (∀ j, j < l.length → l[j]? = ops[m + j]?) → m + l.length = n →
    seqA P ops w0 k s Z C t vs L p m l (fill ops (valA vs k p) (fun _ => true) a0 m) →
    (∀ (j : Nat) (oj : Oper), m ≤ j → j < n → ops[j]? = some oj → stepA P ops w0 k s Z C t p j oj (valA vs k p j) (fill ops (valA vs k p) (fun _ => true) a0 j)) ∧ L (fill ops (valA vs k p) (fun _ => true) a0 n)
  | [], m, _, hk, h => by
    have : m = n := by simpa using hk
    subst this
    exact ⟨fun j _ h1 h2 => by omega, h⟩
  | o :: l, m, hl, hk, ⟨hy, h⟩ => by
    have h0 : ops[m]? = some o := by simpa using (hl 0 (by simp)).symm
    have step : fill ops (valA vs k p) (fun _ => true) a0 (m + 1) = (fill ops (valA vs k p) (fun _ => true) a0 m).put o.dst (valA vs k p m) := by
      show (fill ops (valA vs k p) (fun _ => true) a0 m).put (dstOf ops m) (valA vs k p m) = _
      simp [dstOf, h0]
    rw [← step] at h
    obtain ⟨e2, e3⟩ := seqA_spec (n := n) l (m + 1) (fun j hj => by have := hl (j + 1) (by simp; omega); simpa [Nat.add_assoc, Nat.add_comm 1 j] using this) (by simp at hk; omega) h
    refine ⟨fun j oj h1 h2 hj => ?_, e3⟩
    by_cases e : j = m
    · subst e
      rw [h0] at hj; cases hj
      exact hy
    · exact e2 j oj (by omega) h2 hj

theorem wp_region_growA {id : Nat} {Q : Exit → Act → World → Prop} {a : Act} {w : World} {l : List Oper} (n k s : Nat) (Z C : Array Value) (t : TypeId) (vs : List Value) (hm : P.follows .mixedOrders = true) (hB : growB l.toArray n = true)
    (hks : (k < n && s < n && k != s && (match l[s]? with | some o => o.after.any (fun e => Region.binds .any e && e.on == k) | none => false)) = true)
    (h : ∀ p, seqA P l.toArray w k s Z C t vs (fun a' => ∀ w', w.heap.size ≤ p → Below w.heap.size w w' → Holds w' p C → wpList P l.toArray Q (l.drop n) a' w') p 0 (l.take n) a) : (Code.region id l.toArray true).wp P Q a w := by
  have ok := growB_ok hB
  have hlen : l.length = n + 1 := by simpa using ok.size
  simp only [Bool.and_eq_true, decide_eq_true_eq, bne_iff_ne] at hks
  obtain ⟨⟨⟨hkn, hsn⟩, hne⟩, hdep⟩ := hks
  have hsp := fun p => seqA_spec (n := n) (a0 := a) (ops := l.toArray) (P := P) (l.take n) 0 (fun j hj => by
    have : j < n := by simp at hj; omega
    simp [this]) (by simp; omega) (h p)
  have start : HeadInv .any l.toArray n (Array.replicate l.toArray.size false) :=
    ⟨by simp, (fun j oj _ hl => by rw [getD_replicate_false] at hl; cases hl), fun t _ ht => getD_in (by simpa using ht) (getD_replicate_false _ _)⟩
  have zero : ∀ val : Nat → Value, ∀ k, fill l.toArray val (flag (Array.replicate l.toArray.size false)) a k = a := by
    intro val k
    induction k with
    | zero => rfl
    | succ k ih =>
      show (if flag (Array.replicate l.toArray.size false) k then _ else _) = a
      rw [show flag (Array.replicate l.toArray.size false) k = false from getD_replicate_false _ _]
      exact ih
  have most : ∀ k, left (Array.replicate l.toArray.size false) k ≤ k := by
    intro k
    induction k with
    | zero => exact Nat.le_refl _
    | succ k ih => unfold left; split <;> omega
  refine wp_region_any hm ?_
  have := any_of_state (P := P) (Q := Q) (σ := Nat) (a0 := a) (val := valA vs k)
    (J := fun f p w' => Below w.heap.size w w' ∧ (f s = true → f k = true) ∧ (f k = true → w.heap.size ≤ p ∧ Holds w' p (if f s then C else Z))) ok
    (fun f p w1 j oj hj hoj hun hd hJ => by
      obtain ⟨hb, hsk, hh⟩ := hJ
      by_cases ejk : j = k
      · subst ejk
        have hfs : f s = false := by
          cases e : f s with
          | false => rfl
          | true => have := hsk e; rw [hun] at this; cases this
        refine ⟨w1.heap.size, fun i hi => ?_, ?_⟩
        · have : i ≠ j := fun e => by rw [e, hun] at hi; cases hi
          simp [valA, this]
        · have hst := (hsp w1.heap.size).1 j oj (Nat.zero_le _) hj hoj
          unfold stepA at hst
          rw [if_pos rfl] at hst
          refine (hst w1 rfl).mono fun w' e f' hf' ho => ?_
          subst e
          have hs' : f' s = false := (ho s (Ne.symm hne)).trans hfs
          refine ⟨hb.alloc hb.size _, fun e => hf', fun _ => ⟨hb.size, ?_⟩⟩
          rw [hs']
          exact Holds.new _ _ _
      · have hvk : ∀ f' : Nat → Bool, (∀ i, i ≠ j → f' i = f i) → f' k = f k := fun f' ho => ho k (Ne.symm ejk)
        refine ⟨p, fun i _ => rfl, ?_⟩
        have hst := (hsp p).1 j oj (Nat.zero_le _) hj hoj
        unfold stepA at hst
        rw [if_neg ejk] at hst
        by_cases ejs : j = s
        · subst ejs
          rw [if_pos rfl] at hst
          have hfk : f k = true := by
            rw [show l[j]? = some oj by simpa using hoj] at hdep
            obtain ⟨e, he, hb⟩ := Array.any_eq_true'.1 hdep
            simp only [Bool.and_eq_true, beq_iff_eq] at hb
            have := hd e he hb.1
            rwa [hb.2] at this
          obtain ⟨hp, hH⟩ := hh hfk
          rw [hun] at hH
          refine (hst w1 hp hH).mono fun w' e f' hf' ho => ?_
          subst e
          refine ⟨below_setRow' hb hp _, fun _ => (hvk f' ho).trans hfk, fun _ => ⟨hp, ?_⟩⟩
          rw [hf']
          exact hH.setRow _
        · rw [if_neg ejs] at hst
          refine (hst w1 hb).mono fun w' e f' hf' ho => ?_
          have es := ho s (Ne.symm ejs)
          have ek := hvk f' ho
          refine ⟨below_onto hb e, fun h => by rw [ek]; exact hsk (by rwa [es] at h), fun h => ?_⟩
          rw [ek] at h
          obtain ⟨hp, hH⟩ := hh h
          rw [es]
          exact ⟨hp, hH.below e hH.lt⟩)
    (fun f p w1 hall hJ => by
      obtain ⟨hb, -, hh⟩ := hJ
      obtain ⟨hp, hH⟩ := hh (hall k hkn)
      rw [hall s hsn] at hH
      have hn := (hsp p).2 w1 hp hb hH
      have hd : l.drop n = [l[n]] := by
        rw [List.drop_eq_getElem_cons (by omega), List.drop_eq_nil_of_le (by omega)]
      rw [hd] at hn
      unfold wpOp
      have ho : l.toArray[n]? = some l[n] := by simp
      simp only [ho]
      exact hn) n (Array.replicate l.toArray.size false) 0 w.drew start (most n)
      ⟨(Below.refl _ w).drew, (fun h => by rw [show flag (Array.replicate l.toArray.size false) s = false from getD_replicate_false _ _] at h; cases h), fun h => by rw [show flag (Array.replicate l.toArray.size false) k = false from getD_replicate_false _ _] at h; cases h⟩
  rw [zero _ n, ok.size] at this
  rw [ok.size]
  exact this

theorem seqA_nil {w0 : World} {k s : Nat} {Z C : Array Value} {t : TypeId} {vs : List Value} {L : Act → Prop} {p j : Nat} {a : Act} (h : L a) : seqA P ops w0 k s Z C t vs L p j [] a := h
theorem seqA_other {w0 : World} {k s : Nat} {Z C : Array Value} {t : TypeId} {vs : List Value} {L : Act → Prop} {p j : Nat} {o : Oper} {rest : List Oper} {a : Act} (hk : (j == k) = false) (hs : (j == s) = false) (hg : o.guard = none) {v : Value} (hv : vs.getD j undef = v)
    (h : ∀ w, Below w0.heap.size w0 w → ∀ K : Act → World → Prop, (∀ a' w', a' = a.put o.dst v → Below w.heap.size w w' → K a' w') → o.wp P a w K (fun _ _ _ => False)) (hr : seqA P ops w0 k s Z C t vs L p (j + 1) rest (a.put o.dst v)) :
    seqA P ops w0 k s Z C t vs L p j (o :: rest) a := by
  have hk' : j ≠ k := by simpa using hk
  have hs' : j ≠ s := by simpa using hs
  have e : valA vs k p j = v := by unfold valA; rw [if_neg hk', hv]
  refine ⟨?_, by rw [e]; exact hr⟩
  unfold stepA
  rw [if_neg hk', if_neg hs', e]
  exact fun w hw => GYR.plain hg (h w hw)
theorem seqA_make {w0 : World} {k s : Nat} {Z C : Array Value} {t : TypeId} {vs : List Value} {L : Act → Prop} {p j : Nat} {o : Oper} {rest : List Oper} {a : Act} (hk : (j == k) = true) (hg : o.guard = none)
    (h : ∀ w, p = w.heap.size → ∀ K : Act → World → Prop, (∀ a', a' = a.put o.dst (.pointer (some ⟨p, 0, none⟩)) → K a' (w.alloc (.cells Z t))) → o.wp P a w K (fun _ _ _ => False)) (hr : seqA P ops w0 k s Z C t vs L p (j + 1) rest (a.put o.dst (.pointer (some ⟨p, 0, none⟩)))) :
    seqA P ops w0 k s Z C t vs L p j (o :: rest) a := by
  have hk' : j = k := by simpa using hk
  have e : valA vs k p j = .pointer (some ⟨p, 0, none⟩) := by unfold valA; rw [if_pos hk']
  refine ⟨?_, by rw [e]; exact hr⟩
  unfold stepA
  rw [if_pos hk', e]
  exact fun w hw => GYR.plain hg fun K hK => h w hw K fun a' ha => hK a' _ ha rfl
theorem seqA_store {w0 : World} {k s : Nat} {Z C : Array Value} {t : TypeId} {vs : List Value} {L : Act → Prop} {p j : Nat} {o : Oper} {rest : List Oper} {a : Act} (hk : (j == k) = false) (hs : (j == s) = true) (hg : o.guard = none) (hd : o.dst = none)
    (h : ∀ w, w0.heap.size ≤ p → Holds w p Z → ∀ K : Act → World → Prop, K a (w.setRow p C) → o.wp P a w K (fun _ _ _ => False)) (hr : seqA P ops w0 k s Z C t vs L p (j + 1) rest a) :
    seqA P ops w0 k s Z C t vs L p j (o :: rest) a := by
  have hk' : j ≠ k := by simpa using hk
  have hs' : j = s := by simpa using hs
  have e : ∀ v, a.put o.dst v = a := fun v => by rw [hd]; rfl
  refine ⟨?_, by rw [e]; exact hr⟩
  unfold stepA
  rw [if_neg hk', if_pos hs']
  exact fun w hp hH => GYR.plain hg fun K hK => h w hp hH K (hK a _ (e _).symm rfl)
end
end Go.Proofs.YtgmahakpmjfhhaaRR
