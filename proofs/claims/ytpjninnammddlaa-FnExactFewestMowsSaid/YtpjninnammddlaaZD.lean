/- The same for a region that also makes one variable and stores to it: an operation k makes it, an operation s stores; where it lies hangs on the order that is drawn. Regions that draw their order in stages: some operations that answer the same in every world that has only grown, one that comes behind them all, and then again such operations. Regions that draw their order, whose operations before the last ones only read or make memory; one of them makes a block whose address comes into a slot. -/
import Derived.Test.YtpjninnammddlaaZB
namespace Go.Proofs.Ytpjninnammddlaa
open Go.RowKit

section
variable {P : Program} {ops : Array Oper}

/-- An operation answers v, and its world after has R. -/
def GYR (P : Program) (ops : Array Oper) (R : World → Prop) (o : Oper) (v : Value) (a : Act) (w : World) : Prop :=
  if Region.wanted o (yielded ops a.tmps) then ∀ K : Act → World → Prop, (∀ a' w', a' = a.put o.dst v → R w' → K a' w') → o.wp P a w K (fun _ _ _ => False)
  else v = undef ∧ R w
theorem GYR.mono {R R' : World → Prop} {o : Oper} {v : Value} {a : Act} {w : World} (h : GYR P ops R o v a w) (hr : ∀ w', R w' → R' w') : GYR P ops R' o v a w := by
  unfold GYR at h ⊢
  split
  · rename_i hwt
    rw [if_pos hwt] at h
    exact fun K hK => h K fun a' w' e r => hK a' w' e (hr w' r)
  · rename_i hwt
    rw [if_neg hwt] at h
    exact ⟨h.1, hr w h.2⟩
theorem GYR.plain {R : World → Prop} {o : Oper} {v : Value} {a : Act} {w : World} (hg : o.guard = none) (h : ∀ K : Act → World → Prop, (∀ a' w', a' = a.put o.dst v → R w' → K a' w') → o.wp P a w K (fun _ _ _ => False)) : GYR P ops R o v a w := by
  unfold GYR
  rw [if_pos (by simp [Region.wanted, hg])]
  exact h
theorem GYR.at {R : World → Prop} {o : Oper} {v : Value} {a b : Act} {w : World} (h : GYR P ops R o v a w) (hs : ∀ cs c, o.op ≠ .select cs c) (hab : Agree (o.looksAt ops) a b) {K : Act → World → Prop} {Q : Exit → Act → World → Prop}
    (hK : ∀ w', R w' → K (b.put o.dst v) w') : if Region.wanted o (yielded ops b.tmps) then o.wp P b w K Q else K (b.put o.dst undef) w := by
  unfold GYR at h
  rw [hab.wants] at h
  split
  · rename_i hwt
    rw [if_pos hwt] at h
    have h := h (fun a' w' => a' = a.put o.dst v ∧ R w') (fun a' w' h1 h2 => ⟨h1, h2⟩)
    unfold Oper.wp at h ⊢
    rw [hab.exec hs] at h
    have fin : ∀ (u : Value) (w' : World), (a.put o.dst u = a.put o.dst v ∧ R w') → K (b.put o.dst u) w' := fun u w' ⟨e1, e2⟩ => by rw [put_eq hab.1 e1]; exact hK w' e2
    unfold Oper.upon at h ⊢
    split at h
    · exact fin _ _ h
    · exact fin _ _ h
    · rename_i d w' hr
      have hd := congrArg Act.defers h.1
      rw [put_def, put_def] at hd
      exact absurd hd (by simp)
    · refine h.mono fun e w'' he => ?_
      cases e with
      | returned u => exact fin _ _ he
      | panicked c => exact he.elim
      | outgrown => obtain ⟨_, _, h⟩ := he; exact h.elim
    · exact h.mono fun u w'' he => fin _ _ he
    · exact h.elim
    · exact h.elim
  · rename_i hwt
    rw [if_neg hwt] at h
    rw [← h.1]
    exact hK w h.2

theorem fill_same (val val' : Nat → Value) (l : Nat → Bool) (a0 : Act) : ∀ n, (∀ i, i < n → l i = true → val i = val' i) → fill ops val l a0 n = fill ops val' l a0 n
  | 0, _ => rfl
  | n + 1, h => by
    have ih := fill_same val val' l a0 n (fun i hi => h i (by omega))
    unfold fill
    rw [ih]
    cases hl : l n with
    | false => rfl
    | true => rw [h n (by omega) hl]
theorem ready_last {n : Nat} (ok : GrowOk ops n) {listed : Array Bool} (hall : ∀ i, i < n → flag listed i = true) (hsz : listed.size = ops.size) (hun : listed.getD n true = false) {Q : Exit → Act → World → Prop} {a : Act} {w : World} (f : Nat)
    (h : wpOp P ops Q n (Q .normal) a w) : wpAny P .any ops Q (f + 1) listed a w := by
  have hn : n < listed.size := by rw [hsz, ok.size]; omega
  obtain ⟨on, hon⟩ : ∃ on, ops[n]? = some on := ⟨_, Array.getElem?_eq_getElem (by rw [ok.size]; omega)⟩
  have hnr : n ∈ Region.ready .any ops listed := mem_ready.2 ⟨hun, on, hon, fun e he hb => hall _ (ok.back n on hon e he hb)⟩
  refine ⟨fun h => (by rw [h] at hnr; cases hnr), fun i hi => ?_⟩
  obtain ⟨h1, oi, hoi, -⟩ := mem_ready.1 hi
  have hin : i = n := by
    have hlt : i < n + 1 := by rw [← ok.size]; exact (Array.getElem?_eq_some_iff.1 hoi).1
    by_cases e : i < n
    · have := hall i e; unfold flag at this; rw [getD_both h1] at this; cases this
    · omega
  subst hin
  refine wpOp_mono (fun a' w' hq => ready_done ?_ _ _ _ hq) h
  apply List.eq_nil_iff_forall_not_mem.2
  intro j hj
  obtain ⟨g1, oj, hoj, -⟩ := mem_ready.1 hj
  have hjlt : j < i + 1 := by rw [← ok.size]; exact (Array.getElem?_eq_some_iff.1 hoj).1
  by_cases e : j = i
  · subst e; simp [hn] at g1
  · rw [getD_set_ne true (Ne.symm e)] at g1
    have := hall j (by omega); unfold flag at this; rw [getD_both g1] at this; cases this

/-- All orders come to the same slots, but for what hangs on a state. -/
theorem any_of_state {σ : Type} {n : Nat} (ok : GrowOk ops n) {a0 : Act} {val : σ → Nat → Value} {J : (Nat → Bool) → σ → World → Prop} {Q : Exit → Act → World → Prop}
    (hY : ∀ (l : Nat → Bool) (s : σ) (w : World) (j : Nat) (oj : Oper), j < n → ops[j]? = some oj → l j = false → (∀ e ∈ oj.after, Region.binds .any e = true → l e.on = true) → J l s w →
      ∃ s', (∀ i, l i = true → val s' i = val s i) ∧ GYR P ops (fun w' => ∀ l' : Nat → Bool, l' j = true → (∀ i, i ≠ j → l' i = l i) → J l' s' w') oj (val s' j) (fill ops (val s') (fun _ => true) a0 j) w)
    (hlast : ∀ (l : Nat → Bool) s w, (∀ i, i < n → l i = true) → J l s w → wpOp P ops Q n (Q .normal) (fill ops (val s) (fun _ => true) a0 n) w) :
    ∀ (f : Nat) (listed : Array Bool) (s : σ) (w : World), HeadInv .any ops n listed → left listed n ≤ f → J (flag listed) s w → wpAny P .any ops Q (f + 1) listed (fill ops (val s) (flag listed) a0 n) w := by
  intro f
  induction f with
  | zero =>
    intro listed s w inv hl hw
    have hall := left_zero n (Nat.le_zero.1 hl)
    rw [fill_congr (val s) (val s) (flag listed) (fun _ => true) a0 n (fun i hi => ⟨hall i hi, rfl⟩)]
    exact ready_last ok hall inv.size (inv.tail n (Nat.le_refl _) (by rw [ok.size]; omega)) _ (hlast _ s w hall hw)
  | succ f ih =>
    intro listed s w inv hl hw
    by_cases hz : left listed n = 0
    · have hall := left_zero n hz
      rw [fill_congr (val s) (val s) (flag listed) (fun _ => true) a0 n (fun i hi => ⟨hall i hi, rfl⟩)]
      exact ready_last ok hall inv.size (inv.tail n (Nat.le_refl _) (by rw [ok.size]; omega)) _ (hlast _ s w hall hw)
    · obtain ⟨m, hm, hmun, hmin⟩ : ∃ m, m < n ∧ flag listed m = false ∧ ∀ j, j < m → flag listed j = true := by
        clear hl
        have key : ∀ k, k ≤ n → (∀ j, j < k → flag listed j = true) ∨ ∃ m, m < k ∧ flag listed m = false ∧ ∀ j, j < m → flag listed j = true := by
          intro k hk
          induction k with
          | zero => exact .inl fun j hj => by omega
          | succ k ihk =>
            rcases ihk (by omega) with h | ⟨m, h1, h2, h3⟩
            · cases hf : flag listed k with
              | true =>
                refine .inl (fun j hj => ?_)
                by_cases e : j = k
                · subst e; exact hf
                · exact h j (by omega)
              | false => exact .inr ⟨k, by omega, hf, h⟩
            · exact .inr ⟨m, by omega, h2, h3⟩
        rcases key n (Nat.le_refl _) with h | h
        · refine absurd ?_ hz
          have : ∀ k, k ≤ n → left listed k = 0 := by
            intro k hk
            induction k with
            | zero => rfl
            | succ k ihk => unfold left; rw [ihk (by omega), h k (by omega)]; rfl
          exact this n (Nat.le_refl _)
        · exact h
      have hms : m < listed.size := by rw [inv.size, ok.size]; omega
      obtain ⟨om, hom⟩ : ∃ om, ops[m]? = some om := ⟨_, Array.getElem?_eq_getElem (by rw [ok.size]; omega)⟩
      have hmr : m ∈ Region.ready .any ops listed := mem_ready.2 ⟨getD_in hms hmun, om, hom, fun e he hb => hmin _ (ok.back m om hom e he hb)⟩
      refine ⟨fun h => (by rw [h] at hmr; cases hmr), fun i hi => ?_⟩
      obtain ⟨h1, oi, hoi, hdep⟩ := mem_ready.1 hi
      have hin : i < n := by
        rcases Nat.lt_or_ge i n with h | h
        · exact h
        · exact absurd hi (tail_waits ok.sink ok.chain (by rw [ok.size]; omega) inv _ m rfl hm (getD_in hms hmun) i h)
      have his : i < listed.size := by rw [inv.size, ok.size]; omega
      have hiun : flag listed i = false := getD_both h1
      obtain ⟨s', hv, hy⟩ := hY (flag listed) s w i oi hin hoi hiun hdep hw
      rw [fill_same (val s) (val s') (flag listed) a0 n (fun j _ hj => (hv j hj).symm)]
      have hother : ∀ j, j ≠ i → flag (listed.setIfInBounds i true) j = flag listed j := fun j hj => getD_set_ne false (Ne.symm hj)
      have hself : flag (listed.setIfInBounds i true) i = true := by simp [flag, his]
      have hfs : fill ops (val s') (flag (listed.setIfInBounds i true)) a0 n = (fill ops (val s') (flag listed) a0 n).put (dstOf ops i) (val s' i) :=
        fill_set (val s') (flag listed) (flag (listed.setIfInBounds i true)) a0 i hiun hself hother n hin (ok.dist i hin)
      have hdst : dstOf ops i = oi.dst := by simp [dstOf, hoi]
      have hagree : Agree (oi.looksAt ops) (fill ops (val s') (fun _ => true) a0 i) (fill ops (val s') (flag listed) a0 n) := by
        have e1 : fill ops (val s') (fun _ => true) a0 i = fill ops (val s') (fun j => decide (j < i)) a0 i := fill_congr _ _ _ _ _ i (fun j hj => ⟨by simp [hj], rfl⟩)
        have e2 : ∀ k, i ≤ k → fill ops (val s') (fun j => decide (j < i)) a0 k = fill ops (val s') (fun j => decide (j < i)) a0 i := by
          intro k hk
          induction k with
          | zero => rw [show i = 0 by omega]
          | succ k ihk =>
            by_cases e : i = k + 1
            · rw [e]
            · rw [← ihk (by omega)]
              show (if decide (k < i) then _ else _) = _
              rw [show decide (k < i) = false by simp; omega]
              rfl
        rw [e1, ← e2 n (by omega)]
        refine fill_agree (val s') _ _ a0 _ n (fun j hj hne d hd hl => ?_)
        obtain ⟨e, he, hb, hon⟩ := ok.looks i oi hoi j hj d hd hl
        have hlisted := hdep e he hb
        rw [hon] at hlisted
        have hback := ok.back i oi hoi e he hb
        rw [hon] at hback
        exact hne (by show decide (j < i) = flag listed j; unfold flag; rw [hlisted]; simp [hback])
      have hat := hy.at (fun cs c => ok.sel i oi cs c hoi) hagree (K := wpAny P .any ops Q (f + 1) (listed.setIfInBounds i true)) (Q := Q) (fun w' hw' => by
        rw [← hdst, ← hfs]
        exact ih (listed.setIfInBounds i true) s' w' (inv.set hi hin) (by have := left_set hiun his n hin; omega) (hw' _ hself hother))
      unfold wpOp
      simp only [hoi]
      split
      · rename_i hwt; rw [if_pos hwt] at hat; exact .inl hat
      · rename_i hwt; rw [if_neg hwt] at hat; exact hat

/-- What lies in the slots, where the variable lies at block p. -/
def valA (vs : List Value) (k : Nat) (p j : Nat) : Value := if j = k then .pointer (some ⟨p, 0, none⟩) else vs.getD j undef
/-- One operation's step: k makes the variable (with the cells Z), s stores C to it, all others answer the same in every world that has grown. -/
def stepA (P : Program) (ops : Array Oper) (w0 : World) (k s : Nat) (Z C : Array Value) (t : TypeId) (p j : Nat) (o : Oper) (v : Value) (a : Act) : Prop :=
  if j = k then ∀ w, p = w.heap.size → GYR P ops (fun w' => w' = w.alloc (.cells Z t)) o v a w
  else if j = s then ∀ w, w0.heap.size ≤ p → Holds w p Z → GYR P ops (fun w' => w' = w.setRow p C) o v a w
  else ∀ w, Below w0.heap.size w0 w → GYR P ops (fun w' => Below w.heap.size w w') o v a w
def seqA (P : Program) (ops : Array Oper) (w0 : World) (k s : Nat) (Z C : Array Value) (t : TypeId) (vs : List Value) (L : Act → Prop) (p : Nat) : Nat → List Oper → Act → Prop
  | _, [], a => L a
  | j, o :: rest, a => stepA P ops w0 k s Z C t p j o (valA vs k p j) a ∧ seqA P ops w0 k s Z C t vs L p (j + 1) rest (a.put o.dst (valA vs k p j))

theorem seqA_spec {w0 : World} {k s : Nat} {Z C : Array Value} {t : TypeId} {vs : List Value} {L : Act → Prop} {p n : Nat} {a0 : Act} : ∀ (l : List Oper) (m : Nat), (∀ j, j < l.length → l[j]? = ops[m + j]?) → m + l.length = n →
    seqA P ops w0 k s Z C t vs L p m l (fill ops (valA vs k p) (fun _ => true) a0 m) →
    (∀ (j : Nat) (oj : Oper), m ≤ j → j < n → ops[j]? = some oj → stepA P ops w0 k s Z C t p j oj (valA vs k p j) (fill ops (valA vs k p) (fun _ => true) a0 j)) ∧ L (fill ops (valA vs k p) (fun _ => true) a0 n)
  | [], m, _, hk, h => by
    have : m = n := by simpa using hk
    subst this
    exact ⟨fun j _ h1 h2 => by omega, h⟩
  | o :: l, m, hl, hk, ⟨hy, h⟩ => by
    have h0 : ops[m]? = some o := by simpa using (hl 0 (by simp)).symm
    have step : fill ops (valA vs k p) (fun _ => true) a0 (m + 1) = (fill ops (valA vs k p) (fun _ => true) a0 m).put o.dst (valA vs k p m) := by
      show (fill ops (valA vs k p) (fun _ => true) a0 m).put (dstOf ops m) (valA vs k p m) = _
      simp [dstOf, h0]
    rw [← step] at h
    obtain ⟨e2, e3⟩ := seqA_spec (n := n) l (m + 1) (fun j hj => by have := hl (j + 1) (by simp; omega); simpa [Nat.add_assoc, Nat.add_comm 1 j] using this) (by simp at hk; omega) h
    refine ⟨fun j oj h1 h2 hj => ?_, e3⟩
    by_cases e : j = m
    · subst e
      rw [h0] at hj; cases hj
      exact hy
    · exact e2 j oj (by omega) h2 hj

theorem wp_region_growA {id : Nat} {Q : Exit → Act → World → Prop} {a : Act} {w : World} {l : List Oper} (n k s : Nat) (Z C : Array Value) (t : TypeId) (vs : List Value) (hm : P.follows .mixedOrders = true) (hB : growB l.toArray n = true)
    (hks : (k < n && s < n && k != s && (match l[s]? with | some o => o.after.any (fun e => Region.binds .any e && e.on == k) | none => false)) = true)
    (h : ∀ p, seqA P l.toArray w k s Z C t vs (fun a' => ∀ w', w.heap.size ≤ p → Below w.heap.size w w' → Holds w' p C → wpList P l.toArray Q (l.drop n) a' w') p 0 (l.take n) a) : (Code.region id l.toArray true).wp P Q a w := by
  have ok := growB_ok hB
  have hlen : l.length = n + 1 := by simpa using ok.size
  simp only [Bool.and_eq_true, decide_eq_true_eq, bne_iff_ne] at hks
  obtain ⟨⟨⟨hkn, hsn⟩, hne⟩, hdep⟩ := hks
  have hsp := fun p => seqA_spec (n := n) (a0 := a) (ops := l.toArray) (P := P) (l.take n) 0 (fun j hj => by
    have : j < n := by simp at hj; omega
    simp [this]) (by simp; omega) (h p)
  have start : HeadInv .any l.toArray n (Array.replicate l.toArray.size false) :=
    ⟨by simp, (fun j oj _ hl => by rw [getD_replicate_false] at hl; cases hl), fun t _ ht => getD_in (by simpa using ht) (getD_replicate_false _ _)⟩
  have zero : ∀ val : Nat → Value, ∀ k, fill l.toArray val (flag (Array.replicate l.toArray.size false)) a k = a := by
    intro val k
    induction k with
    | zero => rfl
    | succ k ih =>
      show (if flag (Array.replicate l.toArray.size false) k then _ else _) = a
      rw [show flag (Array.replicate l.toArray.size false) k = false from getD_replicate_false _ _]
      exact ih
  have most : ∀ k, left (Array.replicate l.toArray.size false) k ≤ k := by
    intro k
    induction k with
    | zero => exact Nat.le_refl _
    | succ k ih => unfold left; split <;> omega
  refine wp_region_any hm ?_
  have := any_of_state (P := P) (Q := Q) (σ := Nat) (a0 := a) (val := valA vs k)
    (J := fun f p w' => Below w.heap.size w w' ∧ (f s = true → f k = true) ∧ (f k = true → w.heap.size ≤ p ∧ Holds w' p (if f s then C else Z))) ok
    (fun f p w1 j oj hj hoj hun hd hJ => by
      obtain ⟨hb, hsk, hh⟩ := hJ
      by_cases ejk : j = k
      · subst ejk
        have hfs : f s = false := by
          cases e : f s with
          | false => rfl
          | true => have := hsk e; rw [hun] at this; cases this
        refine ⟨w1.heap.size, fun i hi => ?_, ?_⟩
        · have : i ≠ j := fun e => by rw [e, hun] at hi; cases hi
          simp [valA, this]
        · have hst := (hsp w1.heap.size).1 j oj (Nat.zero_le _) hj hoj
          unfold stepA at hst
          rw [if_pos rfl] at hst
          refine (hst w1 rfl).mono fun w' e f' hf' ho => ?_
          subst e
          have hs' : f' s = false := (ho s (Ne.symm hne)).trans hfs
          refine ⟨hb.alloc hb.size _, fun e => hf', fun _ => ⟨hb.size, ?_⟩⟩
          rw [hs']
          exact Holds.new _ _ _
      · have hvk : ∀ f' : Nat → Bool, (∀ i, i ≠ j → f' i = f i) → f' k = f k := fun f' ho => ho k (Ne.symm ejk)
        refine ⟨p, fun i _ => rfl, ?_⟩
        have hst := (hsp p).1 j oj (Nat.zero_le _) hj hoj
        unfold stepA at hst
        rw [if_neg ejk] at hst
        by_cases ejs : j = s
        · subst ejs
          rw [if_pos rfl] at hst
          have hfk : f k = true := by
            rw [show l[j]? = some oj by simpa using hoj] at hdep
            obtain ⟨e, he, hb⟩ := Array.any_eq_true'.1 hdep
            simp only [Bool.and_eq_true, beq_iff_eq] at hb
            have := hd e he hb.1
            rwa [hb.2] at this
          obtain ⟨hp, hH⟩ := hh hfk
          rw [hun] at hH
          refine (hst w1 hp hH).mono fun w' e f' hf' ho => ?_
          subst e
          refine ⟨below_setRow' hb hp _, fun _ => (hvk f' ho).trans hfk, fun _ => ⟨hp, ?_⟩⟩
          rw [hf']
          exact hH.setRow _
        · rw [if_neg ejs] at hst
          refine (hst w1 hb).mono fun w' e f' hf' ho => ?_
          have es := ho s (Ne.symm ejs)
          have ek := hvk f' ho
          refine ⟨below_onto hb e, fun h => by rw [ek]; exact hsk (by rwa [es] at h), fun h => ?_⟩
          rw [ek] at h
          obtain ⟨hp, hH⟩ := hh h
          rw [es]
          exact ⟨hp, hH.below e hH.lt⟩)
    (fun f p w1 hall hJ => by
      obtain ⟨hb, -, hh⟩ := hJ
      obtain ⟨hp, hH⟩ := hh (hall k hkn)
      rw [hall s hsn] at hH
      have hn := (hsp p).2 w1 hp hb hH
      have hd : l.drop n = [l[n]] := by
        rw [List.drop_eq_getElem_cons (by omega), List.drop_eq_nil_of_le (by omega)]
      rw [hd] at hn
      unfold wpOp
      have ho : l.toArray[n]? = some l[n] := by simp
      simp only [ho]
      exact hn) n (Array.replicate l.toArray.size false) 0 w.drew start (most n)
      ⟨(Below.refl _ w).drew, (fun h => by rw [show flag (Array.replicate l.toArray.size false) s = false from getD_replicate_false _ _] at h; cases h), fun h => by rw [show flag (Array.replicate l.toArray.size false) k = false from getD_replicate_false _ _] at h; cases h⟩
  rw [zero _ n, ok.size] at this
  rw [ok.size]
  exact this

theorem seqA_nil {w0 : World} {k s : Nat} {Z C : Array Value} {t : TypeId} {vs : List Value} {L : Act → Prop} {p j : Nat} {a : Act} (h : L a) : seqA P ops w0 k s Z C t vs L p j [] a := h
theorem seqA_other {w0 : World} {k s : Nat} {Z C : Array Value} {t : TypeId} {vs : List Value} {L : Act → Prop} {p j : Nat} {o : Oper} {rest : List Oper} {a : Act} (hk : (j == k) = false) (hs : (j == s) = false) (hg : o.guard = none) {v : Value} (hv : vs.getD j undef = v)
    (h : ∀ w, Below w0.heap.size w0 w → ∀ K : Act → World → Prop, (∀ a' w', a' = a.put o.dst v → Below w.heap.size w w' → K a' w') → o.wp P a w K (fun _ _ _ => False)) (hr : seqA P ops w0 k s Z C t vs L p (j + 1) rest (a.put o.dst v)) :
    seqA P ops w0 k s Z C t vs L p j (o :: rest) a := by
  have hk' : j ≠ k := by simpa using hk
  have hs' : j ≠ s := by simpa using hs
  have e : valA vs k p j = v := by unfold valA; rw [if_neg hk', hv]
  refine ⟨?_, by rw [e]; exact hr⟩
  unfold stepA
  rw [if_neg hk', if_neg hs', e]
  exact fun w hw => GYR.plain hg (h w hw)
theorem seqA_make {w0 : World} {k s : Nat} {Z C : Array Value} {t : TypeId} {vs : List Value} {L : Act → Prop} {p j : Nat} {o : Oper} {rest : List Oper} {a : Act} (hk : (j == k) = true) (hg : o.guard = none)
    (h : ∀ w, p = w.heap.size → ∀ K : Act → World → Prop, (∀ a', a' = a.put o.dst (.pointer (some ⟨p, 0, none⟩)) → K a' (w.alloc (.cells Z t))) → o.wp P a w K (fun _ _ _ => False)) (hr : seqA P ops w0 k s Z C t vs L p (j + 1) rest (a.put o.dst (.pointer (some ⟨p, 0, none⟩)))) :
    seqA P ops w0 k s Z C t vs L p j (o :: rest) a := by
  have hk' : j = k := by simpa using hk
  have e : valA vs k p j = .pointer (some ⟨p, 0, none⟩) := by unfold valA; rw [if_pos hk']
  refine ⟨?_, by rw [e]; exact hr⟩
  unfold stepA
  rw [if_pos hk', e]
  exact fun w hw => GYR.plain hg fun K hK => h w hw K fun a' ha => hK a' _ ha rfl
theorem seqA_store {w0 : World} {k s : Nat} {Z C : Array Value} {t : TypeId} {vs : List Value} {L : Act → Prop} {p j : Nat} {o : Oper} {rest : List Oper} {a : Act} (hk : (j == k) = false) (hs : (j == s) = true) (hg : o.guard = none) (hd : o.dst = none)
    (h : ∀ w, w0.heap.size ≤ p → Holds w p Z → ∀ K : Act → World → Prop, K a (w.setRow p C) → o.wp P a w K (fun _ _ _ => False)) (hr : seqA P ops w0 k s Z C t vs L p (j + 1) rest a) :
    seqA P ops w0 k s Z C t vs L p j (o :: rest) a := by
  have hk' : j ≠ k := by simpa using hk
  have hs' : j = s := by simpa using hs
  have e : ∀ v, a.put o.dst v = a := fun v => by rw [hd]; rfl
  refine ⟨?_, by rw [e]; exact hr⟩
  unfold stepA
  rw [if_neg hk', if_pos hs']
  exact fun w hp hH => GYR.plain hg fun K hK => h w hp hH K (hK a _ (e _).symm rfl)
end
end Go.Proofs.Ytpjninnammddlaa

namespace Go.Proofs.Ytpjninnammddlaa
open Go.RowKit
set_option linter.unusedVariables false

section
variable {P : Program} {ops : Array Oper} {md : Region.Mode}

/-- What comes behind operation n waits for it, and it for all before. -/
def barB (ops : Array Oper) (n : Nat) : Bool := decide (n = ops.size) || (Region.sinkB .any ops n && (List.range ops.size).all fun t => decide (t ≤ n) || (List.range t).any fun u => decide (n ≤ u) && Region.waitsFor .any ops t u)
def growKB (ops : Array Oper) (n : Nat) : Bool :=
  Region.noSelect ops && decide (n ≤ ops.size) && barB ops n &&
  (List.range (n + 1)).all fun j => match ops[j]? with
    | none => decide (j = n)
    | some oj =>
      (oj.after.all fun e => !Region.binds .any e || decide (e.on < j)) &&
      (List.range n).all fun i => (match dstOf ops i with
        | none => true
        | some d => decide (j = n) || (!(oj.looksAt ops).contains d || (oj.after.any fun e => Region.binds .any e && e.on == i)) && (i == j || dstOf ops j != some d))

structure GrowKOk (ops : Array Oper) (n : Nat) : Prop where
  sel : ∀ (j : Nat) (o : Oper) cs b, ops[j]? = some o → o.op ≠ .select cs b
  size : n ≤ ops.size
  bar : barB ops n = true
  back : ∀ (j : Nat) (oj : Oper), j ≤ n → ops[j]? = some oj → ∀ e ∈ oj.after, Region.binds .any e = true → e.on < j
  looks : ∀ (j : Nat) (oj : Oper), j < n → ops[j]? = some oj → ∀ i, i < n → ∀ d, dstOf ops i = some d → d ∈ oj.looksAt ops → ∃ e ∈ oj.after, Region.binds .any e = true ∧ e.on = i
  dist : ∀ i, i < n → ∀ j, j < n → j ≠ i → ∀ d, dstOf ops i = some d → dstOf ops j ≠ some d

theorem growKB_ok {n : Nat} (h : growKB ops n = true) : GrowKOk ops n := by
  simp only [growKB, Bool.and_eq_true, decide_eq_true_eq, List.all_eq_true, List.mem_range] at h
  obtain ⟨⟨⟨h1, h2⟩, h4⟩, h5⟩ := h
  have get : ∀ (j : Nat) (oj : Oper), j ≤ n → ops[j]? = some oj → ((oj.after.all fun e => !Region.binds .any e || decide (e.on < j)) = true) ∧ ∀ i, i < n → (match dstOf ops i with
        | none => true
        | some d => decide (j = n) || (!(oj.looksAt ops).contains d || (oj.after.any fun e => Region.binds .any e && e.on == i)) && (i == j || dstOf ops j != some d)) = true := by
    intro j oj hjn hj
    have := h5 j (by omega)
    rw [hj] at this
    simp only [Bool.and_eq_true, List.all_eq_true, List.mem_range] at this
    exact this
  refine ⟨fun j o cs b ho => Region.noSelect_spec h1 j o cs b ho, h2, h4, fun j oj hjn hj e he hb => ?_, fun j oj hjn hj i hi d hd hl => ?_, fun i hi j hj hne d hd => ?_⟩
  · have := Array.all_eq_true_iff_forall_mem.1 (get j oj hjn hj).1 e he
    simpa [hb] using this
  · have := (get j oj (by omega) hj).2 i hi
    rw [hd] at this
    simp only [Bool.or_eq_true, decide_eq_true_eq] at this
    have := this.resolve_left (by omega)
    simp only [Bool.and_eq_true, Bool.or_eq_true, Bool.not_eq_true'] at this
    rcases this.1 with h | h
    · have : (oj.looksAt ops).contains d = true := by simpa using hl
      rw [this] at h; cases h
    · obtain ⟨e, he, hb⟩ := Array.any_eq_true'.1 h
      simp only [Bool.and_eq_true, beq_iff_eq] at hb
      exact ⟨e, he, hb.1, hb.2⟩
  · have hjlt : j < ops.size := by omega
    have := (get j ops[j] (by omega) (Array.getElem?_eq_getElem hjlt)).2 i hi
    rw [hd] at this
    simp only [Bool.or_eq_true, decide_eq_true_eq] at this
    have := this.resolve_left (by omega)
    simp only [Bool.and_eq_true, Bool.or_eq_true, beq_iff_eq, bne_iff_ne] at this
    exact this.2.resolve_left (Ne.symm hne)

theorem bar_waits {n : Nat} {listed : Array Bool} (hbar : barB ops n = true) (inv : HeadInv .any ops n listed) :
    ∀ (d i : Nat), n - i = d → i < n → listed.getD i true = false → ∀ t, n ≤ t → t ∉ Region.ready .any ops listed := by
  intro d
  induction d using Nat.strongRecOn with
  | _ d ih =>
    intro i hd hi hun t ht hr
    obtain ⟨h1, ot, hot, hall⟩ := mem_ready.1 hr
    have htlt : t < ops.size := (Array.getElem?_eq_some_iff.1 hot).1
    simp only [barB, Bool.or_eq_true, decide_eq_true_eq, Bool.and_eq_true] at hbar
    obtain ⟨hs, hc⟩ := hbar.resolve_left (by omega)
    by_cases htn : t = n
    · subst htn
      have h1 := List.all_eq_true.1 hs i (List.mem_range.2 hi)
      obtain ⟨j, hj, hj2⟩ := List.any_eq_true.1 h1
      simp only [Bool.and_eq_true, decide_eq_true_eq] at hj2
      obtain ⟨oj, hoj, e, he, hbe, hon⟩ := Region.waitsFor_spec hj2.2
      have hjle : j ≤ t := by have := List.mem_range.1 hj; omega
      by_cases hjt : j = t
      · subst hjt
        have : oj = ot := Option.some.inj (hoj.symm.trans hot)
        subst this
        have h2 := hall e he hbe
        rw [hon, getD_both hun] at h2
        cases h2
      · cases hl : listed.getD j false with
        | true =>
          have h2 := inv.closed j oj hoj hl e he hbe
          rw [hon, getD_both hun] at h2
          cases h2
        | false => exact ih (t - j) (by omega) j rfl (by omega) (getD_in (by rw [inv.size]; omega) hl) t (Nat.le_refl _) hr
    · have h2 := List.all_eq_true.1 hc t (List.mem_range.2 htlt)
      simp only [Bool.or_eq_true, decide_eq_true_eq] at h2
      obtain ⟨u, hu, hu2⟩ := List.any_eq_true.1 (h2.resolve_left (by omega))
      simp only [Bool.and_eq_true, decide_eq_true_eq] at hu2
      obtain ⟨oj, hoj, e, he, hbe, hon⟩ := Region.waitsFor_spec hu2.2
      have : oj = ot := Option.some.inj (hoj.symm.trans hot)
      subst this
      have h3 := hall e he hbe
      have hut := List.mem_range.1 hu
      rw [hon, getD_both (inv.tail u hu2.1 (by omega))] at h3
      cases h3

/-- The flags from k on. -/
def flagK (k : Nat) (listed : Array Bool) (i : Nat) : Bool := decide (k ≤ i) && flag listed i
def upK (k : Nat) (i : Nat) : Bool := decide (k ≤ i)

/-- All orders of a stage come to the same slots. -/
theorem any_of_stage {k n : Nat} (ok : GrowKOk ops n) {w0 : World} {a0 : Act} {val : Nat → Value} {Q : Exit → Act → World → Prop}
    (hY : ∀ (j : Nat) (oj : Oper), k ≤ j → j < n → ops[j]? = some oj → GYields P ops w0 oj (val j) (fill ops val (upK k) a0 j))
    (hnext : ∀ listed w, (∀ i, i < n → flag listed i = true) → HeadInv .any ops n listed → Below w0.heap.size w0 w → wpAny P .any ops Q (ops.size - n) listed (fill ops val (upK k) a0 n) w) :
    ∀ (f : Nat) (listed : Array Bool) (w : World), (∀ i, i < k → flag listed i = true) → HeadInv .any ops n listed → left listed n = f → Below w0.heap.size w0 w → wpAny P .any ops Q (f + (ops.size - n)) listed (fill ops val (flagK k listed) a0 n) w := by
  intro f
  induction f with
  | zero =>
    intro listed w hk inv hl hw
    have hall := left_zero n hl
    have hfill : fill ops val (flagK k listed) a0 n = fill ops val (upK k) a0 n := fill_congr _ _ _ _ _ n (fun i hi => ⟨by simp [flagK, upK, hall i hi], rfl⟩)
    rw [hfill, Nat.zero_add]
    exact hnext listed w hall inv hw
  | succ f ih =>
    intro listed w hk inv hl hw
    have hz : ¬ left listed n = 0 := by omega
    obtain ⟨m, hm, hmun, hmin⟩ : ∃ m, m < n ∧ flag listed m = false ∧ ∀ j, j < m → flag listed j = true := by
      clear hl
      have key : ∀ k, k ≤ n → (∀ j, j < k → flag listed j = true) ∨ ∃ m, m < k ∧ flag listed m = false ∧ ∀ j, j < m → flag listed j = true := by
        intro k hk
        induction k with
        | zero => exact .inl fun j hj => by omega
        | succ k ihk =>
          rcases ihk (by omega) with h | ⟨m, h1, h2, h3⟩
          · cases hf : flag listed k with
            | true =>
              refine .inl (fun j hj => ?_)
              by_cases e : j = k
              · subst e; exact hf
              · exact h j (by omega)
            | false => exact .inr ⟨k, by omega, hf, h⟩
          · exact .inr ⟨m, by omega, h2, h3⟩
      rcases key n (Nat.le_refl _) with h | h
      · refine absurd ?_ hz
        have : ∀ k, k ≤ n → left listed k = 0 := by
          intro k hk
          induction k with
          | zero => rfl
          | succ k ihk => unfold left; rw [ihk (by omega), h k (by omega)]; rfl
        exact this n (Nat.le_refl _)
      · exact h
    have hsz := ok.size
    have hms : m < listed.size := by rw [inv.size]; omega
    obtain ⟨om, hom⟩ : ∃ om, ops[m]? = some om := ⟨_, Array.getElem?_eq_getElem (by omega)⟩
    have hmr : m ∈ Region.ready .any ops listed := mem_ready.2 ⟨getD_in hms hmun, om, hom, fun e he hb => hmin _ (ok.back m om (by omega) hom e he hb)⟩
    rw [show f + 1 + (ops.size - n) = (f + (ops.size - n)) + 1 by omega]
    refine ⟨fun h => (by rw [h] at hmr; cases hmr), fun i hi => ?_⟩
    obtain ⟨h1, oi, hoi, hdep⟩ := mem_ready.1 hi
    have hin : i < n := by
      rcases Nat.lt_or_ge i n with h | h
      · exact h
      · exact absurd hi (bar_waits ok.bar inv _ m rfl hm (getD_in hms hmun) i h)
    have his : i < listed.size := by rw [inv.size]; omega
    have hiun : flag listed i = false := getD_both h1
    have hki : k ≤ i := by
      rcases Nat.lt_or_ge i k with h | h
      · have := hk i h; rw [hiun] at this; cases this
      · exact h
    have hnext' := ih (listed.setIfInBounds i true)
    have hfs : fill ops val (flagK k (listed.setIfInBounds i true)) a0 n = (fill ops val (flagK k listed) a0 n).put (dstOf ops i) (val i) := by
      have hlo : ∀ j, j ≠ i → flag (listed.setIfInBounds i true) j = flag listed j := fun j hj => getD_set_ne false (Ne.symm hj)
      exact fill_set val (flagK k listed) (flagK k (listed.setIfInBounds i true)) a0 i (by simp [flagK, hiun]) (by simp [flagK, flag, his, hki]) (fun j hj => by simp [flagK, hlo j hj]) n hin (ok.dist i hin)
    have hdst : dstOf ops i = oi.dst := by simp [dstOf, hoi]
    have hagree : Agree (oi.looksAt ops) (fill ops val (upK k) a0 i) (fill ops val (flagK k listed) a0 n) := by
      have e1 : fill ops val (upK k) a0 i = fill ops val (fun j => decide (k ≤ j) && decide (j < i)) a0 i := fill_congr _ _ _ _ _ i (fun j hj => ⟨by simp [upK, hj], rfl⟩)
      have e2 : ∀ m, i ≤ m → fill ops val (fun j => decide (k ≤ j) && decide (j < i)) a0 m = fill ops val (fun j => decide (k ≤ j) && decide (j < i)) a0 i := by
        intro m hm
        induction m with
        | zero => rw [show i = 0 by omega]
        | succ m ihm =>
          by_cases e : i = m + 1
          · rw [e]
          · rw [← ihm (by omega)]
            show (if (decide (k ≤ m) && decide (m < i)) then _ else _) = _
            rw [show decide (m < i) = false by simp; omega]
            simp
      rw [e1, ← e2 n (by omega)]
      refine fill_agree val _ _ a0 _ n (fun j hj hne d hd hl => ?_)
      obtain ⟨e, he, hb, hon⟩ := ok.looks i oi hin hoi j hj d hd hl
      have hlisted := hdep e he hb
      rw [hon] at hlisted
      have hback := ok.back i oi (by omega) hoi e he hb
      rw [hon] at hback
      exact hne (by show (decide (k ≤ j) && decide (j < i)) = flagK k listed j; unfold flagK flag; rw [hlisted]; simp [hback])
    have hat := (hY i oi hki hin hoi).at (fun cs c => ok.sel i oi cs c hoi) hagree hw (K := wpAny P .any ops Q (f + (ops.size - n)) (listed.setIfInBounds i true)) (Q := Q) (fun w' hw' => by
      rw [← hdst, ← hfs]
      refine hnext' w' (fun j hj => ?_) (inv.set hi hin) (by have := left_set hiun his n hin; omega) hw'
      by_cases e : j = i
      · subst e; simp [flag, his]
      · rw [show flag (listed.setIfInBounds i true) j = flag listed j from getD_set_ne false (Ne.symm e)]; exact hk j hj)
    unfold wpOp
    simp only [hoi]
    split
    · rename_i hwt; rw [if_pos hwt] at hat; exact .inl hat
    · rename_i hwt; rw [if_neg hwt] at hat; exact hat

/-- The values of a stage. -/
theorem vals_of_stage {w0 : World} {L : Act → Prop} {a0 : Act} {k0 n : Nat} : ∀ (l : List Oper) (k : Nat) (val : Nat → Value), k0 ≤ k → (∀ j, j < l.length → l[j]? = ops[k + j]?) → k + l.length = n → wpGrow P ops w0 L l (fill ops val (upK k0) a0 k) →
    ∃ val' : Nat → Value, (∀ i, i < k → val' i = val i) ∧ (∀ (j : Nat) (oj : Oper), k ≤ j → j < n → ops[j]? = some oj → GYields P ops w0 oj (val' j) (fill ops val' (upK k0) a0 j)) ∧ L (fill ops val' (upK k0) a0 n)
  | [], k, val, _, _, hk, h => by
    have : k = n := by simpa using hk
    subst this
    exact ⟨val, fun _ _ => rfl, fun j _ h1 h2 => by omega, h⟩
  | o :: l, k, val, hk0, hl, hk, ⟨v, hy, h⟩ => by
    have h0 : ops[k]? = some o := by simpa using (hl 0 (by simp)).symm
    have same : ∀ m, m ≤ k → ∀ u : Nat → Value, (∀ i, i < k → u i = val i) → fill ops u (upK k0) a0 m = fill ops val (upK k0) a0 m := fun m hm u hu => fill_congr _ _ _ _ _ m (fun i hi => ⟨rfl, hu i (by omega)⟩)
    have hv1 : ∀ i, i < k → (fun i => if i = k then v else val i) i = val i := fun i hi => by simp only; rw [if_neg (by omega)]
    have step : fill ops (fun i => if i = k then v else val i) (upK k0) a0 (k + 1) = (fill ops val (upK k0) a0 k).put o.dst v := by
      show (if upK k0 k then (fill ops (fun i => if i = k then v else val i) (upK k0) a0 k).put (dstOf ops k) (if k = k then v else val k) else _) = _
      rw [show upK k0 k = true by simp [upK, hk0], if_pos rfl, same k (Nat.le_refl _) _ hv1, if_pos rfl]
      simp [dstOf, h0]
    rw [← step] at h
    obtain ⟨val', e1, e2, e3⟩ := vals_of_stage (n := n) l (k + 1) _ (by omega) (fun j hj => by have := hl (j + 1) (by simp; omega); simpa [Nat.add_assoc, Nat.add_comm 1 j] using this) (by simp at hk; omega) h
    have e0 : ∀ i, i < k → val' i = val i := fun i hi => (e1 i (by omega)).trans (hv1 i hi)
    refine ⟨val', e0, fun j oj h1 h2 hj => ?_, e3⟩
    by_cases e : j = k
    · subst e
      rw [h0] at hj; cases hj
      rw [same j (Nat.le_refl _) val' e0, show val' j = v from (e1 j (by omega)).trans (by simp)]
      exact hy
    · exact e2 j oj (by omega) h2 hj

theorem fill_up (val : Nat → Value) (k : Nat) (a0 : Act) : ∀ m, m ≤ k → fill ops val (upK k) a0 m = a0
  | 0, _ => rfl
  | m + 1, h => by
    show (if upK k m then _ else fill ops val (upK k) a0 m) = a0
    rw [show upK k m = false by simp [upK]; omega]
    exact fill_up val k a0 m (by omega)
theorem fill_none (val : Nat → Value) (k : Nat) (listed : Array Bool) (a0 : Act) (n : Nat) (h : ∀ i, k ≤ i → i < n → flag listed i = false) : fill ops val (flagK k listed) a0 n = a0 := by
  rw [fill_congr val val (flagK k listed) (fun _ => false) a0 n (fun i hi => ⟨by
    unfold flagK
    by_cases e : k ≤ i
    · simp [h i e hi]
    · simp [e], rfl⟩)]
  clear h
  induction n with
  | zero => rfl
  | succ n ih => exact ih

theorem wpGrow_mono {w0 : World} {L L' : Act → Prop} : ∀ {l : List Oper} {a : Act}, (∀ a, L a → L' a) → wpGrow P ops w0 L l a → wpGrow P ops w0 L' l a
  | [], a, hm, h => hm a h
  | o :: rest, a, hm, ⟨v, hy, h⟩ => ⟨v, hy, wpGrow_mono hm h⟩

/-- One stage, from a state in which just the operations before k are listed. -/
theorem any_stage {Q : Exit → Act → World → Prop} {a : Act} {w0 w : World} {k n : Nat} (l : List Oper) (hl : ∀ j, j < l.length → l[j]? = ops[k + j]?) (hn : k + l.length = n) (ok : GrowKOk ops n) {listed : Array Bool} (hk : ∀ i, i < k → flag listed i = true) (inv : HeadInv .any ops k listed)
    (hw : Below w0.heap.size w0 w)
    (h : wpGrow P ops w0 (fun a' => ∀ w' listed', Below w0.heap.size w0 w' → (∀ i, i < n → flag listed' i = true) → HeadInv .any ops n listed' → wpAny P .any ops Q (ops.size - n) listed' a' w') l a) : wpAny P .any ops Q (ops.size - k) listed a w := by
  obtain ⟨val, -, hY, hL⟩ := vals_of_stage (n := n) (k0 := k) (a0 := a) l k (fun _ => undef) (Nat.le_refl _) hl hn (by rw [fill_up _ _ _ _ (Nat.le_refl _)]; exact h)
  have hsz := ok.size
  have inv' : HeadInv .any ops n listed := ⟨inv.size, inv.closed, fun t ht ht' => inv.tail t (by omega) ht'⟩
  have hun : ∀ i, k ≤ i → i < n → flag listed i = false := fun i h1 h2 => getD_both (inv.tail i h1 (by omega))
  have hleft : left listed n = n - k := by
    have : ∀ m, m ≤ n → left listed m = m - k := by
      intro m hm
      induction m with
      | zero => simp [left]
      | succ m ih =>
        unfold left
        rw [ih (by omega)]
        by_cases e : m < k
        · rw [hk m e]; simp; omega
        · rw [hun m (by omega) (by omega)]; simp; omega
    exact this n (Nat.le_refl _)
  have := any_of_stage (P := P) (Q := Q) ok hY (fun listed' w' h1 h2 h3 => hL w' listed' h3 h1 h2) (n - k) listed w hk inv' hleft hw
  rw [fill_none _ _ _ _ _ hun, show n - k + (ops.size - n) = ops.size - k by omega] at this
  exact this

/-- The operation at a barrier. -/
theorem any_sink {Q : Exit → Act → World → Prop} {a : Act} {w : World} {n : Nat} {o : Oper} (ho : ops[n]? = some o) (hback : ∀ e ∈ o.after, Region.binds .any e = true → e.on < n) (hbar : barB ops n = true) (hnext : barB ops (n + 1) = true ∨ True) {listed : Array Bool} (hall : ∀ i, i < n → flag listed i = true) (inv : HeadInv .any ops n listed)
    (hlater : ∀ t ot, n < t → ops[t]? = some ot → ∃ e ∈ ot.after, Region.binds .any e = true ∧ n ≤ e.on ∧ e.on < t)
    (h : wpOp P ops Q n (fun a' w' => ∀ listed', (∀ i, i < n + 1 → flag listed' i = true) → HeadInv .any ops (n + 1) listed' → wpAny P .any ops Q (ops.size - (n + 1)) listed' a' w') a w) : wpAny P .any ops Q (ops.size - n) listed a w := by
  have hlt : n < ops.size := (Array.getElem?_eq_some_iff.1 ho).1
  have hun : listed.getD n true = false := inv.tail n (Nat.le_refl _) hlt
  have hnr : n ∈ Region.ready .any ops listed := mem_ready.2 ⟨hun, o, ho, fun e he hb => hall _ (hback e he hb)⟩
  rw [show ops.size - n = (ops.size - (n + 1)) + 1 by omega]
  refine ⟨fun h => (by rw [h] at hnr; cases hnr), fun i hi => ?_⟩
  obtain ⟨h1, oi, hoi, hdep⟩ := mem_ready.1 hi
  have hilt : i < ops.size := (Array.getElem?_eq_some_iff.1 hoi).1
  have hin : i = n := by
    rcases Nat.lt_trichotomy i n with h | h | h
    · have := hall i h; unfold flag at this; rw [getD_both h1] at this; cases this
    · exact h
    · obtain ⟨e, he, hb, h2, h3⟩ := hlater i oi h hoi
      have := hdep e he hb
      rw [getD_both (inv.tail e.on h2 (by omega))] at this
      cases this
  subst hin
  refine wpOp_mono (fun a' w' hq => hq _ (fun j hj => ?_) ?_) h
  · by_cases e : j = i
    · subst e; simp [flag, inv.size, hlt]
    · rw [show flag (listed.setIfInBounds i true) j = flag listed j from getD_set_ne false (Ne.symm e)]; exact hall j (by omega)
  · have := inv.set (n := i) hi
    refine ⟨by simp [inv.size], fun j oj hj hl e he hb => ?_, fun t ht ht' => by rw [getD_set_ne true (by omega)]; exact inv.tail t (by omega) ht'⟩
    by_cases hij : i = j
    · subst hij
      have : oj = oi := Option.some.inj (hj.symm.trans hoi)
      subst this
      exact getD_set_true (hdep e he hb)
    · rw [getD_set_ne false hij] at hl
      exact getD_set_true (inv.closed j oj hj hl e he hb)

/-- The checks on a region of two stages: n operations, one behind them, the rest behind that. -/
def stagesB (ops : Array Oper) (n : Nat) : Bool :=
  growKB ops n && growKB ops ops.size && decide (n < ops.size) &&
  (match ops[n]? with | none => false | some o => o.after.all fun e => !Region.binds .any e || decide (e.on < n)) &&
  (List.range ops.size).all fun t => decide (t ≤ n) || match ops[t]? with | none => true | some ot => ot.after.any fun e => Region.binds .any e && decide (n ≤ e.on) && decide (e.on < t)

theorem any_region_stages {Q : Exit → Act → World → Prop} {a : Act} {w0 w : World} {l : List Oper} (n : Nat) {o : Oper} (ho : l[n]? = some o) (hB : stagesB l.toArray n = true) (hw : Below w0.heap.size w0 w)
    (h : wpGrow P l.toArray w0 (fun a' => ∀ w', Below w0.heap.size w0 w' → wpOp P l.toArray Q n (fun a2 w2 => wpGrow P l.toArray w2 (fun a3 => ∀ w3, Below w2.heap.size w2 w3 → Q .normal a3 w3) (l.drop (n + 1)) a2) a' w') (l.take n) a) :
    wpAny P .any l.toArray Q l.toArray.size (Array.replicate l.toArray.size false) a w := by
  simp only [stagesB, Bool.and_eq_true, decide_eq_true_eq] at hB
  obtain ⟨⟨⟨⟨h1, h2⟩, h3⟩, h4⟩, h5⟩ := hB
  have ok1 := growKB_ok h1
  have ok2 := growKB_ok h2
  have hlt : n < l.length := by simpa using h3
  have hoA : l.toArray[n]? = some o := by simpa using ho
  rw [hoA] at h4
  have start : HeadInv .any l.toArray 0 (Array.replicate l.toArray.size false) :=
    ⟨by simp, (fun j oj _ hl => by rw [getD_replicate_false] at hl; cases hl), fun t _ ht => getD_in (by simpa using ht) (getD_replicate_false _ _)⟩
  have key := any_stage (P := P) (Q := Q) (a := a) (w0 := w0) (w := w) (k := 0) (n := n) (ops := l.toArray) (l.take n) (fun j hj => by
      have : j < n := by simp at hj; omega
      simp [this]) (by simp; omega) ok1 (fun i hi => by omega) start hw
  rw [Nat.sub_zero] at key
  refine key ?_
  clear key
  refine wpGrow_mono (fun a' h' => ?_) h
  intro w' listed' hw' hall inv
  refine any_sink hoA (fun e he hb => ?_) ok1.bar (.inr trivial) hall inv (fun t ot ht hot => ?_) ?_
  · have := Array.all_eq_true_iff_forall_mem.1 h4 e he
    simpa [hb] using this
  · have htl : t < l.toArray.size := (Array.getElem?_eq_some_iff.1 hot).1
    have := List.all_eq_true.1 h5 t (List.mem_range.2 htl)
    rw [hot] at this
    simp only [Bool.or_eq_true, decide_eq_true_eq] at this
    obtain ⟨e, he, hb⟩ := Array.any_eq_true'.1 (this.resolve_left (by omega))
    simp only [Bool.and_eq_true, decide_eq_true_eq] at hb
    exact ⟨e, he, hb.1.1, hb.1.2, hb.2⟩
  · refine wpOp_mono (fun a2 w2 h2' => ?_) (h' w' hw')
    intro listed2 hall2 inv2
    refine any_stage (P := P) (Q := Q) (w0 := w2) (k := n + 1) (n := l.toArray.size) (ops := l.toArray) (l.drop (n + 1)) (fun j hj => by simp [Nat.add_comm]) (by simp; omega) ok2 hall2 inv2 (Below.refl _ _) ?_
    refine wpGrow_mono (fun a3 h3' => ?_) h2'
    intro w3 listed3 hw3 hall3 inv3
    refine ready_done ?_ _ _ _ (h3' w3 hw3)
    apply List.eq_nil_iff_forall_not_mem.2
    intro j hj
    obtain ⟨g1, oj, hoj, -⟩ := mem_ready.1 hj
    have := hall3 j (Array.getElem?_eq_some_iff.1 hoj).1
    unfold flag at this
    rw [getD_both g1] at this
    cases this

theorem wp_region_stages {id : Nat} {Q : Exit → Act → World → Prop} {a : Act} {w : World} {l : List Oper} (n : Nat) {o : Oper} (ho : l[n]? = some o) (hg : o.guard = none) (hm : P.follows .mixedOrders = true) (hB : stagesB l.toArray n = true)
    (h : wpGrow P l.toArray w (fun a' => ∀ w', Below w.heap.size w w' → o.wp P a' w' (fun a2 w2 => wpGrow P l.toArray w2 (fun a3 => ∀ w3, Below w2.heap.size w2 w3 → Q .normal a3 w3) (l.drop (n + 1)) a2) Q) (l.take n) a) : (Code.region id l.toArray true).wp P Q a w := by
  refine wp_region_any hm (any_region_stages n ho hB ((Below.refl _ w).drew) (wpGrow_mono (fun a' h' w' hw' => ?_) h))
  unfold wpOp
  have hoA : l.toArray[n]? = some o := by simpa using ho
  simp only [hoA]
  rw [if_pos (by simp [Region.wanted, hg])]
  exact .inl (h' w' hw')
end
end Go.Proofs.Ytpjninnammddlaa

namespace Go.Proofs.Ytpjninnammddlaa
open Go.RowKit
set_option linter.unusedVariables false

section
variable {P : Program} {ops : Array Oper} {md : Region.Mode}

/-- All orders come to the same slots, but for what hangs on a state. -/
theorem any_of_stateK {σ : Type} {n : Nat} (ok : GrowKOk ops n) {a0 : Act} {val : σ → Nat → Value} {J : (Nat → Bool) → σ → World → Prop} {Q : Exit → Act → World → Prop}
    (hY : ∀ (l : Nat → Bool) (s : σ) (w : World) (j : Nat) (oj : Oper), j < n → ops[j]? = some oj → l j = false → (∀ e ∈ oj.after, Region.binds .any e = true → l e.on = true) → J l s w →
      ∃ s', (∀ i, l i = true → val s' i = val s i) ∧ GYR P ops (fun w' => ∀ l' : Nat → Bool, l' j = true → (∀ i, i ≠ j → l' i = l i) → J l' s' w') oj (val s' j) (fill ops (val s') (fun _ => true) a0 j) w)
    (hnext : ∀ listed s w, (∀ i, i < n → flag listed i = true) → HeadInv .any ops n listed → J (flag listed) s w → wpAny P .any ops Q (ops.size - n) listed (fill ops (val s) (fun _ => true) a0 n) w) :
    ∀ (f : Nat) (listed : Array Bool) (s : σ) (w : World), HeadInv .any ops n listed → left listed n = f → J (flag listed) s w → wpAny P .any ops Q (f + (ops.size - n)) listed (fill ops (val s) (flag listed) a0 n) w := by
  intro f
  induction f with
  | zero =>
    intro listed s w inv hl hw
    have hall := left_zero n hl
    rw [fill_congr (val s) (val s) (flag listed) (fun _ => true) a0 n (fun i hi => ⟨hall i hi, rfl⟩), Nat.zero_add]
    exact hnext listed s w hall inv hw
  | succ f ih =>
    intro listed s w inv hl hw
    have hz : ¬ left listed n = 0 := by omega
    have hsz := ok.size
    obtain ⟨m, hm, hmun, hmin⟩ : ∃ m, m < n ∧ flag listed m = false ∧ ∀ j, j < m → flag listed j = true := by
      clear hl
      have key : ∀ k, k ≤ n → (∀ j, j < k → flag listed j = true) ∨ ∃ m, m < k ∧ flag listed m = false ∧ ∀ j, j < m → flag listed j = true := by
        intro k hk
        induction k with
        | zero => exact .inl fun j hj => by omega
        | succ k ihk =>
          rcases ihk (by omega) with h | ⟨m, h1, h2, h3⟩
          · cases hf : flag listed k with
            | true =>
              refine .inl (fun j hj => ?_)
              by_cases e : j = k
              · subst e; exact hf
              · exact h j (by omega)
            | false => exact .inr ⟨k, by omega, hf, h⟩
          · exact .inr ⟨m, by omega, h2, h3⟩
      rcases key n (Nat.le_refl _) with h | h
      · refine absurd ?_ hz
        have : ∀ k, k ≤ n → left listed k = 0 := by
          intro k hk
          induction k with
          | zero => rfl
          | succ k ihk => unfold left; rw [ihk (by omega), h k (by omega)]; rfl
        exact this n (Nat.le_refl _)
      · exact h
    have hms : m < listed.size := by rw [inv.size]; omega
    obtain ⟨om, hom⟩ : ∃ om, ops[m]? = some om := ⟨_, Array.getElem?_eq_getElem (by omega)⟩
    have hmr : m ∈ Region.ready .any ops listed := mem_ready.2 ⟨getD_in hms hmun, om, hom, fun e he hb => hmin _ (ok.back m om (by omega) hom e he hb)⟩
    rw [show f + 1 + (ops.size - n) = (f + (ops.size - n)) + 1 by omega]
    refine ⟨fun h => (by rw [h] at hmr; cases hmr), fun i hi => ?_⟩
    obtain ⟨h1, oi, hoi, hdep⟩ := mem_ready.1 hi
    have hin : i < n := by
      rcases Nat.lt_or_ge i n with h | h
      · exact h
      · exact absurd hi (bar_waits ok.bar inv _ m rfl hm (getD_in hms hmun) i h)
    have his : i < listed.size := by rw [inv.size]; omega
    have hiun : flag listed i = false := getD_both h1
    obtain ⟨s', hv, hy⟩ := hY (flag listed) s w i oi hin hoi hiun hdep hw
    rw [fill_same (val s) (val s') (flag listed) a0 n (fun j _ hj => (hv j hj).symm)]
    have hother : ∀ j, j ≠ i → flag (listed.setIfInBounds i true) j = flag listed j := fun j hj => getD_set_ne false (Ne.symm hj)
    have hself : flag (listed.setIfInBounds i true) i = true := by simp [flag, his]
    have hfs : fill ops (val s') (flag (listed.setIfInBounds i true)) a0 n = (fill ops (val s') (flag listed) a0 n).put (dstOf ops i) (val s' i) :=
      fill_set (val s') (flag listed) (flag (listed.setIfInBounds i true)) a0 i hiun hself hother n hin (ok.dist i hin)
    have hdst : dstOf ops i = oi.dst := by simp [dstOf, hoi]
    have hagree : Agree (oi.looksAt ops) (fill ops (val s') (fun _ => true) a0 i) (fill ops (val s') (flag listed) a0 n) := by
      have e1 : fill ops (val s') (fun _ => true) a0 i = fill ops (val s') (fun j => decide (j < i)) a0 i := fill_congr _ _ _ _ _ i (fun j hj => ⟨by simp [hj], rfl⟩)
      have e2 : ∀ k, i ≤ k → fill ops (val s') (fun j => decide (j < i)) a0 k = fill ops (val s') (fun j => decide (j < i)) a0 i := by
        intro k hk
        induction k with
        | zero => rw [show i = 0 by omega]
        | succ k ihk =>
          by_cases e : i = k + 1
          · rw [e]
          · rw [← ihk (by omega)]
            show (if decide (k < i) then _ else _) = _
            rw [show decide (k < i) = false by simp; omega]
            rfl
      rw [e1, ← e2 n (by omega)]
      refine fill_agree (val s') _ _ a0 _ n (fun j hj hne d hd hl => ?_)
      obtain ⟨e, he, hb, hon⟩ := ok.looks i oi hin hoi j hj d hd hl
      have hlisted := hdep e he hb
      rw [hon] at hlisted
      have hback := ok.back i oi (by omega) hoi e he hb
      rw [hon] at hback
      exact hne (by show decide (j < i) = flag listed j; unfold flag; rw [hlisted]; simp [hback])
    have hat := hy.at (fun cs c => ok.sel i oi cs c hoi) hagree (K := wpAny P .any ops Q (f + (ops.size - n)) (listed.setIfInBounds i true)) (Q := Q) (fun w' hw' => by
      rw [← hdst, ← hfs]
      exact ih (listed.setIfInBounds i true) s' w' (inv.set hi hin) (by have := left_set hiun his n hin; omega) (hw' _ hself hother))
    unfold wpOp
    simp only [hoi]
    split
    · rename_i hwt; rw [if_pos hwt] at hat; exact .inl hat
    · rename_i hwt; rw [if_neg hwt] at hat; exact hat


/-- The walk in the order of the text: each operation answers a value in every world that has grown, and leaves what lay there. -/
def wpGrowB (P : Program) (ops : Array Oper) (w0 : World) (L : Act → Prop) : List Oper → Act → Prop
  | [], a => L a
  | o :: rest, a => ∃ v, (∀ w, Below w0.heap.size w0 w → GYR P ops (Below w.heap.size w) o v a w) ∧ wpGrowB P ops w0 L rest (a.put o.dst v)
theorem wpGrowB_nil {w0 : World} {L : Act → Prop} {a : Act} (h : L a) : wpGrowB P ops w0 L [] a := h
theorem wpGrowB_plain {w0 : World} {L : Act → Prop} {o : Oper} {rest : List Oper} {a : Act} (hg : o.guard = none) {v : Value} (h : ∀ w, Below w0.heap.size w0 w → ∀ K : Act → World → Prop, (∀ a' w', a' = a.put o.dst v → Below w.heap.size w w' → K a' w') → o.wp P a w K (fun _ _ _ => False))
    (hr : wpGrowB P ops w0 L rest (a.put o.dst v)) : wpGrowB P ops w0 L (o :: rest) a := ⟨v, fun w hw => GYR.plain hg (h w hw), hr⟩

theorem vals_of_growB {w0 : World} {L : Act → Prop} {a0 : Act} {n : Nat} : ∀ (l : List Oper) (k : Nat) (val : Nat → Value), (∀ j, j < l.length → l[j]? = ops[k + j]?) → k + l.length = n → wpGrowB P ops w0 L l (fill ops val (fun _ => true) a0 k) →
    ∃ val' : Nat → Value, (∀ i, i < k → val' i = val i) ∧ (∀ (j : Nat) (oj : Oper), k ≤ j → j < n → ops[j]? = some oj → ∀ w, Below w0.heap.size w0 w → GYR P ops (Below w.heap.size w) oj (val' j) (fill ops val' (fun _ => true) a0 j) w) ∧ L (fill ops val' (fun _ => true) a0 n)
  | [], k, val, _, hk, h => by
    have : k = n := by simpa using hk
    subst this
    exact ⟨val, fun _ _ => rfl, fun j _ h1 h2 => by omega, h⟩
  | o :: l, k, val, hl, hk, ⟨v, hy, h⟩ => by
    have h0 : ops[k]? = some o := by simpa using (hl 0 (by simp)).symm
    have same : ∀ m, m ≤ k → ∀ u : Nat → Value, (∀ i, i < k → u i = val i) → fill ops u (fun _ => true) a0 m = fill ops val (fun _ => true) a0 m := fun m hm u hu => fill_congr _ _ _ _ _ m (fun i hi => ⟨rfl, hu i (by omega)⟩)
    have hv1 : ∀ i, i < k → (fun i => if i = k then v else val i) i = val i := fun i hi => by simp only; rw [if_neg (by omega)]
    have step : fill ops (fun i => if i = k then v else val i) (fun _ => true) a0 (k + 1) = (fill ops val (fun _ => true) a0 k).put o.dst v := by
      show (fill ops (fun i => if i = k then v else val i) (fun _ => true) a0 k).put (dstOf ops k) (if k = k then v else val k) = _
      rw [same k (Nat.le_refl _) _ hv1, if_pos rfl]
      simp [dstOf, h0]
    rw [← step] at h
    obtain ⟨val', e1, e2, e3⟩ := vals_of_growB (n := n) l (k + 1) _ (fun j hj => by have := hl (j + 1) (by simp; omega); simpa [Nat.add_assoc, Nat.add_comm 1 j] using this) (by simp at hk; omega) h
    have e0 : ∀ i, i < k → val' i = val i := fun i hi => (e1 i (by omega)).trans (hv1 i hi)
    refine ⟨val', e0, fun j oj h1 h2 hj => ?_, e3⟩
    by_cases e : j = k
    · subst e
      rw [h0] at hj; cases hj
      rw [same j (Nat.le_refl _) val' e0, show val' j = v from (e1 j (by omega)).trans (by simp)]
      exact hy
    · exact e2 j oj (by omega) h2 hj

/-- The first n operations are listed. -/
def listedTo (n k : Nat) : Array Bool := (List.replicate n true ++ List.replicate k false).toArray
theorem listed_eq {n : Nat} {listed : Array Bool} (hn : n ≤ ops.size) (hall : ∀ i, i < n → flag listed i = true) (inv : HeadInv .any ops n listed) : listed = listedTo n (ops.size - n) := by
  apply Array.ext_getElem?
  intro i
  have hs := inv.size
  unfold listedTo
  rw [show (List.replicate n true ++ List.replicate (ops.size - n) false).toArray[i]? = (List.replicate n true ++ List.replicate (ops.size - n) false)[i]? from by simp, List.getElem?_append]
  by_cases h : i < n
  · have := hall i h
    unfold flag at this
    rw [Array.getD_eq_getD_getElem?, Array.getElem?_eq_getElem (by omega)] at this
    rw [Array.getElem?_eq_getElem (by omega)]
    simp only [Option.getD_some] at this
    simp [h, this]
  · by_cases h2 : i < ops.size
    · have := inv.tail i (by omega) h2
      rw [Array.getD_eq_getD_getElem?, Array.getElem?_eq_getElem (by omega)] at this
      rw [Array.getElem?_eq_getElem (by omega)]
      simp only [Option.getD_some] at this
      have h3 : i - n < ops.size - n := by omega
      simp [h, this, h3]
    · rw [Array.getElem?_eq_none (by omega)]
      simp [h]; omega

theorem any_region_make {Q : Exit → Act → World → Prop} {a : Act} {w0 w : World} {l : List Oper} (m : Nat) {o : Oper} (ho : l[m]? = some o) (hg : o.guard = none) (hB : growKB l.toArray (m + 1) = true) (hS : Region.seqB .any l.toArray (l.length - (m + 1)) (m + 1) (listedTo (m + 1) (l.length - (m + 1))) = true) (hw : Below w0.heap.size w0 w)
    (h : wpGrowB P l.toArray w0 (fun a' => ∃ (mk : Nat → Value) (obj : Obj), (∀ w1, Below w0.heap.size w0 w1 → ∀ K : Act → World → Prop, (∀ a2 w2, a2 = a'.put o.dst (mk w1.heap.size) → w2 = w1.alloc obj → K a2 w2) → o.wp P a' w1 K (fun _ _ _ => False)) ∧
      ∀ g w', w0.heap.size ≤ g → Below w0.heap.size w0 w' → w'.heap[g]? = some obj → wpList P l.toArray Q (l.drop (m + 1)) (a'.put o.dst (mk g)) w') (l.take m) a) :
    wpAny P .any l.toArray Q l.toArray.size (Array.replicate l.toArray.size false) a w := by
  have ok := growKB_ok hB
  have hlt : m < l.length := (List.getElem?_eq_some_iff.1 ho).1
  obtain ⟨val, -, hY, mk, obj, hmk, hL⟩ := vals_of_growB (n := m) (a0 := a) (l.take m) 0 (fun _ => undef) (fun j hj => by
    have : j < m := by simp at hj; omega
    simp [this]) (by simp; omega) h
  have hoA : l.toArray[m]? = some o := by simpa using ho
  have start : HeadInv .any l.toArray (m + 1) (Array.replicate l.toArray.size false) :=
    ⟨by simp, (fun j oj _ hl => by rw [getD_replicate_false] at hl; cases hl), fun t _ ht => getD_in (by simpa using ht) (getD_replicate_false _ _)⟩
  have fl : ∀ (s : Nat) k, k ≤ m → fill l.toArray (fun j => if j = m then mk s else val j) (fun _ => true) a k = fill l.toArray val (fun _ => true) a k := fun s k hk => fill_congr _ _ _ _ _ k (fun i hi => ⟨rfl, by show (if i = m then mk s else val i) = _; rw [if_neg (by omega)]⟩)
  have zero : ∀ (v : Nat → Value) k, fill l.toArray v (flag (Array.replicate l.toArray.size false)) a k = a := by
    intro v k
    induction k with
    | zero => rfl
    | succ k ih =>
      show (if flag (Array.replicate l.toArray.size false) k then _ else _) = a
      rw [show flag (Array.replicate l.toArray.size false) k = false from getD_replicate_false _ _]
      exact ih
  have full : left (Array.replicate l.toArray.size false) (m + 1) = m + 1 := by
    have : ∀ k, left (Array.replicate l.toArray.size false) k = k := by
      intro k
      induction k with
      | zero => rfl
      | succ k ih => unfold left; rw [ih, show flag (Array.replicate l.toArray.size false) k = false from getD_replicate_false _ _]; rfl
    exact this _
  have key := any_of_stateK (P := P) (ops := l.toArray) (σ := Nat) (n := m + 1) ok (a0 := a) (val := fun s j => if j = m then mk s else val j)
    (J := fun f s w' => Below w0.heap.size w0 w' ∧ (f m = true → w0.heap.size ≤ s ∧ w'.heap[s]? = some obj)) (Q := Q)
    (fun f s w' j oj hj hoj hfj hdep hJ => by
      by_cases e : j = m
      · subst e
        rw [hoA] at hoj; cases hoj
        refine ⟨w'.heap.size, fun i hi => ?_, ?_⟩
        · have : i ≠ j := fun e => by subst e; rw [hfj] at hi; cases hi
          simp [this]
        · rw [fl _ j (Nat.le_refl _)]
          simp only [if_true]
          refine GYR.plain hg (fun K hK => hmk w' hJ.1 K fun a2 w2 e1 e2 => hK a2 w2 e1 ?_)
          subst e2
          exact fun f' h1 h2 => ⟨hJ.1.alloc hJ.1.size _, fun _ => ⟨hJ.1.size, heap_alloc_new w' obj⟩⟩
      · refine ⟨s, fun _ _ => rfl, ?_⟩
        rw [fl _ j (by omega)]
        simp only [e, if_false]
        refine (hY j oj (Nat.zero_le _) (by omega) hoj w' hJ.1).mono fun w2 hw2 f' h1 h2 => ⟨hJ.1.trans (hw2.mono hJ.1.size), fun hm => ?_⟩
        rw [h2 m (fun e' => e e'.symm)] at hm
        obtain ⟨h3, h4⟩ := hJ.2 hm
        exact ⟨h3, (hw2.block s (Array.getElem?_eq_some_iff.1 h4).1).trans h4⟩)
    (fun listed s w' hall inv hJ => by
      obtain ⟨h3, h4⟩ := hJ.2 (hall m (by omega))
      have hlast := hL s w' h3 hJ.1 h4
      have e : fill l.toArray (fun j => if j = m then mk s else val j) (fun _ => true) a (m + 1) = (fill l.toArray val (fun _ => true) a m).put o.dst (mk s) := by
        show (fill l.toArray (fun j => if j = m then mk s else val j) (fun _ => true) a m).put (dstOf l.toArray m) (if m = m then mk s else val m) = _
        rw [fl s m (Nat.le_refl _), if_pos rfl]
        simp [dstOf, ho]
      rw [e, listed_eq (by simp; omega) hall inv]
      have hsz : l.toArray.size - (m + 1) = (l.drop (m + 1)).length := by simp
      rw [hsz]
      refine wpAny_of_seq (l.drop (m + 1)) (m + 1) _ _ _ (fun j => by simp) ?_ hlast
      have : (l.drop (m + 1)).length = l.length - (m + 1) := by simp
      rw [this]; exact hS)
    (m + 1) (Array.replicate l.toArray.size false) 0 w start full ⟨hw, fun hm => by
      rw [show flag (Array.replicate l.toArray.size false) m = false from getD_replicate_false _ _] at hm; cases hm⟩
  rw [zero] at key
  have hsz : m + 1 + (l.toArray.size - (m + 1)) = l.toArray.size := by simp; omega
  rw [hsz] at key
  exact key

theorem wpIn_region_make {l₀ n : Nat} {id : Nat} {Q : Exit → Act → World → Prop} {a : Act} {w : World} {l : List Oper} (m : Nat) {o : Oper} (ho : l[m]? = some o) (hg : o.guard = none) (hm : P.follows .mixedOrders = true) (hd : noDefer l = true) (hout : ¬ LetsOut Q) (hB : growKB l.toArray (m + 1) = true) (hS : Region.seqB .any l.toArray (l.length - (m + 1)) (m + 1) (listedTo (m + 1) (l.length - (m + 1))) = true)
    (h : wpGrowB P l.toArray w (fun a' => ∃ (mk : Nat → Value) (obj : Obj), (∀ w1, Below w.heap.size w w1 → ∀ K : Act → World → Prop, (∀ a2 w2, a2 = a'.put o.dst (mk w1.heap.size) → w2 = w1.alloc obj → K a2 w2) → o.wp P a' w1 K (fun _ _ _ => False)) ∧
      ∀ g w', w.heap.size ≤ g → Below w.heap.size w w' → w'.heap[g]? = some obj → wpList P l.toArray Q (l.drop (m + 1)) (a'.put o.dst (mk g)) w') (l.take m) a) : (Code.region id l.toArray true).wpIn (Fence.wide.inRound l₀) n P Q a w :=
  wpIn_region_any hm (any_in hout (by simpa using hd) _ _ _ _ (any_region_make m ho hg hB hS ((Below.refl _ w).drew) h))
theorem wp_region_make {id : Nat} {Q : Exit → Act → World → Prop} {a : Act} {w : World} {l : List Oper} (m : Nat) {o : Oper} (ho : l[m]? = some o) (hg : o.guard = none) (hm : P.follows .mixedOrders = true) (hB : growKB l.toArray (m + 1) = true) (hS : Region.seqB .any l.toArray (l.length - (m + 1)) (m + 1) (listedTo (m + 1) (l.length - (m + 1))) = true)
    (h : wpGrowB P l.toArray w (fun a' => ∃ (mk : Nat → Value) (obj : Obj), (∀ w1, Below w.heap.size w w1 → ∀ K : Act → World → Prop, (∀ a2 w2, a2 = a'.put o.dst (mk w1.heap.size) → w2 = w1.alloc obj → K a2 w2) → o.wp P a' w1 K (fun _ _ _ => False)) ∧
      ∀ g w', w.heap.size ≤ g → Below w.heap.size w w' → w'.heap[g]? = some obj → wpList P l.toArray Q (l.drop (m + 1)) (a'.put o.dst (mk g)) w') (l.take m) a) : (Code.region id l.toArray true).wp P Q a w :=
  wp_region_any hm (any_region_make m ho hg hB hS ((Below.refl _ w).drew) h)

/-- A guarded operation of a growing region whose guard is met, or not. -/
theorem wpGrow_on {w0 : World} {L : Act → Prop} {o : Oper} {rest : List Oper} {a : Act} {v : Value} (hwt : Region.wanted o (yielded ops a.tmps) = true) (h : ∀ w, Below w0.heap.size w0 w → ∀ K : Act → World → Prop, (∀ a' w', a' = a.put o.dst v → Below w0.heap.size w0 w' → K a' w') → o.wp P a w K (fun _ _ _ => False))
    (hr : wpGrow P ops w0 L rest (a.put o.dst v)) : wpGrow P ops w0 L (o :: rest) a :=
  wpGrow_step v (fun w hw K hK => by rw [if_pos hwt]; exact h w hw K hK) hr (.inl hwt)
theorem wpGrow_off {w0 : World} {L : Act → Prop} {o : Oper} {rest : List Oper} {a : Act} (hwt : Region.wanted o (yielded ops a.tmps) = false)
    (hr : wpGrow P ops w0 L rest (a.put o.dst undef)) : wpGrow P ops w0 L (o :: rest) a :=
  wpGrow_step undef (fun w hw K hK => by rw [if_neg (by simp [hwt])]; exact hK _ _ rfl hw) hr (.inr rfl)
end
end Go.Proofs.Ytpjninnammddlaa
