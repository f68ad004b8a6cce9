/- Regions that draw their order, whose operations but the last one answer the same in every world of a class that the caller names: as XGrow. Made by gen/growi.py. -/
import Derived.Test.YtpjninnammddlaaZD
namespace Go.Proofs.Ytpjninnammddlaa
open Go.RowKit
set_option linter.unusedVariables false
set_option linter.unusedSimpArgs false
namespace GI
section
variable {P : Program} {ops : Array Oper} {md : Region.Mode}
/-- An operation answers v in every world that has only grown since w0. -/
def GYields (P : Program) (ops : Array Oper) (w0 : World → Prop) (o : Oper) (v : Value) (a : Act) : Prop := ∀ w, w0 w →
  if Region.wanted o (yielded ops a.tmps) then ∀ K : Act → World → Prop, (∀ a' w', a' = a.put o.dst v → w0 w' → K a' w') → o.wp P a w K (fun _ _ _ => False)
  else v = undef
theorem put_eqI {a b : Act} (hs : a.tmps.size = b.tmps.size) {dst : Option Tmp} {u v : Value} (h : a.put dst u = a.put dst v) : b.put dst u = b.put dst v := by
  cases dst with
  | none => rfl
  | some d =>
    by_cases hd : d < a.tmps.size
    · have := congrArg (fun c : Act => c.tmps.getD d undef) h
      simp [Act.put, hd] at this
      rw [this]
    · simp only [Act.put]
      have hl : b.tmps.size ≤ d := hs ▸ Nat.le_of_not_lt hd
      rw [Array.setIfInBounds_eq_of_size_le hl, Array.setIfInBounds_eq_of_size_le hl]

theorem GYields.at {w0 : World → Prop} {w : World} {o : Oper} {v : Value} {a b : Act} (h : GYields P ops w0 o v a) (hs : ∀ cs c, o.op ≠ .select cs c) (hab : Agree (o.looksAt ops) a b) (hw : w0 w) {K : Act → World → Prop} {Q : Exit → Act → World → Prop}
    (hK : ∀ w', w0 w' → K (b.put o.dst v) w') : if Region.wanted o (yielded ops b.tmps) then o.wp P b w K Q else K (b.put o.dst undef) w := by
  have h := h w hw
  rw [hab.wants] at h
  split
  · rename_i hwt
    rw [if_pos hwt] at h
    have h := h (fun a' w' => a' = a.put o.dst v ∧ w0 w') (fun a' w' h1 h2 => ⟨h1, h2⟩)
    unfold Oper.wp at h ⊢
    rw [hab.exec hs] at h
    have fin : ∀ (u : Value) (w' : World), (a.put o.dst u = a.put o.dst v ∧ w0 w') → K (b.put o.dst u) w' := fun u w' ⟨e1, e2⟩ => by rw [put_eqI hab.1 e1]; exact hK w' e2
    unfold Oper.upon at h ⊢
    split at h
    · exact fin _ _ h
    · exact fin _ _ h
    · rename_i d w' hr
      have hd := congrArg Act.defers h.1
      rw [put_def, put_def] at hd
      exact absurd hd (by simp)
    · refine h.mono fun e w'' he => ?_
      cases e with
      | returned u => exact fin _ _ he
      | panicked c => exact he.elim
      | outgrown => obtain ⟨_, _, h⟩ := he; exact h.elim
    · exact h.mono fun u w'' he => fin _ _ he
    · exact h.elim
    · exact h.elim
  · rename_i hwt
    rw [if_neg hwt] at h
    rw [← h]
    exact hK w hw

/-- The checks on a region's shape: edges lead back; who looks at a slot waits for it; no slot is written twice. -/
def growB (ops : Array Oper) (n : Nat) : Bool :=
  Region.noSelect ops && decide (ops.size = n + 1) && Region.sinkB .any ops n && Region.chainB .any ops n &&
  (List.range (n + 1)).all fun j => match ops[j]? with
    | none => false
    | some oj =>
      (oj.after.all fun e => !Region.binds .any e || decide (e.on < j)) &&
      (List.range n).all fun i => (match dstOf ops i with
        | none => true
        | some d => (!(oj.looksAt ops).contains d || (oj.after.any fun e => Region.binds .any e && e.on == i)) && (i == j || dstOf ops j != some d))

structure GrowOk (ops : Array Oper) (n : Nat) : Prop where
  sel : ∀ (j : Nat) (o : Oper) cs b, ops[j]? = some o → o.op ≠ .select cs b
  size : ops.size = n + 1
  sink : Region.sinkB .any ops n = true
  chain : Region.chainB .any ops n = true
  back : ∀ (j : Nat) (oj : Oper), ops[j]? = some oj → ∀ e ∈ oj.after, Region.binds .any e = true → e.on < j
  looks : ∀ (j : Nat) (oj : Oper), ops[j]? = some oj → ∀ i, i < n → ∀ d, dstOf ops i = some d → d ∈ oj.looksAt ops → ∃ e ∈ oj.after, Region.binds .any e = true ∧ e.on = i
  dist : ∀ i, i < n → ∀ j, j < n → j ≠ i → ∀ d, dstOf ops i = some d → dstOf ops j ≠ some d

theorem growB_ok {n : Nat} (h : growB ops n = true) : GrowOk ops n := by
  simp only [growB, Bool.and_eq_true, decide_eq_true_eq, List.all_eq_true, List.mem_range] at h
  obtain ⟨⟨⟨⟨h1, h2⟩, h3⟩, h4⟩, h5⟩ := h
  have get : ∀ (j : Nat) (oj : Oper), ops[j]? = some oj → ((oj.after.all fun e => !Region.binds .any e || decide (e.on < j)) = true) ∧ ∀ i, i < n → (match dstOf ops i with
        | none => true
        | some d => (!(oj.looksAt ops).contains d || (oj.after.any fun e => Region.binds .any e && e.on == i)) && (i == j || dstOf ops j != some d)) = true := by
    intro j oj hj
    have hlt : j < n + 1 := by rw [← h2]; exact (Array.getElem?_eq_some_iff.1 hj).1
    have := h5 j hlt
    rw [hj] at this
    simp only [Bool.and_eq_true, List.all_eq_true, List.mem_range] at this
    exact this
  refine ⟨fun j o cs b ho => Region.noSelect_spec h1 j o cs b ho, h2, h3, h4, fun j oj hj e he hb => ?_, fun j oj hj i hi d hd hl => ?_, fun i hi j hj hne d hd => ?_⟩
  · have := Array.all_eq_true_iff_forall_mem.1 (get j oj hj).1 e he
    simpa [hb] using this
  · have := (get j oj hj).2 i hi
    rw [hd] at this
    simp only [Bool.and_eq_true, Bool.or_eq_true, Bool.not_eq_true'] at this
    rcases this.1 with h | h
    · have : (oj.looksAt ops).contains d = true := by simpa using hl
      rw [this] at h; cases h
    · obtain ⟨e, he, hb⟩ := Array.any_eq_true'.1 h
      simp only [Bool.and_eq_true, beq_iff_eq] at hb
      exact ⟨e, he, hb.1, hb.2⟩
  · have hjlt : j < ops.size := by omega
    have := (get j ops[j] (Array.getElem?_eq_getElem hjlt)).2 i hi
    rw [hd] at this
    simp only [Bool.and_eq_true, Bool.or_eq_true, beq_iff_eq, bne_iff_ne] at this
    exact this.2.resolve_left (Ne.symm hne)

def flag (listed : Array Bool) (i : Nat) : Bool := listed.getD i false
/-- How many of the first n are not listed. -/
def left (listed : Array Bool) : Nat → Nat
  | 0 => 0
  | n + 1 => left listed n + if flag listed n then 0 else 1
theorem left_set {listed : Array Bool} {i : Nat} (hun : flag listed i = false) (hs : i < listed.size) : ∀ n, i < n → left (listed.setIfInBounds i true) n + 1 = left listed n
  | 0, h => by omega
  | n + 1, h => by
    have other : ∀ j, j ≠ i → flag (listed.setIfInBounds i true) j = flag listed j := fun j hj => getD_set_ne false (Ne.symm hj)
    unfold left
    by_cases e : i = n
    · subst e
      have hset : flag (listed.setIfInBounds i true) i = true := by simp [flag, hs]
      have same : ∀ m, m ≤ i → left (listed.setIfInBounds i true) m = left listed m := by
        intro m hm
        induction m with
        | zero => rfl
        | succ m ih => unfold left; rw [ih (by omega), other m (by omega)]
      rw [same i (Nat.le_refl _), hset, hun]; simp
    · have := left_set hun hs n (by omega)
      rw [other n (Ne.symm e)]; omega
theorem left_zero {listed : Array Bool} : ∀ n, left listed n = 0 → ∀ i, i < n → flag listed i = true
  | 0, _, i, h => by omega
  | n + 1, h, i, hi => by
    unfold left at h
    by_cases e : i = n
    · subst e
      cases hf : flag listed i with
      | true => rfl
      | false => rw [hf] at h; simp at h
    · exact left_zero n (by omega) i (by omega)

theorem ready_done {listed : Array Bool} {Q : Exit → Act → World → Prop} (h : Region.ready .any ops listed = []) : ∀ (f : Nat) (a : Act) (w : World), Q .normal a w → wpAny P .any ops Q f listed a w
  | 0, _, _, hq => ⟨h, hq⟩
  | f + 1, _, _, hq => ⟨fun _ => hq, fun i hi => by rw [h] at hi; cases hi⟩

/-- All orders come to the same slots. -/
theorem any_of_grow {n : Nat} (ok : GrowOk ops n) {w0 : World → Prop} {a0 : Act} {val : Nat → Value} {Q : Exit → Act → World → Prop}
    (hY : ∀ (j : Nat) (oj : Oper), j < n → ops[j]? = some oj → GYields P ops w0 oj (val j) (fill ops val (fun _ => true) a0 j))
    (hlast : ∀ w, w0 w → wpOp P ops Q n (Q .normal) (fill ops val (fun _ => true) a0 n) w) :
    ∀ (f : Nat) (listed : Array Bool) (w : World), HeadInv .any ops n listed → left listed n ≤ f → w0 w → wpAny P .any ops Q (f + 1) listed (fill ops val (flag listed) a0 n) w := by
  intro f
  induction f with
  | zero =>
    intro listed w inv hl hw
    have hall := left_zero n (Nat.le_zero.1 hl)
    have hn : n < listed.size := by rw [inv.size, ok.size]; omega
    have hun : listed.getD n true = false := inv.tail n (Nat.le_refl _) (by rw [ok.size]; omega)
    obtain ⟨on, hon⟩ : ∃ on, ops[n]? = some on := ⟨_, Array.getElem?_eq_getElem (by rw [ok.size]; omega)⟩
    have hfill : fill ops val (flag listed) a0 n = fill ops val (fun _ => true) a0 n := fill_congr _ _ _ _ _ n (fun i hi => ⟨hall i hi, rfl⟩)
    have hnr : n ∈ Region.ready .any ops listed := mem_ready.2 ⟨hun, on, hon, fun e he hb => hall _ (ok.back n on hon e he hb)⟩
    refine ⟨fun h => (by rw [h] at hnr; cases hnr), fun i hi => ?_⟩
    obtain ⟨h1, oi, hoi, -⟩ := mem_ready.1 hi
    have hin : i = n := by
      have hlt : i < n + 1 := by rw [← ok.size]; exact (Array.getElem?_eq_some_iff.1 hoi).1
      by_cases e : i < n
      · have := hall i e; unfold flag at this; rw [getD_both h1] at this; cases this
      · omega
    subst hin
    rw [hfill]
    refine wpOp_mono (fun a' w' hq => ready_done ?_ _ _ _ hq) (hlast w hw)
    apply List.eq_nil_iff_forall_not_mem.2
    intro j hj
    obtain ⟨g1, oj, hoj, -⟩ := mem_ready.1 hj
    have hjlt : j < i + 1 := by rw [← ok.size]; exact (Array.getElem?_eq_some_iff.1 hoj).1
    by_cases e : j = i
    · subst e; simp [hn] at g1
    · rw [getD_set_ne true (Ne.symm e)] at g1
      have := hall j (by omega); unfold flag at this; rw [getD_both g1] at this; cases this
  | succ f ih =>
    intro listed w inv hl hw
    by_cases hz : left listed n = 0
    · have hall := left_zero n hz
      have hn : n < listed.size := by rw [inv.size, ok.size]; omega
      have hun : listed.getD n true = false := inv.tail n (Nat.le_refl _) (by rw [ok.size]; omega)
      obtain ⟨on, hon⟩ : ∃ on, ops[n]? = some on := ⟨_, Array.getElem?_eq_getElem (by rw [ok.size]; omega)⟩
      have hfill : fill ops val (flag listed) a0 n = fill ops val (fun _ => true) a0 n := fill_congr _ _ _ _ _ n (fun i hi => ⟨hall i hi, rfl⟩)
      have hnr : n ∈ Region.ready .any ops listed := mem_ready.2 ⟨hun, on, hon, fun e he hb => hall _ (ok.back n on hon e he hb)⟩
      refine ⟨fun h => (by rw [h] at hnr; cases hnr), fun i hi => ?_⟩
      obtain ⟨h1, oi, hoi, -⟩ := mem_ready.1 hi
      have hin : i = n := by
        have hlt : i < n + 1 := by rw [← ok.size]; exact (Array.getElem?_eq_some_iff.1 hoi).1
        by_cases e : i < n
        · have := hall i e; unfold flag at this; rw [getD_both h1] at this; cases this
        · omega
      subst hin
      rw [hfill]
      refine wpOp_mono (fun a' w' hq => ready_done ?_ _ _ _ hq) (hlast w hw)
      apply List.eq_nil_iff_forall_not_mem.2
      intro j hj
      obtain ⟨g1, oj, hoj, -⟩ := mem_ready.1 hj
      have hjlt : j < i + 1 := by rw [← ok.size]; exact (Array.getElem?_eq_some_iff.1 hoj).1
      by_cases e : j = i
      · subst e; simp [hn] at g1
      · rw [getD_set_ne true (Ne.symm e)] at g1
        have := hall j (by omega); unfold flag at this; rw [getD_both g1] at this; cases this
    · -- SOME HEAD OPERATION IS OPEN: THE FIRST OF THEM IS READY; THE LAST ONE OF ALL IS NOT
      obtain ⟨m, hm, hmun, hmin⟩ : ∃ m, m < n ∧ flag listed m = false ∧ ∀ j, j < m → flag listed j = true := by
        clear hl
        have key : ∀ k, k ≤ n → (∀ j, j < k → flag listed j = true) ∨ ∃ m, m < k ∧ flag listed m = false ∧ ∀ j, j < m → flag listed j = true := by
          intro k hk
          induction k with
          | zero => exact .inl fun j hj => by omega
          | succ k ihk =>
            rcases ihk (by omega) with h | ⟨m, h1, h2, h3⟩
            · cases hf : flag listed k with
              | true =>
                refine .inl (fun j hj => ?_)
                by_cases e : j = k
                · subst e; exact hf
                · exact h j (by omega)
              | false => exact .inr ⟨k, by omega, hf, h⟩
            · exact .inr ⟨m, by omega, h2, h3⟩
        rcases key n (Nat.le_refl _) with h | h
        · refine absurd ?_ hz
          have : ∀ k, k ≤ n → left listed k = 0 := by
            intro k hk
            induction k with
            | zero => rfl
            | succ k ihk => unfold left; rw [ihk (by omega), h k (by omega)]; rfl
          exact this n (Nat.le_refl _)
        · exact h
      have hms : m < listed.size := by rw [inv.size, ok.size]; omega
      obtain ⟨om, hom⟩ : ∃ om, ops[m]? = some om := ⟨_, Array.getElem?_eq_getElem (by rw [ok.size]; omega)⟩
      have hmr : m ∈ Region.ready .any ops listed := mem_ready.2 ⟨getD_in hms hmun, om, hom, fun e he hb => hmin _ (ok.back m om hom e he hb)⟩
      refine ⟨fun h => (by rw [h] at hmr; cases hmr), fun i hi => ?_⟩
      obtain ⟨h1, oi, hoi, hdep⟩ := mem_ready.1 hi
      have hin : i < n := by
        rcases Nat.lt_or_ge i n with h | h
        · exact h
        · exact absurd hi (tail_waits ok.sink ok.chain (by rw [ok.size]; omega) inv _ m rfl hm (getD_in hms hmun) i h)
      have his : i < listed.size := by rw [inv.size, ok.size]; omega
      have hiun : flag listed i = false := getD_both h1
      have hnext := ih (listed.setIfInBounds i true)
      have hfs : fill ops val (flag (listed.setIfInBounds i true)) a0 n = (fill ops val (flag listed) a0 n).put (dstOf ops i) (val i) :=
        fill_set val (flag listed) (flag (listed.setIfInBounds i true)) a0 i hiun (by simp [flag, his]) (fun j hj => getD_set_ne false (Ne.symm hj)) n hin (ok.dist i hin)
      have hdst : dstOf ops i = oi.dst := by simp [dstOf, hoi]
      have hagree : Agree (oi.looksAt ops) (fill ops val (fun _ => true) a0 i) (fill ops val (flag listed) a0 n) := by
        have e1 : fill ops val (fun _ => true) a0 i = fill ops val (fun j => decide (j < i)) a0 i := fill_congr _ _ _ _ _ i (fun j hj => ⟨by simp [hj], rfl⟩)
        have e2 : ∀ k, i ≤ k → fill ops val (fun j => decide (j < i)) a0 k = fill ops val (fun j => decide (j < i)) a0 i := by
          intro k hk
          induction k with
          | zero => rw [show i = 0 by omega]
          | succ k ihk =>
            by_cases e : i = k + 1
            · rw [e]
            · rw [← ihk (by omega)]
              show (if decide (k < i) then _ else _) = _
              rw [show decide (k < i) = false by simp; omega]
              rfl
        rw [e1, ← e2 n (by omega)]
        refine fill_agree val _ _ a0 _ n (fun j hj hne d hd hl => ?_)
        obtain ⟨e, he, hb, hon⟩ := ok.looks i oi hoi j hj d hd hl
        have hlisted := hdep e he hb
        rw [hon] at hlisted
        have hback := ok.back i oi hoi e he hb
        rw [hon] at hback
        exact hne (by show decide (j < i) = flag listed j; unfold flag; rw [hlisted]; simp [hback])
      have hat := (hY i oi hin hoi).at (fun cs c => ok.sel i oi cs c hoi) hagree hw (K := wpAny P .any ops Q (f + 1) (listed.setIfInBounds i true)) (Q := Q) (fun w' hw' => by
        rw [← hdst, ← hfs]
        exact hnext w' (inv.set hi hin) (by have := left_set hiun his n hin; omega) hw')
      unfold wpOp
      simp only [hoi]
      split
      · rename_i hwt; rw [if_pos hwt] at hat; exact .inl hat
      · rename_i hwt; rw [if_neg hwt] at hat; exact hat

/-- The walk in the order of the text: each operation but the last one answers a value, whatever has grown. -/
def wpGrow (P : Program) (ops : Array Oper) (w0 : World → Prop) (L : Act → Prop) : List Oper → Act → Prop
  | [], a => L a
  | o :: rest, a => ∃ v, GYields P ops w0 o v a ∧ wpGrow P ops w0 L rest (a.put o.dst v)

theorem vals_of_grow {w0 : World → Prop} {L : Act → Prop} {a0 : Act} {n : Nat} : ∀ (l : List Oper) (k : Nat) (val : Nat → Value), (∀ j, j < l.length → l[j]? = ops[k + j]?) → k + l.length = n → wpGrow P ops w0 L l (fill ops val (fun _ => true) a0 k) →
    ∃ val' : Nat → Value, (∀ i, i < k → val' i = val i) ∧ (∀ (j : Nat) (oj : Oper), k ≤ j → j < n → ops[j]? = some oj → GYields P ops w0 oj (val' j) (fill ops val' (fun _ => true) a0 j)) ∧ L (fill ops val' (fun _ => true) a0 n)
  | [], k, val, _, hk, h => by
    have : k = n := by simpa using hk
    subst this
    exact ⟨val, fun _ _ => rfl, fun j _ h1 h2 => by omega, h⟩
  | o :: l, k, val, hl, hk, ⟨v, hy, h⟩ => by
    have h0 : ops[k]? = some o := by simpa using (hl 0 (by simp)).symm
    have same : ∀ m, m ≤ k → ∀ u : Nat → Value, (∀ i, i < k → u i = val i) → fill ops u (fun _ => true) a0 m = fill ops val (fun _ => true) a0 m := fun m hm u hu => fill_congr _ _ _ _ _ m (fun i hi => ⟨rfl, hu i (by omega)⟩)
    have hv1 : ∀ i, i < k → (fun i => if i = k then v else val i) i = val i := fun i hi => by simp only; rw [if_neg (by omega)]
    have step : fill ops (fun i => if i = k then v else val i) (fun _ => true) a0 (k + 1) = (fill ops val (fun _ => true) a0 k).put o.dst v := by
      show (fill ops (fun i => if i = k then v else val i) (fun _ => true) a0 k).put (dstOf ops k) (if k = k then v else val k) = _
      rw [same k (Nat.le_refl _) _ hv1, if_pos rfl]
      simp [dstOf, h0]
    rw [← step] at h
    obtain ⟨val', e1, e2, e3⟩ := vals_of_grow (n := n) l (k + 1) _ (fun j hj => by have := hl (j + 1) (by simp; omega); simpa [Nat.add_assoc, Nat.add_comm 1 j] using this) (by simp at hk; omega) h
    have e0 : ∀ i, i < k → val' i = val i := fun i hi => (e1 i (by omega)).trans (hv1 i hi)
    refine ⟨val', e0, fun j oj h1 h2 hj => ?_, e3⟩
    by_cases e : j = k
    · subst e
      rw [h0] at hj; cases hj
      rw [same j (Nat.le_refl _) val' e0, show val' j = v from (e1 j (by omega)).trans (by simp)]
      exact hy
    · exact e2 j oj (by omega) h2 hj

theorem any_region_grow {Q : Exit → Act → World → Prop} {a : Act} {w0 : World → Prop} {w : World} {l : List Oper} (n : Nat) (hB : growB l.toArray n = true) (hw : w0 w)
    (h : wpGrow P l.toArray w0 (fun a' => ∀ w', w0 w' → wpList P l.toArray Q (l.drop n) a' w') (l.take n) a) : wpAny P .any l.toArray Q l.toArray.size (Array.replicate l.toArray.size false) a w := by
  have ok := growB_ok hB
  have hlen : l.length = n + 1 := by simpa using ok.size
  obtain ⟨val, -, hY, hL⟩ := vals_of_grow (n := n) (a0 := a) (l.take n) 0 (fun _ => undef) (fun j hj => by
    have : j < n := by simp at hj; omega
    simp [this]) (by simp; omega) h
  have start : HeadInv .any l.toArray n (Array.replicate l.toArray.size false) :=
    ⟨by simp, (fun j oj _ hl => by rw [getD_replicate_false] at hl; cases hl), fun t _ ht => getD_in (by simpa using ht) (getD_replicate_false _ _)⟩
  have zero : ∀ k, fill l.toArray val (flag (Array.replicate l.toArray.size false)) a k = a := by
    intro k
    induction k with
    | zero => rfl
    | succ k ih =>
      show (if flag (Array.replicate l.toArray.size false) k then _ else _) = a
      rw [show flag (Array.replicate l.toArray.size false) k = false from getD_replicate_false _ _]
      exact ih
  have most : ∀ k, left (Array.replicate l.toArray.size false) k ≤ k := by
    intro k
    induction k with
    | zero => exact Nat.le_refl _
    | succ k ih => unfold left; split <;> omega
  have := any_of_grow (P := P) (Q := Q) ok (fun j oj hj ho => hY j oj (Nat.zero_le _) hj ho) (fun w' hw' => by
    have hn := hL w' hw'
    have hd : l.drop n = [l[n]] := by
      rw [List.drop_eq_getElem_cons (by omega), List.drop_eq_nil_of_le (by omega)]
    rw [hd] at hn
    unfold wpOp
    have ho : l.toArray[n]? = some l[n] := by simp
    simp only [ho]
    exact hn) n (Array.replicate l.toArray.size false) w start (most n) hw
  rw [zero n, ok.size] at this
  rw [ok.size]
  exact this

theorem wpGrow_nil {w0 : World → Prop} {L : Act → Prop} {a : Act} (h : L a) : wpGrow P ops w0 L [] a := h
theorem wpGrow_step {w0 : World → Prop} {L : Act → Prop} {o : Oper} {rest : List Oper} {a : Act} (v : Value) (h : ∀ w, w0 w → ∀ K : Act → World → Prop, (∀ a' w', a' = a.put o.dst v → w0 w' → K a' w') →
      if Region.wanted o (yielded ops a.tmps) then o.wp P a w K (fun _ _ _ => False) else K (a.put o.dst undef) w) (hr : wpGrow P ops w0 L rest (a.put o.dst v)) (hv : Region.wanted o (yielded ops a.tmps) = true ∨ v = undef) : wpGrow P ops w0 L (o :: rest) a := by
  refine ⟨v, fun w hw => ?_, hr⟩
  split
  · rename_i hwt
    intro K hK
    have := h w hw K hK
    rwa [if_pos hwt] at this
  · rename_i hwt
    exact hv.resolve_left hwt
/-- The same for an operation without a guard. -/
theorem wpGrow_plain {w0 : World → Prop} {L : Act → Prop} {o : Oper} {rest : List Oper} {a : Act} (hg : o.guard = none) {v : Value} (h : ∀ w, w0 w → ∀ K : Act → World → Prop, (∀ a' w', a' = a.put o.dst v → w0 w' → K a' w') → o.wp P a w K (fun _ _ _ => False))
    (hr : wpGrow P ops w0 L rest (a.put o.dst v)) : wpGrow P ops w0 L (o :: rest) a := by
  have hwt : Region.wanted o (yielded ops a.tmps) = true := by simp [Region.wanted, hg]
  exact wpGrow_step v (fun w hw K hK => by rw [if_pos hwt]; exact h w hw K hK) hr (.inl hwt)
end


section
variable {P : Program} {ops : Array Oper}
theorem wpGrow_on {w0 : World → Prop} {L : Act → Prop} {o : Oper} {rest : List Oper} {a : Act} {v : Value} (hwt : Region.wanted o (yielded ops a.tmps) = true) (h : ∀ w, w0 w → ∀ K : Act → World → Prop, (∀ a' w', a' = a.put o.dst v → w0 w' → K a' w') → o.wp P a w K (fun _ _ _ => False))
    (hr : wpGrow P ops w0 L rest (a.put o.dst v)) : wpGrow P ops w0 L (o :: rest) a :=
  wpGrow_step v (fun w hw K hK => by rw [if_pos hwt]; exact h w hw K hK) hr (.inl hwt)
theorem wpGrow_off {w0 : World → Prop} {L : Act → Prop} {o : Oper} {rest : List Oper} {a : Act} (hwt : Region.wanted o (yielded ops a.tmps) = false)
    (hr : wpGrow P ops w0 L rest (a.put o.dst undef)) : wpGrow P ops w0 L (o :: rest) a :=
  wpGrow_step undef (fun w hw K hK => by rw [if_neg (by simp [hwt])]; exact hK _ _ rfl hw) hr (.inr rfl)
theorem wp_region_growI {id : Nat} {Q : Exit → Act → World → Prop} {a : Act} {w : World} {l : List Oper} (n : Nat) (I : World → Prop) (hm : P.follows .mixedOrders = true) (hB : growB l.toArray n = true) (hI : I w.drew)
    (h : wpGrow P l.toArray I (fun a' => ∀ w', I w' → wpList P l.toArray Q (l.drop n) a' w') (l.take n) a) : (Code.region id l.toArray true).wp P Q a w :=
  wp_region_any hm (any_region_grow n hB hI h)
end
end GI
end Go.Proofs.Ytpjninnammddlaa
