/- Regions that draw their order, with the draws counted: as XGrow and XGrowK, in the class of worlds that have only grown and have drawn no less. Made by gen/growd.py. -/
import Derived.Test.YtabemgplddfemaaGreatDoorZD
import Derived.Sort.Grow
import Derived.Deep.Draws
namespace Go.Proofs.YtabemgplddfemaaGreatDoor
open Go.RowKit
set_option linter.unusedVariables false
set_option linter.unusedSimpArgs false
namespace GD
def GB (w0 w : World) : Prop := Below w0.heap.size w0 w ∧ w0.drawn ≤ w.drawn
theorem GB.refl (w : World) : GB w w := ⟨Below.refl _ _, Nat.le_refl _⟩
theorem GB.drew {w0 w : World} (h : GB w0 w) : GB w0 w.drew := ⟨h.1.drew, Nat.le_succ_of_le h.2⟩
theorem GB.grow {w0 w : World} (h : GB w0 w) : ∃ q os, w = Sort.grow (w0.drewN q) os := by
  obtain ⟨⟨h1, h2, h3, h4, h5⟩, h6⟩ := h
  refine ⟨w.drawn - w0.drawn, w.heap.extract w0.heap.size w.heap.size, ?_⟩
  have hh : w.heap = w0.heap ++ w.heap.extract w0.heap.size w.heap.size := by
    apply Array.ext_getElem?
    intro k
    rw [Array.getElem?_append]
    split
    · rename_i hk; exact h5 k hk
    · rename_i hk
      rw [Array.getElem?_extract]
      by_cases hk2 : k < w.heap.size
      · rw [if_pos (by omega)]; congr 1; omega
      · rw [if_neg (by omega), Array.getElem?_eq_none (by omega)]
  obtain ⟨heap, tape, drawn, os, output⟩ := w
  obtain ⟨heap0, tape0, drawn0, os0, output0⟩ := w0
  simp only [Sort.grow, World.drewN] at *
  subst h1 h2 h3
  congr 1
  omega
section
variable {P : Program} {ops : Array Oper} {md : Region.Mode}

/-- Two acts agree on some slots. -/
def Agree (S : List Tmp) (a b : Act) : Prop := a.tmps.size = b.tmps.size ∧ a.defers = b.defers ∧ ∀ d ∈ S, a.tmps.getD d undef = b.tmps.getD d undef
theorem Agree.refl (S : List Tmp) (a : Act) : Agree S a a := ⟨rfl, rfl, fun _ _ => rfl⟩
theorem put_size (a : Act) (dst : Option Tmp) (v : Value) : (a.put dst v).tmps.size = a.tmps.size := by cases dst <;> simp [Act.put]
theorem put_def (a : Act) (dst : Option Tmp) (v : Value) : (a.put dst v).defers = a.defers := by cases dst <;> rfl
theorem put_at_ne (a : Act) (dst : Option Tmp) (v : Value) (d : Tmp) (h : dst ≠ some d) : (a.put dst v).tmps.getD d undef = a.tmps.getD d undef := by
  cases dst with
  | none => rfl
  | some e =>
    have hne : e ≠ d := fun he => h (he ▸ rfl)
    simp [Act.put, Array.getElem?_setIfInBounds_ne hne]
theorem Agree.at {S : List Tmp} {a b : Act} (h : Agree S a b) {t : Tmp} (ht : t ∈ S) : a.tmps[t]? = b.tmps[t]? := by
  have hg := h.2.2 t ht
  rcases Nat.lt_or_ge t a.tmps.size with hl | hl
  · have hl' : t < b.tmps.size := h.1 ▸ hl
    simp only [Array.getD_eq_getD_getElem?, Array.getElem?_eq_getElem hl, Array.getElem?_eq_getElem hl', Option.getD_some] at hg ⊢
    rw [hg]
  · rw [Array.getElem?_eq_none hl, Array.getElem?_eq_none (h.1 ▸ hl)]
theorem Agree.put {S : List Tmp} {a b : Act} (h : Agree S a b) (dst : Option Tmp) (v : Value) : Agree S (a.put dst v) (b.put dst v) := by
  refine ⟨by rw [put_size, put_size]; exact h.1, by rw [put_def, put_def]; exact h.2.1, fun d hd => ?_⟩
  by_cases e : dst = some d
  · subst e
    simp only [Act.put, Array.getD_eq_getD_getElem?, Array.getElem?_setIfInBounds, if_true, h.1]
  · rw [put_at_ne _ _ _ _ e, put_at_ne _ _ _ _ e]; exact h.2.2 d hd
theorem Agree.left {S : List Tmp} {a b : Act} (h : Agree S a b) {dst : Option Tmp} (hd : ∀ d, dst = some d → d ∉ S) (v : Value) : Agree S (a.put dst v) b :=
  ⟨by rw [put_size]; exact h.1, by rw [put_def]; exact h.2.1, fun d hs => by rw [put_at_ne _ _ _ _ (fun e => hd d e hs)]; exact h.2.2 d hs⟩
theorem Agree.right {S : List Tmp} {a b : Act} (h : Agree S a b) {dst : Option Tmp} (hd : ∀ d, dst = some d → d ∉ S) (v : Value) : Agree S a (b.put dst v) :=
  ⟨by rw [put_size]; exact h.1, by rw [put_def]; exact h.2.1, fun d hs => by rw [put_at_ne _ _ _ _ (fun e => hd d e hs)]; exact h.2.2 d hs⟩
theorem Agree.exec {o : Oper} {a b : Act} (hs : ∀ cs c, o.op ≠ .select cs c) (h : Agree (o.looksAt ops) a b) : execOp a.eval o = execOp b.eval o :=
  execOp_congr o hs fun x hx => by
    cases x with
    | tmp t => simpa [Act.eval] using h.2.2 t (List.mem_append_left _ (List.mem_filterMap.2 ⟨.tmp t, by simpa using hx, rfl⟩))
    | _ => rfl
theorem Agree.wants {o : Oper} {a b : Act} (h : Agree (o.looksAt ops) a b) : Region.wanted o (yielded ops a.tmps) = Region.wanted o (yielded ops b.tmps) := by
  unfold Region.wanted
  cases hg : o.guard with
  | none => rfl
  | some gw =>
    obtain ⟨g, want⟩ := gw
    have hy : yielded ops a.tmps g = yielded ops b.tmps g := by
      unfold yielded
      cases ht : (ops[g]?).bind (·.dst) with
      | none => rfl
      | some t =>
        have := h.at (t := t) (by simp [Oper.looksAt, hg, ht])
        simp [this]
    simp only [hy]

def dstOf (ops : Array Oper) (i : Nat) : Option Tmp := (ops[i]?).bind (·.dst)
/-- What lies in the slots when the operations that are listed have run. -/
def fill (ops : Array Oper) (val : Nat → Value) (listed : Nat → Bool) (a0 : Act) : Nat → Act
  | 0 => a0
  | n + 1 => if listed n then (fill ops val listed a0 n).put (dstOf ops n) (val n) else fill ops val listed a0 n
theorem fill_agree (val : Nat → Value) (l l' : Nat → Bool) (a0 : Act) (S : List Tmp) : ∀ n, (∀ i, i < n → l i ≠ l' i → ∀ d, dstOf ops i = some d → d ∉ S) → Agree S (fill ops val l a0 n) (fill ops val l' a0 n)
  | 0, _ => Agree.refl _ _
  | n + 1, h => by
    have ih := fill_agree val l l' a0 S n (fun i hi => h i (by omega))
    have hn := h n (by omega)
    unfold fill
    cases h1 : l n <;> cases h2 : l' n
    · exact ih
    · exact ih.right (hn (by simp [h1, h2])) _
    · exact ih.left (hn (by simp [h1, h2])) _
    · exact ih.put _ _
theorem fill_congr (val val' : Nat → Value) (l l' : Nat → Bool) (a0 : Act) : ∀ n, (∀ i, i < n → l i = l' i ∧ val i = val' i) → fill ops val l a0 n = fill ops val' l' a0 n
  | 0, _ => rfl
  | n + 1, h => by
    have ih := fill_congr val val' l l' a0 n (fun i hi => h i (by omega))
    obtain ⟨h1, h2⟩ := h n (by omega)
    unfold fill
    rw [ih, h1, h2]
theorem fill_set (val : Nat → Value) (l l' : Nat → Bool) (a0 : Act) (i : Nat) (hl : l i = false) (hl' : l' i = true) (hne : ∀ j, j ≠ i → l' j = l j) : ∀ n, i < n → (∀ j, j < n → j ≠ i → ∀ d, dstOf ops i = some d → dstOf ops j ≠ some d) →
    fill ops val l' a0 n = (fill ops val l a0 n).put (dstOf ops i) (val i)
  | 0, h, _ => by omega
  | n + 1, h, hd => by
    unfold fill
    by_cases e : i = n
    · subst e
      rw [hl, hl', fill_congr val val l' l a0 i (fun j hj => ⟨hne j (by omega), rfl⟩)]
      rfl
    · rw [fill_set val l l' a0 i hl hl' hne n (by omega) (fun j hj => hd j (by omega)), hne n (Ne.symm e)]
      split
      · exact Act.put_comm _ _ _ (fun d hdi => hd n (by omega) (Ne.symm e) d hdi)
      · rfl

/-- An operation answers v in every world that has only grown since w0. -/
def GYields (P : Program) (ops : Array Oper) (w0 : World) (o : Oper) (v : Value) (a : Act) : Prop := ∀ w, GB w0 w →
  if Region.wanted o (yielded ops a.tmps) then ∀ K : Act → World → Prop, (∀ a' w', a' = a.put o.dst v → GB w0 w' → K a' w') → o.wp P a w K (fun _ _ _ => False)
  else v = undef
theorem put_eq {a b : Act} (hs : a.tmps.size = b.tmps.size) {dst : Option Tmp} {u v : Value} (h : a.put dst u = a.put dst v) : b.put dst u = b.put dst v := by
  cases dst with
  | none => rfl
  | some d =>
    by_cases hd : d < a.tmps.size
    · have := congrArg (fun c : Act => c.tmps.getD d undef) h
      simp [Act.put, hd] at this
      rw [this]
    · simp only [Act.put]
      have hl : b.tmps.size ≤ d := hs ▸ Nat.le_of_not_lt hd
      rw [Array.setIfInBounds_eq_of_size_le hl, Array.setIfInBounds_eq_of_size_le hl]

theorem GYields.at {w0 w : World} {o : Oper} {v : Value} {a b : Act} (h : GYields P ops w0 o v a) (hs : ∀ cs c, o.op ≠ .select cs c) (hab : Agree (o.looksAt ops) a b) (hw : GB w0 w) {K : Act → World → Prop} {Q : Exit → Act → World → Prop}
    (hK : ∀ w', GB w0 w' → K (b.put o.dst v) w') : if Region.wanted o (yielded ops b.tmps) then o.wp P b w K Q else K (b.put o.dst undef) w := by
  have h := h w hw
  rw [hab.wants] at h
  split
  · rename_i hwt
    rw [if_pos hwt] at h
    have h := h (fun a' w' => a' = a.put o.dst v ∧ GB w0 w') (fun a' w' h1 h2 => ⟨h1, h2⟩)
    unfold Oper.wp at h ⊢
    rw [hab.exec hs] at h
    have fin : ∀ (u : Value) (w' : World), (a.put o.dst u = a.put o.dst v ∧ GB w0 w') → K (b.put o.dst u) w' := fun u w' ⟨e1, e2⟩ => by rw [put_eq hab.1 e1]; exact hK w' e2
    unfold Oper.upon at h ⊢
    split at h
    · exact fin _ _ h
    · exact fin _ _ h
    · rename_i d w' hr
      have hd := congrArg Act.defers h.1
      rw [put_def, put_def] at hd
      exact absurd hd (by simp)
    · refine h.mono fun e w'' he => ?_
      cases e with
      | returned u => exact fin _ _ he
      | panicked c => exact he.elim
      | outgrown => obtain ⟨_, _, h⟩ := he; exact h.elim
    · exact h.mono fun u w'' he => fin _ _ he
    · exact h.elim
    · exact h.elim
  · rename_i hwt
    rw [if_neg hwt] at h
    rw [← h]
    exact hK w hw

/-- The checks on a region's shape: edges lead back; who looks at a slot waits for it; no slot is written twice. -/
def growB (ops : Array Oper) (n : Nat) : Bool :=
  Region.noSelect ops && decide (ops.size = n + 1) && Region.sinkB .any ops n && Region.chainB .any ops n &&
  (List.range (n + 1)).all fun j => match ops[j]? with
    | none => false
    | some oj =>
      (oj.after.all fun e => !Region.binds .any e || decide (e.on < j)) &&
      (List.range n).all fun i => (match dstOf ops i with
        | none => true
        | some d => (!(oj.looksAt ops).contains d || (oj.after.any fun e => Region.binds .any e && e.on == i)) && (i == j || dstOf ops j != some d))

structure GrowOk (ops : Array Oper) (n : Nat) : Prop where
  sel : ∀ (j : Nat) (o : Oper) cs b, ops[j]? = some o → o.op ≠ .select cs b
  size : ops.size = n + 1
  sink : Region.sinkB .any ops n = true
  chain : Region.chainB .any ops n = true
  back : ∀ (j : Nat) (oj : Oper), ops[j]? = some oj → ∀ e ∈ oj.after, Region.binds .any e = true → e.on < j
  looks : ∀ (j : Nat) (oj : Oper), ops[j]? = some oj → ∀ i, i < n → ∀ d, dstOf ops i = some d → d ∈ oj.looksAt ops → ∃ e ∈ oj.after, Region.binds .any e = true ∧ e.on = i
  dist : ∀ i, i < n → ∀ j, j < n → j ≠ i → ∀ d, dstOf ops i = some d → dstOf ops j ≠ some d

theorem growB_ok {n : Nat} (h : growB ops n = true) : GrowOk ops n := by
  simp only [growB, Bool.and_eq_true, decide_eq_true_eq, List.all_eq_true, List.mem_range] at h
  obtain ⟨⟨⟨⟨h1, h2⟩, h3⟩, h4⟩, h5⟩ := h
  have get : ∀ (j : Nat) (oj : Oper), ops[j]? = some oj → ((oj.after.all fun e => !Region.binds .any e || decide (e.on < j)) = true) ∧ ∀ i, i < n → (match dstOf ops i with
        | none => true
        | some d => (!(oj.looksAt ops).contains d || (oj.after.any fun e => Region.binds .any e && e.on == i)) && (i == j || dstOf ops j != some d)) = true := by
    intro j oj hj
    have hlt : j < n + 1 := by rw [← h2]; exact (Array.getElem?_eq_some_iff.1 hj).1
    have := h5 j hlt
    rw [hj] at this
    simp only [Bool.and_eq_true, List.all_eq_true, List.mem_range] at this
    exact this
  refine ⟨fun j o cs b ho => Region.noSelect_spec h1 j o cs b ho, h2, h3, h4, fun j oj hj e he hb => ?_, fun j oj hj i hi d hd hl => ?_, fun i hi j hj hne d hd => ?_⟩
  · have := Array.all_eq_true_iff_forall_mem.1 (get j oj hj).1 e he
    simpa [hb] using this
  · have := (get j oj hj).2 i hi
    rw [hd] at this
    simp only [Bool.and_eq_true, Bool.or_eq_true, Bool.not_eq_true'] at this
    rcases this.1 with h | h
    · have : (oj.looksAt ops).contains d = true := by simpa using hl
      rw [this] at h; cases h
    · obtain ⟨e, he, hb⟩ := Array.any_eq_true'.1 h
      simp only [Bool.and_eq_true, beq_iff_eq] at hb
      exact ⟨e, he, hb.1, hb.2⟩
  · have hjlt : j < ops.size := by omega
    have := (get j ops[j] (Array.getElem?_eq_getElem hjlt)).2 i hi
    rw [hd] at this
    simp only [Bool.and_eq_true, Bool.or_eq_true, beq_iff_eq, bne_iff_ne] at this
    exact this.2.resolve_left (Ne.symm hne)

def flag (listed : Array Bool) (i : Nat) : Bool := listed.getD i false
/-- How many of the first n are not listed. -/
def left (listed : Array Bool) : Nat → Nat
  | 0 => 0
  | n + 1 => left listed n + if flag listed n then 0 else 1
theorem left_set {listed : Array Bool} {i : Nat} (hun : flag listed i = false) (hs : i < listed.size) : ∀ n, i < n → left (listed.setIfInBounds i true) n + 1 = left listed n
  | 0, h => by omega
  | n + 1, h => by
    have other : ∀ j, j ≠ i → flag (listed.setIfInBounds i true) j = flag listed j := fun j hj => getD_set_ne false (Ne.symm hj)
    unfold left
    by_cases e : i = n
    · subst e
      have hset : flag (listed.setIfInBounds i true) i = true := by simp [flag, hs]
      have same : ∀ m, m ≤ i → left (listed.setIfInBounds i true) m = left listed m := by
        intro m hm
        induction m with
        | zero => rfl
        | succ m ih => unfold left; rw [ih (by omega), other m (by omega)]
      rw [same i (Nat.le_refl _), hset, hun]; simp
    · have := left_set hun hs n (by omega)
      rw [other n (Ne.symm e)]; omega
theorem left_zero {listed : Array Bool} : ∀ n, left listed n = 0 → ∀ i, i < n → flag listed i = true
  | 0, _, i, h => by omega
  | n + 1, h, i, hi => by
    unfold left at h
    by_cases e : i = n
    · subst e
      cases hf : flag listed i with
      | true => rfl
      | false => rw [hf] at h; simp at h
    · exact left_zero n (by omega) i (by omega)

theorem ready_done {listed : Array Bool} {Q : Exit → Act → World → Prop} (h : Region.ready .any ops listed = []) : ∀ (f : Nat) (a : Act) (w : World), Q .normal a w → wpAny P .any ops Q f listed a w
  | 0, _, _, hq => ⟨h, hq⟩
  | f + 1, _, _, hq => ⟨fun _ => hq, fun i hi => by rw [h] at hi; cases hi⟩

/-- All orders come to the same slots. -/
theorem any_of_grow {n : Nat} (ok : GrowOk ops n) {w0 : World} {a0 : Act} {val : Nat → Value} {Q : Exit → Act → World → Prop}
    (hY : ∀ (j : Nat) (oj : Oper), j < n → ops[j]? = some oj → GYields P ops w0 oj (val j) (fill ops val (fun _ => true) a0 j))
    (hlast : ∀ w, GB w0 w → wpOp P ops Q n (Q .normal) (fill ops val (fun _ => true) a0 n) w) :
    ∀ (f : Nat) (listed : Array Bool) (w : World), HeadInv .any ops n listed → left listed n ≤ f → GB w0 w → wpAny P .any ops Q (f + 1) listed (fill ops val (flag listed) a0 n) w := by
  intro f
  induction f with
  | zero =>
    intro listed w inv hl hw
    have hall := left_zero n (Nat.le_zero.1 hl)
    have hn : n < listed.size := by rw [inv.size, ok.size]; omega
    have hun : listed.getD n true = false := inv.tail n (Nat.le_refl _) (by rw [ok.size]; omega)
    obtain ⟨on, hon⟩ : ∃ on, ops[n]? = some on := ⟨_, Array.getElem?_eq_getElem (by rw [ok.size]; omega)⟩
    have hfill : fill ops val (flag listed) a0 n = fill ops val (fun _ => true) a0 n := fill_congr _ _ _ _ _ n (fun i hi => ⟨hall i hi, rfl⟩)
    have hnr : n ∈ Region.ready .any ops listed := mem_ready.2 ⟨hun, on, hon, fun e he hb => hall _ (ok.back n on hon e he hb)⟩
    refine ⟨fun h => (by rw [h] at hnr; cases hnr), fun i hi => ?_⟩
    obtain ⟨h1, oi, hoi, -⟩ := mem_ready.1 hi
    have hin : i = n := by
      have hlt : i < n + 1 := by rw [← ok.size]; exact (Array.getElem?_eq_some_iff.1 hoi).1
      by_cases e : i < n
      · have := hall i e; unfold flag at this; rw [getD_both h1] at this; cases this
      · omega
    subst hin
    rw [hfill]
    refine wpOp_mono (fun a' w' hq => ready_done ?_ _ _ _ hq) (hlast w hw)
    apply List.eq_nil_iff_forall_not_mem.2
    intro j hj
    obtain ⟨g1, oj, hoj, -⟩ := mem_ready.1 hj
    have hjlt : j < i + 1 := by rw [← ok.size]; exact (Array.getElem?_eq_some_iff.1 hoj).1
    by_cases e : j = i
    · subst e; simp [hn] at g1
    · rw [getD_set_ne true (Ne.symm e)] at g1
      have := hall j (by omega); unfold flag at this; rw [getD_both g1] at this; cases this
  | succ f ih =>
    intro listed w inv hl hw
    by_cases hz : left listed n = 0
    · have hall := left_zero n hz
      have hn : n < listed.size := by rw [inv.size, ok.size]; omega
      have hun : listed.getD n true = false := inv.tail n (Nat.le_refl _) (by rw [ok.size]; omega)
      obtain ⟨on, hon⟩ : ∃ on, ops[n]? = some on := ⟨_, Array.getElem?_eq_getElem (by rw [ok.size]; omega)⟩
      have hfill : fill ops val (flag listed) a0 n = fill ops val (fun _ => true) a0 n := fill_congr _ _ _ _ _ n (fun i hi => ⟨hall i hi, rfl⟩)
      have hnr : n ∈ Region.ready .any ops listed := mem_ready.2 ⟨hun, on, hon, fun e he hb => hall _ (ok.back n on hon e he hb)⟩
      refine ⟨fun h => (by rw [h] at hnr; cases hnr), fun i hi => ?_⟩
      obtain ⟨h1, oi, hoi, -⟩ := mem_ready.1 hi
      have hin : i = n := by
        have hlt : i < n + 1 := by rw [← ok.size]; exact (Array.getElem?_eq_some_iff.1 hoi).1
        by_cases e : i < n
        · have := hall i e; unfold flag at this; rw [getD_both h1] at this; cases this
        · omega
      subst hin
      rw [hfill]
      refine wpOp_mono (fun a' w' hq => ready_done ?_ _ _ _ hq) (hlast w hw)
      apply List.eq_nil_iff_forall_not_mem.2
      intro j hj
      obtain ⟨g1, oj, hoj, -⟩ := mem_ready.1 hj
      have hjlt : j < i + 1 := by rw [← ok.size]; exact (Array.getElem?_eq_some_iff.1 hoj).1
      by_cases e : j = i
      · subst e; simp [hn] at g1
      · rw [getD_set_ne true (Ne.symm e)] at g1
        have := hall j (by omega); unfold flag at this; rw [getD_both g1] at this; cases this
    · -- SOME HEAD OPERATION IS OPEN: THE FIRST OF THEM IS READY; THE LAST ONE OF ALL IS NOT
      obtain ⟨m, hm, hmun, hmin⟩ : ∃ m, m < n ∧ flag listed m = false ∧ ∀ j, j < m → flag listed j = true := by
        clear hl
        have key : ∀ k, k ≤ n → (∀ j, j < k → flag listed j = true) ∨ ∃ m, m < k ∧ flag listed m = false ∧ ∀ j, j < m → flag listed j = true := by
          intro k hk
          induction k with
          | zero => exact .inl fun j hj => by omega
          | succ k ihk =>
            rcases ihk (by omega) with h | ⟨m, h1, h2, h3⟩
            · cases hf : flag listed k with
              | true =>
                refine .inl (fun j hj => ?_)
                by_cases e : j = k
                · subst e; exact hf
                · exact h j (by omega)
              | false => exact .inr ⟨k, by omega, hf, h⟩
            · exact .inr ⟨m, by omega, h2, h3⟩
        rcases key n (Nat.le_refl _) with h | h
        · refine absurd ?_ hz
          have : ∀ k, k ≤ n → left listed k = 0 := by
            intro k hk
            induction k with
            | zero => rfl
            | succ k ihk => unfold left; rw [ihk (by omega), h k (by omega)]; rfl
          exact this n (Nat.le_refl _)
        · exact h
      have hms : m < listed.size := by rw [inv.size, ok.size]; omega
      obtain ⟨om, hom⟩ : ∃ om, ops[m]? = some om := ⟨_, Array.getElem?_eq_getElem (by rw [ok.size]; omega)⟩
      have hmr : m ∈ Region.ready .any ops listed := mem_ready.2 ⟨getD_in hms hmun, om, hom, fun e he hb => hmin _ (ok.back m om hom e he hb)⟩
      refine ⟨fun h => (by rw [h] at hmr; cases hmr), fun i hi => ?_⟩
      obtain ⟨h1, oi, hoi, hdep⟩ := mem_ready.1 hi
      have hin : i < n := by
        rcases Nat.lt_or_ge i n with h | h
        · exact h
        · exact absurd hi (tail_waits ok.sink ok.chain (by rw [ok.size]; omega) inv _ m rfl hm (getD_in hms hmun) i h)
      have his : i < listed.size := by rw [inv.size, ok.size]; omega
      have hiun : flag listed i = false := getD_both h1
      have hnext := ih (listed.setIfInBounds i true)
      have hfs : fill ops val (flag (listed.setIfInBounds i true)) a0 n = (fill ops val (flag listed) a0 n).put (dstOf ops i) (val i) :=
        fill_set val (flag listed) (flag (listed.setIfInBounds i true)) a0 i hiun (by simp [flag, his]) (fun j hj => getD_set_ne false (Ne.symm hj)) n hin (ok.dist i hin)
      have hdst : dstOf ops i = oi.dst := by simp [dstOf, hoi]
      have hagree : Agree (oi.looksAt ops) (fill ops val (fun _ => true) a0 i) (fill ops val (flag listed) a0 n) := by
        have e1 : fill ops val (fun _ => true) a0 i = fill ops val (fun j => decide (j < i)) a0 i := fill_congr _ _ _ _ _ i (fun j hj => ⟨by simp [hj], rfl⟩)
        have e2 : ∀ k, i ≤ k → fill ops val (fun j => decide (j < i)) a0 k = fill ops val (fun j => decide (j < i)) a0 i := by
          intro k hk
          induction k with
          | zero => rw [show i = 0 by omega]
          | succ k ihk =>
            by_cases e : i = k + 1
            · rw [e]
            · rw [← ihk (by omega)]
              show (if decide (k < i) then _ else _) = _
              rw [show decide (k < i) = false by simp; omega]
              rfl
        rw [e1, ← e2 n (by omega)]
        refine fill_agree val _ _ a0 _ n (fun j hj hne d hd hl => ?_)
        obtain ⟨e, he, hb, hon⟩ := ok.looks i oi hoi j hj d hd hl
        have hlisted := hdep e he hb
        rw [hon] at hlisted
        have hback := ok.back i oi hoi e he hb
        rw [hon] at hback
        exact hne (by show decide (j < i) = flag listed j; unfold flag; rw [hlisted]; simp [hback])
      have hat := (hY i oi hin hoi).at (fun cs c => ok.sel i oi cs c hoi) hagree hw (K := wpAny P .any ops Q (f + 1) (listed.setIfInBounds i true)) (Q := Q) (fun w' hw' => by
        rw [← hdst, ← hfs]
        exact hnext w' (inv.set hi hin) (by have := left_set hiun his n hin; omega) hw')
      unfold wpOp
      simp only [hoi]
      split
      · rename_i hwt; rw [if_pos hwt] at hat; exact .inl hat
      · rename_i hwt; rw [if_neg hwt] at hat; exact hat

/-- The walk in the order of the text: each operation but the last one answers a value, whatever has grown. -/
def wpGrow (P : Program) (ops : Array Oper) (w0 : World) (L : Act → Prop) : List Oper → Act → Prop
  | [], a => L a
  | o :: rest, a => ∃ v, GYields P ops w0 o v a ∧ wpGrow P ops w0 L rest (a.put o.dst v)

theorem vals_of_grow {w0 : World} {L : Act → Prop} {a0 : Act} {n : Nat} : ∀ (l : List Oper) (k : Nat) (val : Nat → Value), (∀ j, j < l.length → l[j]? = ops[k + j]?) → k + l.length = n → wpGrow P ops w0 L l (fill ops val (fun _ => true) a0 k) →
    ∃ val' : Nat → Value, (∀ i, i < k → val' i = val i) ∧ (∀ (j : Nat) (oj : Oper), k ≤ j → j < n → ops[j]? = some oj → GYields P ops w0 oj (val' j) (fill ops val' (fun _ => true) a0 j)) ∧ L (fill ops val' (fun _ => true) a0 n)
  | [], k, val, _, hk, h => by
    have : k = n := by simpa using hk
    subst this
    exact ⟨val, fun _ _ => rfl, fun j _ h1 h2 => by omega, h⟩
  | o :: l, k, val, hl, hk, ⟨v, hy, h⟩ => by
    have h0 : ops[k]? = some o := by simpa using (hl 0 (by simp)).symm
    have same : ∀ m, m ≤ k → ∀ u : Nat → Value, (∀ i, i < k → u i = val i) → fill ops u (fun _ => true) a0 m = fill ops val (fun _ => true) a0 m := fun m hm u hu => fill_congr _ _ _ _ _ m (fun i hi => ⟨rfl, hu i (by omega)⟩)
    have hv1 : ∀ i, i < k → (fun i => if i = k then v else val i) i = val i := fun i hi => by simp only; rw [if_neg (by omega)]
    have step : fill ops (fun i => if i = k then v else val i) (fun _ => true) a0 (k + 1) = (fill ops val (fun _ => true) a0 k).put o.dst v := by
      show (fill ops (fun i => if i = k then v else val i) (fun _ => true) a0 k).put (dstOf ops k) (if k = k then v else val k) = _
      rw [same k (Nat.le_refl _) _ hv1, if_pos rfl]
      simp [dstOf, h0]
    rw [← step] at h
    obtain ⟨val', e1, e2, e3⟩ := vals_of_grow (n := n) l (k + 1) _ (fun j hj => by have := hl (j + 1) (by simp; omega); simpa [Nat.add_assoc, Nat.add_comm 1 j] using this) (by simp at hk; omega) h
    have e0 : ∀ i, i < k → val' i = val i := fun i hi => (e1 i (by omega)).trans (hv1 i hi)
    refine ⟨val', e0, fun j oj h1 h2 hj => ?_, e3⟩
    by_cases e : j = k
    · subst e
      rw [h0] at hj; cases hj
      rw [same j (Nat.le_refl _) val' e0, show val' j = v from (e1 j (by omega)).trans (by simp)]
      exact hy
    · exact e2 j oj (by omega) h2 hj

theorem any_region_grow {Q : Exit → Act → World → Prop} {a : Act} {w0 w : World} {l : List Oper} (n : Nat) (hB : growB l.toArray n = true) (hw : GB w0 w)
    (h : wpGrow P l.toArray w0 (fun a' => ∀ w', GB w0 w' → wpList P l.toArray Q (l.drop n) a' w') (l.take n) a) : wpAny P .any l.toArray Q l.toArray.size (Array.replicate l.toArray.size false) a w := by
  have ok := growB_ok hB
  have hlen : l.length = n + 1 := by simpa using ok.size
  obtain ⟨val, -, hY, hL⟩ := vals_of_grow (n := n) (a0 := a) (l.take n) 0 (fun _ => undef) (fun j hj => by
    have : j < n := by simp at hj; omega
    simp [this]) (by simp; omega) h
  have start : HeadInv .any l.toArray n (Array.replicate l.toArray.size false) :=
    ⟨by simp, (fun j oj _ hl => by rw [getD_replicate_false] at hl; cases hl), fun t _ ht => getD_in (by simpa using ht) (getD_replicate_false _ _)⟩
  have zero : ∀ k, fill l.toArray val (flag (Array.replicate l.toArray.size false)) a k = a := by
    intro k
    induction k with
    | zero => rfl
    | succ k ih =>
      show (if flag (Array.replicate l.toArray.size false) k then _ else _) = a
      rw [show flag (Array.replicate l.toArray.size false) k = false from getD_replicate_false _ _]
      exact ih
  have most : ∀ k, left (Array.replicate l.toArray.size false) k ≤ k := by
    intro k
    induction k with
    | zero => exact Nat.le_refl _
    | succ k ih => unfold left; split <;> omega
  have := any_of_grow (P := P) (Q := Q) ok (fun j oj hj ho => hY j oj (Nat.zero_le _) hj ho) (fun w' hw' => by
    have hn := hL w' hw'
    have hd : l.drop n = [l[n]] := by
      rw [List.drop_eq_getElem_cons (by omega), List.drop_eq_nil_of_le (by omega)]
    rw [hd] at hn
    unfold wpOp
    have ho : l.toArray[n]? = some l[n] := by simp
    simp only [ho]
    exact hn) n (Array.replicate l.toArray.size false) w start (most n) hw
  rw [zero n, ok.size] at this
  rw [ok.size]
  exact this

theorem wp_region_grow {id : Nat} {Q : Exit → Act → World → Prop} {a : Act} {w : World} {l : List Oper} (n : Nat) (hm : P.follows .mixedOrders = true) (hB : growB l.toArray n = true)
    (h : wpGrow P l.toArray w (fun a' => ∀ w', GB w w' → wpList P l.toArray Q (l.drop n) a' w') (l.take n) a) : (Code.region id l.toArray true).wp P Q a w :=
  wp_region_any hm (any_region_grow n hB ((GB.refl w).drew) h)

theorem wpGrow_nil {w0 : World} {L : Act → Prop} {a : Act} (h : L a) : wpGrow P ops w0 L [] a := h
theorem wpGrow_step {w0 : World} {L : Act → Prop} {o : Oper} {rest : List Oper} {a : Act} (v : Value) (h : ∀ w, GB w0 w → ∀ K : Act → World → Prop, (∀ a' w', a' = a.put o.dst v → GB w0 w' → K a' w') →
      if Region.wanted o (yielded ops a.tmps) then o.wp P a w K (fun _ _ _ => False) else K (a.put o.dst undef) w) (hr : wpGrow P ops w0 L rest (a.put o.dst v)) (hv : Region.wanted o (yielded ops a.tmps) = true ∨ v = undef) : wpGrow P ops w0 L (o :: rest) a := by
  refine ⟨v, fun w hw => ?_, hr⟩
  split
  · rename_i hwt
    intro K hK
    have := h w hw K hK
    rwa [if_pos hwt] at this
  · rename_i hwt
    exact hv.resolve_left hwt
/-- The same for an operation without a guard. -/
theorem wpGrow_plain {w0 : World} {L : Act → Prop} {o : Oper} {rest : List Oper} {a : Act} (hg : o.guard = none) {v : Value} (h : ∀ w, GB w0 w → ∀ K : Act → World → Prop, (∀ a' w', a' = a.put o.dst v → GB w0 w' → K a' w') → o.wp P a w K (fun _ _ _ => False))
    (hr : wpGrow P ops w0 L rest (a.put o.dst v)) : wpGrow P ops w0 L (o :: rest) a := by
  have hwt : Region.wanted o (yielded ops a.tmps) = true := by simp [Region.wanted, hg]
  exact wpGrow_step v (fun w hw K hK => by rw [if_pos hwt]; exact h w hw K hK) hr (.inl hwt)
end

section
variable {P : Program} {ops : Array Oper} {md : Region.Mode}

/-- What comes behind operation n waits for it, and it for all before. -/
def barB (ops : Array Oper) (n : Nat) : Bool := decide (n = ops.size) || (Region.sinkB .any ops n && (List.range ops.size).all fun t => decide (t ≤ n) || (List.range t).any fun u => decide (n ≤ u) && Region.waitsFor .any ops t u)
def growKB (ops : Array Oper) (n : Nat) : Bool :=
  Region.noSelect ops && decide (n ≤ ops.size) && barB ops n &&
  (List.range (n + 1)).all fun j => match ops[j]? with
    | none => decide (j = n)
    | some oj =>
      (oj.after.all fun e => !Region.binds .any e || decide (e.on < j)) &&
      (List.range n).all fun i => (match dstOf ops i with
        | none => true
        | some d => decide (j = n) || (!(oj.looksAt ops).contains d || (oj.after.any fun e => Region.binds .any e && e.on == i)) && (i == j || dstOf ops j != some d))

structure GrowKOk (ops : Array Oper) (n : Nat) : Prop where
  sel : ∀ (j : Nat) (o : Oper) cs b, ops[j]? = some o → o.op ≠ .select cs b
  size : n ≤ ops.size
  bar : barB ops n = true
  back : ∀ (j : Nat) (oj : Oper), j ≤ n → ops[j]? = some oj → ∀ e ∈ oj.after, Region.binds .any e = true → e.on < j
  looks : ∀ (j : Nat) (oj : Oper), j < n → ops[j]? = some oj → ∀ i, i < n → ∀ d, dstOf ops i = some d → d ∈ oj.looksAt ops → ∃ e ∈ oj.after, Region.binds .any e = true ∧ e.on = i
  dist : ∀ i, i < n → ∀ j, j < n → j ≠ i → ∀ d, dstOf ops i = some d → dstOf ops j ≠ some d

theorem growKB_ok {n : Nat} (h : growKB ops n = true) : GrowKOk ops n := by
  simp only [growKB, Bool.and_eq_true, decide_eq_true_eq, List.all_eq_true, List.mem_range] at h
  obtain ⟨⟨⟨h1, h2⟩, h4⟩, h5⟩ := h
  have get : ∀ (j : Nat) (oj : Oper), j ≤ n → ops[j]? = some oj → ((oj.after.all fun e => !Region.binds .any e || decide (e.on < j)) = true) ∧ ∀ i, i < n → (match dstOf ops i with
        | none => true
        | some d => decide (j = n) || (!(oj.looksAt ops).contains d || (oj.after.any fun e => Region.binds .any e && e.on == i)) && (i == j || dstOf ops j != some d)) = true := by
    intro j oj hjn hj
    have := h5 j (by omega)
    rw [hj] at this
    simp only [Bool.and_eq_true, List.all_eq_true, List.mem_range] at this
    exact this
  refine ⟨fun j o cs b ho => Region.noSelect_spec h1 j o cs b ho, h2, h4, fun j oj hjn hj e he hb => ?_, fun j oj hjn hj i hi d hd hl => ?_, fun i hi j hj hne d hd => ?_⟩
  · have := Array.all_eq_true_iff_forall_mem.1 (get j oj hjn hj).1 e he
    simpa [hb] using this
  · have := (get j oj (by omega) hj).2 i hi
    rw [hd] at this
    simp only [Bool.or_eq_true, decide_eq_true_eq] at this
    have := this.resolve_left (by omega)
    simp only [Bool.and_eq_true, Bool.or_eq_true, Bool.not_eq_true'] at this
    rcases this.1 with h | h
    · have : (oj.looksAt ops).contains d = true := by simpa using hl
      rw [this] at h; cases h
    · obtain ⟨e, he, hb⟩ := Array.any_eq_true'.1 h
      simp only [Bool.and_eq_true, beq_iff_eq] at hb
      exact ⟨e, he, hb.1, hb.2⟩
  · have hjlt : j < ops.size := by omega
    have := (get j ops[j] (by omega) (Array.getElem?_eq_getElem hjlt)).2 i hi
    rw [hd] at this
    simp only [Bool.or_eq_true, decide_eq_true_eq] at this
    have := this.resolve_left (by omega)
    simp only [Bool.and_eq_true, Bool.or_eq_true, beq_iff_eq, bne_iff_ne] at this
    exact this.2.resolve_left (Ne.symm hne)

theorem bar_waits {n : Nat} {listed : Array Bool} (hbar : barB ops n = true) (inv : HeadInv .any ops n listed) :
    ∀ (d i : Nat), n - i = d → i < n → listed.getD i true = false → ∀ t, n ≤ t → t ∉ Region.ready .any ops listed := by
  intro d
  induction d using Nat.strongRecOn with
  | _ d ih =>
    intro i hd hi hun t ht hr
    obtain ⟨h1, ot, hot, hall⟩ := mem_ready.1 hr
    have htlt : t < ops.size := (Array.getElem?_eq_some_iff.1 hot).1
    simp only [barB, Bool.or_eq_true, decide_eq_true_eq, Bool.and_eq_true] at hbar
    obtain ⟨hs, hc⟩ := hbar.resolve_left (by omega)
    by_cases htn : t = n
    · subst htn
      have h1 := List.all_eq_true.1 hs i (List.mem_range.2 hi)
      obtain ⟨j, hj, hj2⟩ := List.any_eq_true.1 h1
      simp only [Bool.and_eq_true, decide_eq_true_eq] at hj2
      obtain ⟨oj, hoj, e, he, hbe, hon⟩ := Region.waitsFor_spec hj2.2
      have hjle : j ≤ t := by have := List.mem_range.1 hj; omega
      by_cases hjt : j = t
      · subst hjt
        have : oj = ot := Option.some.inj (hoj.symm.trans hot)
        subst this
        have h2 := hall e he hbe
        rw [hon, getD_both hun] at h2
        cases h2
      · cases hl : listed.getD j false with
        | true =>
          have h2 := inv.closed j oj hoj hl e he hbe
          rw [hon, getD_both hun] at h2
          cases h2
        | false => exact ih (t - j) (by omega) j rfl (by omega) (getD_in (by rw [inv.size]; omega) hl) t (Nat.le_refl _) hr
    · have h2 := List.all_eq_true.1 hc t (List.mem_range.2 htlt)
      simp only [Bool.or_eq_true, decide_eq_true_eq] at h2
      obtain ⟨u, hu, hu2⟩ := List.any_eq_true.1 (h2.resolve_left (by omega))
      simp only [Bool.and_eq_true, decide_eq_true_eq] at hu2
      obtain ⟨oj, hoj, e, he, hbe, hon⟩ := Region.waitsFor_spec hu2.2
      have : oj = ot := Option.some.inj (hoj.symm.trans hot)
      subst this
      have h3 := hall e he hbe
      have hut := List.mem_range.1 hu
      rw [hon, getD_both (inv.tail u hu2.1 (by omega))] at h3
      cases h3

/-- The flags from k on. -/
def flagK (k : Nat) (listed : Array Bool) (i : Nat) : Bool := decide (k ≤ i) && flag listed i
def upK (k : Nat) (i : Nat) : Bool := decide (k ≤ i)

/-- All orders of a stage come to the same slots. -/
theorem any_of_stage {k n : Nat} (ok : GrowKOk ops n) {w0 : World} {a0 : Act} {val : Nat → Value} {Q : Exit → Act → World → Prop}
    (hY : ∀ (j : Nat) (oj : Oper), k ≤ j → j < n → ops[j]? = some oj → GYields P ops w0 oj (val j) (fill ops val (upK k) a0 j))
    (hnext : ∀ listed w, (∀ i, i < n → flag listed i = true) → HeadInv .any ops n listed → GB w0 w → wpAny P .any ops Q (ops.size - n) listed (fill ops val (upK k) a0 n) w) :
    ∀ (f : Nat) (listed : Array Bool) (w : World), (∀ i, i < k → flag listed i = true) → HeadInv .any ops n listed → left listed n = f → GB w0 w → wpAny P .any ops Q (f + (ops.size - n)) listed (fill ops val (flagK k listed) a0 n) w := by
  intro f
  induction f with
  | zero =>
    intro listed w hk inv hl hw
    have hall := left_zero n hl
    have hfill : fill ops val (flagK k listed) a0 n = fill ops val (upK k) a0 n := fill_congr _ _ _ _ _ n (fun i hi => ⟨by simp [flagK, upK, hall i hi], rfl⟩)
    rw [hfill, Nat.zero_add]
    exact hnext listed w hall inv hw
  | succ f ih =>
    intro listed w hk inv hl hw
    have hz : ¬ left listed n = 0 := by omega
    obtain ⟨m, hm, hmun, hmin⟩ : ∃ m, m < n ∧ flag listed m = false ∧ ∀ j, j < m → flag listed j = true := by
      clear hl
      have key : ∀ k, k ≤ n → (∀ j, j < k → flag listed j = true) ∨ ∃ m, m < k ∧ flag listed m = false ∧ ∀ j, j < m → flag listed j = true := by
        intro k hk
        induction k with
        | zero => exact .inl fun j hj => by omega
        | succ k ihk =>
          rcases ihk (by omega) with h | ⟨m, h1, h2, h3⟩
          · cases hf : flag listed k with
            | true =>
              refine .inl (fun j hj => ?_)
              by_cases e : j = k
              · subst e; exact hf
              · exact h j (by omega)
            | false => exact .inr ⟨k, by omega, hf, h⟩
          · exact .inr ⟨m, by omega, h2, h3⟩
      rcases key n (Nat.le_refl _) with h | h
      · refine absurd ?_ hz
        have : ∀ k, k ≤ n → left listed k = 0 := by
          intro k hk
          induction k with
          | zero => rfl
          | succ k ihk => unfold left; rw [ihk (by omega), h k (by omega)]; rfl
        exact this n (Nat.le_refl _)
      · exact h
    have hsz := ok.size
    have hms : m < listed.size := by rw [inv.size]; omega
    obtain ⟨om, hom⟩ : ∃ om, ops[m]? = some om := ⟨_, Array.getElem?_eq_getElem (by omega)⟩
    have hmr : m ∈ Region.ready .any ops listed := mem_ready.2 ⟨getD_in hms hmun, om, hom, fun e he hb => hmin _ (ok.back m om (by omega) hom e he hb)⟩
    rw [show f + 1 + (ops.size - n) = (f + (ops.size - n)) + 1 by omega]
    refine ⟨fun h => (by rw [h] at hmr; cases hmr), fun i hi => ?_⟩
    obtain ⟨h1, oi, hoi, hdep⟩ := mem_ready.1 hi
    have hin : i < n := by
      rcases Nat.lt_or_ge i n with h | h
      · exact h
      · exact absurd hi (bar_waits ok.bar inv _ m rfl hm (getD_in hms hmun) i h)
    have his : i < listed.size := by rw [inv.size]; omega
    have hiun : flag listed i = false := getD_both h1
    have hki : k ≤ i := by
      rcases Nat.lt_or_ge i k with h | h
      · have := hk i h; rw [hiun] at this; cases this
      · exact h
    have hnext' := ih (listed.setIfInBounds i true)
    have hfs : fill ops val (flagK k (listed.setIfInBounds i true)) a0 n = (fill ops val (flagK k listed) a0 n).put (dstOf ops i) (val i) := by
      have hlo : ∀ j, j ≠ i → flag (listed.setIfInBounds i true) j = flag listed j := fun j hj => getD_set_ne false (Ne.symm hj)
      exact fill_set val (flagK k listed) (flagK k (listed.setIfInBounds i true)) a0 i (by simp [flagK, hiun]) (by simp [flagK, flag, his, hki]) (fun j hj => by simp [flagK, hlo j hj]) n hin (ok.dist i hin)
    have hdst : dstOf ops i = oi.dst := by simp [dstOf, hoi]
    have hagree : Agree (oi.looksAt ops) (fill ops val (upK k) a0 i) (fill ops val (flagK k listed) a0 n) := by
      have e1 : fill ops val (upK k) a0 i = fill ops val (fun j => decide (k ≤ j) && decide (j < i)) a0 i := fill_congr _ _ _ _ _ i (fun j hj => ⟨by simp [upK, hj], rfl⟩)
      have e2 : ∀ m, i ≤ m → fill ops val (fun j => decide (k ≤ j) && decide (j < i)) a0 m = fill ops val (fun j => decide (k ≤ j) && decide (j < i)) a0 i := by
        intro m hm
        induction m with
        | zero => rw [show i = 0 by omega]
        | succ m ihm =>
          by_cases e : i = m + 1
          · rw [e]
          · rw [← ihm (by omega)]
            show (if (decide (k ≤ m) && decide (m < i)) then _ else _) = _
            rw [show decide (m < i) = false by simp; omega]
            simp
      rw [e1, ← e2 n (by omega)]
      refine fill_agree val _ _ a0 _ n (fun j hj hne d hd hl => ?_)
      obtain ⟨e, he, hb, hon⟩ := ok.looks i oi hin hoi j hj d hd hl
      have hlisted := hdep e he hb
      rw [hon] at hlisted
      have hback := ok.back i oi (by omega) hoi e he hb
      rw [hon] at hback
      exact hne (by show (decide (k ≤ j) && decide (j < i)) = flagK k listed j; unfold flagK flag; rw [hlisted]; simp [hback])
    have hat := (hY i oi hki hin hoi).at (fun cs c => ok.sel i oi cs c hoi) hagree hw (K := wpAny P .any ops Q (f + (ops.size - n)) (listed.setIfInBounds i true)) (Q := Q) (fun w' hw' => by
      rw [← hdst, ← hfs]
      refine hnext' w' (fun j hj => ?_) (inv.set hi hin) (by have := left_set hiun his n hin; omega) hw'
      by_cases e : j = i
      · subst e; simp [flag, his]
      · rw [show flag (listed.setIfInBounds i true) j = flag listed j from getD_set_ne false (Ne.symm e)]; exact hk j hj)
    unfold wpOp
    simp only [hoi]
    split
    · rename_i hwt; rw [if_pos hwt] at hat; exact .inl hat
    · rename_i hwt; rw [if_neg hwt] at hat; exact hat

/-- The values of a stage. -/
theorem vals_of_stage {w0 : World} {L : Act → Prop} {a0 : Act} {k0 n : Nat} : ∀ (l : List Oper) (k : Nat) (val : Nat → Value), k0 ≤ k → (∀ j, j < l.length → l[j]? = ops[k + j]?) → k + l.length = n → wpGrow P ops w0 L l (fill ops val (upK k0) a0 k) →
    ∃ val' : Nat → Value, (∀ i, i < k → val' i = val i) ∧ (∀ (j : Nat) (oj : Oper), k ≤ j → j < n → ops[j]? = some oj → GYields P ops w0 oj (val' j) (fill ops val' (upK k0) a0 j)) ∧ L (fill ops val' (upK k0) a0 n)
  | [], k, val, _, _, hk, h => by
    have : k = n := by simpa using hk
    subst this
    exact ⟨val, fun _ _ => rfl, fun j _ h1 h2 => by omega, h⟩
  | o :: l, k, val, hk0, hl, hk, ⟨v, hy, h⟩ => by
    have h0 : ops[k]? = some o := by simpa using (hl 0 (by simp)).symm
    have same : ∀ m, m ≤ k → ∀ u : Nat → Value, (∀ i, i < k → u i = val i) → fill ops u (upK k0) a0 m = fill ops val (upK k0) a0 m := fun m hm u hu => fill_congr _ _ _ _ _ m (fun i hi => ⟨rfl, hu i (by omega)⟩)
    have hv1 : ∀ i, i < k → (fun i => if i = k then v else val i) i = val i := fun i hi => by simp only; rw [if_neg (by omega)]
    have step : fill ops (fun i => if i = k then v else val i) (upK k0) a0 (k + 1) = (fill ops val (upK k0) a0 k).put o.dst v := by
      show (if upK k0 k then (fill ops (fun i => if i = k then v else val i) (upK k0) a0 k).put (dstOf ops k) (if k = k then v else val k) else _) = _
      rw [show upK k0 k = true by simp [upK, hk0], if_pos rfl, same k (Nat.le_refl _) _ hv1, if_pos rfl]
      simp [dstOf, h0]
    rw [← step] at h
    obtain ⟨val', e1, e2, e3⟩ := vals_of_stage (n := n) l (k + 1) _ (by omega) (fun j hj => by have := hl (j + 1) (by simp; omega); simpa [Nat.add_assoc, Nat.add_comm 1 j] using this) (by simp at hk; omega) h
    have e0 : ∀ i, i < k → val' i = val i := fun i hi => (e1 i (by omega)).trans (hv1 i hi)
    refine ⟨val', e0, fun j oj h1 h2 hj => ?_, e3⟩
    by_cases e : j = k
    · subst e
      rw [h0] at hj; cases hj
      rw [same j (Nat.le_refl _) val' e0, show val' j = v from (e1 j (by omega)).trans (by simp)]
      exact hy
    · exact e2 j oj (by omega) h2 hj

theorem fill_up (val : Nat → Value) (k : Nat) (a0 : Act) : ∀ m, m ≤ k → fill ops val (upK k) a0 m = a0
  | 0, _ => rfl
  | m + 1, h => by
    show (if upK k m then _ else fill ops val (upK k) a0 m) = a0
    rw [show upK k m = false by simp [upK]; omega]
    exact fill_up val k a0 m (by omega)
theorem fill_none (val : Nat → Value) (k : Nat) (listed : Array Bool) (a0 : Act) (n : Nat) (h : ∀ i, k ≤ i → i < n → flag listed i = false) : fill ops val (flagK k listed) a0 n = a0 := by
  rw [fill_congr val val (flagK k listed) (fun _ => false) a0 n (fun i hi => ⟨by
    unfold flagK
    by_cases e : k ≤ i
    · simp [h i e hi]
    · simp [e], rfl⟩)]
  clear h
  induction n with
  | zero => rfl
  | succ n ih => exact ih

theorem wpGrow_mono {w0 : World} {L L' : Act → Prop} : ∀ {l : List Oper} {a : Act}, (∀ a, L a → L' a) → wpGrow P ops w0 L l a → wpGrow P ops w0 L' l a
  | [], a, hm, h => hm a h
  | o :: rest, a, hm, ⟨v, hy, h⟩ => ⟨v, hy, wpGrow_mono hm h⟩

/-- One stage, from a state in which just the operations before k are listed. -/
theorem any_stage {Q : Exit → Act → World → Prop} {a : Act} {w0 w : World} {k n : Nat} (l : List Oper) (hl : ∀ j, j < l.length → l[j]? = ops[k + j]?) (hn : k + l.length = n) (ok : GrowKOk ops n) {listed : Array Bool} (hk : ∀ i, i < k → flag listed i = true) (inv : HeadInv .any ops k listed)
    (hw : GB w0 w)
    (h : wpGrow P ops w0 (fun a' => ∀ w' listed', GB w0 w' → (∀ i, i < n → flag listed' i = true) → HeadInv .any ops n listed' → wpAny P .any ops Q (ops.size - n) listed' a' w') l a) : wpAny P .any ops Q (ops.size - k) listed a w := by
  obtain ⟨val, -, hY, hL⟩ := vals_of_stage (n := n) (k0 := k) (a0 := a) l k (fun _ => undef) (Nat.le_refl _) hl hn (by rw [fill_up _ _ _ _ (Nat.le_refl _)]; exact h)
  have hsz := ok.size
  have inv' : HeadInv .any ops n listed := ⟨inv.size, inv.closed, fun t ht ht' => inv.tail t (by omega) ht'⟩
  have hun : ∀ i, k ≤ i → i < n → flag listed i = false := fun i h1 h2 => getD_both (inv.tail i h1 (by omega))
  have hleft : left listed n = n - k := by
    have : ∀ m, m ≤ n → left listed m = m - k := by
      intro m hm
      induction m with
      | zero => simp [left]
      | succ m ih =>
        unfold left
        rw [ih (by omega)]
        by_cases e : m < k
        · rw [hk m e]; simp; omega
        · rw [hun m (by omega) (by omega)]; simp; omega
    exact this n (Nat.le_refl _)
  have := any_of_stage (P := P) (Q := Q) ok hY (fun listed' w' h1 h2 h3 => hL w' listed' h3 h1 h2) (n - k) listed w hk inv' hleft hw
  rw [fill_none _ _ _ _ _ hun, show n - k + (ops.size - n) = ops.size - k by omega] at this
  exact this

/-- The operation at a barrier. -/
theorem any_sink {Q : Exit → Act → World → Prop} {a : Act} {w : World} {n : Nat} {o : Oper} (ho : ops[n]? = some o) (hback : ∀ e ∈ o.after, Region.binds .any e = true → e.on < n) (hbar : barB ops n = true) (hnext : barB ops (n + 1) = true ∨ True) {listed : Array Bool} (hall : ∀ i, i < n → flag listed i = true) (inv : HeadInv .any ops n listed)
    (hlater : ∀ t ot, n < t → ops[t]? = some ot → ∃ e ∈ ot.after, Region.binds .any e = true ∧ n ≤ e.on ∧ e.on < t)
    (h : wpOp P ops Q n (fun a' w' => ∀ listed', (∀ i, i < n + 1 → flag listed' i = true) → HeadInv .any ops (n + 1) listed' → wpAny P .any ops Q (ops.size - (n + 1)) listed' a' w') a w) : wpAny P .any ops Q (ops.size - n) listed a w := by
  have hlt : n < ops.size := (Array.getElem?_eq_some_iff.1 ho).1
  have hun : listed.getD n true = false := inv.tail n (Nat.le_refl _) hlt
  have hnr : n ∈ Region.ready .any ops listed := mem_ready.2 ⟨hun, o, ho, fun e he hb => hall _ (hback e he hb)⟩
  rw [show ops.size - n = (ops.size - (n + 1)) + 1 by omega]
  refine ⟨fun h => (by rw [h] at hnr; cases hnr), fun i hi => ?_⟩
  obtain ⟨h1, oi, hoi, hdep⟩ := mem_ready.1 hi
  have hilt : i < ops.size := (Array.getElem?_eq_some_iff.1 hoi).1
  have hin : i = n := by
    rcases Nat.lt_trichotomy i n with h | h | h
    · have := hall i h; unfold flag at this; rw [getD_both h1] at this; cases this
    · exact h
    · obtain ⟨e, he, hb, h2, h3⟩ := hlater i oi h hoi
      have := hdep e he hb
      rw [getD_both (inv.tail e.on h2 (by omega))] at this
      cases this
  subst hin
  refine wpOp_mono (fun a' w' hq => hq _ (fun j hj => ?_) ?_) h
  · by_cases e : j = i
    · subst e; simp [flag, inv.size, hlt]
    · rw [show flag (listed.setIfInBounds i true) j = flag listed j from getD_set_ne false (Ne.symm e)]; exact hall j (by omega)
  · have := inv.set (n := i) hi
    refine ⟨by simp [inv.size], fun j oj hj hl e he hb => ?_, fun t ht ht' => by rw [getD_set_ne true (by omega)]; exact inv.tail t (by omega) ht'⟩
    by_cases hij : i = j
    · subst hij
      have : oj = oi := Option.some.inj (hj.symm.trans hoi)
      subst this
      exact getD_set_true (hdep e he hb)
    · rw [getD_set_ne false hij] at hl
      exact getD_set_true (inv.closed j oj hj hl e he hb)

/-- The checks on a region of two stages: n operations, one behind them, the rest behind that. -/
def stagesB (ops : Array Oper) (n : Nat) : Bool :=
  growKB ops n && growKB ops ops.size && decide (n < ops.size) &&
  (match ops[n]? with | none => false | some o => o.after.all fun e => !Region.binds .any e || decide (e.on < n)) &&
  (List.range ops.size).all fun t => decide (t ≤ n) || match ops[t]? with | none => true | some ot => ot.after.any fun e => Region.binds .any e && decide (n ≤ e.on) && decide (e.on < t)

theorem any_region_stages {Q : Exit → Act → World → Prop} {a : Act} {w0 w : World} {l : List Oper} (n : Nat) {o : Oper} (ho : l[n]? = some o) (hB : stagesB l.toArray n = true) (hw : GB w0 w)
    (h : wpGrow P l.toArray w0 (fun a' => ∀ w', GB w0 w' → wpOp P l.toArray Q n (fun a2 w2 => wpGrow P l.toArray w2 (fun a3 => ∀ w3, GB w2 w3 → Q .normal a3 w3) (l.drop (n + 1)) a2) a' w') (l.take n) a) :
    wpAny P .any l.toArray Q l.toArray.size (Array.replicate l.toArray.size false) a w := by
  simp only [stagesB, Bool.and_eq_true, decide_eq_true_eq] at hB
  obtain ⟨⟨⟨⟨h1, h2⟩, h3⟩, h4⟩, h5⟩ := hB
  have ok1 := growKB_ok h1
  have ok2 := growKB_ok h2
  have hlt : n < l.length := by simpa using h3
  have hoA : l.toArray[n]? = some o := by simpa using ho
  rw [hoA] at h4
  have start : HeadInv .any l.toArray 0 (Array.replicate l.toArray.size false) :=
    ⟨by simp, (fun j oj _ hl => by rw [getD_replicate_false] at hl; cases hl), fun t _ ht => getD_in (by simpa using ht) (getD_replicate_false _ _)⟩
  have key := any_stage (P := P) (Q := Q) (a := a) (w0 := w0) (w := w) (k := 0) (n := n) (ops := l.toArray) (l.take n) (fun j hj => by
      have : j < n := by simp at hj; omega
      simp [this]) (by simp; omega) ok1 (fun i hi => by omega) start hw
  rw [Nat.sub_zero] at key
  refine key ?_
  clear key
  refine wpGrow_mono (fun a' h' => ?_) h
  intro w' listed' hw' hall inv
  refine any_sink hoA (fun e he hb => ?_) ok1.bar (.inr trivial) hall inv (fun t ot ht hot => ?_) ?_
  · have := Array.all_eq_true_iff_forall_mem.1 h4 e he
    simpa [hb] using this
  · have htl : t < l.toArray.size := (Array.getElem?_eq_some_iff.1 hot).1
    have := List.all_eq_true.1 h5 t (List.mem_range.2 htl)
    rw [hot] at this
    simp only [Bool.or_eq_true, decide_eq_true_eq] at this
    obtain ⟨e, he, hb⟩ := Array.any_eq_true'.1 (this.resolve_left (by omega))
    simp only [Bool.and_eq_true, decide_eq_true_eq] at hb
    exact ⟨e, he, hb.1.1, hb.1.2, hb.2⟩
  · refine wpOp_mono (fun a2 w2 h2' => ?_) (h' w' hw')
    intro listed2 hall2 inv2
    refine any_stage (P := P) (Q := Q) (w0 := w2) (k := n + 1) (n := l.toArray.size) (ops := l.toArray) (l.drop (n + 1)) (fun j hj => by simp [Nat.add_comm]) (by simp; omega) ok2 hall2 inv2 (GB.refl _) ?_
    refine wpGrow_mono (fun a3 h3' => ?_) h2'
    intro w3 listed3 hw3 hall3 inv3
    refine ready_done ?_ _ _ _ (h3' w3 hw3)
    apply List.eq_nil_iff_forall_not_mem.2
    intro j hj
    obtain ⟨g1, oj, hoj, -⟩ := mem_ready.1 hj
    have := hall3 j (Array.getElem?_eq_some_iff.1 hoj).1
    unfold flag at this
    rw [getD_both g1] at this
    cases this

theorem wp_region_stages {id : Nat} {Q : Exit → Act → World → Prop} {a : Act} {w : World} {l : List Oper} (n : Nat) {o : Oper} (ho : l[n]? = some o) (hg : o.guard = none) (hm : P.follows .mixedOrders = true) (hB : stagesB l.toArray n = true)
    (h : wpGrow P l.toArray w (fun a' => ∀ w', GB w w' → o.wp P a' w' (fun a2 w2 => wpGrow P l.toArray w2 (fun a3 => ∀ w3, GB w2 w3 → Q .normal a3 w3) (l.drop (n + 1)) a2) Q) (l.take n) a) : (Code.region id l.toArray true).wp P Q a w := by
  refine wp_region_any hm (any_region_stages n ho hB ((GB.refl w).drew) (wpGrow_mono (fun a' h' w' hw' => ?_) h))
  unfold wpOp
  have hoA : l.toArray[n]? = some o := by simpa using ho
  simp only [hoA]
  rw [if_pos (by simp [Region.wanted, hg])]
  exact .inl (h' w' hw')
end
end GD
end Go.Proofs.YtabemgplddfemaaGreatDoor
