/- The iterator over a lawn's cells: it hands on all cells in their order, for every loop body that keeps the iterator's own copy of the lawn. A region that draws its order, whose operations but the last one answer the same in every world that has only grown (loads of what lay there, calls that make memory), may be walked in the order of the text. A region walked plainly serves in the round of a range over a function, where every function may be called. The program's ValidLawn answers as the model's. Worlds that differ in told blocks alone, and the range over a lawn's cells with the book-keeping done once. -/
import Derived.Test.YtpjninnammddlaaZA
import Derived.RangeFuncNested
import Derived.RangeFuncBound
import Derived.RangeFuncCalls
import Derived.RangeFuncLeaves
import Derived.Shelf.Abstract
import Derived.Shelf.RegionOpen
import Derived.OwnWalkIn
import Derived.TacticsInMore
import Derived.LoopNIn
import Derived.LoopIn
namespace Go.Proofs.Ytpjninnammddlaa
open Go.RowKit Go.Shelf
attribute [local go_sem] Oper.semAt_some


/-- All cells of a lawn of W by H, ordered. -/
def allC (W H : Nat) : List (Fin W × Fin H) := (List.finRange H).flatMap fun y => (List.finRange W).map fun x => (x, y)
theorem flat_get {α β : Type} (n : Nat) (f : α → List β) : ∀ (l : List α), (∀ a ∈ l, (f a).length = n) → ∀ (k j : Nat), j < n → (l.flatMap f)[k * n + j]? = (l[k]?).bind fun a => (f a)[j]?
  | [], _, k, j, _ => by simp
  | a :: l, h, 0, j, hj => by
    rw [List.flatMap_cons, List.getElem?_append_left (by rw [h a (by simp)]; omega)]
    simp
  | a :: l, h, k + 1, j, hj => by
    have ha := h a (by simp)
    rw [List.flatMap_cons, List.getElem?_append_right (by rw [ha, Nat.succ_mul]; omega), ha, show (k + 1) * n + j - n = k * n + j by rw [Nat.succ_mul]; omega,
      flat_get n f l (fun b hb => h b (by simp [hb])) k j hj]
    simp
theorem allC_get (W H k j : Nat) (hj : j < W) (hk : k < H) : (allC W H)[k * W + j]? = some (⟨j, hj⟩, ⟨k, hk⟩) := by
  unfold allC
  rw [flat_get W _ _ (fun a _ => by simp) k j hj]
  simp [hj, hk]
theorem allC_length (W H : Nat) : (allC W H).length = H * W := by
  unfold allC
  rw [List.length_flatMap]
  simp [List.map_const']
theorem allC_take (W H k j : Nat) (hj : j < W) (hk : k < H) : (allC W H).take (k * W + j + 1) = (allC W H).take (k * W + j) ++ [(⟨j, hj⟩, ⟨k, hk⟩)] := by
  rw [List.take_add_one, allC_get W H k j hj hk]; rfl
theorem allC_mem (W H : Nat) (x : Fin W × Fin H) : x ∈ allC W H := by
  obtain ⟨⟨j, hj⟩, ⟨k, hk⟩⟩ := x
  exact List.mem_of_getElem? (allC_get W H k j hj hk)

/-- A block lies as it lay. -/
def KeepB (b : Nat) (W W' : World) : Prop := W'.heap[b]? = W.heap[b]?
theorem KeepB.holds {b : Nat} {W W' : World} {cs : Array Value} (h : KeepB b W W') (hh : Holds W b cs) : Holds W' b cs := by
  obtain ⟨t, ht⟩ := hh; exact ⟨t, h.trans ht⟩
theorem keepB_t {b : Nat} {A B C : World} (h : KeepB b A B) (k : KeepB b B C) : KeepB b A C := Eq.trans k h
theorem keepB_b {b : Nat} {w : World} (hb : b < w.heap.size) (W : World) (l : Nat) (o o' : Obj) (hl : w.heap.size ≤ l) (_ : W.heap[l]? = some o) (_ : o.isCells = false) (_ : o.isWalk = false) : KeepB b W (W.putObj l o') := World.putObj_heap_other (by omega)
theorem KeepB.of_below {b B : Nat} {W W' : World} (h : Below B W W') (hb : b < B) : KeepB b W W' := h.block b hb
def cellA {W H : Nat} (c : Fin W × Fin H) : Array Value := #[cellV (c.1 : Nat) (c.2 : Nat)]



end Go.Proofs.Ytpjninnammddlaa

namespace Go.Proofs.Ytpjninnammddlaa
open Go.RowKit

section
variable {P : Program} {ops : Array Oper} {md : Region.Mode}

/-- Two acts agree on some slots. -/
def Agree (S : List Tmp) (a b : Act) : Prop := a.tmps.size = b.tmps.size ∧ a.defers = b.defers ∧ ∀ d ∈ S, a.tmps.getD d undef = b.tmps.getD d undef
theorem Agree.refl (S : List Tmp) (a : Act) : Agree S a a := ⟨rfl, rfl, fun _ _ => rfl⟩
theorem put_size (a : Act) (dst : Option Tmp) (v : Value) : (a.put dst v).tmps.size = a.tmps.size := by cases dst <;> simp [Act.put]
theorem put_def (a : Act) (dst : Option Tmp) (v : Value) : (a.put dst v).defers = a.defers := by cases dst <;> rfl
theorem put_at_ne (a : Act) (dst : Option Tmp) (v : Value) (d : Tmp) (h : dst ≠ some d) : (a.put dst v).tmps.getD d undef = a.tmps.getD d undef := by
  cases dst with
  | none => rfl
  | some e =>
    have hne : e ≠ d := fun he => h (he ▸ rfl)
    simp [Act.put, Array.getElem?_setIfInBounds_ne hne]
theorem Agree.at {S : List Tmp} {a b : Act} (h : Agree S a b) {t : Tmp} (ht : t ∈ S) : a.tmps[t]? = b.tmps[t]? := by
  have hg := h.2.2 t ht
  rcases Nat.lt_or_ge t a.tmps.size with hl | hl
  · have hl' : t < b.tmps.size := h.1 ▸ hl
    simp only [Array.getD_eq_getD_getElem?, Array.getElem?_eq_getElem hl, Array.getElem?_eq_getElem hl', Option.getD_some] at hg ⊢
    rw [hg]
  · rw [Array.getElem?_eq_none hl, Array.getElem?_eq_none (h.1 ▸ hl)]
theorem Agree.put {S : List Tmp} {a b : Act} (h : Agree S a b) (dst : Option Tmp) (v : Value) : Agree S (a.put dst v) (b.put dst v) := by
  refine ⟨by rw [put_size, put_size]; exact h.1, by rw [put_def, put_def]; exact h.2.1, fun d hd => ?_⟩
  by_cases e : dst = some d
  · subst e
    simp only [Act.put, Array.getD_eq_getD_getElem?, Array.getElem?_setIfInBounds, if_true, h.1]
  · rw [put_at_ne _ _ _ _ e, put_at_ne _ _ _ _ e]; exact h.2.2 d hd
theorem Agree.left {S : List Tmp} {a b : Act} (h : Agree S a b) {dst : Option Tmp} (hd : ∀ d, dst = some d → d ∉ S) (v : Value) : Agree S (a.put dst v) b :=
  ⟨by rw [put_size]; exact h.1, by rw [put_def]; exact h.2.1, fun d hs => by rw [put_at_ne _ _ _ _ (fun e => hd d e hs)]; exact h.2.2 d hs⟩
theorem Agree.right {S : List Tmp} {a b : Act} (h : Agree S a b) {dst : Option Tmp} (hd : ∀ d, dst = some d → d ∉ S) (v : Value) : Agree S a (b.put dst v) :=
  ⟨by rw [put_size]; exact h.1, by rw [put_def]; exact h.2.1, fun d hs => by rw [put_at_ne _ _ _ _ (fun e => hd d e hs)]; exact h.2.2 d hs⟩
theorem Agree.exec {o : Oper} {a b : Act} (hs : ∀ cs c, o.op ≠ .select cs c) (h : Agree (o.looksAt ops) a b) : execOp a.eval o = execOp b.eval o :=
  execOp_congr o hs fun x hx => by
    cases x with
    | tmp t => simpa [Act.eval] using h.2.2 t (List.mem_append_left _ (List.mem_filterMap.2 ⟨.tmp t, by simpa using hx, rfl⟩))
    | _ => rfl
theorem Agree.wants {o : Oper} {a b : Act} (h : Agree (o.looksAt ops) a b) : Region.wanted o (yielded ops a.tmps) = Region.wanted o (yielded ops b.tmps) := by
  unfold Region.wanted
  cases hg : o.guard with
  | none => rfl
  | some gw =>
    obtain ⟨g, want⟩ := gw
    have hy : yielded ops a.tmps g = yielded ops b.tmps g := by
      unfold yielded
      cases ht : (ops[g]?).bind (·.dst) with
      | none => rfl
      | some t =>
        have := h.at (t := t) (by simp [Oper.looksAt, hg, ht])
        simp [this]
    simp only [hy]

def dstOf (ops : Array Oper) (i : Nat) : Option Tmp := (ops[i]?).bind (·.dst)
/-- What lies in the slots when the operations that are listed have run. -/
def fill (ops : Array Oper) (val : Nat → Value) (listed : Nat → Bool) (a0 : Act) : Nat → Act
  | 0 => a0
  | n + 1 => if listed n then (fill ops val listed a0 n).put (dstOf ops n) (val n) else fill ops val listed a0 n
theorem fill_agree (val : Nat → Value) (l l' : Nat → Bool) (a0 : Act) (S : List Tmp) : ∀ n, (∀ i, i < n → l i ≠ l' i → ∀ d, dstOf ops i = some d → d ∉ S) → Agree S (fill ops val l a0 n) (fill ops val l' a0 n)
  | 0, _ => Agree.refl _ _
  | n + 1, h => by
    have ih := fill_agree val l l' a0 S n (fun i hi => h i (by omega))
    have hn := h n (by omega)
    unfold fill
    cases h1 : l n <;> cases h2 : l' n
    · exact ih
    · exact ih.right (hn (by simp [h1, h2])) _
    · exact ih.left (hn (by simp [h1, h2])) _
    · exact ih.put _ _
theorem fill_congr (val val' : Nat → Value) (l l' : Nat → Bool) (a0 : Act) : ∀ n, (∀ i, i < n → l i = l' i ∧ val i = val' i) → fill ops val l a0 n = fill ops val' l' a0 n
  | 0, _ => rfl
  | n + 1, h => by
    have ih := fill_congr val val' l l' a0 n (fun i hi => h i (by omega))
    obtain ⟨h1, h2⟩ := h n (by omega)
    unfold fill
    rw [ih, h1, h2]
theorem fill_set (val : Nat → Value) (l l' : Nat → Bool) (a0 : Act) (i : Nat) (hl : l i = false) (hl' : l' i = true) (hne : ∀ j, j ≠ i → l' j = l j) : ∀ n, i < n → (∀ j, j < n → j ≠ i → ∀ d, dstOf ops i = some d → dstOf ops j ≠ some d) →
    fill ops val l' a0 n = (fill ops val l a0 n).put (dstOf ops i) (val i)
  | 0, h, _ => by omega
  | n + 1, h, hd => by
    unfold fill
    by_cases e : i = n
    · subst e
      rw [hl, hl', fill_congr val val l' l a0 i (fun j hj => ⟨hne j (by omega), rfl⟩)]
      rfl
    · rw [fill_set val l l' a0 i hl hl' hne n (by omega) (fun j hj => hd j (by omega)), hne n (Ne.symm e)]
      split
      · exact Act.put_comm _ _ _ (fun d hdi => hd n (by omega) (Ne.symm e) d hdi)
      · rfl

/-- An operation answers v in every world that has only grown since w0. -/
def GYields (P : Program) (ops : Array Oper) (w0 : World) (o : Oper) (v : Value) (a : Act) : Prop := ∀ w, Below w0.heap.size w0 w →
  if Region.wanted o (yielded ops a.tmps) then ∀ K : Act → World → Prop, (∀ a' w', a' = a.put o.dst v → Below w0.heap.size w0 w' → K a' w') → o.wp P a w K (fun _ _ _ => False)
  else v = undef
theorem put_eq {a b : Act} (hs : a.tmps.size = b.tmps.size) {dst : Option Tmp} {u v : Value} (h : a.put dst u = a.put dst v) : b.put dst u = b.put dst v := by
  cases dst with
  | none => rfl
  | some d =>
    by_cases hd : d < a.tmps.size
    · have := congrArg (fun c : Act => c.tmps.getD d undef) h
      simp [Act.put, hd] at this
      rw [this]
    · simp only [Act.put]
      have hl : b.tmps.size ≤ d := hs ▸ Nat.le_of_not_lt hd
      rw [Array.setIfInBounds_eq_of_size_le hl, Array.setIfInBounds_eq_of_size_le hl]

theorem GYields.at {w0 w : World} {o : Oper} {v : Value} {a b : Act} (h : GYields P ops w0 o v a) (hs : ∀ cs c, o.op ≠ .select cs c) (hab : Agree (o.looksAt ops) a b) (hw : Below w0.heap.size w0 w) {K : Act → World → Prop} {Q : Exit → Act → World → Prop}
    (hK : ∀ w', Below w0.heap.size w0 w' → K (b.put o.dst v) w') : if Region.wanted o (yielded ops b.tmps) then o.wp P b w K Q else K (b.put o.dst undef) w := by
  have h := h w hw
  rw [hab.wants] at h
  split
  · rename_i hwt
    rw [if_pos hwt] at h
    have h := h (fun a' w' => a' = a.put o.dst v ∧ Below w0.heap.size w0 w') (fun a' w' h1 h2 => ⟨h1, h2⟩)
    unfold Oper.wp at h ⊢
    rw [hab.exec hs] at h
    have fin : ∀ (u : Value) (w' : World), (a.put o.dst u = a.put o.dst v ∧ Below w0.heap.size w0 w') → K (b.put o.dst u) w' := fun u w' ⟨e1, e2⟩ => by rw [put_eq hab.1 e1]; exact hK w' e2
    unfold Oper.upon at h ⊢
    split at h
    · exact fin _ _ h
    · exact fin _ _ h
    · rename_i d w' hr
      have hd := congrArg Act.defers h.1
      rw [put_def, put_def] at hd
      exact absurd hd (by simp)
    · refine h.mono fun e w'' he => ?_
      cases e with
      | returned u => exact fin _ _ he
      | panicked c => exact he.elim
      | outgrown => obtain ⟨_, _, h⟩ := he; exact h.elim
    · exact h.mono fun u w'' he => fin _ _ he
    · exact h.elim
    · exact h.elim
  · rename_i hwt
    rw [if_neg hwt] at h
    rw [← h]
    exact hK w hw

/-- The checks on a region's shape: edges lead back; who looks at a slot waits for it; no slot is written twice. -/
def growB (ops : Array Oper) (n : Nat) : Bool :=
  Region.noSelect ops && decide (ops.size = n + 1) && Region.sinkB .any ops n && Region.chainB .any ops n &&
  (List.range (n + 1)).all fun j => match ops[j]? with
    | none => false
    | some oj =>
      (oj.after.all fun e => !Region.binds .any e || decide (e.on < j)) &&
      (List.range n).all fun i => (match dstOf ops i with
        | none => true
        | some d => (!(oj.looksAt ops).contains d || (oj.after.any fun e => Region.binds .any e && e.on == i)) && (i == j || dstOf ops j != some d))

structure GrowOk (ops : Array Oper) (n : Nat) : Prop where
  sel : ∀ (j : Nat) (o : Oper) cs b, ops[j]? = some o → o.op ≠ .select cs b
  size : ops.size = n + 1
  sink : Region.sinkB .any ops n = true
  chain : Region.chainB .any ops n = true
  back : ∀ (j : Nat) (oj : Oper), ops[j]? = some oj → ∀ e ∈ oj.after, Region.binds .any e = true → e.on < j
  looks : ∀ (j : Nat) (oj : Oper), ops[j]? = some oj → ∀ i, i < n → ∀ d, dstOf ops i = some d → d ∈ oj.looksAt ops → ∃ e ∈ oj.after, Region.binds .any e = true ∧ e.on = i
  dist : ∀ i, i < n → ∀ j, j < n → j ≠ i → ∀ d, dstOf ops i = some d → dstOf ops j ≠ some d

theorem growB_ok {n : Nat} (h : growB ops n = true) : GrowOk ops n := by
  simp only [growB, Bool.and_eq_true, decide_eq_true_eq, List.all_eq_true, List.mem_range] at h
  obtain ⟨⟨⟨⟨h1, h2⟩, h3⟩, h4⟩, h5⟩ := h
  have get : ∀ (j : Nat) (oj : Oper), ops[j]? = some oj → ((oj.after.all fun e => !Region.binds .any e || decide (e.on < j)) = true) ∧ ∀ i, i < n → (match dstOf ops i with
        | none => true
        | some d => (!(oj.looksAt ops).contains d || (oj.after.any fun e => Region.binds .any e && e.on == i)) && (i == j || dstOf ops j != some d)) = true := by
    intro j oj hj
    have hlt : j < n + 1 := by rw [← h2]; exact (Array.getElem?_eq_some_iff.1 hj).1
    have := h5 j hlt
    rw [hj] at this
    simp only [Bool.and_eq_true, List.all_eq_true, List.mem_range] at this
    exact this
  refine ⟨fun j o cs b ho => Region.noSelect_spec h1 j o cs b ho, h2, h3, h4, fun j oj hj e he hb => ?_, fun j oj hj i hi d hd hl => ?_, fun i hi j hj hne d hd => ?_⟩
  · have := Array.all_eq_true_iff_forall_mem.1 (get j oj hj).1 e he
    simpa [hb] using this
  · have := (get j oj hj).2 i hi
    rw [hd] at this
    simp only [Bool.and_eq_true, Bool.or_eq_true, Bool.not_eq_true'] at this
    rcases this.1 with h | h
    · have : (oj.looksAt ops).contains d = true := by simpa using hl
      rw [this] at h; cases h
    · obtain ⟨e, he, hb⟩ := Array.any_eq_true'.1 h
      simp only [Bool.and_eq_true, beq_iff_eq] at hb
      exact ⟨e, he, hb.1, hb.2⟩
  · have hjlt : j < ops.size := by omega
    have := (get j ops[j] (Array.getElem?_eq_getElem hjlt)).2 i hi
    rw [hd] at this
    simp only [Bool.and_eq_true, Bool.or_eq_true, beq_iff_eq, bne_iff_ne] at this
    exact this.2.resolve_left (Ne.symm hne)

def flag (listed : Array Bool) (i : Nat) : Bool := listed.getD i false
/-- How many of the first n are not listed. -/
def left (listed : Array Bool) : Nat → Nat
  | 0 => 0
  | n + 1 => left listed n + if flag listed n then 0 else 1
theorem left_set {listed : Array Bool} {i : Nat} (hun : flag listed i = false) (hs : i < listed.size) : ∀ n, i < n → left (listed.setIfInBounds i true) n + 1 = left listed n
  | 0, h => by omega
  | n + 1, h => by
    have other : ∀ j, j ≠ i → flag (listed.setIfInBounds i true) j = flag listed j := fun j hj => getD_set_ne false (Ne.symm hj)
    unfold left
    by_cases e : i = n
    · subst e
      have hset : flag (listed.setIfInBounds i true) i = true := by simp [flag, hs]
      have same : ∀ m, m ≤ i → left (listed.setIfInBounds i true) m = left listed m := by
        intro m hm
        induction m with
        | zero => rfl
        | succ m ih => unfold left; rw [ih (by omega), other m (by omega)]
      rw [same i (Nat.le_refl _), hset, hun]; simp
    · have := left_set hun hs n (by omega)
      rw [other n (Ne.symm e)]; omega
theorem left_zero {listed : Array Bool} : ∀ n, left listed n = 0 → ∀ i, i < n → flag listed i = true
  | 0, _, i, h => by omega
  | n + 1, h, i, hi => by
    unfold left at h
    by_cases e : i = n
    · subst e
      cases hf : flag listed i with
      | true => rfl
      | false => rw [hf] at h; simp at h
    · exact left_zero n (by omega) i (by omega)

theorem ready_done {listed : Array Bool} {Q : Exit → Act → World → Prop} (h : Region.ready .any ops listed = []) : ∀ (f : Nat) (a : Act) (w : World), Q .normal a w → wpAny P .any ops Q f listed a w
  | 0, _, _, hq => ⟨h, hq⟩
  | f + 1, _, _, hq => ⟨fun _ => hq, fun i hi => by rw [h] at hi; cases hi⟩

/-- All orders come to the same slots. -/
theorem any_of_grow {n : Nat} (ok : GrowOk ops n) {w0 : World} {a0 : Act} {val : Nat → Value} {Q : Exit → Act → World → Prop}
    (hY : ∀ (j : Nat) (oj : Oper), j < n → ops[j]? = some oj → GYields P ops w0 oj (val j) (fill ops val (fun _ => true) a0 j))
    (hlast : ∀ w, Below w0.heap.size w0 w → wpOp P ops Q n (Q .normal) (fill ops val (fun _ => true) a0 n) w) :
    ∀ (f : Nat) (listed : Array Bool) (w : World), HeadInv .any ops n listed → left listed n ≤ f → Below w0.heap.size w0 w → wpAny P .any ops Q (f + 1) listed (fill ops val (flag listed) a0 n) w := by
  intro f
  induction f with
  | zero =>
    intro listed w inv hl hw
    have hall := left_zero n (Nat.le_zero.1 hl)
    have hn : n < listed.size := by rw [inv.size, ok.size]; omega
    have hun : listed.getD n true = false := inv.tail n (Nat.le_refl _) (by rw [ok.size]; omega)
    obtain ⟨on, hon⟩ : ∃ on, ops[n]? = some on := ⟨_, Array.getElem?_eq_getElem (by rw [ok.size]; omega)⟩
    have hfill : fill ops val (flag listed) a0 n = fill ops val (fun _ => true) a0 n := fill_congr _ _ _ _ _ n (fun i hi => ⟨hall i hi, rfl⟩)
    have hnr : n ∈ Region.ready .any ops listed := mem_ready.2 ⟨hun, on, hon, fun e he hb => hall _ (ok.back n on hon e he hb)⟩
    refine ⟨fun h => (by rw [h] at hnr; cases hnr), fun i hi => ?_⟩
    obtain ⟨h1, oi, hoi, -⟩ := mem_ready.1 hi
    have hin : i = n := by
      have hlt : i < n + 1 := by rw [← ok.size]; exact (Array.getElem?_eq_some_iff.1 hoi).1
      by_cases e : i < n
      · have := hall i e; unfold flag at this; rw [getD_both h1] at this; cases this
      · omega
    subst hin
    rw [hfill]
    refine wpOp_mono (fun a' w' hq => ready_done ?_ _ _ _ hq) (hlast w hw)
    apply List.eq_nil_iff_forall_not_mem.2
    intro j hj
    obtain ⟨g1, oj, hoj, -⟩ := mem_ready.1 hj
    have hjlt : j < i + 1 := by rw [← ok.size]; exact (Array.getElem?_eq_some_iff.1 hoj).1
    by_cases e : j = i
    · subst e; simp [hn] at g1
    · rw [getD_set_ne true (Ne.symm e)] at g1
      have := hall j (by omega); unfold flag at this; rw [getD_both g1] at this; cases this
  | succ f ih =>
    intro listed w inv hl hw
    by_cases hz : left listed n = 0
    · have hall := left_zero n hz
      have hn : n < listed.size := by rw [inv.size, ok.size]; omega
      have hun : listed.getD n true = false := inv.tail n (Nat.le_refl _) (by rw [ok.size]; omega)
      obtain ⟨on, hon⟩ : ∃ on, ops[n]? = some on := ⟨_, Array.getElem?_eq_getElem (by rw [ok.size]; omega)⟩
      have hfill : fill ops val (flag listed) a0 n = fill ops val (fun _ => true) a0 n := fill_congr _ _ _ _ _ n (fun i hi => ⟨hall i hi, rfl⟩)
      have hnr : n ∈ Region.ready .any ops listed := mem_ready.2 ⟨hun, on, hon, fun e he hb => hall _ (ok.back n on hon e he hb)⟩
      refine ⟨fun h => (by rw [h] at hnr; cases hnr), fun i hi => ?_⟩
      obtain ⟨h1, oi, hoi, -⟩ := mem_ready.1 hi
      have hin : i = n := by
        have hlt : i < n + 1 := by rw [← ok.size]; exact (Array.getElem?_eq_some_iff.1 hoi).1
        by_cases e : i < n
        · have := hall i e; unfold flag at this; rw [getD_both h1] at this; cases this
        · omega
      subst hin
      rw [hfill]
      refine wpOp_mono (fun a' w' hq => ready_done ?_ _ _ _ hq) (hlast w hw)
      apply List.eq_nil_iff_forall_not_mem.2
      intro j hj
      obtain ⟨g1, oj, hoj, -⟩ := mem_ready.1 hj
      have hjlt : j < i + 1 := by rw [← ok.size]; exact (Array.getElem?_eq_some_iff.1 hoj).1
      by_cases e : j = i
      · subst e; simp [hn] at g1
      · rw [getD_set_ne true (Ne.symm e)] at g1
        have := hall j (by omega); unfold flag at this; rw [getD_both g1] at this; cases this
    · -- SOME HEAD OPERATION IS OPEN: THE FIRST OF THEM IS READY; THE LAST ONE OF ALL IS NOT
      obtain ⟨m, hm, hmun, hmin⟩ : ∃ m, m < n ∧ flag listed m = false ∧ ∀ j, j < m → flag listed j = true := by
        clear hl
        have key : ∀ k, k ≤ n → (∀ j, j < k → flag listed j = true) ∨ ∃ m, m < k ∧ flag listed m = false ∧ ∀ j, j < m → flag listed j = true := by
          intro k hk
          induction k with
          | zero => exact .inl fun j hj => by omega
          | succ k ihk =>
            rcases ihk (by omega) with h | ⟨m, h1, h2, h3⟩
            · cases hf : flag listed k with
              | true =>
                refine .inl (fun j hj => ?_)
                by_cases e : j = k
                · subst e; exact hf
                · exact h j (by omega)
              | false => exact .inr ⟨k, by omega, hf, h⟩
            · exact .inr ⟨m, by omega, h2, h3⟩
        rcases key n (Nat.le_refl _) with h | h
        · refine absurd ?_ hz
          have : ∀ k, k ≤ n → left listed k = 0 := by
            intro k hk
            induction k with
            | zero => rfl
            | succ k ihk => unfold left; rw [ihk (by omega), h k (by omega)]; rfl
          exact this n (Nat.le_refl _)
        · exact h
      have hms : m < listed.size := by rw [inv.size, ok.size]; omega
      obtain ⟨om, hom⟩ : ∃ om, ops[m]? = some om := ⟨_, Array.getElem?_eq_getElem (by rw [ok.size]; omega)⟩
      have hmr : m ∈ Region.ready .any ops listed := mem_ready.2 ⟨getD_in hms hmun, om, hom, fun e he hb => hmin _ (ok.back m om hom e he hb)⟩
      refine ⟨fun h => (by rw [h] at hmr; cases hmr), fun i hi => ?_⟩
      obtain ⟨h1, oi, hoi, hdep⟩ := mem_ready.1 hi
      have hin : i < n := by
        rcases Nat.lt_or_ge i n with h | h
        · exact h
        · exact absurd hi (tail_waits ok.sink ok.chain (by rw [ok.size]; omega) inv _ m rfl hm (getD_in hms hmun) i h)
      have his : i < listed.size := by rw [inv.size, ok.size]; omega
      have hiun : flag listed i = false := getD_both h1
      have hnext := ih (listed.setIfInBounds i true)
      have hfs : fill ops val (flag (listed.setIfInBounds i true)) a0 n = (fill ops val (flag listed) a0 n).put (dstOf ops i) (val i) :=
        fill_set val (flag listed) (flag (listed.setIfInBounds i true)) a0 i hiun (by simp [flag, his]) (fun j hj => getD_set_ne false (Ne.symm hj)) n hin (ok.dist i hin)
      have hdst : dstOf ops i = oi.dst := by simp [dstOf, hoi]
      have hagree : Agree (oi.looksAt ops) (fill ops val (fun _ => true) a0 i) (fill ops val (flag listed) a0 n) := by
        have e1 : fill ops val (fun _ => true) a0 i = fill ops val (fun j => decide (j < i)) a0 i := fill_congr _ _ _ _ _ i (fun j hj => ⟨by simp [hj], rfl⟩)
        have e2 : ∀ k, i ≤ k → fill ops val (fun j => decide (j < i)) a0 k = fill ops val (fun j => decide (j < i)) a0 i := by
          intro k hk
          induction k with
          | zero => rw [show i = 0 by omega]
          | succ k ihk =>
            by_cases e : i = k + 1
            · rw [e]
            · rw [← ihk (by omega)]
              show (if decide (k < i) then _ else _) = _
              rw [show decide (k < i) = false by simp; omega]
              rfl
        rw [e1, ← e2 n (by omega)]
        refine fill_agree val _ _ a0 _ n (fun j hj hne d hd hl => ?_)
        obtain ⟨e, he, hb, hon⟩ := ok.looks i oi hoi j hj d hd hl
        have hlisted := hdep e he hb
        rw [hon] at hlisted
        have hback := ok.back i oi hoi e he hb
        rw [hon] at hback
        exact hne (by show decide (j < i) = flag listed j; unfold flag; rw [hlisted]; simp [hback])
      have hat := (hY i oi hin hoi).at (fun cs c => ok.sel i oi cs c hoi) hagree hw (K := wpAny P .any ops Q (f + 1) (listed.setIfInBounds i true)) (Q := Q) (fun w' hw' => by
        rw [← hdst, ← hfs]
        exact hnext w' (inv.set hi hin) (by have := left_set hiun his n hin; omega) hw')
      unfold wpOp
      simp only [hoi]
      split
      · rename_i hwt; rw [if_pos hwt] at hat; exact .inl hat
      · rename_i hwt; rw [if_neg hwt] at hat; exact hat

/-- The walk in the order of the text: each operation but the last one answers a value, whatever has grown. -/
def wpGrow (P : Program) (ops : Array Oper) (w0 : World) (L : Act → Prop) : List Oper → Act → Prop
  | [], a => L a
  | o :: rest, a => ∃ v, GYields P ops w0 o v a ∧ wpGrow P ops w0 L rest (a.put o.dst v)

theorem vals_of_grow {w0 : World} {L : Act → Prop} {a0 : Act} {n : Nat} : ∀ (l : List Oper) (k : Nat) (val : Nat → Value), (∀ j, j < l.length → l[j]? = ops[k + j]?) → k + l.length = n → wpGrow P ops w0 L l (fill ops val (fun _ => true) a0 k) →
    ∃ val' : Nat → Value, (∀ i, i < k → val' i = val i) ∧ (∀ (j : Nat) (oj : Oper), k ≤ j → j < n → ops[j]? = some oj → GYields P ops w0 oj (val' j) (fill ops val' (fun _ => true) a0 j)) ∧ L (fill ops val' (fun _ => true) a0 n)
  | [], k, val, _, hk, h => by
    have : k = n := by simpa using hk
    subst this
    exact ⟨val, fun _ _ => rfl, fun j _ h1 h2 => by omega, h⟩
  | o :: l, k, val, hl, hk, ⟨v, hy, h⟩ => by
    have h0 : ops[k]? = some o := by simpa using (hl 0 (by simp)).symm
    have same : ∀ m, m ≤ k → ∀ u : Nat → Value, (∀ i, i < k → u i = val i) → fill ops u (fun _ => true) a0 m = fill ops val (fun _ => true) a0 m := fun m hm u hu => fill_congr _ _ _ _ _ m (fun i hi => ⟨rfl, hu i (by omega)⟩)
    have hv1 : ∀ i, i < k → (fun i => if i = k then v else val i) i = val i := fun i hi => by simp only; rw [if_neg (by omega)]
    have step : fill ops (fun i => if i = k then v else val i) (fun _ => true) a0 (k + 1) = (fill ops val (fun _ => true) a0 k).put o.dst v := by
      show (fill ops (fun i => if i = k then v else val i) (fun _ => true) a0 k).put (dstOf ops k) (if k = k then v else val k) = _
      rw [same k (Nat.le_refl _) _ hv1, if_pos rfl]
      simp [dstOf, h0]
    rw [← step] at h
    obtain ⟨val', e1, e2, e3⟩ := vals_of_grow (n := n) l (k + 1) _ (fun j hj => by have := hl (j + 1) (by simp; omega); simpa [Nat.add_assoc, Nat.add_comm 1 j] using this) (by simp at hk; omega) h
    have e0 : ∀ i, i < k → val' i = val i := fun i hi => (e1 i (by omega)).trans (hv1 i hi)
    refine ⟨val', e0, fun j oj h1 h2 hj => ?_, e3⟩
    by_cases e : j = k
    · subst e
      rw [h0] at hj; cases hj
      rw [same j (Nat.le_refl _) val' e0, show val' j = v from (e1 j (by omega)).trans (by simp)]
      exact hy
    · exact e2 j oj (by omega) h2 hj

theorem any_region_grow {Q : Exit → Act → World → Prop} {a : Act} {w0 w : World} {l : List Oper} (n : Nat) (hB : growB l.toArray n = true) (hw : Below w0.heap.size w0 w)
    (h : wpGrow P l.toArray w0 (fun a' => ∀ w', Below w0.heap.size w0 w' → wpList P l.toArray Q (l.drop n) a' w') (l.take n) a) : wpAny P .any l.toArray Q l.toArray.size (Array.replicate l.toArray.size false) a w := by
  have ok := growB_ok hB
  have hlen : l.length = n + 1 := by simpa using ok.size
  obtain ⟨val, -, hY, hL⟩ := vals_of_grow (n := n) (a0 := a) (l.take n) 0 (fun _ => undef) (fun j hj => by
    have : j < n := by simp at hj; omega
    simp [this]) (by simp; omega) h
  have start : HeadInv .any l.toArray n (Array.replicate l.toArray.size false) :=
    ⟨by simp, (fun j oj _ hl => by rw [getD_replicate_false] at hl; cases hl), fun t _ ht => getD_in (by simpa using ht) (getD_replicate_false _ _)⟩
  have zero : ∀ k, fill l.toArray val (flag (Array.replicate l.toArray.size false)) a k = a := by
    intro k
    induction k with
    | zero => rfl
    | succ k ih =>
      show (if flag (Array.replicate l.toArray.size false) k then _ else _) = a
      rw [show flag (Array.replicate l.toArray.size false) k = false from getD_replicate_false _ _]
      exact ih
  have most : ∀ k, left (Array.replicate l.toArray.size false) k ≤ k := by
    intro k
    induction k with
    | zero => exact Nat.le_refl _
    | succ k ih => unfold left; split <;> omega
  have := any_of_grow (P := P) (Q := Q) ok (fun j oj hj ho => hY j oj (Nat.zero_le _) hj ho) (fun w' hw' => by
    have hn := hL w' hw'
    have hd : l.drop n = [l[n]] := by
      rw [List.drop_eq_getElem_cons (by omega), List.drop_eq_nil_of_le (by omega)]
    rw [hd] at hn
    unfold wpOp
    have ho : l.toArray[n]? = some l[n] := by simp
    simp only [ho]
    exact hn) n (Array.replicate l.toArray.size false) w start (most n) hw
  rw [zero n, ok.size] at this
  rw [ok.size]
  exact this

theorem wp_region_grow {id : Nat} {Q : Exit → Act → World → Prop} {a : Act} {w : World} {l : List Oper} (n : Nat) (hm : P.follows .mixedOrders = true) (hB : growB l.toArray n = true)
    (h : wpGrow P l.toArray w (fun a' => ∀ w', Below w.heap.size w w' → wpList P l.toArray Q (l.drop n) a' w') (l.take n) a) : (Code.region id l.toArray true).wp P Q a w :=
  wp_region_any hm (any_region_grow n hB ((Below.refl _ w).drew) h)

theorem wpGrow_nil {w0 : World} {L : Act → Prop} {a : Act} (h : L a) : wpGrow P ops w0 L [] a := h
theorem wpGrow_step {w0 : World} {L : Act → Prop} {o : Oper} {rest : List Oper} {a : Act} (v : Value) (h : ∀ w, Below w0.heap.size w0 w → ∀ K : Act → World → Prop, (∀ a' w', a' = a.put o.dst v → Below w0.heap.size w0 w' → K a' w') →
      if Region.wanted o (yielded ops a.tmps) then o.wp P a w K (fun _ _ _ => False) else K (a.put o.dst undef) w) (hr : wpGrow P ops w0 L rest (a.put o.dst v)) (hv : Region.wanted o (yielded ops a.tmps) = true ∨ v = undef) : wpGrow P ops w0 L (o :: rest) a := by
  refine ⟨v, fun w hw => ?_, hr⟩
  split
  · rename_i hwt
    intro K hK
    have := h w hw K hK
    rwa [if_pos hwt] at this
  · rename_i hwt
    exact hv.resolve_left hwt
/-- The same for an operation without a guard. -/
theorem wpGrow_plain {w0 : World} {L : Act → Prop} {o : Oper} {rest : List Oper} {a : Act} (hg : o.guard = none) {v : Value} (h : ∀ w, Below w0.heap.size w0 w → ∀ K : Act → World → Prop, (∀ a' w', a' = a.put o.dst v → Below w0.heap.size w0 w' → K a' w') → o.wp P a w K (fun _ _ _ => False))
    (hr : wpGrow P ops w0 L rest (a.put o.dst v)) : wpGrow P ops w0 L (o :: rest) a := by
  have hwt : Region.wanted o (yielded ops a.tmps) = true := by simp [Region.wanted, hg]
  exact wpGrow_step v (fun w hw K hK => by rw [if_pos hwt]; exact h w hw K hK) hr (.inl hwt)
end

theorem Holds.later {w : World} {b : Nat} {cs : Array Value} (h : Holds w b cs) :
    (∀ w', Below w.heap.size w w' → rowAt w' b = cs) ∧ (∀ w', Below w.heap.size w w' → ∀ j, w'.cell? ⟨b, j, none⟩ = cs[j]?) :=
  ⟨fun _ hb => (h.below hb h.lt).row, fun _ hb => (h.below hb h.lt).cell⟩
theorem below_onto {w w1 w2 : World} (h : Below w.heap.size w w1) (h2 : Below w1.heap.size w1 w2) : Below w.heap.size w w2 := h.trans (h2.mono h.size)
end Go.Proofs.Ytpjninnammddlaa

namespace Go.Proofs.Ytpjninnammddlaa
open Go.RowKit Go.Shelf

section
variable {P : Program} {l₀ n : Nat}

theorem upon_in {o : Oper} {a : Act} {next next' : Act → World → Prop} {Q : Exit → Act → World → Prop} (hn : ∀ a w, next a w → next' a w) {r : Result Next} (h : o.upon P a next Q r) : o.uponIn (Fence.wide.inRound l₀) n P a next' Q r := by
  unfold Oper.upon at h
  split at h
  · exact hn _ _ h
  · exact hn _ _ h
  · exact hn _ _ h
  · refine ⟨(fun hd => by cases hd), ?_⟩
    refine CallsIn.inRound l₀ (callsIn_wide.2 (h.mono ?_))
    intro e w'' he
    cases e with
    | returned v => exact hn _ _ he
    | panicked c => exact he
    | outgrown => exact he
  · refine ⟨(fun hd => by cases hd), fun c cs _ => ?_⟩
    obtain ⟨v, w', hr, hs⟩ := h c cs
    exact ⟨v, w', hn _ _ hr, stepsIn_wide.2 hs⟩
  · exact h
  · exact h.elim

theorem oper_in {o : Oper} {a : Act} {w : World} {next next' : Act → World → Prop} {Q : Exit → Act → World → Prop} (hnd : ∀ c, o.op ≠ .defer c) (hn : ∀ a w, next a w → next' a w) (h : o.wp P a w next Q) : o.wpIn (Fence.wide.inRound l₀) n P a w next' Q := by
  refine ⟨fun _ _ => trivial, ?_⟩
  rw [Fence.inRound_round, Oper.semAt_some l₀ _ _ hnd]
  exact upon_in hn h

/-- No operation of a region is a defer statement. -/
def noDefer (ops : List Oper) : Bool := ops.all fun o => match o.op with | .defer _ => false | _ => true
theorem noDefer_at {ops : List Oper} (h : noDefer ops = true) {o : Oper} (ho : o ∈ ops) : ∀ c, o.op ≠ .defer c := by
  intro c e
  have := List.all_eq_true.1 h o ho
  rw [e] at this
  cases this

theorem list_in {ops : Array Oper} {Q : Exit → Act → World → Prop} (hout : ¬ LetsOut Q) : ∀ (l : List Oper), noDefer l = true → ∀ (a : Act) (w : World), wpList P ops Q l a w → wpListIn (Fence.wide.inRound l₀) n P ops Q l a w
  | [], _, _, _, h => h
  | o :: rest, hd, a, w, h => by
    have hd' : noDefer rest = true := by simp only [noDefer, List.all_cons, Bool.and_eq_true] at hd; exact hd.2
    unfold wpList at h
    unfold wpListIn
    split
    · rename_i hw
      rw [if_pos hw] at h
      rcases h with h | ⟨_, h⟩
      · exact oper_in (noDefer_at hd (by simp)) (fun a w => list_in hout rest hd' a w) h
      · exact absurd h hout
    · rename_i hw
      rw [if_neg hw] at h
      exact ⟨fun _ _ => trivial, list_in hout rest hd' _ _ h⟩

theorem any_in {md : Region.Mode} {ops : Array Oper} {Q : Exit → Act → World → Prop} (hout : ¬ LetsOut Q) (hd : noDefer ops.toList = true) : ∀ (fuel : Nat) (listed : Array Bool) (a : Act) (w : World),
    wpAny P md ops Q fuel listed a w → wpAnyIn (Fence.wide.inRound l₀) n P md ops Q fuel listed a w
  | 0, _, _, _, h => h
  | fuel + 1, listed, a, w, h => by
    refine ⟨h.1, fun i hi => ?_⟩
    have h' := h.2 i hi
    unfold wpOp at h'
    unfold wpOpIn
    cases ho : ops[i]? with
    | none => simp only [ho] at h' ⊢; exact any_in hout hd fuel _ a w h'
    | some o =>
      simp only [ho] at h' ⊢
      split
      · rename_i hw
        rw [if_pos hw] at h'
        rcases h' with h' | ⟨_, h'⟩
        · exact oper_in (noDefer_at hd (by simpa using Array.mem_of_getElem? ho)) (fun a w => any_in hout hd fuel _ a w) h'
        · exact absurd h' hout
      · rename_i hw
        rw [if_neg hw] at h'
        exact ⟨fun _ _ => trivial, any_in hout hd fuel _ _ _ h'⟩

theorem wpIn_region_plain {id : Nat} {Q : Exit → Act → World → Prop} {a : Act} {w : World} {l : List Oper} (hd : noDefer l = true) (hout : ¬ LetsOut Q) (h : wpList P l.toArray Q l a w) : (Code.region id l.toArray false).wpIn (Fence.wide.inRound l₀) n P Q a w :=
  wpIn_region_lit (list_in hout l hd a w h)

/-- A region that draws its order, whose first operations only read and whose others come in one order. -/
theorem wpIn_region_tail {id : Nat} {Q : Exit → Act → World → Prop} {a : Act} {w : World} {l : List Oper} (k : Nat) (hm : P.follows .mixedOrders = true) (hd : noDefer l = true) (hout : ¬ LetsOut Q) (hB : Region.lexTailB .any l.toArray k = true)
    (h : wpStill P l.toArray w.drew (fun a' => wpList P l.toArray Q (l.drop k) a' w.drew) (l.take k) a) : (Code.region id l.toArray true).wpIn (Fence.wide.inRound l₀) n P Q a w := by
  refine wpIn_region_any hm (any_in hout (by simpa using hd) _ _ _ _ ?_)
  simp only [Region.lexTailB, Bool.and_eq_true, decide_eq_true_eq] at hB
  obtain ⟨⟨⟨⟨b1, b2⟩, b3⟩, b4⟩, b5⟩ := hB
  have s1 : (l.take k).length = k := by have := b2; simp at this ⊢; omega
  have s2 : (l.drop k).length = l.toArray.size - k := by simp
  have start : HeadInv .any l.toArray k (Array.replicate l.toArray.size false) :=
    ⟨by simp, (fun j oj _ hl => by rw [getD_replicate_false] at hl; cases hl), fun t _ ht => getD_in (by simpa using ht) (getD_replicate_false _ _)⟩
  have head := wpAnyL_lex (md := .any) (g := l.toArray.size - k) b1 b3 b4 b2 (l.take k) 0 _ a
    (fun j hj => by rw [s1] at hj; simp [hj]) (by simpa using s1) start (by rw [s1]; exact b5) h
  have whole := wpAny_of_head (Q' := Q) (g := l.toArray.size - k) (fun listed a' hL => by
    have tail := wpAny_of_seq (md := .any) (Q' := Q) (l.drop k) k listed a' w.drew (fun j => by simp [List.getElem?_drop]) (by rw [s2]; exact hL.1) hL.2
    rwa [s2] at tail) _ _ _ head
  have total : k + (l.toArray.size - k) = l.toArray.size := by omega
  rw [s1, total] at whole
  exact whole

theorem wpIn_region_grow {id : Nat} {Q : Exit → Act → World → Prop} {a : Act} {w : World} {l : List Oper} (k : Nat) (hm : P.follows .mixedOrders = true) (hd : noDefer l = true) (hout : ¬ LetsOut Q) (hB : growB l.toArray k = true)
    (h : wpGrow P l.toArray w (fun a' => ∀ w', Below w.heap.size w w' → wpList P l.toArray Q (l.drop k) a' w') (l.take k) a) : (Code.region id l.toArray true).wpIn (Fence.wide.inRound l₀) n P Q a w :=
  wpIn_region_any hm (any_in hout (by simpa using hd) _ _ _ _ (any_region_grow k hB ((Below.refl _ w).drew) h))
end
end Go.Proofs.Ytpjninnammddlaa

namespace Go.Proofs.Ytpjninnammddlaa
open Go.RowKit Go.Shelf
attribute [local go_sem] Oper.semAt_some


theorem Holds.grown {w w' : World} {b : Nat} {cs : Array Value} {row : Option Nat} (h : Holds w b cs) (hg : w.grownBy w' row) (hr : ∀ r, row = some r → ∃ o : Obj, w.heap[r]? = some o ∧ o.isCells = false) : Holds w' b cs := by
  obtain ⟨t, ht⟩ := h
  refine ⟨t, (hg.block b (Array.getElem?_eq_some_iff.1 ht).1 (fun e => ?_)).trans ht⟩
  obtain ⟨o, ho, hc⟩ := hr b e.symm
  rw [ht] at ho; cases ho; cases hc
theorem holds_own {β : Type} (b : Nat) (f : β → Array Value) : Own (fun s W => Holds W b (f s)) := fun _ _ _ _ hs hg hr => hs.grown hg hr
theorem pure_own {β : Type} (p : β → Prop) : Own (fun s (_ : World) => p s) := fun _ _ _ _ hs _ _ => hs
theorem ownAnd {β : Type} {I I' : β → World → Prop} (h : Own I) (h' : Own I') : Own (fun s W => I s W ∧ I' s W) := fun s W W' row hs hg hr => ⟨h s W W' row hs.1 hg hr, h' s W W' row hs.2 hg hr⟩
theorem keeps_setRow (W : World) (g : Nat) (cs : Array Value) : KeepsOthers W (W.setRow g cs) :=
  ⟨by simp, fun k o hk ho => by
    by_cases e : k = g
    · subst e
      have hlt := (Array.getElem?_eq_some_iff.1 hk).1
      have hv := (Array.getElem?_eq_some_iff.1 hk).2
      unfold World.setRow
      rw [Array.getElem?_eq_getElem (by simpa using hlt), Array.getElem_modify]
      simp only [↓reduceIte, hv]
      cases o <;> first | rfl | (cases ho)
    · exact (setRow_other W g k cs e).trans hk⟩


/-- The kinds of the cells that have come; 0 elsewhere. -/
def seen {W H : Nat} (K : Nat → Nat → Int) (pre : List (Fin W × Fin H)) (y x : Nat) : Int := if pre.any (fun c => c.2.val == y && c.1.val == x) then K y x else 0
theorem seen_nil {W H : Nat} (K : Nat → Nat → Int) : gridOf (seen K ([] : List (Fin W × Fin H))) = gridOf fun _ _ => 0 := gridOf_ext fun y x _ _ => by simp [seen]
theorem seen_snoc {W H : Nat} (hW : W ≤ 10) (K : Nat → Nat → Int) (pre : List (Fin W × Fin H)) (c : Fin W × Fin H) :
    (gridOf (seen K pre)).setIfInBounds (c.2.val * 10 + c.1.val) (.int .u8 (K c.2.val c.1.val)) = gridOf (seen K (pre ++ [c])) := by
  obtain ⟨⟨j, hj⟩, ⟨k, hk⟩⟩ := c
  unfold gridOf
  apply rowOf_of
  · simp
  · intro i hi
    rw [Array.getElem?_setIfInBounds]
    by_cases e : k * 10 + j = i
    · subst e
      rw [if_pos rfl, if_pos (by simp; omega)]
      rw [show (k * 10 + j) / 10 = k by omega, show (k * 10 + j) % 10 = j by omega]
      simp [seen]
    · rw [if_neg e, rowOf_get _ _ _ hi]
      have hne : ¬ (k = i / 10 ∧ j = i % 10) := fun h => e (by omega)
      have hb : (k == i / 10 && j == i % 10) = false := by
        cases h : (k == i / 10 && j == i % 10) with
        | false => rfl
        | true => simp only [Bool.and_eq_true, beq_iff_eq] at h; exact absurd h hne
      simp only [seen, List.any_append, List.any_cons, List.any_nil, Bool.or_false, hb]
/-- Of a lawn with sides as told and kinds as told: it is valid where it is what its cells are. -/
theorem valid_of_seen {W H : Nat} (hW : W ≤ 10) (hH : H ≤ 10) (hW1 : 1 ≤ W) (hH1 : 1 ≤ H) (K : Nat → Nat → Int) (h : ∀ c ∈ allC W H, inB (K c.2 c.1) 0 3 = true) :
    gridEq K (seen K (allC W H)) = validB ⟨(W : Int), (H : Int), K⟩ := by
  have hin : ∀ y x, (allC W H).any (fun c => c.2.val == y && c.1.val == x) = true ↔ x < W ∧ y < H := by
    intro y x
    rw [List.any_eq_true]
    constructor
    · rintro ⟨c, _, hc⟩
      simp only [Bool.and_eq_true, beq_iff_eq] at hc
      have := c.1.isLt; have := c.2.isLt; omega
    · rintro ⟨hx, hy⟩
      exact ⟨(⟨x, hx⟩, ⟨y, hy⟩), allC_mem _ _ _, by simp⟩
  have hk : ∀ y x, x < W → y < H → inB (K y x) 0 3 = true := fun y x hx hy => h (⟨x, hx⟩, ⟨y, hy⟩) (allC_mem _ _ _)
  have his : ∀ y x : Nat, isB ⟨(W : Int), (H : Int), K⟩ x y = decide (x < W ∧ y < H) := by
    intro y x
    rw [Bool.eq_iff_iff]
    simp only [isB, inB, Bool.and_eq_true, decide_eq_true_eq]
    omega
  cases hv : validB ⟨(W : Int), (H : Int), K⟩ with
  | true =>
    obtain ⟨-, -, hv⟩ := validB_true hv
    refine gridEq_of fun y x hy hx => ?_
    unfold seen
    by_cases e : x < W ∧ y < H
    · rw [if_pos ((hin y x).2 e)]
    · rw [if_neg (fun he => e ((hin y x).1 he))]
      have := hv y x hy hx
      simp only [okAt, Bool.and_eq_true, Bool.or_eq_true, beq_iff_eq, his, decide_eq_true_eq] at this
      exact this.2.resolve_right e
  | false =>
    cases hg : gridEq K (seen K (allC W H)) with
    | false => rfl
    | true =>
      have hg := gridEq_true hg
      rw [← hv]
      refine (validB_of (inB_yes (by dsimp only; omega) (by dsimp only; omega)) (inB_yes (by dsimp only; omega) (by dsimp only; omega)) (fun y x hy hx _ => ?_)).symm
      have hyx := hg y x hy hx
      unfold seen at hyx
      simp only [okAt, Bool.and_eq_true, Bool.or_eq_true, beq_iff_eq, his, decide_eq_true_eq]
      by_cases e : x < W ∧ y < H
      · exact ⟨hk y x e.1 e.2, .inr e⟩
      · rw [if_neg (fun he => e ((hin y x).1 he))] at hyx
        rw [hyx]
        exact ⟨by decide, .inl rfl⟩



end Go.Proofs.Ytpjninnammddlaa

namespace Go.Proofs.Ytpjninnammddlaa
open Go.RowKit Go.Shelf

/-- Of what lay in w, only the blocks of T may lie otherwise in w'. -/
structure Only (T : List Nat) (w w' : World) : Prop where
  os : w'.os = w.os
  tape : w'.tape = w.tape
  output : w'.output = w.output
  size : w.heap.size ≤ w'.heap.size
  block : ∀ k, k < w.heap.size → k ∉ T → w'.heap[k]? = w.heap[k]?

theorem Only.refl (T : List Nat) (w : World) : Only T w w := ⟨rfl, rfl, rfl, Nat.le_refl _, fun _ _ _ => rfl⟩
theorem Only.trans {T : List Nat} {a b c : World} (h : Only T a b) (k : Only T b c) : Only T a c :=
  ⟨k.os.trans h.os, k.tape.trans h.tape, k.output.trans h.output, Nat.le_trans h.size k.size, fun i hi ht => (k.block i (Nat.lt_of_lt_of_le hi h.size) ht).trans (h.block i hi ht)⟩
theorem Only.mono {T T' : List Nat} {w w' : World} (h : Only T w w') (hT : ∀ k ∈ T, k ∈ T') : Only T' w w' := ⟨h.os, h.tape, h.output, h.size, fun k hk ht => h.block k hk (fun hm => ht (hT k hm))⟩
theorem Only.alloc {T : List Nat} {w0 w : World} (h : Only T w0 w) (o : Obj) : Only T w0 (w.alloc o) :=
  ⟨h.os, h.tape, h.output, by have := h.size; simp; omega, fun k hk ht => (Below.heap_alloc w o k (Nat.lt_of_lt_of_le hk h.size)).trans (h.block k hk ht)⟩
theorem Only.drew {T : List Nat} {w0 w : World} (h : Only T w0 w) : Only T w0 w.drew := ⟨h.os, h.tape, h.output, h.size, h.block⟩
theorem Only.setCell {T : List Nat} {w0 w : World} (h : Only T w0 w) {a : Addr} (ha : a.block ∈ T ∨ w0.heap.size ≤ a.block) (v : Value) : Only T w0 (w.setCell a v) :=
  ⟨h.os, h.tape, h.output, by have := h.size; simpa using this, fun k hk ht => (Below.heap_setCell w a v k (fun e => by subst e; rcases ha with ha | ha; exact ht ha; omega)).trans (h.block k hk ht)⟩
theorem Only.setRow {T : List Nat} {w0 w : World} (h : Only T w0 w) {g : Nat} (ha : g ∈ T ∨ w0.heap.size ≤ g) (cs : Array Value) : Only T w0 (w.setRow g cs) :=
  ⟨h.os, h.tape, h.output, by have := h.size; simpa [World.setRow] using this, fun k hk ht => (setRow_other w g k cs (fun e => by subst e; rcases ha with ha | ha; exact ht ha; omega)).trans (h.block k hk ht)⟩
theorem Only.below {T : List Nat} {w0 w w' : World} {B : Nat} (h : Only T w0 w) (hb : Below B w w') (hB : w0.heap.size ≤ B) : Only T w0 w' :=
  ⟨hb.os.trans h.os, hb.tape.trans h.tape, hb.output.trans h.output, Nat.le_trans h.size hb.size, fun k hk ht => (hb.block k (Nat.lt_of_lt_of_le hk hB)).trans (h.block k hk ht)⟩
theorem Only.onto {T : List Nat} {w0 w w' : World} (h : Only T w0 w) (hb : Below w.heap.size w w') : Only T w0 w' := h.below hb h.size
theorem Only.grown {T : List Nat} {w0 w w' : World} {row : Option Nat} (h : Only T w0 w) (hg : w.grownBy w' row) (hr : ∀ k, row = some k → k ∈ T ∨ w0.heap.size ≤ k) : Only T w0 w' :=
  ⟨hg.os.trans h.os, hg.tape.trans h.tape, hg.output.trans h.output, Nat.le_trans h.size hg.size, fun k hk ht => by
    refine (hg.block k (Nat.lt_of_lt_of_le hk h.size) (fun e => ?_)).trans (h.block k hk ht)
    rcases hr k e.symm with h1 | h1
    · exact ht h1
    · omega⟩
theorem Only.putObj {T : List Nat} {w0 w : World} (h : Only T w0 w) {l : Nat} (hl : w0.heap.size ≤ l) (o : Obj) : Only T w0 (w.putObj l o) := h.grown (grownBy_putObj' w l o) (fun k e => by cases e; exact .inr hl)
theorem Only.holds {T : List Nat} {w w' : World} {b : Nat} {cs : Array Value} (h : Only T w w') (hh : Holds w b cs) (hb : b ∉ T) : Holds w' b cs := by
  have hl := hh.lt
  obtain ⟨t, ht⟩ := hh
  exact ⟨t, (h.block b hl hb).trans ht⟩
theorem Only.own {T : List Nat} {w w' : World} {B : Nat} {e : TypeId} {size n : Nat} {v : Value} {xs : List Value} (h : Only T w w') (ho : w.ownsRow B e size v n xs) (hb : ∀ k, v.ownBlock = some k → k ∉ T) : w'.ownsRow B e size v n xs := by
  refine ⟨ho.1, ?_⟩
  rcases ho.2 with h2 | ⟨g, cap, cur, hv, hbg, hg, r⟩
  · exact .inl h2
  · exact .inr ⟨g, cap, cur, hv, hbg, (h.block g (Array.getElem?_eq_some_iff.1 hg).1 (hb g (by rw [hv]; rfl))).trans hg, r⟩
theorem Only.toBelow {T : List Nat} {w w' : World} {B : Nat} (h : Only T w w') (hT : ∀ k ∈ T, B ≤ k) (hB : B ≤ w.heap.size) : Below B w w' :=
  ⟨h.os, h.tape, h.output, h.size, fun k hk => h.block k (Nat.lt_of_lt_of_le hk hB) (fun hm => by have := hT k hm; omega)⟩
theorem Only.ofBelow {T : List Nat} {w w' : World} (h : Below w.heap.size w w') : Only T w w' := ⟨h.os, h.tape, h.output, h.size, fun k hk _ => h.block k hk⟩
theorem ownFrom_only {β : Type} {T : List Nat} {B : Nat} {w0 : World} (hB : w0.heap.size ≤ B) : OwnFrom B (fun (_ : β) W => Only T w0 W) :=
  fun _ _ _ _ hs hg hr => hs.grown hg (fun k e => .inr (Nat.le_trans hB (hr k e).1))
theorem keeps_below {W W' : World} (h : Below W.heap.size W W') : KeepsOthers W W' := ⟨h.size, fun k _ hk _ => (h.block k (Array.getElem?_eq_some_iff.1 hk).1).trans hk⟩
theorem ownsRow_low {W : World} {A B : Nat} {e : TypeId} {size n : Nat} {v : Value} {xs : List Value} (h : W.ownsRow B e size v n xs) (hb : A ≤ B) : W.ownsRow A e size v n xs := by
  refine ⟨h.1, ?_⟩
  rcases h.2 with h2 | ⟨g, cap, cur, hv, hbg, r⟩
  · exact .inl h2
  · exact .inr ⟨g, cap, cur, hv, Nat.le_trans hb hbg, r⟩
theorem own_far {W : World} {B : Nat} {e : TypeId} {size n : Nat} {v : Value} {xs : List Value} (ho : W.ownsRow B e size v n xs) (k : Nat) (hk : v.ownBlock = some k) : B ≤ k := by
  rcases ho.2 with ⟨rfl, -⟩ | ⟨g, cap, cur, rfl, hb, -⟩
  · simp [Value.ownBlock] at hk
  · simp only [Value.ownBlock, Option.some.injEq] at hk
    exact hk ▸ hb
theorem own_others {W W' : World} {B : Nat} {e : TypeId} {size n : Nat} {v : Value} {xs : List Value} (ho : W.ownsRow B e size v n xs) (hg : W.grownBy W' v.ownBlock) : KeepsOthers W W' := by
  refine ⟨hg.size, fun k _ hk hc => (hg.block k (Array.getElem?_eq_some_iff.1 hk).1 fun he => ?_).trans hk⟩
  rcases ho.2 with ⟨rfl, -⟩ | ⟨g, cap, cur, rfl, hb, hgg, -⟩
  · simp [Value.ownBlock] at he
  · simp only [Value.ownBlock, Option.some.injEq] at he
    subst he
    rw [hgg] at hk
    cases hk
    cases hc
/-- A slice that is owned is one. -/
theorem own_slice {W : World} {B : Nat} {e : TypeId} {size n : Nat} {v : Value} {xs : List Value} (h : W.ownsRow B e size v n xs) : ∃ a c, v = .slice a n c := by
  rcases h.2 with ⟨rfl, rfl⟩ | ⟨g, cap, cur, rfl, -⟩
  · exact ⟨_, _, rfl⟩
  · exact ⟨_, _, rfl⟩
theorem own_of_own {β : Type} {B : Nat} {e : TypeId} {size : Nat} {v : β → Value} {n : β → Nat} {xs : β → List Value} : Own (fun (b : β) w => w.ownsRow B e size (v b) (n b) (xs b)) := by
  intro b W W' row h2 hg hr
  refine h2.kept hg ?_
  rcases h2.2 with ⟨h, -⟩ | ⟨g, cap, cur, h, hb, hgg, -⟩
  · exact .inl (by rw [h]; rfl)
  · refine .inr fun he => ?_
    rw [h] at he
    obtain ⟨o, ho, hc⟩ := hr g he.symm
    rw [hgg] at ho
    cases ho
    cases hc
theorem own_below {W W' : World} {B : Nat} {e : TypeId} {size n : Nat} {v : Value} {xs : List Value} (h : W.ownsRow B e size v n xs) (hb : Below W.heap.size W W') : W'.ownsRow B e size v n xs :=
  h.kept (row := none) ⟨hb.os, hb.tape, hb.output, hb.size, fun k hk _ => hb.block k hk⟩ (by cases hx : Value.ownBlock _ <;> simp)

/-- The number of deferred calls' block that a loop leaves. -/
abbrev withD (a : Act) (D : Nat) : Act := { a with defers := { target := .collected D, args := #[] } :: a.defers }

theorem eachDone {T : List Nat} {w W W' : World} {b : Nat} {p : Prop} (hb : b < w.heap.size) (hbT : b ∉ T) (hW : Only T w W) (hk : KeepsOthers W W') (hW' : Only T w W') (hp : p) :
    KeepsFrom w.heap.size W W' ∧ KeepB b W W' ∧ Only T w W' ∧ p := ⟨hk.from _, (hW'.block b hb hbT).trans (hW.block b hb hbT).symm, hW', hp⟩
theorem eachLeft {T : List Nat} {w W W' : World} {p : Prop} (hk : KeepsOthers W W') (hW' : Only T w W') (hp : p) :
    KeepsFrom w.heap.size W W' ∧ Only T w W' ∧ p := ⟨hk.from _, hW', hp⟩

end Go.Proofs.Ytpjninnammddlaa
