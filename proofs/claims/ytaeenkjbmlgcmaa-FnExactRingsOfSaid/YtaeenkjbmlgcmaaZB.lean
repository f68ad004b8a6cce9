/- The iterator over a lawn's cells: it hands on all cells in their order, for every loop body that keeps the iterator's own copy of the lawn. A region that draws its order, whose operations but the last one answer the same in every world that has only grown (loads of what lay there, calls that make memory), may be walked in the order of the text. A region walked plainly serves in the round of a range over a function, where every function may be called. The program's ValidLawn answers as the model's. Worlds that differ in told blocks alone, and the range over a lawn's cells with the book-keeping done once. -/
import Derived.Test.YtaeenkjbmlgcmaaZA
import Derived.RangeFuncNested
import Derived.RangeFuncBound
import Derived.RangeFuncCalls
import Derived.RangeFuncLeaves
import Derived.Shelf.Abstract
import Derived.Shelf.RegionOpen
import Derived.OwnWalkIn
import Derived.TacticsInMore
import Derived.LoopNIn
import Derived.LoopIn
namespace Go.Proofs.Ytaeenkjbmlgcmaa
open Go.RowKit Go.Shelf
attribute [local go_sem] Oper.semAt_some
attribute [local go_sem ↓] loadRow loadGrid loadLawn loadMirror storeRow storeGrid storeLawn allocRow allocGrid allocLawn buildZero buildSides

/-- All cells of a lawn of W by H, ordered. -/
def allC (W H : Nat) : List (Fin W × Fin H) := (List.finRange H).flatMap fun y => (List.finRange W).map fun x => (x, y)
theorem flat_get {α β : Type} (n : Nat) (f : α → List β) : ∀ (l : List α), (∀ a ∈ l, (f a).length = n) → ∀ (k j : Nat), j < n → (l.flatMap f)[k * n + j]? = (l[k]?).bind fun a => (f a)[j]?
  | [], _, k, j, _ => by simp
  | a :: l, h, 0, j, hj => by
    rw [List.flatMap_cons, List.getElem?_append_left (by rw [h a (by simp)]; omega)]
    simp
  | a :: l, h, k + 1, j, hj => by
    have ha := h a (by simp)
    rw [List.flatMap_cons, List.getElem?_append_right (by rw [ha, Nat.succ_mul]; omega), ha, show (k + 1) * n + j - n = k * n + j by rw [Nat.succ_mul]; omega,
      flat_get n f l (fun b hb => h b (by simp [hb])) k j hj]
    simp
theorem allC_get (W H k j : Nat) (hj : j < W) (hk : k < H) : (allC W H)[k * W + j]? = some (⟨j, hj⟩, ⟨k, hk⟩) := by
  unfold allC
  rw [flat_get W _ _ (fun a _ => by simp) k j hj]
  simp [hj, hk]
theorem allC_length (W H : Nat) : (allC W H).length = H * W := by
  unfold allC
  rw [List.length_flatMap]
  simp [List.map_const']
theorem allC_take (W H k j : Nat) (hj : j < W) (hk : k < H) : (allC W H).take (k * W + j + 1) = (allC W H).take (k * W + j) ++ [(⟨j, hj⟩, ⟨k, hk⟩)] := by
  rw [List.take_add_one, allC_get W H k j hj hk]; rfl
theorem allC_mem (W H : Nat) (x : Fin W × Fin H) : x ∈ allC W H := by
  obtain ⟨⟨j, hj⟩, ⟨k, hk⟩⟩ := x
  exact List.mem_of_getElem? (allC_get W H k j hj hk)

/-- A block lies as it lay. -/
def KeepB (b : Nat) (W W' : World) : Prop := W'.heap[b]? = W.heap[b]?
theorem KeepB.holds {b : Nat} {W W' : World} {cs : Array Value} (h : KeepB b W W') (hh : Holds W b cs) : Holds W' b cs := by
  obtain ⟨t, ht⟩ := hh; exact ⟨t, h.trans ht⟩
theorem keepB_t {b : Nat} {A B C : World} (h : KeepB b A B) (k : KeepB b B C) : KeepB b A C := Eq.trans k h
theorem keepB_b {b : Nat} {w : World} (hb : b < w.heap.size) (W : World) (l : Nat) (o o' : Obj) (hl : w.heap.size ≤ l) (_ : W.heap[l]? = some o) (_ : o.isCells = false) (_ : o.isWalk = false) : KeepB b W (W.putObj l o') := World.putObj_heap_other (by omega)
theorem KeepB.of_below {b B : Nat} {W W' : World} (h : Below B W W') (hb : b < B) : KeepB b W W' := h.block b hb
def cellA {W H : Nat} (c : Fin W × Fin H) : Array Value := #[cellV (c.1 : Nat) (c.2 : Nat)]

set_option maxRecDepth 100000 in
set_option maxHeartbeats 1000000 in
theorem each1_in (F : Fence) (n : Nat) (h6 : F.fn 133) (hro : F.round = none) (hn : 1 ≤ n) (l b : Nat) (Wn Hn : Nat) (hW : Wn ≤ 10) (hH : Hn ≤ 10) (K : Nat → Nat → Int) (J Jx : List (Fin Wn × Fin Hn) → World → Prop)
    (hY : ∀ pre x W, J pre W → pre.length < (allC Wn Hn).length → YieldAt F (n - 1) Try.prog l (cellA x) W fun e W' =>
      (e = .returned (.bool true) ∧ J (pre ++ [x]) W' ∧ KeepB b W W') ∨ (e = .returned (.bool false) ∧ Jx (pre ++ [x]) W'))
    (W : World) (hB : Holds W b (Lawn.cells ⟨(Wn : Int), (Hn : Int), K⟩)) (h0 : J [] W) :
    CallsIn F n Try.prog 133 #[.func (.yield l) #[] #[], .pointer (some ⟨b, 0, none⟩)] W fun e W' => (∃ v, e = .returned v) ∧
      ((∃ ys, ys = allC Wn Hn ∧ J ys W') ∨ (∃ pre, pre <+: allC Wn Hn ∧ Jx pre W')) := by
  obtain ⟨-, -, c, -, -⟩ := hB.facts
  refine callsIn_of_wp Try.func133 rfl h6 ?_ hro
  simp only [Try.ntmps133, List.size_toArray, List.length_cons, List.length_nil, Nat.reduceAdd, Nat.reduceSub, Array.replicate_succ, Array.replicate_zero, List.push_toArray, List.append_toArray, List.nil_append, List.cons_append]
  gi_wp2
  clear c
  gi_loopw [7, 3, 4, 12] (fun y _ _ _ wr => ∃ k : Nat, k ≤ Hn ∧ y = .int .i8 k ∧ Holds wr b (Lawn.cells ⟨(Wn : Int), (Hn : Int), K⟩) ∧ J ((allC Wn Hn).take (k * Wn)) wr) (fun y _ _ _ _ => Hn - (intOf y).toNat)
  case atStart => exact ⟨0, by omega, rfl, hB, by simpa using h0⟩
  case round =>
    obtain ⟨k, hk, rfl, hb, hJ⟩ := hrel
    obtain ⟨-, -, c, -, -⟩ := hb.facts
    by_cases hlt : k < Hn
    · have hd : decide ((k : Int) < Hn) = true := by simp; omega
      gi_wp2
      clear c
      gi_loopw [12, 4] (fun x _ wr => ∃ j : Nat, j ≤ Wn ∧ x = .int .i8 j ∧ Holds wr b (Lawn.cells ⟨(Wn : Int), (Hn : Int), K⟩) ∧ J ((allC Wn Hn).take (k * Wn + j)) wr) (fun x _ _ => Wn - (intOf x).toNat)
      case atStart => exact ⟨0, by omega, rfl, hb, by simpa using hJ⟩
      case round =>
        obtain ⟨j, hj, rfl, hbi, hJi⟩ := hrel
        by_cases hjt : j < Wn
        · have hlen : ((allC Wn Hn).take (k * Wn + j)).length < (allC Wn Hn).length := by
            have := (List.getElem?_eq_some_iff.1 (allC_get Wn Hn k j hjt hlt)).1
            rw [List.length_take]; omega
          have HT := Lib.hid (allC_take Wn Hn k j hjt hlt)
          obtain ⟨fn, tmps, assign, body, hy, hR⟩ := hY _ (⟨j, hjt⟩, ⟨k, hlt⟩) wr hJi hlen
          simp only [cellA, cellV] at hy
          gi_wp2
          refine hR.mono ?_
          rintro e W3 (⟨rfl, hJ3, hk3⟩ | ⟨rfl, hJx3⟩)
          · rw [← HT.out] at hJ3
            have hb3 := hk3.holds hbi
            gi_wp2
            go_roundw
            case rel => exact ⟨j + 1, by omega, by go_num, hb3, hJ3⟩
            case measure => simp [intOf]; omega
          · rw [← HT.out] at hJx3
            gi_wp2
            refine bodyPost_ret (results_none rfl _ _ _) rfl ?_
            exact ⟨⟨_, rfl⟩, .inr ⟨_, List.take_prefix _ _, hJx3⟩⟩
        · obtain rfl : j = Wn := by omega
          have e : k * j + j = (k + 1) * j := by rw [Nat.succ_mul]
          rw [e] at hJi
          clear e
          gi_wp2
          go_roundw
          case rel => exact ⟨k + 1, by omega, by go_num, hbi, hJi⟩
          case measure => simp [intOf]; omega
    · obtain rfl : k = Hn := by omega
      rw [List.take_of_length_le (by rw [allC_length]; omega)] at hJ
      gi_wp2
      go_end0
      exact ⟨⟨_, rfl⟩, .inl ⟨_, rfl, hJ⟩⟩

/-- **eachCell**: the lawn is boxed; the function value captures the box. -/
theorem each_in (F : Fence) (n : Nat) (h5 : F.fn 99) (hro : F.round = none) (L : Lawn) (w : World) :
    CallsIn F n Try.prog 99 #[.agg L.cells] w fun e w' => e = .returned (.func (.func 133) #[] #[.pointer (some ⟨w.heap.size, 0, none⟩)]) ∧ w' = w.alloc (.cells L.cells 29) := by
  refine callsIn_of_wp Try.func99 rfl h5 ?_ hro
  simp only [Try.ntmps99, List.size_toArray, List.length_cons, List.length_nil, Nat.reduceAdd, Nat.reduceSub, Array.replicate_succ, Array.replicate_zero, List.push_toArray, List.append_toArray, List.nil_append, List.cons_append]
  gi_wp2
  go_ret
  exact ⟨rfl, rfl⟩

theorem each_stops (F : Fence) (n : Nat) (h6 : F.fn 133) (hro : F.round = none) (hn : 1 ≤ n) (b : Nat) (Wn Hn : Nat) (hW : Wn ≤ 10) (hH : Hn ≤ 10) (K : Nat → Nat → Int) (w : World) (hb : b < w.heap.size) (hB : Holds w b (Lawn.cells ⟨(Wn : Int), (Hn : Int), K⟩)) :
    SeqStopsK F n Try.prog 133 #[.pointer (some ⟨b, 0, none⟩)] (cellA : Fin Wn × Fin Hn → Array Value) (KeepB b) (fun ys => ys = allC Wn Hn) (fun pre => pre <+: allC Wn Hn) (allC Wn Hn).length w := fun l J Jx W hWW _ _ hY h0 =>
  each1_in F n h6 hro hn l b Wn Hn hW hH K J Jx hY W (hB.below hWW hb) h0
end Go.Proofs.Ytaeenkjbmlgcmaa

namespace Go.Proofs.Ytaeenkjbmlgcmaa
open Go.RowKit

section
variable {P : Program} {ops : Array Oper} {md : Region.Mode}

/-- Two acts agree on some slots. -/
def Agree (S : List Tmp) (a b : Act) : Prop := a.tmps.size = b.tmps.size ∧ a.defers = b.defers ∧ ∀ d ∈ S, a.tmps.getD d undef = b.tmps.getD d undef
theorem Agree.refl (S : List Tmp) (a : Act) : Agree S a a := ⟨rfl, rfl, fun _ _ => rfl⟩
theorem put_size (a : Act) (dst : Option Tmp) (v : Value) : (a.put dst v).tmps.size = a.tmps.size := by cases dst <;> simp [Act.put]
theorem put_def (a : Act) (dst : Option Tmp) (v : Value) : (a.put dst v).defers = a.defers := by cases dst <;> rfl
theorem put_at_ne (a : Act) (dst : Option Tmp) (v : Value) (d : Tmp) (h : dst ≠ some d) : (a.put dst v).tmps.getD d undef = a.tmps.getD d undef := by
  cases dst with
  | none => rfl
  | some e =>
    have hne : e ≠ d := fun he => h (he ▸ rfl)
    simp [Act.put, Array.getElem?_setIfInBounds_ne hne]
theorem Agree.at {S : List Tmp} {a b : Act} (h : Agree S a b) {t : Tmp} (ht : t ∈ S) : a.tmps[t]? = b.tmps[t]? := by
  have hg := h.2.2 t ht
  rcases Nat.lt_or_ge t a.tmps.size with hl | hl
  · have hl' : t < b.tmps.size := h.1 ▸ hl
    simp only [Array.getD_eq_getD_getElem?, Array.getElem?_eq_getElem hl, Array.getElem?_eq_getElem hl', Option.getD_some] at hg ⊢
    rw [hg]
  · rw [Array.getElem?_eq_none hl, Array.getElem?_eq_none (h.1 ▸ hl)]
theorem Agree.put {S : List Tmp} {a b : Act} (h : Agree S a b) (dst : Option Tmp) (v : Value) : Agree S (a.put dst v) (b.put dst v) := by
  refine ⟨by rw [put_size, put_size]; exact h.1, by rw [put_def, put_def]; exact h.2.1, fun d hd => ?_⟩
  by_cases e : dst = some d
  · subst e
    simp only [Act.put, Array.getD_eq_getD_getElem?, Array.getElem?_setIfInBounds, if_true, h.1]
  · rw [put_at_ne _ _ _ _ e, put_at_ne _ _ _ _ e]; exact h.2.2 d hd
theorem Agree.left {S : List Tmp} {a b : Act} (h : Agree S a b) {dst : Option Tmp} (hd : ∀ d, dst = some d → d ∉ S) (v : Value) : Agree S (a.put dst v) b :=
  ⟨by rw [put_size]; exact h.1, by rw [put_def]; exact h.2.1, fun d hs => by rw [put_at_ne _ _ _ _ (fun e => hd d e hs)]; exact h.2.2 d hs⟩
theorem Agree.right {S : List Tmp} {a b : Act} (h : Agree S a b) {dst : Option Tmp} (hd : ∀ d, dst = some d → d ∉ S) (v : Value) : Agree S a (b.put dst v) :=
  ⟨by rw [put_size]; exact h.1, by rw [put_def]; exact h.2.1, fun d hs => by rw [put_at_ne _ _ _ _ (fun e => hd d e hs)]; exact h.2.2 d hs⟩
theorem Agree.exec {o : Oper} {a b : Act} (hs : ∀ cs c, o.op ≠ .select cs c) (h : Agree (o.looksAt ops) a b) : execOp a.eval o = execOp b.eval o :=
  execOp_congr o hs fun x hx => by
    cases x with
    | tmp t => simpa [Act.eval] using h.2.2 t (List.mem_append_left _ (List.mem_filterMap.2 ⟨.tmp t, by simpa using hx, rfl⟩))
    | _ => rfl
theorem Agree.wants {o : Oper} {a b : Act} (h : Agree (o.looksAt ops) a b) : Region.wanted o (yielded ops a.tmps) = Region.wanted o (yielded ops b.tmps) := by
  unfold Region.wanted
  cases hg : o.guard with
  | none => rfl
  | some gw =>
    obtain ⟨g, want⟩ := gw
    have hy : yielded ops a.tmps g = yielded ops b.tmps g := by
      unfold yielded
      cases ht : (ops[g]?).bind (·.dst) with
      | none => rfl
      | some t =>
        have := h.at (t := t) (by simp [Oper.looksAt, hg, ht])
        simp [this]
    simp only [hy]

def dstOf (ops : Array Oper) (i : Nat) : Option Tmp := (ops[i]?).bind (·.dst)
/-- What lies in the slots when the operations that are listed have run. -/
def fill (ops : Array Oper) (val : Nat → Value) (listed : Nat → Bool) (a0 : Act) : Nat → Act
  | 0 => a0
  | n + 1 => if listed n then (fill ops val listed a0 n).put (dstOf ops n) (val n) else fill ops val listed a0 n
theorem fill_agree (val : Nat → Value) (l l' : Nat → Bool) (a0 : Act) (S : List Tmp) : ∀ n, (∀ i, i < n → l i ≠ l' i → ∀ d, dstOf ops i = some d → d ∉ S) → Agree S (fill ops val l a0 n) (fill ops val l' a0 n)
  | 0, _ => Agree.refl _ _
  | n + 1, h => by
    have ih := fill_agree val l l' a0 S n (fun i hi => h i (by omega))
    have hn := h n (by omega)
    unfold fill
    cases h1 : l n <;> cases h2 : l' n
    · exact ih
    · exact ih.right (hn (by simp [h1, h2])) _
    · exact ih.left (hn (by simp [h1, h2])) _
    · exact ih.put _ _
theorem fill_congr (val val' : Nat → Value) (l l' : Nat → Bool) (a0 : Act) : ∀ n, (∀ i, i < n → l i = l' i ∧ val i = val' i) → fill ops val l a0 n = fill ops val' l' a0 n
  | 0, _ => rfl
  | n + 1, h => by
    have ih := fill_congr val val' l l' a0 n (fun i hi => h i (by omega))
    obtain ⟨h1, h2⟩ := h n (by omega)
    unfold fill
    rw [ih, h1, h2]
theorem fill_set (val : Nat → Value) (l l' : Nat → Bool) (a0 : Act) (i : Nat) (hl : l i = false) (hl' : l' i = true) (hne : ∀ j, j ≠ i → l' j = l j) : ∀ n, i < n → (∀ j, j < n → j ≠ i → ∀ d, dstOf ops i = some d → dstOf ops j ≠ some d) →
    fill ops val l' a0 n = (fill ops val l a0 n).put (dstOf ops i) (val i)
  | 0, h, _ => by omega
  | n + 1, h, hd => by
    unfold fill
    by_cases e : i = n
    · subst e
      rw [hl, hl', fill_congr val val l' l a0 i (fun j hj => ⟨hne j (by omega), rfl⟩)]
      rfl
    · rw [fill_set val l l' a0 i hl hl' hne n (by omega) (fun j hj => hd j (by omega)), hne n (Ne.symm e)]
      split
      · exact Act.put_comm _ _ _ (fun d hdi => hd n (by omega) (Ne.symm e) d hdi)
      · rfl

/-- An operation answers v in every world that has only grown since w0. -/
def GYields (P : Program) (ops : Array Oper) (w0 : World) (o : Oper) (v : Value) (a : Act) : Prop := ∀ w, Below w0.heap.size w0 w →
  if Region.wanted o (yielded ops a.tmps) then ∀ K : Act → World → Prop, (∀ a' w', a' = a.put o.dst v → Below w0.heap.size w0 w' → K a' w') → o.wp P a w K (fun _ _ _ => False)
  else v = undef
theorem put_eq {a b : Act} (hs : a.tmps.size = b.tmps.size) {dst : Option Tmp} {u v : Value} (h : a.put dst u = a.put dst v) : b.put dst u = b.put dst v := by
  cases dst with
  | none => rfl
  | some d =>
    by_cases hd : d < a.tmps.size
    · have := congrArg (fun c : Act => c.tmps.getD d undef) h
      simp [Act.put, hd] at this
      rw [this]
    · simp only [Act.put]
      have hl : b.tmps.size ≤ d := hs ▸ Nat.le_of_not_lt hd
      rw [Array.setIfInBounds_eq_of_size_le hl, Array.setIfInBounds_eq_of_size_le hl]

theorem GYields.at {w0 w : World} {o : Oper} {v : Value} {a b : Act} (h : GYields P ops w0 o v a) (hs : ∀ cs c, o.op ≠ .select cs c) (hab : Agree (o.looksAt ops) a b) (hw : Below w0.heap.size w0 w) {K : Act → World → Prop} {Q : Exit → Act → World → Prop}
    (hK : ∀ w', Below w0.heap.size w0 w' → K (b.put o.dst v) w') : if Region.wanted o (yielded ops b.tmps) then o.wp P b w K Q else K (b.put o.dst undef) w := by
  have h := h w hw
  rw [hab.wants] at h
  split
  · rename_i hwt
    rw [if_pos hwt] at h
    have h := h (fun a' w' => a' = a.put o.dst v ∧ Below w0.heap.size w0 w') (fun a' w' h1 h2 => ⟨h1, h2⟩)
    unfold Oper.wp at h ⊢
    rw [hab.exec hs] at h
    have fin : ∀ (u : Value) (w' : World), (a.put o.dst u = a.put o.dst v ∧ Below w0.heap.size w0 w') → K (b.put o.dst u) w' := fun u w' ⟨e1, e2⟩ => by rw [put_eq hab.1 e1]; exact hK w' e2
    unfold Oper.upon at h ⊢
    split at h
    · exact fin _ _ h
    · exact fin _ _ h
    · rename_i d w' hr
      have hd := congrArg Act.defers h.1
      rw [put_def, put_def] at hd
      exact absurd hd (by simp)
    · refine h.mono fun e w'' he => ?_
      cases e with
      | returned u => exact fin _ _ he
      | panicked c => exact he.elim
      | outgrown => obtain ⟨_, _, h⟩ := he; exact h.elim
    · exact h.mono fun u w'' he => fin _ _ he
    · exact h.elim
    · exact h.elim
  · rename_i hwt
    rw [if_neg hwt] at h
    rw [← h]
    exact hK w hw

/-- The checks on a region's shape: edges lead back; who looks at a slot waits for it; no slot is written twice. -/
def growB (ops : Array Oper) (n : Nat) : Bool :=
  Region.noSelect ops && decide (ops.size = n + 1) && Region.sinkB .any ops n && Region.chainB .any ops n &&
  (List.range (n + 1)).all fun j => match ops[j]? with
    | none => false
    | some oj =>
      (oj.after.all fun e => !Region.binds .any e || decide (e.on < j)) &&
      (List.range n).all fun i => (match dstOf ops i with
        | none => true
        | some d => (!(oj.looksAt ops).contains d || (oj.after.any fun e => Region.binds .any e && e.on == i)) && (i == j || dstOf ops j != some d))

structure GrowOk (ops : Array Oper) (n : Nat) : Prop where
  sel : ∀ (j : Nat) (o : Oper) cs b, ops[j]? = some o → o.op ≠ .select cs b
  size : ops.size = n + 1
  sink : Region.sinkB .any ops n = true
  chain : Region.chainB .any ops n = true
  back : ∀ (j : Nat) (oj : Oper), ops[j]? = some oj → ∀ e ∈ oj.after, Region.binds .any e = true → e.on < j
  looks : ∀ (j : Nat) (oj : Oper), ops[j]? = some oj → ∀ i, i < n → ∀ d, dstOf ops i = some d → d ∈ oj.looksAt ops → ∃ e ∈ oj.after, Region.binds .any e = true ∧ e.on = i
  dist : ∀ i, i < n → ∀ j, j < n → j ≠ i → ∀ d, dstOf ops i = some d → dstOf ops j ≠ some d

theorem growB_ok {n : Nat} (h : growB ops n = true) : GrowOk ops n := by
  simp only [growB, Bool.and_eq_true, decide_eq_true_eq, List.all_eq_true, List.mem_range] at h
  obtain ⟨⟨⟨⟨h1, h2⟩, h3⟩, h4⟩, h5⟩ := h
  have get : ∀ (j : Nat) (oj : Oper), ops[j]? = some oj → ((oj.after.all fun e => !Region.binds .any e || decide (e.on < j)) = true) ∧ ∀ i, i < n → (match dstOf ops i with
        | none => true
        | some d => (!(oj.looksAt ops).contains d || (oj.after.any fun e => Region.binds .any e && e.on == i)) && (i == j || dstOf ops j != some d)) = true := by
    intro j oj hj
    have hlt : j < n + 1 := by rw [← h2]; exact (Array.getElem?_eq_some_iff.1 hj).1
    have := h5 j hlt
    rw [hj] at this
    simp only [Bool.and_eq_true, List.all_eq_true, List.mem_range] at this
    exact this
  refine ⟨fun j o cs b ho => Region.noSelect_spec h1 j o cs b ho, h2, h3, h4, fun j oj hj e he hb => ?_, fun j oj hj i hi d hd hl => ?_, fun i hi j hj hne d hd => ?_⟩
  · have := Array.all_eq_true_iff_forall_mem.1 (get j oj hj).1 e he
    simpa [hb] using this
  · have := (get j oj hj).2 i hi
    rw [hd] at this
    simp only [Bool.and_eq_true, Bool.or_eq_true, Bool.not_eq_true'] at this
    rcases this.1 with h | h
    · have : (oj.looksAt ops).contains d = true := by simpa using hl
      rw [this] at h; cases h
    · obtain ⟨e, he, hb⟩ := Array.any_eq_true'.1 h
      simp only [Bool.and_eq_true, beq_iff_eq] at hb
      exact ⟨e, he, hb.1, hb.2⟩
  · have hjlt : j < ops.size := by omega
    have := (get j ops[j] (Array.getElem?_eq_getElem hjlt)).2 i hi
    rw [hd] at this
    simp only [Bool.and_eq_true, Bool.or_eq_true, beq_iff_eq, bne_iff_ne] at this
    exact this.2.resolve_left (Ne.symm hne)

def flag (listed : Array Bool) (i : Nat) : Bool := listed.getD i false
/-- How many of the first n are not listed. -/
def left (listed : Array Bool) : Nat → Nat
  | 0 => 0
  | n + 1 => left listed n + if flag listed n then 0 else 1
theorem left_set {listed : Array Bool} {i : Nat} (hun : flag listed i = false) (hs : i < listed.size) : ∀ n, i < n → left (listed.setIfInBounds i true) n + 1 = left listed n
  | 0, h => by omega
  | n + 1, h => by
    have other : ∀ j, j ≠ i → flag (listed.setIfInBounds i true) j = flag listed j := fun j hj => getD_set_ne false (Ne.symm hj)
    unfold left
    by_cases e : i = n
    · subst e
      have hset : flag (listed.setIfInBounds i true) i = true := by simp [flag, hs]
      have same : ∀ m, m ≤ i → left (listed.setIfInBounds i true) m = left listed m := by
        intro m hm
        induction m with
        | zero => rfl
        | succ m ih => unfold left; rw [ih (by omega), other m (by omega)]
      rw [same i (Nat.le_refl _), hset, hun]; simp
    · have := left_set hun hs n (by omega)
      rw [other n (Ne.symm e)]; omega
theorem left_zero {listed : Array Bool} : ∀ n, left listed n = 0 → ∀ i, i < n → flag listed i = true
  | 0, _, i, h => by omega
  | n + 1, h, i, hi => by
    unfold left at h
    by_cases e : i = n
    · subst e
      cases hf : flag listed i with
      | true => rfl
      | false => rw [hf] at h; simp at h
    · exact left_zero n (by omega) i (by omega)

theorem ready_done {listed : Array Bool} {Q : Exit → Act → World → Prop} (h : Region.ready .any ops listed = []) : ∀ (f : Nat) (a : Act) (w : World), Q .normal a w → wpAny P .any ops Q f listed a w
  | 0, _, _, hq => ⟨h, hq⟩
  | f + 1, _, _, hq => ⟨fun _ => hq, fun i hi => by rw [h] at hi; cases hi⟩

/-- All orders come to the same slots. -/
theorem any_of_grow {n : Nat} (ok : GrowOk ops n) {w0 : World} {a0 : Act} {val : Nat → Value} {Q : Exit → Act → World → Prop}
    (hY : ∀ (j : Nat) (oj : Oper), j < n → ops[j]? = some oj → GYields P ops w0 oj (val j) (fill ops val (fun _ => true) a0 j))
    (hlast : ∀ w, Below w0.heap.size w0 w → wpOp P ops Q n (Q .normal) (fill ops val (fun _ => true) a0 n) w) :
    ∀ (f : Nat) (listed : Array Bool) (w : World), HeadInv .any ops n listed → left listed n ≤ f → Below w0.heap.size w0 w → wpAny P .any ops Q (f + 1) listed (fill ops val (flag listed) a0 n) w := by
  intro f
  induction f with
  | zero =>
    intro listed w inv hl hw
    have hall := left_zero n (Nat.le_zero.1 hl)
    have hn : n < listed.size := by rw [inv.size, ok.size]; omega
    have hun : listed.getD n true = false := inv.tail n (Nat.le_refl _) (by rw [ok.size]; omega)
    obtain ⟨on, hon⟩ : ∃ on, ops[n]? = some on := ⟨_, Array.getElem?_eq_getElem (by rw [ok.size]; omega)⟩
    have hfill : fill ops val (flag listed) a0 n = fill ops val (fun _ => true) a0 n := fill_congr _ _ _ _ _ n (fun i hi => ⟨hall i hi, rfl⟩)
    have hnr : n ∈ Region.ready .any ops listed := mem_ready.2 ⟨hun, on, hon, fun e he hb => hall _ (ok.back n on hon e he hb)⟩
    refine ⟨fun h => (by rw [h] at hnr; cases hnr), fun i hi => ?_⟩
    obtain ⟨h1, oi, hoi, -⟩ := mem_ready.1 hi
    have hin : i = n := by
      have hlt : i < n + 1 := by rw [← ok.size]; exact (Array.getElem?_eq_some_iff.1 hoi).1
      by_cases e : i < n
      · have := hall i e; unfold flag at this; rw [getD_both h1] at this; cases this
      · omega
    subst hin
    rw [hfill]
    refine wpOp_mono (fun a' w' hq => ready_done ?_ _ _ _ hq) (hlast w hw)
    apply List.eq_nil_iff_forall_not_mem.2
    intro j hj
    obtain ⟨g1, oj, hoj, -⟩ := mem_ready.1 hj
    have hjlt : j < i + 1 := by rw [← ok.size]; exact (Array.getElem?_eq_some_iff.1 hoj).1
    by_cases e : j = i
    · subst e; simp [hn] at g1
    · rw [getD_set_ne true (Ne.symm e)] at g1
      have := hall j (by omega); unfold flag at this; rw [getD_both g1] at this; cases this
  | succ f ih =>
    intro listed w inv hl hw
    by_cases hz : left listed n = 0
    · have hall := left_zero n hz
      have hn : n < listed.size := by rw [inv.size, ok.size]; omega
      have hun : listed.getD n true = false := inv.tail n (Nat.le_refl _) (by rw [ok.size]; omega)
      obtain ⟨on, hon⟩ : ∃ on, ops[n]? = some on := ⟨_, Array.getElem?_eq_getElem (by rw [ok.size]; omega)⟩
      have hfill : fill ops val (flag listed) a0 n = fill ops val (fun _ => true) a0 n := fill_congr _ _ _ _ _ n (fun i hi => ⟨hall i hi, rfl⟩)
      have hnr : n ∈ Region.ready .any ops listed := mem_ready.2 ⟨hun, on, hon, fun e he hb => hall _ (ok.back n on hon e he hb)⟩
      refine ⟨fun h => (by rw [h] at hnr; cases hnr), fun i hi => ?_⟩
      obtain ⟨h1, oi, hoi, -⟩ := mem_ready.1 hi
      have hin : i = n := by
        have hlt : i < n + 1 := by rw [← ok.size]; exact (Array.getElem?_eq_some_iff.1 hoi).1
        by_cases e : i < n
        · have := hall i e; unfold flag at this; rw [getD_both h1] at this; cases this
        · omega
      subst hin
      rw [hfill]
      refine wpOp_mono (fun a' w' hq => ready_done ?_ _ _ _ hq) (hlast w hw)
      apply List.eq_nil_iff_forall_not_mem.2
      intro j hj
      obtain ⟨g1, oj, hoj, -⟩ := mem_ready.1 hj
      have hjlt : j < i + 1 := by rw [← ok.size]; exact (Array.getElem?_eq_some_iff.1 hoj).1
      by_cases e : j = i
      · subst e; simp [hn] at g1
      · rw [getD_set_ne true (Ne.symm e)] at g1
        have := hall j (by omega); unfold flag at this; rw [getD_both g1] at this; cases this
    · -- SOME HEAD OPERATION IS OPEN: THE FIRST OF THEM IS READY; THE LAST ONE OF ALL IS NOT
      obtain ⟨m, hm, hmun, hmin⟩ : ∃ m, m < n ∧ flag listed m = false ∧ ∀ j, j < m → flag listed j = true := by
        clear hl
        have key : ∀ k, k ≤ n → (∀ j, j < k → flag listed j = true) ∨ ∃ m, m < k ∧ flag listed m = false ∧ ∀ j, j < m → flag listed j = true := by
          intro k hk
          induction k with
          | zero => exact .inl fun j hj => by omega
          | succ k ihk =>
            rcases ihk (by omega) with h | ⟨m, h1, h2, h3⟩
            · cases hf : flag listed k with
              | true =>
                refine .inl (fun j hj => ?_)
                by_cases e : j = k
                · subst e; exact hf
                · exact h j (by omega)
              | false => exact .inr ⟨k, by omega, hf, h⟩
            · exact .inr ⟨m, by omega, h2, h3⟩
        rcases key n (Nat.le_refl _) with h | h
        · refine absurd ?_ hz
          have : ∀ k, k ≤ n → left listed k = 0 := by
            intro k hk
            induction k with
            | zero => rfl
            | succ k ihk => unfold left; rw [ihk (by omega), h k (by omega)]; rfl
          exact this n (Nat.le_refl _)
        · exact h
      have hms : m < listed.size := by rw [inv.size, ok.size]; omega
      obtain ⟨om, hom⟩ : ∃ om, ops[m]? = some om := ⟨_, Array.getElem?_eq_getElem (by rw [ok.size]; omega)⟩
      have hmr : m ∈ Region.ready .any ops listed := mem_ready.2 ⟨getD_in hms hmun, om, hom, fun e he hb => hmin _ (ok.back m om hom e he hb)⟩
      refine ⟨fun h => (by rw [h] at hmr; cases hmr), fun i hi => ?_⟩
      obtain ⟨h1, oi, hoi, hdep⟩ := mem_ready.1 hi
      have hin : i < n := by
        rcases Nat.lt_or_ge i n with h | h
        · exact h
        · exact absurd hi (tail_waits ok.sink ok.chain (by rw [ok.size]; omega) inv _ m rfl hm (getD_in hms hmun) i h)
      have his : i < listed.size := by rw [inv.size, ok.size]; omega
      have hiun : flag listed i = false := getD_both h1
      have hnext := ih (listed.setIfInBounds i true)
      have hfs : fill ops val (flag (listed.setIfInBounds i true)) a0 n = (fill ops val (flag listed) a0 n).put (dstOf ops i) (val i) :=
        fill_set val (flag listed) (flag (listed.setIfInBounds i true)) a0 i hiun (by simp [flag, his]) (fun j hj => getD_set_ne false (Ne.symm hj)) n hin (ok.dist i hin)
      have hdst : dstOf ops i = oi.dst := by simp [dstOf, hoi]
      have hagree : Agree (oi.looksAt ops) (fill ops val (fun _ => true) a0 i) (fill ops val (flag listed) a0 n) := by
        have e1 : fill ops val (fun _ => true) a0 i = fill ops val (fun j => decide (j < i)) a0 i := fill_congr _ _ _ _ _ i (fun j hj => ⟨by simp [hj], rfl⟩)
        have e2 : ∀ k, i ≤ k → fill ops val (fun j => decide (j < i)) a0 k = fill ops val (fun j => decide (j < i)) a0 i := by
          intro k hk
          induction k with
          | zero => rw [show i = 0 by omega]
          | succ k ihk =>
            by_cases e : i = k + 1
            · rw [e]
            · rw [← ihk (by omega)]
              show (if decide (k < i) then _ else _) = _
              rw [show decide (k < i) = false by simp; omega]
              rfl
        rw [e1, ← e2 n (by omega)]
        refine fill_agree val _ _ a0 _ n (fun j hj hne d hd hl => ?_)
        obtain ⟨e, he, hb, hon⟩ := ok.looks i oi hoi j hj d hd hl
        have hlisted := hdep e he hb
        rw [hon] at hlisted
        have hback := ok.back i oi hoi e he hb
        rw [hon] at hback
        exact hne (by show decide (j < i) = flag listed j; unfold flag; rw [hlisted]; simp [hback])
      have hat := (hY i oi hin hoi).at (fun cs c => ok.sel i oi cs c hoi) hagree hw (K := wpAny P .any ops Q (f + 1) (listed.setIfInBounds i true)) (Q := Q) (fun w' hw' => by
        rw [← hdst, ← hfs]
        exact hnext w' (inv.set hi hin) (by have := left_set hiun his n hin; omega) hw')
      unfold wpOp
      simp only [hoi]
      split
      · rename_i hwt; rw [if_pos hwt] at hat; exact .inl hat
      · rename_i hwt; rw [if_neg hwt] at hat; exact hat

/-- The walk in the order of the text: each operation but the last one answers a value, whatever has grown. -/
def wpGrow (P : Program) (ops : Array Oper) (w0 : World) (L : Act → Prop) : List Oper → Act → Prop
  | [], a => L a
  | o :: rest, a => ∃ v, GYields P ops w0 o v a ∧ wpGrow P ops w0 L rest (a.put o.dst v)

theorem vals_of_grow {w0 : World} {L : Act → Prop} {a0 : Act} {n : Nat} : ∀ (l : List Oper) (k : Nat) (val : Nat → Value), (∀ j, j < l.length → l[j]? = ops[k + j]?) → k + l.length = n → wpGrow P ops w0 L l (fill ops val (fun _ => true) a0 k) →
    ∃ val' : Nat → Value, (∀ i, i < k → val' i = val i) ∧ (∀ (j : Nat) (oj : Oper), k ≤ j → j < n → ops[j]? = some oj → GYields P ops w0 oj (val' j) (fill ops val' (fun _ => true) a0 j)) ∧ L (fill ops val' (fun _ => true) a0 n)
  | [], k, val, _, hk, h => by
    have : k = n := by simpa using hk
    subst this
    exact ⟨val, fun _ _ => rfl, fun j _ h1 h2 => by omega, h⟩
  | o :: l, k, val, hl, hk, ⟨v, hy, h⟩ => by
    have h0 : ops[k]? = some o := by simpa using (hl 0 (by simp)).symm
    have same : ∀ m, m ≤ k → ∀ u : Nat → Value, (∀ i, i < k → u i = val i) → fill ops u (fun _ => true) a0 m = fill ops val (fun _ => true) a0 m := fun m hm u hu => fill_congr _ _ _ _ _ m (fun i hi => ⟨rfl, hu i (by omega)⟩)
    have hv1 : ∀ i, i < k → (fun i => if i = k then v else val i) i = val i := fun i hi => by simp only; rw [if_neg (by omega)]
    have step : fill ops (fun i => if i = k then v else val i) (fun _ => true) a0 (k + 1) = (fill ops val (fun _ => true) a0 k).put o.dst v := by
      show (fill ops (fun i => if i = k then v else val i) (fun _ => true) a0 k).put (dstOf ops k) (if k = k then v else val k) = _
      rw [same k (Nat.le_refl _) _ hv1, if_pos rfl]
      simp [dstOf, h0]
    rw [← step] at h
    obtain ⟨val', e1, e2, e3⟩ := vals_of_grow (n := n) l (k + 1) _ (fun j hj => by have := hl (j + 1) (by simp; omega); simpa [Nat.add_assoc, Nat.add_comm 1 j] using this) (by simp at hk; omega) h
    have e0 : ∀ i, i < k → val' i = val i := fun i hi => (e1 i (by omega)).trans (hv1 i hi)
    refine ⟨val', e0, fun j oj h1 h2 hj => ?_, e3⟩
    by_cases e : j = k
    · subst e
      rw [h0] at hj; cases hj
      rw [same j (Nat.le_refl _) val' e0, show val' j = v from (e1 j (by omega)).trans (by simp)]
      exact hy
    · exact e2 j oj (by omega) h2 hj

theorem any_region_grow {Q : Exit → Act → World → Prop} {a : Act} {w0 w : World} {l : List Oper} (n : Nat) (hB : growB l.toArray n = true) (hw : Below w0.heap.size w0 w)
    (h : wpGrow P l.toArray w0 (fun a' => ∀ w', Below w0.heap.size w0 w' → wpList P l.toArray Q (l.drop n) a' w') (l.take n) a) : wpAny P .any l.toArray Q l.toArray.size (Array.replicate l.toArray.size false) a w := by
  have ok := growB_ok hB
  have hlen : l.length = n + 1 := by simpa using ok.size
  obtain ⟨val, -, hY, hL⟩ := vals_of_grow (n := n) (a0 := a) (l.take n) 0 (fun _ => undef) (fun j hj => by
    have : j < n := by simp at hj; omega
    simp [this]) (by simp; omega) h
  have start : HeadInv .any l.toArray n (Array.replicate l.toArray.size false) :=
    ⟨by simp, (fun j oj _ hl => by rw [getD_replicate_false] at hl; cases hl), fun t _ ht => getD_in (by simpa using ht) (getD_replicate_false _ _)⟩
  have zero : ∀ k, fill l.toArray val (flag (Array.replicate l.toArray.size false)) a k = a := by
    intro k
    induction k with
    | zero => rfl
    | succ k ih =>
      show (if flag (Array.replicate l.toArray.size false) k then _ else _) = a
      rw [show flag (Array.replicate l.toArray.size false) k = false from getD_replicate_false _ _]
      exact ih
  have most : ∀ k, left (Array.replicate l.toArray.size false) k ≤ k := by
    intro k
    induction k with
    | zero => exact Nat.le_refl _
    | succ k ih => unfold left; split <;> omega
  have := any_of_grow (P := P) (Q := Q) ok (fun j oj hj ho => hY j oj (Nat.zero_le _) hj ho) (fun w' hw' => by
    have hn := hL w' hw'
    have hd : l.drop n = [l[n]] := by
      rw [List.drop_eq_getElem_cons (by omega), List.drop_eq_nil_of_le (by omega)]
    rw [hd] at hn
    unfold wpOp
    have ho : l.toArray[n]? = some l[n] := by simp
    simp only [ho]
    exact hn) n (Array.replicate l.toArray.size false) w start (most n) hw
  rw [zero n, ok.size] at this
  rw [ok.size]
  exact this

theorem wp_region_grow {id : Nat} {Q : Exit → Act → World → Prop} {a : Act} {w : World} {l : List Oper} (n : Nat) (hm : P.follows .mixedOrders = true) (hB : growB l.toArray n = true)
    (h : wpGrow P l.toArray w (fun a' => ∀ w', Below w.heap.size w w' → wpList P l.toArray Q (l.drop n) a' w') (l.take n) a) : (Code.region id l.toArray true).wp P Q a w :=
  wp_region_any hm (any_region_grow n hB ((Below.refl _ w).drew) h)

theorem wpGrow_nil {w0 : World} {L : Act → Prop} {a : Act} (h : L a) : wpGrow P ops w0 L [] a := h
theorem wpGrow_step {w0 : World} {L : Act → Prop} {o : Oper} {rest : List Oper} {a : Act} (v : Value) (h : ∀ w, Below w0.heap.size w0 w → ∀ K : Act → World → Prop, (∀ a' w', a' = a.put o.dst v → Below w0.heap.size w0 w' → K a' w') →
      if Region.wanted o (yielded ops a.tmps) then o.wp P a w K (fun _ _ _ => False) else K (a.put o.dst undef) w) (hr : wpGrow P ops w0 L rest (a.put o.dst v)) (hv : Region.wanted o (yielded ops a.tmps) = true ∨ v = undef) : wpGrow P ops w0 L (o :: rest) a := by
  refine ⟨v, fun w hw => ?_, hr⟩
  split
  · rename_i hwt
    intro K hK
    have := h w hw K hK
    rwa [if_pos hwt] at this
  · rename_i hwt
    exact hv.resolve_left hwt
/-- The same for an operation without a guard. -/
theorem wpGrow_plain {w0 : World} {L : Act → Prop} {o : Oper} {rest : List Oper} {a : Act} (hg : o.guard = none) {v : Value} (h : ∀ w, Below w0.heap.size w0 w → ∀ K : Act → World → Prop, (∀ a' w', a' = a.put o.dst v → Below w0.heap.size w0 w' → K a' w') → o.wp P a w K (fun _ _ _ => False))
    (hr : wpGrow P ops w0 L rest (a.put o.dst v)) : wpGrow P ops w0 L (o :: rest) a := by
  have hwt : Region.wanted o (yielded ops a.tmps) = true := by simp [Region.wanted, hg]
  exact wpGrow_step v (fun w hw K hK => by rw [if_pos hwt]; exact h w hw K hK) hr (.inl hwt)
end

theorem Holds.later {w : World} {b : Nat} {cs : Array Value} (h : Holds w b cs) :
    (∀ w', Below w.heap.size w w' → rowAt w' b = cs) ∧ (∀ w', Below w.heap.size w w' → ∀ j, w'.cell? ⟨b, j, none⟩ = cs[j]?) :=
  ⟨fun _ hb => (h.below hb h.lt).row, fun _ hb => (h.below hb h.lt).cell⟩
theorem below_onto {w w1 w2 : World} (h : Below w.heap.size w w1) (h2 : Below w1.heap.size w1 w2) : Below w.heap.size w w2 := h.trans (h2.mono h.size)
end Go.Proofs.Ytaeenkjbmlgcmaa

namespace Go.Proofs.Ytaeenkjbmlgcmaa
open Go.RowKit Go.Shelf

section
variable {P : Program} {l₀ n : Nat}

theorem upon_in {o : Oper} {a : Act} {next next' : Act → World → Prop} {Q : Exit → Act → World → Prop} (hn : ∀ a w, next a w → next' a w) {r : Result Next} (h : o.upon P a next Q r) : o.uponIn (Fence.wide.inRound l₀) n P a next' Q r := by
  unfold Oper.upon at h
  split at h
  · exact hn _ _ h
  · exact hn _ _ h
  · exact hn _ _ h
  · refine ⟨(fun hd => by cases hd), ?_⟩
    refine CallsIn.inRound l₀ (callsIn_wide.2 (h.mono ?_))
    intro e w'' he
    cases e with
    | returned v => exact hn _ _ he
    | panicked c => exact he
    | outgrown => exact he
  · refine ⟨(fun hd => by cases hd), fun c cs _ => ?_⟩
    obtain ⟨v, w', hr, hs⟩ := h c cs
    exact ⟨v, w', hn _ _ hr, stepsIn_wide.2 hs⟩
  · exact h
  · exact h.elim

theorem oper_in {o : Oper} {a : Act} {w : World} {next next' : Act → World → Prop} {Q : Exit → Act → World → Prop} (hnd : ∀ c, o.op ≠ .defer c) (hn : ∀ a w, next a w → next' a w) (h : o.wp P a w next Q) : o.wpIn (Fence.wide.inRound l₀) n P a w next' Q := by
  refine ⟨fun _ _ => trivial, ?_⟩
  rw [Fence.inRound_round, Oper.semAt_some l₀ _ _ hnd]
  exact upon_in hn h

/-- No operation of a region is a defer statement. -/
def noDefer (ops : List Oper) : Bool := ops.all fun o => match o.op with | .defer _ => false | _ => true
theorem noDefer_at {ops : List Oper} (h : noDefer ops = true) {o : Oper} (ho : o ∈ ops) : ∀ c, o.op ≠ .defer c := by
  intro c e
  have := List.all_eq_true.1 h o ho
  rw [e] at this
  cases this

theorem list_in {ops : Array Oper} {Q : Exit → Act → World → Prop} (hout : ¬ LetsOut Q) : ∀ (l : List Oper), noDefer l = true → ∀ (a : Act) (w : World), wpList P ops Q l a w → wpListIn (Fence.wide.inRound l₀) n P ops Q l a w
  | [], _, _, _, h => h
  | o :: rest, hd, a, w, h => by
    have hd' : noDefer rest = true := by simp only [noDefer, List.all_cons, Bool.and_eq_true] at hd; exact hd.2
    unfold wpList at h
    unfold wpListIn
    split
    · rename_i hw
      rw [if_pos hw] at h
      rcases h with h | ⟨_, h⟩
      · exact oper_in (noDefer_at hd (by simp)) (fun a w => list_in hout rest hd' a w) h
      · exact absurd h hout
    · rename_i hw
      rw [if_neg hw] at h
      exact ⟨fun _ _ => trivial, list_in hout rest hd' _ _ h⟩

theorem any_in {md : Region.Mode} {ops : Array Oper} {Q : Exit → Act → World → Prop} (hout : ¬ LetsOut Q) (hd : noDefer ops.toList = true) : ∀ (fuel : Nat) (listed : Array Bool) (a : Act) (w : World),
    wpAny P md ops Q fuel listed a w → wpAnyIn (Fence.wide.inRound l₀) n P md ops Q fuel listed a w
  | 0, _, _, _, h => h
  | fuel + 1, listed, a, w, h => by
    refine ⟨h.1, fun i hi => ?_⟩
    have h' := h.2 i hi
    unfold wpOp at h'
    unfold wpOpIn
    cases ho : ops[i]? with
    | none => simp only [ho] at h' ⊢; exact any_in hout hd fuel _ a w h'
    | some o =>
      simp only [ho] at h' ⊢
      split
      · rename_i hw
        rw [if_pos hw] at h'
        rcases h' with h' | ⟨_, h'⟩
        · exact oper_in (noDefer_at hd (by simpa using Array.mem_of_getElem? ho)) (fun a w => any_in hout hd fuel _ a w) h'
        · exact absurd h' hout
      · rename_i hw
        rw [if_neg hw] at h'
        exact ⟨fun _ _ => trivial, any_in hout hd fuel _ _ _ h'⟩

theorem wpIn_region_plain {id : Nat} {Q : Exit → Act → World → Prop} {a : Act} {w : World} {l : List Oper} (hd : noDefer l = true) (hout : ¬ LetsOut Q) (h : wpList P l.toArray Q l a w) : (Code.region id l.toArray false).wpIn (Fence.wide.inRound l₀) n P Q a w :=
  wpIn_region_lit (list_in hout l hd a w h)

/-- A region that draws its order, whose first operations only read and whose others come in one order. -/
theorem wpIn_region_tail {id : Nat} {Q : Exit → Act → World → Prop} {a : Act} {w : World} {l : List Oper} (k : Nat) (hm : P.follows .mixedOrders = true) (hd : noDefer l = true) (hout : ¬ LetsOut Q) (hB : Region.lexTailB .any l.toArray k = true)
    (h : wpStill P l.toArray w.drew (fun a' => wpList P l.toArray Q (l.drop k) a' w.drew) (l.take k) a) : (Code.region id l.toArray true).wpIn (Fence.wide.inRound l₀) n P Q a w := by
  refine wpIn_region_any hm (any_in hout (by simpa using hd) _ _ _ _ ?_)
  simp only [Region.lexTailB, Bool.and_eq_true, decide_eq_true_eq] at hB
  obtain ⟨⟨⟨⟨b1, b2⟩, b3⟩, b4⟩, b5⟩ := hB
  have s1 : (l.take k).length = k := by have := b2; simp at this ⊢; omega
  have s2 : (l.drop k).length = l.toArray.size - k := by simp
  have start : HeadInv .any l.toArray k (Array.replicate l.toArray.size false) :=
    ⟨by simp, (fun j oj _ hl => by rw [getD_replicate_false] at hl; cases hl), fun t _ ht => getD_in (by simpa using ht) (getD_replicate_false _ _)⟩
  have head := wpAnyL_lex (md := .any) (g := l.toArray.size - k) b1 b3 b4 b2 (l.take k) 0 _ a
    (fun j hj => by rw [s1] at hj; simp [hj]) (by simpa using s1) start (by rw [s1]; exact b5) h
  have whole := wpAny_of_head (Q' := Q) (g := l.toArray.size - k) (fun listed a' hL => by
    have tail := wpAny_of_seq (md := .any) (Q' := Q) (l.drop k) k listed a' w.drew (fun j => by simp [List.getElem?_drop]) (by rw [s2]; exact hL.1) hL.2
    rwa [s2] at tail) _ _ _ head
  have total : k + (l.toArray.size - k) = l.toArray.size := by omega
  rw [s1, total] at whole
  exact whole

theorem wpIn_region_grow {id : Nat} {Q : Exit → Act → World → Prop} {a : Act} {w : World} {l : List Oper} (k : Nat) (hm : P.follows .mixedOrders = true) (hd : noDefer l = true) (hout : ¬ LetsOut Q) (hB : growB l.toArray k = true)
    (h : wpGrow P l.toArray w (fun a' => ∀ w', Below w.heap.size w w' → wpList P l.toArray Q (l.drop k) a' w') (l.take k) a) : (Code.region id l.toArray true).wpIn (Fence.wide.inRound l₀) n P Q a w :=
  wpIn_region_any hm (any_in hout (by simpa using hd) _ _ _ _ (any_region_grow k hB ((Below.refl _ w).drew) h))
end
end Go.Proofs.Ytaeenkjbmlgcmaa

namespace Go.Proofs.Ytaeenkjbmlgcmaa
open Go.RowKit Go.Shelf
attribute [local go_sem] Oper.semAt_some
attribute [local go_sem ↓] loadRow loadGrid loadLawn loadMirror storeRow storeGrid storeLawn allocRow allocGrid allocLawn buildZero buildSides eqlGrid eqlLawn loadRow' loadGrid' loadLawn' storeRow' storeGrid' storeLawn' allocRow' allocGrid' allocLawn' buildZero' buildSides' eqlGrid' eqlLawn'

theorem Holds.grown {w w' : World} {b : Nat} {cs : Array Value} {row : Option Nat} (h : Holds w b cs) (hg : w.grownBy w' row) (hr : ∀ r, row = some r → ∃ o : Obj, w.heap[r]? = some o ∧ o.isCells = false) : Holds w' b cs := by
  obtain ⟨t, ht⟩ := h
  refine ⟨t, (hg.block b (Array.getElem?_eq_some_iff.1 ht).1 (fun e => ?_)).trans ht⟩
  obtain ⟨o, ho, hc⟩ := hr b e.symm
  rw [ht] at ho; cases ho; cases hc
theorem holds_own {β : Type} (b : Nat) (f : β → Array Value) : Own (fun s W => Holds W b (f s)) := fun _ _ _ _ hs hg hr => hs.grown hg hr
theorem pure_own {β : Type} (p : β → Prop) : Own (fun s (_ : World) => p s) := fun _ _ _ _ hs _ _ => hs
theorem ownAnd {β : Type} {I I' : β → World → Prop} (h : Own I) (h' : Own I') : Own (fun s W => I s W ∧ I' s W) := fun s W W' row hs hg hr => ⟨h s W W' row hs.1 hg hr, h' s W W' row hs.2 hg hr⟩
theorem keeps_setRow (W : World) (g : Nat) (cs : Array Value) : KeepsOthers W (W.setRow g cs) :=
  ⟨by simp, fun k o hk ho => by
    by_cases e : k = g
    · subst e
      have hlt := (Array.getElem?_eq_some_iff.1 hk).1
      have hv := (Array.getElem?_eq_some_iff.1 hk).2
      unfold World.setRow
      rw [Array.getElem?_eq_getElem (by simpa using hlt), Array.getElem_modify]
      simp only [↓reduceIte, hv]
      cases o <;> first | rfl | (cases ho)
    · exact (setRow_other W g k cs e).trans hk⟩

set_option maxRecDepth 100000 in
set_option maxHeartbeats 400000 in
theorem kind_any (L : Lawn) (x y : Nat) (hx : x < 10) (hy : y < 10) (w : World) :
    Calls Try.prog 111 #[.agg L.cells, .agg #[.int .i8 x, .int .i8 y]] w fun e w' => e = .returned (.int .u8 (L.kind y x)) ∧ Below w.heap.size w w' := by
  have hx0 : (0 : Int) ≤ x := by omega
  have hx1 : (x : Int) < 10 := by omega
  have hy0 : (0 : Int) ≤ y := by omega
  have hy1 : (y : Int) < 10 := by omega
  have ck : L.cells[2 + y * 10 + x]? = some (.int .u8 (L.kind y x)) := Lawn.cells_get L y x hy hx
  have cs : 2 + y * 10 + x < 102 := by omega
  have ca : L.cells[2 + y * 10 + x]'(by simp; omega) = .int .u8 (L.kind y x) := by
    rw [Array.getElem?_eq_getElem (by simp; omega)] at ck; exact Option.some.inj ck
  clear ck
  go_enter Try.func111, Try.ntmps111
  go_wp2
  go_quiet (fail)
  go_wp2
  go_ret
  exact ⟨rfl, below_drewN (((Below.refl _ _).alloc (Nat.le_refl _) _).alloc (by simp) _) _⟩

/-- The kinds of the cells that have come; 0 elsewhere. -/
def seen {W H : Nat} (K : Nat → Nat → Int) (pre : List (Fin W × Fin H)) (y x : Nat) : Int := if pre.any (fun c => c.2.val == y && c.1.val == x) then K y x else 0
theorem seen_nil {W H : Nat} (K : Nat → Nat → Int) : gridOf (seen K ([] : List (Fin W × Fin H))) = gridOf fun _ _ => 0 := gridOf_ext fun y x _ _ => by simp [seen]
theorem seen_snoc {W H : Nat} (hW : W ≤ 10) (K : Nat → Nat → Int) (pre : List (Fin W × Fin H)) (c : Fin W × Fin H) :
    (gridOf (seen K pre)).setIfInBounds (c.2.val * 10 + c.1.val) (.int .u8 (K c.2.val c.1.val)) = gridOf (seen K (pre ++ [c])) := by
  obtain ⟨⟨j, hj⟩, ⟨k, hk⟩⟩ := c
  unfold gridOf
  apply rowOf_of
  · simp
  · intro i hi
    rw [Array.getElem?_setIfInBounds]
    by_cases e : k * 10 + j = i
    · subst e
      rw [if_pos rfl, if_pos (by simp; omega)]
      rw [show (k * 10 + j) / 10 = k by omega, show (k * 10 + j) % 10 = j by omega]
      simp [seen]
    · rw [if_neg e, rowOf_get _ _ _ hi]
      have hne : ¬ (k = i / 10 ∧ j = i % 10) := fun h => e (by omega)
      have hb : (k == i / 10 && j == i % 10) = false := by
        cases h : (k == i / 10 && j == i % 10) with
        | false => rfl
        | true => simp only [Bool.and_eq_true, beq_iff_eq] at h; exact absurd h hne
      simp only [seen, List.any_append, List.any_cons, List.any_nil, Bool.or_false, hb]
/-- Of a lawn with sides as told and kinds as told: it is valid where it is what its cells are. -/
theorem valid_of_seen {W H : Nat} (hW : W ≤ 10) (hH : H ≤ 10) (hW1 : 1 ≤ W) (hH1 : 1 ≤ H) (K : Nat → Nat → Int) (h : ∀ c ∈ allC W H, inB (K c.2 c.1) 0 3 = true) :
    gridEq K (seen K (allC W H)) = validB ⟨(W : Int), (H : Int), K⟩ := by
  have hin : ∀ y x, (allC W H).any (fun c => c.2.val == y && c.1.val == x) = true ↔ x < W ∧ y < H := by
    intro y x
    rw [List.any_eq_true]
    constructor
    · rintro ⟨c, _, hc⟩
      simp only [Bool.and_eq_true, beq_iff_eq] at hc
      have := c.1.isLt; have := c.2.isLt; omega
    · rintro ⟨hx, hy⟩
      exact ⟨(⟨x, hx⟩, ⟨y, hy⟩), allC_mem _ _ _, by simp⟩
  have hk : ∀ y x, x < W → y < H → inB (K y x) 0 3 = true := fun y x hx hy => h (⟨x, hx⟩, ⟨y, hy⟩) (allC_mem _ _ _)
  have his : ∀ y x : Nat, isB ⟨(W : Int), (H : Int), K⟩ x y = decide (x < W ∧ y < H) := by
    intro y x
    rw [Bool.eq_iff_iff]
    simp only [isB, inB, Bool.and_eq_true, decide_eq_true_eq]
    omega
  cases hv : validB ⟨(W : Int), (H : Int), K⟩ with
  | true =>
    obtain ⟨-, -, hv⟩ := validB_true hv
    refine gridEq_of fun y x hy hx => ?_
    unfold seen
    by_cases e : x < W ∧ y < H
    · rw [if_pos ((hin y x).2 e)]
    · rw [if_neg (fun he => e ((hin y x).1 he))]
      have := hv y x hy hx
      simp only [okAt, Bool.and_eq_true, Bool.or_eq_true, beq_iff_eq, his, decide_eq_true_eq] at this
      exact this.2.resolve_right e
  | false =>
    cases hg : gridEq K (seen K (allC W H)) with
    | false => rfl
    | true =>
      have hg := gridEq_true hg
      rw [← hv]
      refine (validB_of (inB_yes (by dsimp only; omega) (by dsimp only; omega)) (inB_yes (by dsimp only; omega) (by dsimp only; omega)) (fun y x hy hx _ => ?_)).symm
      have hyx := hg y x hy hx
      unfold seen at hyx
      simp only [okAt, Bool.and_eq_true, Bool.or_eq_true, beq_iff_eq, his, decide_eq_true_eq]
      by_cases e : x < W ∧ y < H
      · exact ⟨hk y x e.1 e.2, .inr e⟩
      · rw [if_neg (fun he => e ((hin y x).1 he))] at hyx
        rw [hyx]
        exact ⟨by decide, .inl rfl⟩

set_option maxRecDepth 100000 in
set_option maxHeartbeats 1000000 in
theorem valid_loop (Wn Hn : Nat) (hW : Wn ≤ 10) (hH : Hn ≤ 10) (hW1 : 1 ≤ Wn) (hH1 : 1 ≤ Hn) (L : Lawn) (hLw : L.wide = Wn) (hLh : L.high = Hn) (hF : ∀ y x, y < 10 → x < 10 → 0 ≤ L.kind y x ∧ L.kind y x ≤ 255) (w : World) :
    Calls Try.prog 98 #[.agg L.cells] w fun e w' => e = .returned (.bool (validB L)) ∧ Below w.heap.size w w' := by
  have hws : inB L.wide 1 10 = true := inB_yes (by omega) (by omega)
  have hhs : inB L.high 1 10 = true := inB_yes (by omega) (by omega)
  have b1 : -128 ≤ L.wide ∧ L.wide ≤ 127 ∧ -128 ≤ L.high ∧ L.high ≤ 127 := by omega
  obtain ⟨b1, b2, b3, b4⟩ := b1
  have HL : Hid (L = ⟨(Wn : Int), (Hn : Int), L.kind⟩) := Lib.hid (by cases L; simp_all)
  clear hLw hLh
  refine (callsIn_wide (n := 9)).1 ?_
  refine callsIn_of_wp_marks Try.func98 rfl trivial ?_ rfl
  simp only [Try.ntmps98, List.size_toArray, List.length_cons, List.length_nil, Nat.reduceAdd, Nat.reduceSub, Array.replicate_succ, Array.replicate_zero, List.push_toArray, List.append_toArray, List.nil_append, List.cons_append]
  gi_wp2_with (first | (refine ⟨trivial, ?_⟩; gi_at_call 131; ((with_reducible refine (callsIn_wide.2 (side_is _ _ hws _)).mono ?_); rintro e w1 ⟨rfl, rfl⟩)) | (refine ⟨trivial, ?_⟩; gi_at_call 131; ((with_reducible refine (callsIn_wide.2 (side_is _ _ hhs _)).mono ?_); rintro e w1 ⟨rfl, rfl⟩)) | (refine ⟨trivial, ?_⟩; gi_at_call 99; refine (each_in Fence.wide _ trivial rfl _ _).mono ?_; rintro e w1 ⟨rfl, rfl⟩))
  obtain ⟨W0, hW0⟩ : ∃ W0, (((w.alloc (.cells L.cells 29)).alloc (.cells #[.bool false] 4)).alloc (.cells (gridOf fun _ _ => 0) 24)).alloc (.cells L.cells 29) = W0 := ⟨_, rfl⟩
  have g0 : Holds W0 w.heap.size L.cells := by rw [← hW0]; exact (((Holds.new _ _ _).alloc _).alloc _).alloc _
  have g1 : Holds W0 (w.heap.size + 1) #[.bool false] := by rw [← hW0]; exact ((Holds.new' _ _ _ _ (by simp)).alloc _).alloc _
  have g2 : Holds W0 (w.heap.size + 1 + 1) (gridOf fun _ _ => 0) := by rw [← hW0]; exact (Holds.new' _ _ _ _ (by simp)).alloc _
  have g3 : Holds W0 (w.heap.size + 1 + 1 + 1) L.cells := by rw [← hW0]; exact Holds.new' _ _ _ _ (by simp)
  have hB0 : Below w.heap.size w W0 := by rw [← hW0]; exact ((((Below.refl _ _).alloc (Nat.le_refl _) _).alloc (by simp) _).alloc (by simp; omega) _).alloc (by simp; omega) _
  have hsz : W0.heap.size = w.heap.size + 4 := by rw [← hW0]; simp
  rw [hW0]
  clear hW0
  have HZ := Lib.hid hsz
  refine wpIn_rangeFunc_ownH (α := Fin Wn × Fin Hn) rfl (by omega) (gf := 133) (lb := #[.pointer (some ⟨w.heap.size + 1 + 1 + 1, 0, none⟩)]) rfl trivial (enters_of Try.func133 (by kernel_rfl) rfl)
    (each_stops Fence.wide _ trivial rfl (by omega) (w.heap.size + 1 + 1 + 1) Wn Hn hW hH L.kind W0 (by omega) (by rw [← HL.out]; exact g3)) keepB_t (keepB_b (by omega)) (Below.refl _ _) (fun _ => rfl)
    (fun pre W => (Holds W w.heap.size L.cells ∧ Holds W (w.heap.size + 1) #[.bool false] ∧ Holds W (w.heap.size + 1 + 1) (gridOf (seen L.kind pre)) ∧ Holds W (w.heap.size + 1 + 1 + 1) L.cells ∧ (∀ c ∈ pre, inB (L.kind c.2 c.1) 0 3 = true)) ∧ Below w.heap.size w W)
    (fun c pre W => (c = .ret ∧ Holds W (w.heap.size + 1) #[.bool false] ∧ (∃ c ∈ pre, inB (L.kind c.2 c.1) 0 3 = false)) ∧ Below w.heap.size w W)
    (OwnFrom.and (Own.from (ownAnd (holds_own _ (fun _ => L.cells)) (ownAnd (holds_own _ (fun _ => #[.bool false])) (ownAnd (holds_own _ (fun pre => gridOf (seen L.kind pre))) (ownAnd (holds_own _ (fun _ => L.cells)) (pure_own _))))) _) (ownFrom_below (Nat.le_refl _) (by omega)))
    (fun c => OwnFrom.and (Own.from (ownAnd (pure_own _) (ownAnd (holds_own _ (fun _ => #[.bool false])) (pure_own _))) _) (ownFrom_below (Nat.le_refl _) (by omega)))
    ⟨⟨g0, g1, by rw [seen_nil]; exact g2, g3, by simp⟩, hB0⟩
    (fun x a' W => ∃ Bx, w.heap.size + 4 ≤ Bx ∧ Holds W Bx #[.int .i8 ((x.1 : Nat) : Int), .int .i8 ((x.2 : Nat) : Int)] ∧ a' = { tmps := #[.agg L.cells, .pointer (some ⟨w.heap.size, 0, none⟩), .pointer (some ⟨w.heap.size + 1, 0, none⟩), .pointer (some ⟨w.heap.size + 1 + 1, 0, none⟩), .pointer (some ⟨Bx, 0, none⟩), .pointer (some ⟨w.heap.size, 0, none⟩), .int .i8 L.wide, .int .i64 L.wide, .bool true, .bool false, .bool false, .pointer (some ⟨w.heap.size, 1, none⟩), .int .i8 L.high, .int .i64 L.high, .bool true, .bool false, .bool false, .agg L.cells, .func (.func 133) #[] #[.pointer (some ⟨w.heap.size + 1 + 1 + 1, 0, none⟩)], .agg #[.int .i8 ((x.1 : Nat) : Int), .int .i8 ((x.2 : Nat) : Int)], undef, undef, undef, undef, undef, undef, undef, undef, undef, undef, undef, undef, undef, undef, undef, undef, undef, undef, undef], defers := [] })
    (fun x a' => fun _ W W' row ⟨Bx, h1, h2, h3⟩ hg hr => ⟨Bx, h1, h2.grown hg (fun r e => (hr r e).2), h3⟩)
    ?assign ?body ?done ?stop
  case assign =>
    rintro l pre x W K' ⟨⟨i0, i1, i2, i3, i4⟩, iB⟩ hK
    have hlt := i3.lt
    simp only [cellA, cellV]
    gi_wp2
    exact hK _ _ ((KeepsOthers.alloc _ _).from _) (KeepB.of_below ((Below.refl _ W).alloc (Nat.le_refl _) _) hlt) ⟨⟨i0.alloc _, i1.alloc _, i2.alloc _, i3.alloc _, i4⟩, iB.alloc iB.size _⟩ ⟨_, by omega, Holds.new _ _ _, rfl⟩
  case body =>
    rintro l pre x a' W hl ⟨r, hr⟩ ⟨⟨i0, i1, i2, i3, i4⟩, iB⟩ ⟨Bx, hBx, bX, rfl⟩ hlt
    have hl3 := i3.lt
    obtain ⟨r0, -, -, -, l0⟩ := i0.facts
    obtain ⟨rx, -, cx, -, lx⟩ := bX.facts
    have hx := x.1.isLt
    have hy := x.2.isLt
    obtain ⟨⟨xj, hxj⟩, ⟨xk, hxk⟩⟩ := x
    dsimp only at *
    clear hr
    clear hsz
    gi_wp2_with fail
    refine ⟨trivial, CallsIn.inRound l (callsIn_wide.2 ((kind_any L xj xk (by omega) (by omega) W).mono ?_))⟩
    rintro e w1 ⟨rfl, hb1⟩
    have j0 := i0.below hb1 i0.lt
    have j1 := i1.below hb1 i1.lt
    have j2 := i2.below hb1 i2.lt
    have j3 := i3.below hb1 i3.lt
    have jX := bX.below hb1 bX.lt
    have jB : Below w.heap.size w w1 := iB.trans (hb1.mono iB.size)
    have jK : KeepsOthers W w1 := ⟨hb1.size, fun k o hk _ => (hb1.block k (Array.getElem?_eq_some_iff.1 hk).1).trans hk⟩
    have jb : KeepB (w.heap.size + 1 + 1 + 1) W w1 := KeepB.of_below hb1 hl3
    clear hb1 i0 i1 i2 i3 bX r0 l0 rx cx lx iB
    have jl := j3.lt
    obtain ⟨k0, k1⟩ := hF xk xj (by omega) (by omega)
    cases hkd : inB (L.kind xk xj) 0 3
    case false =>
      obtain ⟨-, f1, c1, z1, l1⟩ := j1.facts
      gi_wp2_with (refine ⟨trivial, ?_⟩; gi_at_call 132; refine (CallsIn.inRound l (callsIn_wide.2 (kind_is _ _ hkd _))).mono ?_; rintro e w2 ⟨rfl, rfl⟩)
      exact ⟨(jK.trans (KeepsOthers.setCell _ _ _)).from _, ⟨rfl, j1.setCell 0 (.bool false), ⟨(⟨xj, hxj⟩, ⟨xk, hxk⟩), by simp, hkd⟩⟩, jB.setCell (p := ⟨w.heap.size + 1, 0, none⟩) (by dsimp only; omega) _⟩
    case true =>
      obtain ⟨r0, -, -, -, l0⟩ := j0.facts
      obtain ⟨-, -, cx, -, lx⟩ := jX.facts
      gi_wp2_with (refine ⟨trivial, ?_⟩; gi_at_call 132; refine (CallsIn.inRound l (callsIn_wide.2 (kind_is _ _ hkd _))).mono ?_; rintro e w2 ⟨rfl, rfl⟩)
      have hj0 : (0 : Int) ≤ xj := by omega
      have hj1 : (xj : Int) < 10 := by omega
      have hk0 : (0 : Int) ≤ xk := by omega
      have hk1 : (xk : Int) < 10 := by omega
      clear r0 l0 cx lx hF k0 k1 hlt hl hws hhs b1 b2 b3 b4 g0 g1 g2 g3 hB0
      obtain ⟨r0, c0⟩ := j0.later
      obtain ⟨rx, cx⟩ := jX.later
      refine wpIn_region_grow 9 (by kernel_rfl) rfl (by rintro ⟨_, _, h⟩; exact h) (by kernel_rfl) ?_
      simp only [List.take_succ_cons, List.take_zero, List.drop_succ_cons, List.drop_zero]
      iterate 9
        apply wpGrow_plain rfl
        · intro w' hw' K hK
          go_wp2_with (go_at_call 111; refine (kind_any L xj xk (by omega) (by omega) _).mono ?_; rintro e w2 ⟨rfl, hb2⟩)
          first | exact hK _ _ rfl hw' | exact hK _ _ rfl (below_onto hw' hb2)
        simp only [Act.put, List.setIfInBounds_toArray, List.set_cons_succ, List.set_cons_zero]
      refine wpGrow_nil ?_
      intro W2 hW2
      have q0 := j0.below hW2 j0.lt
      have q1 := j1.below hW2 j1.lt
      have q2 := j2.below hW2 j2.lt
      have q3 := j3.below hW2 j3.lt
      have qB : Below w.heap.size w W2 := jB.trans (hW2.mono jB.size)
      have qK : KeepsOthers W W2 := jK.trans ⟨hW2.size, fun k o hk _ => (hW2.block k (Array.getElem?_eq_some_iff.1 hk).1).trans hk⟩
      have qb : KeepB (w.heap.size + 1 + 1 + 1) W W2 := keepB_t jb (KeepB.of_below hW2 jl)
      clear hW2 r0 c0 rx cx j0 j1 j2 j3 jX jB jK jb jl
      obtain ⟨-, -, c2, z2, l2⟩ := q2.facts
      have c2' : W2.cell? ⟨w.heap.size + 1 + 1, xk * 10 + xj, none⟩ = some (.int .u8 (seen L.kind pre xk xj)) := (c2 _).trans (gridOf_get _ _ _ (by omega) (by omega))
      clear c2
      go_wp2
      have hsn := seen_snoc hW L.kind pre (⟨xj, hxj⟩, ⟨xk, hxk⟩)
      exact ⟨(qK.trans (KeepsOthers.setCell _ _ _)).from _, keepB_t qb (Below.heap_setCell _ _ _ _ (by dsimp only; omega)),
        ⟨q0.setCell_other _ _ (by dsimp only; omega), q1.setCell_other _ _ (by dsimp only; omega), hsn ▸ q2.setCell _ _, q3.setCell_other _ _ (by dsimp only; omega), fun c hc => (List.mem_append.1 hc).elim (i4 c) (fun h => by rw [List.mem_singleton.1 h]; exact hkd)⟩,
        qB.setCell (p := ⟨w.heap.size + 1 + 1, xk * 10 + xj, none⟩) (by dsimp only; omega) _⟩
  case done =>
    rintro D ys W hD rfl ⟨⟨i0, i1, i2, i3, i4⟩, iB⟩ hK
    have HV := Lib.hid (valid_of_seen hW hH hW1 hH1 L.kind i4)
    obtain ⟨r0, -, -, -, l0⟩ := i0.facts
    obtain ⟨-, f1, c1, z1, l1⟩ := i1.facts
    obtain ⟨r2, -, -, -, l2⟩ := i2.facts
    clear i4 hF g0 g1 g2 g3
    gi_wp2
    have hv : gridEq L.kind (seen L.kind (allC Wn Hn)) = validB L := HV.out.trans (congrArg validB HL.out.symm)
    have hK' := (KeepsOthers.setCell W ⟨w.heap.size + 1, 0, none⟩ (.bool (gridEq L.kind (seen L.kind (allC Wn Hn))))).same D _ hK rfl
    have hc := ((i1.setCell 0 (.bool (gridEq L.kind (seen L.kind (allC Wn Hn))))).grown (grownBy_putObj' _ D (.deferred none)) (fun r e => by cases e; exact ⟨_, hK', rfl⟩)).cell 0
    have hc' : World.cell? (World.putObj (W.setCell ⟨w.heap.size + 1, 0, none⟩ (.bool (gridEq L.kind (seen L.kind (allC Wn Hn))))) D (.deferred none)) ⟨w.heap.size + 1, 0, none⟩ = some (.bool (gridEq L.kind (seen L.kind (allC Wn Hn)))) := hc
    refine ⟨by simp, .inl ⟨_, _, rfl, run_takeDeferred hK', ?_⟩⟩
    refine ⟨.bool (gridEq L.kind (seen L.kind (allC Wn Hn))), ?_, by rw [hv], (iB.setCell (p := ⟨w.heap.size + 1, 0, none⟩) (by simp) _).trans (belowK_b (w := w) (Nat.le_refl _) _ D _ _ (by omega) hK' rfl rfl)⟩
    clear hv HV hc
    simp [results, Try.f98, go_sem, hc']
  case stop =>
    rintro D c pre W hD hpre ⟨⟨rfl, i1, ⟨cc, hcm, hcb⟩⟩, iB⟩ hK
    have hv : validB L = false := validB_not (y := cc.2) (x := cc.1) (by have := cc.2.isLt; omega) (by have := cc.1.isLt; omega) (by simp [okAt, hcb])
    have HV := Lib.hid hv
    clear hv hcb hcm hpre hF
    gi_wp2
    have hc := (i1.grown (grownBy_putObj' _ D (.deferred none)) (fun r e => by cases e; exact ⟨_, hK, rfl⟩)).cell 0
    have hc' : World.cell? (World.putObj W D (.deferred none)) ⟨w.heap.size + 1, 0, none⟩ = some (.bool false) := hc
    refine ⟨by simp, .inl ⟨_, _, rfl, run_takeDeferred hK, ?_⟩⟩
    refine ⟨.bool false, ?_, by rw [HV.out], iB.trans (belowK_b (w := w) (Nat.le_refl _) _ D _ _ (by omega) hK rfl rfl)⟩
    clear HV hc
    simp [results, Try.f98, go_sem, hc']

set_option maxRecDepth 100000 in
set_option maxHeartbeats 400000 in
theorem valid_wide (L : Lawn) (b1 : -128 ≤ L.wide) (b2 : L.wide ≤ 127) (hw : inB L.wide 1 10 = false) (w : World) :
    Calls Try.prog 98 #[.agg L.cells] w fun e w' => e = .returned (.bool false) ∧ Below w.heap.size w w' := by
  go_enter Try.func98, Try.ntmps98
  go_wp2_with (go_at_call 131; refine (side_is _ _ hw _).mono ?_; rintro e w1 ⟨rfl, rfl⟩)
  refine bodyPost_ret (v := .bool false) ?_ rfl ⟨rfl, ((Below.refl _ _).alloc (Nat.le_refl _) _).alloc (by simp) _⟩
  simp [results, Try.f98, go_sem]
set_option maxRecDepth 100000 in
set_option maxHeartbeats 400000 in
theorem valid_high (L : Lawn) (b1 : -128 ≤ L.wide) (b2 : L.wide ≤ 127) (b3 : -128 ≤ L.high) (b4 : L.high ≤ 127) (hw : inB L.wide 1 10 = true) (hh : inB L.high 1 10 = false) (w : World) :
    Calls Try.prog 98 #[.agg L.cells] w fun e w' => e = .returned (.bool false) ∧ Below w.heap.size w w' := by
  go_enter Try.func98, Try.ntmps98
  go_wp2_with (first | (go_at_call 131; ((with_reducible refine (side_is _ _ hw _).mono ?_); rintro e w1 ⟨rfl, rfl⟩)) | (go_at_call 131; ((with_reducible refine (side_is _ _ hh _).mono ?_); rintro e w1 ⟨rfl, rfl⟩)))
  refine bodyPost_ret (v := .bool false) ?_ rfl ⟨rfl, ((Below.refl _ _).alloc (Nat.le_refl _) _).alloc (by simp) _⟩
  simp [results, Try.f98, go_sem]

/-- **ValidLawn answers whether the lawn is valid.** -/
theorem implValid_any (L : Lawn) (hL : L.Fits) (w : World) :
    Calls Try.prog 98 #[.agg L.cells] w fun e w' => e = .returned (.bool (validB L)) ∧ Below w.heap.size w w' := by
  cases hws : inB L.wide 1 10
  · rw [validB_wide hws]; exact valid_wide L hL.w0 hL.w1 hws w
  cases hhs : inB L.high 1 10
  · rw [validB_high hhs]; exact valid_high L hL.w0 hL.w1 hL.h0 hL.h1 hws hhs w
  obtain ⟨w1, w2⟩ := inB_true hws
  obtain ⟨h1, h2⟩ := inB_true hhs
  exact valid_loop L.wide.toNat L.high.toNat (by omega) (by omega) (by omega) (by omega) L (by omega) (by omega) (fun y x hy hx => ⟨hL.k0 y x hy hx, hL.k1 y x hy hx⟩) w
end Go.Proofs.Ytaeenkjbmlgcmaa

namespace Go.Proofs.Ytaeenkjbmlgcmaa
open Go.RowKit Go.Shelf

/-- Of what lay in w, only the blocks of T may lie otherwise in w'. -/
structure Only (T : List Nat) (w w' : World) : Prop where
  os : w'.os = w.os
  tape : w'.tape = w.tape
  output : w'.output = w.output
  size : w.heap.size ≤ w'.heap.size
  block : ∀ k, k < w.heap.size → k ∉ T → w'.heap[k]? = w.heap[k]?

theorem Only.refl (T : List Nat) (w : World) : Only T w w := ⟨rfl, rfl, rfl, Nat.le_refl _, fun _ _ _ => rfl⟩
theorem Only.trans {T : List Nat} {a b c : World} (h : Only T a b) (k : Only T b c) : Only T a c :=
  ⟨k.os.trans h.os, k.tape.trans h.tape, k.output.trans h.output, Nat.le_trans h.size k.size, fun i hi ht => (k.block i (Nat.lt_of_lt_of_le hi h.size) ht).trans (h.block i hi ht)⟩
theorem Only.mono {T T' : List Nat} {w w' : World} (h : Only T w w') (hT : ∀ k ∈ T, k ∈ T') : Only T' w w' := ⟨h.os, h.tape, h.output, h.size, fun k hk ht => h.block k hk (fun hm => ht (hT k hm))⟩
theorem Only.alloc {T : List Nat} {w0 w : World} (h : Only T w0 w) (o : Obj) : Only T w0 (w.alloc o) :=
  ⟨h.os, h.tape, h.output, by have := h.size; simp; omega, fun k hk ht => (Below.heap_alloc w o k (Nat.lt_of_lt_of_le hk h.size)).trans (h.block k hk ht)⟩
theorem Only.drew {T : List Nat} {w0 w : World} (h : Only T w0 w) : Only T w0 w.drew := ⟨h.os, h.tape, h.output, h.size, h.block⟩
theorem Only.setCell {T : List Nat} {w0 w : World} (h : Only T w0 w) {a : Addr} (ha : a.block ∈ T ∨ w0.heap.size ≤ a.block) (v : Value) : Only T w0 (w.setCell a v) :=
  ⟨h.os, h.tape, h.output, by have := h.size; simpa using this, fun k hk ht => (Below.heap_setCell w a v k (fun e => by subst e; rcases ha with ha | ha; exact ht ha; omega)).trans (h.block k hk ht)⟩
theorem Only.setRow {T : List Nat} {w0 w : World} (h : Only T w0 w) {g : Nat} (ha : g ∈ T ∨ w0.heap.size ≤ g) (cs : Array Value) : Only T w0 (w.setRow g cs) :=
  ⟨h.os, h.tape, h.output, by have := h.size; simpa [World.setRow] using this, fun k hk ht => (setRow_other w g k cs (fun e => by subst e; rcases ha with ha | ha; exact ht ha; omega)).trans (h.block k hk ht)⟩
theorem Only.below {T : List Nat} {w0 w w' : World} {B : Nat} (h : Only T w0 w) (hb : Below B w w') (hB : w0.heap.size ≤ B) : Only T w0 w' :=
  ⟨hb.os.trans h.os, hb.tape.trans h.tape, hb.output.trans h.output, Nat.le_trans h.size hb.size, fun k hk ht => (hb.block k (Nat.lt_of_lt_of_le hk hB)).trans (h.block k hk ht)⟩
theorem Only.onto {T : List Nat} {w0 w w' : World} (h : Only T w0 w) (hb : Below w.heap.size w w') : Only T w0 w' := h.below hb h.size
theorem Only.grown {T : List Nat} {w0 w w' : World} {row : Option Nat} (h : Only T w0 w) (hg : w.grownBy w' row) (hr : ∀ k, row = some k → k ∈ T ∨ w0.heap.size ≤ k) : Only T w0 w' :=
  ⟨hg.os.trans h.os, hg.tape.trans h.tape, hg.output.trans h.output, Nat.le_trans h.size hg.size, fun k hk ht => by
    refine (hg.block k (Nat.lt_of_lt_of_le hk h.size) (fun e => ?_)).trans (h.block k hk ht)
    rcases hr k e.symm with h1 | h1
    · exact ht h1
    · omega⟩
theorem Only.putObj {T : List Nat} {w0 w : World} (h : Only T w0 w) {l : Nat} (hl : w0.heap.size ≤ l) (o : Obj) : Only T w0 (w.putObj l o) := h.grown (grownBy_putObj' w l o) (fun k e => by cases e; exact .inr hl)
theorem Only.holds {T : List Nat} {w w' : World} {b : Nat} {cs : Array Value} (h : Only T w w') (hh : Holds w b cs) (hb : b ∉ T) : Holds w' b cs := by
  have hl := hh.lt
  obtain ⟨t, ht⟩ := hh
  exact ⟨t, (h.block b hl hb).trans ht⟩
theorem Only.own {T : List Nat} {w w' : World} {B : Nat} {e : TypeId} {size n : Nat} {v : Value} {xs : List Value} (h : Only T w w') (ho : w.ownsRow B e size v n xs) (hb : ∀ k, v.ownBlock = some k → k ∉ T) : w'.ownsRow B e size v n xs := by
  refine ⟨ho.1, ?_⟩
  rcases ho.2 with h2 | ⟨g, cap, cur, hv, hbg, hg, r⟩
  · exact .inl h2
  · exact .inr ⟨g, cap, cur, hv, hbg, (h.block g (Array.getElem?_eq_some_iff.1 hg).1 (hb g (by rw [hv]; rfl))).trans hg, r⟩
theorem Only.toBelow {T : List Nat} {w w' : World} {B : Nat} (h : Only T w w') (hT : ∀ k ∈ T, B ≤ k) (hB : B ≤ w.heap.size) : Below B w w' :=
  ⟨h.os, h.tape, h.output, h.size, fun k hk => h.block k (Nat.lt_of_lt_of_le hk hB) (fun hm => by have := hT k hm; omega)⟩
theorem Only.ofBelow {T : List Nat} {w w' : World} (h : Below w.heap.size w w') : Only T w w' := ⟨h.os, h.tape, h.output, h.size, fun k hk _ => h.block k hk⟩
theorem ownFrom_only {β : Type} {T : List Nat} {B : Nat} {w0 : World} (hB : w0.heap.size ≤ B) : OwnFrom B (fun (_ : β) W => Only T w0 W) :=
  fun _ _ _ _ hs hg hr => hs.grown hg (fun k e => .inr (Nat.le_trans hB (hr k e).1))
theorem keeps_below {W W' : World} (h : Below W.heap.size W W') : KeepsOthers W W' := ⟨h.size, fun k _ hk _ => (h.block k (Array.getElem?_eq_some_iff.1 hk).1).trans hk⟩
theorem ownsRow_low {W : World} {A B : Nat} {e : TypeId} {size n : Nat} {v : Value} {xs : List Value} (h : W.ownsRow B e size v n xs) (hb : A ≤ B) : W.ownsRow A e size v n xs := by
  refine ⟨h.1, ?_⟩
  rcases h.2 with h2 | ⟨g, cap, cur, hv, hbg, r⟩
  · exact .inl h2
  · exact .inr ⟨g, cap, cur, hv, Nat.le_trans hb hbg, r⟩
theorem own_far {W : World} {B : Nat} {e : TypeId} {size n : Nat} {v : Value} {xs : List Value} (ho : W.ownsRow B e size v n xs) (k : Nat) (hk : v.ownBlock = some k) : B ≤ k := by
  rcases ho.2 with ⟨rfl, -⟩ | ⟨g, cap, cur, rfl, hb, -⟩
  · simp [Value.ownBlock] at hk
  · simp only [Value.ownBlock, Option.some.injEq] at hk
    exact hk ▸ hb
theorem own_others {W W' : World} {B : Nat} {e : TypeId} {size n : Nat} {v : Value} {xs : List Value} (ho : W.ownsRow B e size v n xs) (hg : W.grownBy W' v.ownBlock) : KeepsOthers W W' := by
  refine ⟨hg.size, fun k _ hk hc => (hg.block k (Array.getElem?_eq_some_iff.1 hk).1 fun he => ?_).trans hk⟩
  rcases ho.2 with ⟨rfl, -⟩ | ⟨g, cap, cur, rfl, hb, hgg, -⟩
  · simp [Value.ownBlock] at he
  · simp only [Value.ownBlock, Option.some.injEq] at he
    subst he
    rw [hgg] at hk
    cases hk
    cases hc
/-- A slice that is owned is one. -/
theorem own_slice {W : World} {B : Nat} {e : TypeId} {size n : Nat} {v : Value} {xs : List Value} (h : W.ownsRow B e size v n xs) : ∃ a c, v = .slice a n c := by
  rcases h.2 with ⟨rfl, rfl⟩ | ⟨g, cap, cur, rfl, -⟩
  · exact ⟨_, _, rfl⟩
  · exact ⟨_, _, rfl⟩
theorem own_of_own {β : Type} {B : Nat} {e : TypeId} {size : Nat} {v : β → Value} {n : β → Nat} {xs : β → List Value} : Own (fun (b : β) w => w.ownsRow B e size (v b) (n b) (xs b)) := by
  intro b W W' row h2 hg hr
  refine h2.kept hg ?_
  rcases h2.2 with ⟨h, -⟩ | ⟨g, cap, cur, h, hb, hgg, -⟩
  · exact .inl (by rw [h]; rfl)
  · refine .inr fun he => ?_
    rw [h] at he
    obtain ⟨o, ho, hc⟩ := hr g he.symm
    rw [hgg] at ho
    cases ho
    cases hc
theorem own_below {W W' : World} {B : Nat} {e : TypeId} {size n : Nat} {v : Value} {xs : List Value} (h : W.ownsRow B e size v n xs) (hb : Below W.heap.size W W') : W'.ownsRow B e size v n xs :=
  h.kept (row := none) ⟨hb.os, hb.tape, hb.output, hb.size, fun k hk _ => hb.block k hk⟩ (by cases hx : Value.ownBlock _ <;> simp)

/-- The number of deferred calls' block that a loop leaves. -/
abbrev withD (a : Act) (D : Nat) : Act := { a with defers := { target := .collected D, args := #[] } :: a.defers }

theorem eachDone {T : List Nat} {w W W' : World} {b : Nat} {p : Prop} (hb : b < w.heap.size) (hbT : b ∉ T) (hW : Only T w W) (hk : KeepsOthers W W') (hW' : Only T w W') (hp : p) :
    KeepsFrom w.heap.size W W' ∧ KeepB b W W' ∧ Only T w W' ∧ p := ⟨hk.from _, (hW'.block b hb hbT).trans (hW.block b hb hbT).symm, hW', hp⟩
theorem eachLeft {T : List Nat} {w W W' : World} {p : Prop} (hk : KeepsOthers W W') (hW' : Only T w W') (hp : p) :
    KeepsFrom w.heap.size W W' ∧ Only T w W' ∧ p := ⟨hk.from _, hW', hp⟩

/-- **The range over a lawn's cells.** -/
theorem each_range {n : Nat} (hn : 2 ≤ n) {g : Operand} {p q : Nat} {assign body : Code} {Q : Exit → Act → World → Prop} {a : Act} {w : World} {b : Nat} (T : List Nat) (Wn Hn : Nat) (hW : Wn ≤ 10) (hH : Hn ≤ 10) (kd : Nat → Nat → Int)
    (hg : a.eval g = .func (.func 133) #[] #[.pointer (some ⟨b, 0, none⟩)]) (hB : Holds w b (Lawn.cells ⟨(Wn : Int), (Hn : Int), kd⟩))
    (I : List (Fin Wn × Fin Hn) → World → Prop) (Ix : Code → List (Fin Wn × Fin Hn) → World → Prop) (hI : OwnFrom w.heap.size I) (hIx : ∀ c, OwnFrom w.heap.size (Ix c)) (h0 : I [] w)
    (hassign : ∀ (l : Nat) (x y : Int) (W : World) (K : Act → World → Prop), K { tmps := (a.tmps.setIfInBounds p (cellV x y)).setIfInBounds q (.pointer (some ⟨W.heap.size, 0, none⟩)), defers := [] } (W.alloc (.cells #[.int .i8 x, .int .i8 y] 37)) →
      assign.wpIn (Fence.wide.inRound l) (n - 1 - 1) Try.prog (Exit.then K (fun _ _ _ => False)) { tmps := a.tmps.setIfInBounds p (cellV x y), defers := [] } W)
    (hbody : ∀ (l : Nat) (pre : List (Fin Wn × Fin Hn)) (x : Fin Wn × Fin Hn) (Bx : Nat) (W : World), w.heap.size ≤ l → (∃ r, W.heap[l]? = some (.loop r)) → Only T w W → I pre W → w.heap.size ≤ Bx → Holds W Bx #[.int .i8 ((x.1 : Nat) : Int), .int .i8 ((x.2 : Nat) : Int)] → pre.length < (allC Wn Hn).length →
      body.wpIn (Fence.wide.inRound l) (n - 1 - 1) Try.prog (ownPostG w.heap.size (KeepB b) (fun pre W => Only T w W ∧ I pre W) (fun c pre W => Only T w W ∧ Ix c pre W) (pre ++ [x]) W)
        { tmps := (a.tmps.setIfInBounds p (cellV ((x.1 : Nat) : Int) ((x.2 : Nat) : Int))).setIfInBounds q (.pointer (some ⟨Bx, 0, none⟩)), defers := [] } W)
    (hdone : ∀ (D : Nat) (W : World), w.heap.size ≤ D → Only T w W → I (allC Wn Hn) W → W.heap[D]? = some (.deferred (some [])) → Q .normal (withD a D) W)
    (hstop : ∀ (D : Nat) (c : Code) (pre : List (Fin Wn × Fin Hn)) (W : World), w.heap.size ≤ D → Only T w W → Ix c pre W → W.heap[D]? = some (.deferred (some [])) → c.wpIn Fence.wide n Try.prog Q (withD a D) W) :
    (Code.rangeFunc g #[p] assign body).wpIn Fence.wide n Try.prog Q a w := by
  refine wpIn_rangeFunc_ownH (α := Fin Wn × Fin Hn) rfl (by omega) (gf := 133) (lb := #[.pointer (some ⟨b, 0, none⟩)]) hg trivial (enters_of Try.func133 (by kernel_rfl) rfl)
    (each_stops Fence.wide _ trivial rfl (by omega) b Wn Hn hW hH kd w hB.lt hB) keepB_t (keepB_b hB.lt) (Below.refl _ _) (fun _ => rfl)
    (fun pre W => Only T w W ∧ I pre W) (fun c pre W => Only T w W ∧ Ix c pre W)
    (OwnFrom.and (ownFrom_only (Nat.le_refl _)) hI) (fun c => OwnFrom.and (ownFrom_only (Nat.le_refl _)) (hIx c)) ⟨Only.refl _ _, h0⟩
    (fun x a' W => ∃ Bx, w.heap.size ≤ Bx ∧ Holds W Bx #[.int .i8 ((x.1 : Nat) : Int), .int .i8 ((x.2 : Nat) : Int)] ∧ a' = { tmps := (a.tmps.setIfInBounds p (cellV ((x.1 : Nat) : Int) ((x.2 : Nat) : Int))).setIfInBounds q (.pointer (some ⟨Bx, 0, none⟩)), defers := [] })
    (fun x a' => fun _ W W' row ⟨Bx, h1, h2, h3⟩ hg hr => ⟨Bx, h1, h2.grown hg (fun r e => (hr r e).2), h3⟩)
    ?assign ?body ?done ?stop
  case assign =>
    rintro l pre x W K' ⟨iO, iI⟩ hK
    have hlt : b < W.heap.size := Nat.lt_of_lt_of_le hB.lt iO.size
    have e : (#[p].zip (cellA x)).foldl (fun t (p, v) => t.setIfInBounds p v) a.tmps = a.tmps.setIfInBounds p (cellV ((x.1 : Nat) : Int) ((x.2 : Nat) : Int)) := by simp [cellA]
    rw [e]
    exact hassign l _ _ W K' (hK _ _ ((KeepsOthers.alloc _ _).from _) (KeepB.of_below ((Below.refl _ W).alloc (Nat.le_refl _) _) hlt) ⟨iO.alloc _, hI.alloc _ iI⟩ ⟨_, iO.size, Holds.new _ _ _, rfl⟩)
  case body =>
    rintro l pre x a' W hl hr ⟨iO, iI⟩ ⟨Bx, hBx, bX, rfl⟩ hlt
    exact hbody l pre x Bx W hl hr iO iI hBx bX hlt
  case done =>
    rintro D xs W hD rfl ⟨iO, iI⟩ hK
    exact hdone D W hD iO iI hK
  case stop =>
    rintro D c pre W hD _ ⟨iO, iX⟩ hK
    exact hstop D c pre W hD iO iX hK
end Go.Proofs.Ytaeenkjbmlgcmaa
