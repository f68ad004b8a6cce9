/- Inside a wide fence: a region that draws its order: growing operations, one operation (a round of a range, say), growing operations. -/
import Derived.Test.YtemjppchnhemjaaDoorZB
import Derived.Test.YtemjppchnhemjaaDoorZD
namespace Go.Proofs.YtemjppchnhemjaaDoor
open Go.RowKit Go.Shelf
set_option linter.unusedVariables false

section
variable {P : Program} {N : Nat}

theorem upon_wide {o : Oper} {a : Act} {next next' : Act → World → Prop} {Q : Exit → Act → World → Prop} (hn : ∀ a w, next a w → next' a w) {r : Result Next} (h : o.upon P a next Q r) : o.uponIn Fence.wide N P a next' Q r := by
  unfold Oper.upon at h
  split at h
  · exact hn _ _ h
  · exact hn _ _ h
  · exact hn _ _ h
  · refine ⟨(fun hd => by cases hd), ?_⟩
    refine callsIn_wide.2 (h.mono ?_)
    intro e w'' he
    cases e with
    | returned v => exact hn _ _ he
    | panicked c => exact he
    | outgrown => exact he
  · refine ⟨(fun hd => by cases hd), fun c cs _ => ?_⟩
    obtain ⟨v, w', hr, hs⟩ := h c cs
    exact ⟨v, w', hn _ _ hr, stepsIn_wide.2 hs⟩
  · exact h
  · exact h.elim
theorem oper_wide {o : Oper} {a : Act} {w : World} {next next' : Act → World → Prop} {Q : Exit → Act → World → Prop} (hnd : ∀ c, o.op ≠ .defer c) (hn : ∀ a w, next a w → next' a w) (h : o.wp P a w next Q) : o.wpIn Fence.wide N P a w next' Q := by
  refine ⟨fun _ _ => trivial, ?_⟩
  exact upon_wide hn h

variable {ops : Array Oper}
theorem ready_doneIn {Q : Exit → Act → World → Prop} {listed : Array Bool} (hr : Region.ready .any ops listed = []) (fuel : Nat) (a : Act) (w : World) (h : Q .normal a w) : wpAnyIn Fence.wide N P .any ops Q fuel listed a w := by
  cases fuel with
  | zero => exact ⟨hr, h⟩
  | succ f => exact ⟨fun _ => h, fun i hi => by rw [hr] at hi; cases hi⟩

/-- All orders of a stage come to the same slots. -/
theorem any_of_stageIn {k n : Nat} (ok : GrowKOk ops n) (hd : ∀ (j : Nat) (o : Oper), ops[j]? = some o → ∀ c, o.op ≠ .defer c) {w0 : World} {a0 : Act} {val : Nat → Value} {Q : Exit → Act → World → Prop}
    (hY : ∀ (j : Nat) (oj : Oper), k ≤ j → j < n → ops[j]? = some oj → GYields P ops w0 oj (val j) (fill ops val (upK k) a0 j))
    (hnext : ∀ listed w, (∀ i, i < n → flag listed i = true) → HeadInv .any ops n listed → Below w0.heap.size w0 w → wpAnyIn Fence.wide N P .any ops Q (ops.size - n) listed (fill ops val (upK k) a0 n) w) :
    ∀ (f : Nat) (listed : Array Bool) (w : World), (∀ i, i < k → flag listed i = true) → HeadInv .any ops n listed → left listed n = f → Below w0.heap.size w0 w → wpAnyIn Fence.wide N P .any ops Q (f + (ops.size - n)) listed (fill ops val (flagK k listed) a0 n) w := by
  intro f
  induction f with
  | zero =>
    intro listed w hk inv hl hw
    have hall := left_zero n hl
    have hfill : fill ops val (flagK k listed) a0 n = fill ops val (upK k) a0 n := fill_congr _ _ _ _ _ n (fun i hi => ⟨by simp [flagK, upK, hall i hi], rfl⟩)
    rw [hfill, Nat.zero_add]
    exact hnext listed w hall inv hw
  | succ f ih =>
    intro listed w hk inv hl hw
    have hz : ¬ left listed n = 0 := by omega
    obtain ⟨m, hm, hmun, hmin⟩ : ∃ m, m < n ∧ flag listed m = false ∧ ∀ j, j < m → flag listed j = true := by
      clear hl
      have key : ∀ k, k ≤ n → (∀ j, j < k → flag listed j = true) ∨ ∃ m, m < k ∧ flag listed m = false ∧ ∀ j, j < m → flag listed j = true := by
        intro k hk
        induction k with
        | zero => exact .inl fun j hj => by omega
        | succ k ihk =>
          rcases ihk (by omega) with h | ⟨m, h1, h2, h3⟩
          · cases hf : flag listed k with
            | true =>
              refine .inl (fun j hj => ?_)
              by_cases e : j = k
              · subst e; exact hf
              · exact h j (by omega)
            | false => exact .inr ⟨k, by omega, hf, h⟩
          · exact .inr ⟨m, by omega, h2, h3⟩
      rcases key n (Nat.le_refl _) with h | h
      · refine absurd ?_ hz
        have : ∀ k, k ≤ n → left listed k = 0 := by
          intro k hk
          induction k with
          | zero => rfl
          | succ k ihk => unfold left; rw [ihk (by omega), h k (by omega)]; rfl
        exact this n (Nat.le_refl _)
      · exact h
    have hsz := ok.size
    have hms : m < listed.size := by rw [inv.size]; omega
    obtain ⟨om, hom⟩ : ∃ om, ops[m]? = some om := ⟨_, Array.getElem?_eq_getElem (by omega)⟩
    have hmr : m ∈ Region.ready .any ops listed := mem_ready.2 ⟨getD_in hms hmun, om, hom, fun e he hb => hmin _ (ok.back m om (by omega) hom e he hb)⟩
    rw [show f + 1 + (ops.size - n) = (f + (ops.size - n)) + 1 by omega]
    refine ⟨fun h => (by rw [h] at hmr; cases hmr), fun i hi => ?_⟩
    obtain ⟨h1, oi, hoi, hdep⟩ := mem_ready.1 hi
    have hin : i < n := by
      rcases Nat.lt_or_ge i n with h | h
      · exact h
      · exact absurd hi (bar_waits ok.bar inv _ m rfl hm (getD_in hms hmun) i h)
    have his : i < listed.size := by rw [inv.size]; omega
    have hiun : flag listed i = false := getD_both h1
    have hki : k ≤ i := by
      rcases Nat.lt_or_ge i k with h | h
      · have := hk i h; rw [hiun] at this; cases this
      · exact h
    have hnext' := ih (listed.setIfInBounds i true)
    have hfs : fill ops val (flagK k (listed.setIfInBounds i true)) a0 n = (fill ops val (flagK k listed) a0 n).put (dstOf ops i) (val i) := by
      have hlo : ∀ j, j ≠ i → flag (listed.setIfInBounds i true) j = flag listed j := fun j hj => getD_set_ne false (Ne.symm hj)
      exact fill_set val (flagK k listed) (flagK k (listed.setIfInBounds i true)) a0 i (by simp [flagK, hiun]) (by simp [flagK, flag, his, hki]) (fun j hj => by simp [flagK, hlo j hj]) n hin (ok.dist i hin)
    have hdst : dstOf ops i = oi.dst := by simp [dstOf, hoi]
    have hagree : Agree (oi.looksAt ops) (fill ops val (upK k) a0 i) (fill ops val (flagK k listed) a0 n) := by
      have e1 : fill ops val (upK k) a0 i = fill ops val (fun j => decide (k ≤ j) && decide (j < i)) a0 i := fill_congr _ _ _ _ _ i (fun j hj => ⟨by simp [upK, hj], rfl⟩)
      have e2 : ∀ m, i ≤ m → fill ops val (fun j => decide (k ≤ j) && decide (j < i)) a0 m = fill ops val (fun j => decide (k ≤ j) && decide (j < i)) a0 i := by
        intro m hm
        induction m with
        | zero => rw [show i = 0 by omega]
        | succ m ihm =>
          by_cases e : i = m + 1
          · rw [e]
          · rw [← ihm (by omega)]
            show (if (decide (k ≤ m) && decide (m < i)) then _ else _) = _
            rw [show decide (m < i) = false by simp; omega]
            simp
      rw [e1, ← e2 n (by omega)]
      refine fill_agree val _ _ a0 _ n (fun j hj hne d hd hl => ?_)
      obtain ⟨e, he, hb, hon⟩ := ok.looks i oi hin hoi j hj d hd hl
      have hlisted := hdep e he hb
      rw [hon] at hlisted
      have hback := ok.back i oi (by omega) hoi e he hb
      rw [hon] at hback
      exact hne (by show (decide (k ≤ j) && decide (j < i)) = flagK k listed j; unfold flagK flag; rw [hlisted]; simp [hback])
    have hat := (hY i oi hki hin hoi).at (fun cs c => ok.sel i oi cs c hoi) hagree hw (K := wpAnyIn Fence.wide N P .any ops Q (f + (ops.size - n)) (listed.setIfInBounds i true)) (Q := Q) (fun w' hw' => by
      rw [← hdst, ← hfs]
      refine hnext' w' (fun j hj => ?_) (inv.set hi hin) (by have := left_set hiun his n hin; omega) hw'
      by_cases e : j = i
      · subst e; simp [flag, his]
      · rw [show flag (listed.setIfInBounds i true) j = flag listed j from getD_set_ne false (Ne.symm e)]; exact hk j hj)
    unfold wpOpIn
    simp only [hoi]
    split
    · rename_i hwt; rw [if_pos hwt] at hat; exact oper_wide (hd i oi hoi) (fun _ _ h => h) hat
    · rename_i hwt; rw [if_neg hwt] at hat; exact ⟨fun _ _ => trivial, hat⟩

/-- One stage, from a state in which just the operations before k are listed. -/
theorem any_stageIn {Q : Exit → Act → World → Prop} {a : Act} {w0 w : World} {k n : Nat} (l : List Oper) (hl : ∀ j, j < l.length → l[j]? = ops[k + j]?) (hn : k + l.length = n) (ok : GrowKOk ops n) (hd : ∀ (j : Nat) (o : Oper), ops[j]? = some o → ∀ c, o.op ≠ .defer c) {listed : Array Bool} (hk : ∀ i, i < k → flag listed i = true) (inv : HeadInv .any ops k listed)
    (hw : Below w0.heap.size w0 w)
    (h : wpGrow P ops w0 (fun a' => ∀ w' listed', Below w0.heap.size w0 w' → (∀ i, i < n → flag listed' i = true) → HeadInv .any ops n listed' → wpAnyIn Fence.wide N P .any ops Q (ops.size - n) listed' a' w') l a) : wpAnyIn Fence.wide N P .any ops Q (ops.size - k) listed a w := by
  obtain ⟨val, -, hY, hL⟩ := vals_of_stage (n := n) (k0 := k) (a0 := a) l k (fun _ => undef) (Nat.le_refl _) hl hn (by rw [fill_up _ _ _ _ (Nat.le_refl _)]; exact h)
  have hsz := ok.size
  have inv' : HeadInv .any ops n listed := ⟨inv.size, inv.closed, fun t ht ht' => inv.tail t (by omega) ht'⟩
  have hun : ∀ i, k ≤ i → i < n → flag listed i = false := fun i h1 h2 => getD_both (inv.tail i h1 (by omega))
  have hleft : left listed n = n - k := by
    have : ∀ m, m ≤ n → left listed m = m - k := by
      intro m hm
      induction m with
      | zero => simp [left]
      | succ m ih =>
        unfold left
        rw [ih (by omega)]
        by_cases e : m < k
        · rw [hk m e]; simp; omega
        · rw [hun m (by omega) (by omega)]; simp; omega
    exact this n (Nat.le_refl _)
  have := any_of_stageIn (P := P) (Q := Q) (N := N) ok hd hY (fun listed' w' h1 h2 h3 => hL w' listed' h3 h1 h2) (n - k) listed w hk inv' hleft hw
  rw [fill_none _ _ _ _ _ hun, show n - k + (ops.size - n) = ops.size - k by omega] at this
  exact this

/-- The operation at a barrier. -/
theorem any_sinkIn {Q : Exit → Act → World → Prop} {a : Act} {w : World} {n : Nat} {o : Oper} (ho : ops[n]? = some o) (hback : ∀ e ∈ o.after, Region.binds .any e = true → e.on < n) (hbar : barB ops n = true) (hnext : barB ops (n + 1) = true ∨ True) {listed : Array Bool} (hall : ∀ i, i < n → flag listed i = true) (inv : HeadInv .any ops n listed)
    (hlater : ∀ t ot, n < t → ops[t]? = some ot → ∃ e ∈ ot.after, Region.binds .any e = true ∧ n ≤ e.on ∧ e.on < t)
    (h : wpOpIn Fence.wide N P ops Q n (fun a' w' => ∀ listed', (∀ i, i < n + 1 → flag listed' i = true) → HeadInv .any ops (n + 1) listed' → wpAnyIn Fence.wide N P .any ops Q (ops.size - (n + 1)) listed' a' w') a w) : wpAnyIn Fence.wide N P .any ops Q (ops.size - n) listed a w := by
  have hlt : n < ops.size := (Array.getElem?_eq_some_iff.1 ho).1
  have hun : listed.getD n true = false := inv.tail n (Nat.le_refl _) hlt
  have hnr : n ∈ Region.ready .any ops listed := mem_ready.2 ⟨hun, o, ho, fun e he hb => hall _ (hback e he hb)⟩
  rw [show ops.size - n = (ops.size - (n + 1)) + 1 by omega]
  refine ⟨fun h => (by rw [h] at hnr; cases hnr), fun i hi => ?_⟩
  obtain ⟨h1, oi, hoi, hdep⟩ := mem_ready.1 hi
  have hilt : i < ops.size := (Array.getElem?_eq_some_iff.1 hoi).1
  have hin : i = n := by
    rcases Nat.lt_trichotomy i n with h | h | h
    · have := hall i h; unfold flag at this; rw [getD_both h1] at this; cases this
    · exact h
    · obtain ⟨e, he, hb, h2, h3⟩ := hlater i oi h hoi
      have := hdep e he hb
      rw [getD_both (inv.tail e.on h2 (by omega))] at this
      cases this
  subst hin
  refine wpOpIn_mono (fun a' w' hq => hq _ (fun j hj => ?_) ?_) h
  · by_cases e : j = i
    · subst e; simp [flag, inv.size, hlt]
    · rw [show flag (listed.setIfInBounds i true) j = flag listed j from getD_set_ne false (Ne.symm e)]; exact hall j (by omega)
  · have := inv.set (n := i) hi
    refine ⟨by simp [inv.size], fun j oj hj hl e he hb => ?_, fun t ht ht' => by rw [getD_set_ne true (by omega)]; exact inv.tail t (by omega) ht'⟩
    by_cases hij : i = j
    · subst hij
      have : oj = oi := Option.some.inj (hj.symm.trans hoi)
      subst this
      exact getD_set_true (hdep e he hb)
    · rw [getD_set_ne false hij] at hl
      exact getD_set_true (inv.closed j oj hj hl e he hb)

theorem any_region_stagesIn {Q : Exit → Act → World → Prop} {a : Act} {w0 w : World} {l : List Oper} (n : Nat) {o : Oper} (ho : l[n]? = some o) (hd : noDefer l = true) (hB : stagesB l.toArray n = true) (hw : Below w0.heap.size w0 w)
    (h : wpGrow P l.toArray w0 (fun a' => ∀ w', Below w0.heap.size w0 w' → wpOpIn Fence.wide N P l.toArray Q n (fun a2 w2 => wpGrow P l.toArray w2 (fun a3 => ∀ w3, Below w2.heap.size w2 w3 → Q .normal a3 w3) (l.drop (n + 1)) a2) a' w') (l.take n) a) :
    wpAnyIn Fence.wide N P .any l.toArray Q l.toArray.size (Array.replicate l.toArray.size false) a w := by
  simp only [stagesB, Bool.and_eq_true, decide_eq_true_eq] at hB
  obtain ⟨⟨⟨⟨h1, h2⟩, h3⟩, h4⟩, h5⟩ := hB
  have hdd : ∀ (j : Nat) (o : Oper), l.toArray[j]? = some o → ∀ c, o.op ≠ .defer c := fun j o hj => noDefer_at hd (by simpa using Array.mem_of_getElem? hj)
  have ok1 := growKB_ok h1
  have ok2 := growKB_ok h2
  have hlt : n < l.length := by simpa using h3
  have hoA : l.toArray[n]? = some o := by simpa using ho
  rw [hoA] at h4
  have start : HeadInv .any l.toArray 0 (Array.replicate l.toArray.size false) :=
    ⟨by simp, (fun j oj _ hl => by rw [getD_replicate_false] at hl; cases hl), fun t _ ht => getD_in (by simpa using ht) (getD_replicate_false _ _)⟩
  have key := any_stageIn (P := P) (Q := Q) (N := N) (a := a) (w0 := w0) (w := w) (k := 0) (n := n) (ops := l.toArray) (l.take n) (fun j hj => by
      have : j < n := by simp at hj; omega
      simp [this]) (by simp; omega) ok1 hdd (fun i hi => by omega) start hw
  rw [Nat.sub_zero] at key
  refine key ?_
  clear key
  refine wpGrow_mono (fun a' h' => ?_) h
  intro w' listed' hw' hall inv
  refine any_sinkIn hoA (fun e he hb => ?_) ok1.bar (.inr trivial) hall inv (fun t ot ht hot => ?_) ?_
  · have := Array.all_eq_true_iff_forall_mem.1 h4 e he
    simpa [hb] using this
  · have htl : t < l.toArray.size := (Array.getElem?_eq_some_iff.1 hot).1
    have := List.all_eq_true.1 h5 t (List.mem_range.2 htl)
    rw [hot] at this
    simp only [Bool.or_eq_true, decide_eq_true_eq] at this
    obtain ⟨e, he, hb⟩ := Array.any_eq_true'.1 (this.resolve_left (by omega))
    simp only [Bool.and_eq_true, decide_eq_true_eq] at hb
    exact ⟨e, he, hb.1.1, hb.1.2, hb.2⟩
  · refine wpOpIn_mono (fun a2 w2 h2' => ?_) (h' w' hw')
    intro listed2 hall2 inv2
    refine any_stageIn (P := P) (Q := Q) (N := N) (w0 := w2) (k := n + 1) (n := l.toArray.size) (ops := l.toArray) (l.drop (n + 1)) (fun j hj => by simp [Nat.add_comm]) (by simp; omega) ok2 hdd hall2 inv2 (Below.refl _ _) ?_
    refine wpGrow_mono (fun a3 h3' => ?_) h2'
    intro w3 listed3 hw3 hall3 inv3
    refine ready_doneIn ?_ _ _ _ (h3' w3 hw3)
    apply List.eq_nil_iff_forall_not_mem.2
    intro j hj
    obtain ⟨g1, oj, hoj, -⟩ := mem_ready.1 hj
    have := hall3 j (Array.getElem?_eq_some_iff.1 hoj).1
    unfold flag at this
    rw [getD_both g1] at this
    cases this

theorem wpIn_region_stages {id : Nat} {Q : Exit → Act → World → Prop} {a : Act} {w : World} {l : List Oper} (n : Nat) {o : Oper} (ho : l[n]? = some o) (hg : o.guard = none) (hm : P.follows .mixedOrders = true) (hd : noDefer l = true) (hB : stagesB l.toArray n = true)
    (h : wpGrow P l.toArray w (fun a' => ∀ w', Below w.heap.size w w' → o.wpIn Fence.wide N P a' w' (fun a2 w2 => wpGrow P l.toArray w2 (fun a3 => ∀ w3, Below w2.heap.size w2 w3 → Q .normal a3 w3) (l.drop (n + 1)) a2) Q) (l.take n) a) : (Code.region id l.toArray true).wpIn Fence.wide N P Q a w := by
  refine wpIn_region_any hm (any_region_stagesIn n ho hd hB ((Below.refl _ w).drew) (wpGrow_mono (fun a' h' w' hw' => ?_) h))
  unfold wpOpIn
  have hoA : l.toArray[n]? = some o := by simpa using ho
  simp only [hoA]
  rw [if_pos (by simp [Region.wanted, hg])]
  exact h' w' hw'
end
end Go.Proofs.YtemjppchnhemjaaDoor
