/- Regions that draw their order, whose operations before the last ones only read or make memory; one of them makes a block whose address comes into a slot. -/
import Derived.Test.YtgmahakpmjfhhaaRRGrowA
import Derived.Test.YtgmahakpmjfhhaaRRGrowK
import Derived.Test.YtgmahakpmjfhhaaRRIn
namespace Go.Proofs.YtgmahakpmjfhhaaRR
open Go.RowKit
set_option linter.unusedVariables false

section
variable {P : Program} {ops : Array Oper} {md : Region.Mode}

/-- All orders come to the same slots, but for what hangs on a state. -/
theorem any_of_stateK {σ : Type} {n : Nat} (ok : GrowKOk ops n) {a0 : Act} {val : σ → Nat → Value} {J : (Nat → Bool) → σ → World → Prop} {Q : Exit → Act → World → Prop}
    (hY : ∀ (l : Nat → Bool) (s : σ) (w : World) (j : Nat) (oj : Oper), j < n → ops[j]? = some oj → l j = false → (∀ e ∈ oj.after, Region.binds .any e = true → l e.on = true) → J l s w →
      ∃ s', (∀ i, l i = true → val s' i = val s i) ∧ GYR P ops (fun w' => ∀ l' : Nat → Bool, l' j = true → (∀ i, i ≠ j → l' i = l i) → J l' s' w') oj (val s' j) (fill ops (val s') (fun _ => true) a0 j) w)
    (hnext : ∀ listed s w, (∀ i, i < n → flag listed i = true) → HeadInv .any ops n listed → J (flag listed) s w → wpAny P .any ops Q (ops.size - n) listed (fill ops (val s) (fun _ => true) a0 n) w) :
    ∀ (f : Nat) (listed : Array Bool) (s : σ) (w : World), HeadInv .any ops n listed → left listed n = f → J (flag listed) s w → wpAny P .any ops Q (f + (ops.size - n)) listed (fill ops (val s) (flag listed) a0 n) w := by
  intro f
  induction f with
  | zero =>
    intro listed s w inv hl hw
    have hall := left_zero n hl
    rw [fill_congr (val s) (val s) (flag listed) (fun _ => true) a0 n (fun i hi => ⟨hall i hi, rfl⟩), Nat.zero_add]
    exact hnext listed s w hall inv hw
  | succ f ih =>
    intro listed s w inv hl hw
    have hz : ¬ left listed n = 0 := by omega
    have hsz := ok.size
    obtain ⟨m, hm, hmun, hmin⟩ : ∃ m, m < n ∧ flag listed m = false ∧ ∀ j, j < m → flag listed j = true := by
      clear hl
      have key : ∀ k, k ≤ n → (∀ j, j < k → flag listed j = true) ∨ ∃ m, m < k ∧ flag listed m = false ∧ ∀ j, j < m → flag listed j = true := by
        intro k hk
        induction k with
        | zero => exact .inl fun j hj => by omega
        | succ k ihk =>
          rcases ihk (by omega) with h | ⟨m, h1, h2, h3⟩
          · cases hf : flag listed k with
            | true =>
              refine .inl (fun j hj => ?_)
              by_cases e : j = k
              · subst e; exact hf
              · exact h j (by omega)
            | false => exact .inr ⟨k, by omega, hf, h⟩
          · exact .inr ⟨m, by omega, h2, h3⟩
      rcases key n (Nat.le_refl _) with h | h
      · refine absurd ?_ hz
        have : ∀ k, k ≤ n → left listed k = 0 := by
          intro k hk
          induction k with
          | zero => rfl
          | succ k ihk => unfold left; rw [ihk (by omega), h k (by omega)]; rfl
        exact this n (Nat.le_refl _)
      · exact h
    have hms : m < listed.size := by rw [inv.size]; omega
    obtain ⟨om, hom⟩ : ∃ om, ops[m]? = some om := ⟨_, Array.getElem?_eq_getElem (by omega)⟩
    have hmr : m ∈ Region.ready .any ops listed := mem_ready.2 ⟨getD_in hms hmun, om, hom, fun e he hb => hmin _ (ok.back m om (by omega) hom e he hb)⟩
    rw [show f + 1 + (ops.size - n) = (f + (ops.size - n)) + 1 by omega]
    refine ⟨fun h => (by rw [h] at hmr; cases hmr), fun i hi => ?_⟩
    obtain ⟨h1, oi, hoi, hdep⟩ := mem_ready.1 hi
    have hin : i < n := by
      rcases Nat.lt_or_ge i n with h | h
      · exact h
      · exact absurd hi (bar_waits ok.bar inv _ m rfl hm (getD_in hms hmun) i h)
    have his : i < listed.size := by rw [inv.size]; omega
    have hiun : flag listed i = false := getD_both h1
    obtain ⟨s', hv, hy⟩ := hY (flag listed) s w i oi hin hoi hiun hdep hw
    rw [fill_same (val s) (val s') (flag listed) a0 n (fun j _ hj => (hv j hj).symm)]
    have hother : ∀ j, j ≠ i → flag (listed.setIfInBounds i true) j = flag listed j := fun j hj => getD_set_ne false (Ne.symm hj)
    have hself : flag (listed.setIfInBounds i true) i = true := by simp [flag, his]
    have hfs : fill ops (val s') (flag (listed.setIfInBounds i true)) a0 n = (fill ops (val s') (flag listed) a0 n).put (dstOf ops i) (val s' i) :=
      fill_set (val s') (flag listed) (flag (listed.setIfInBounds i true)) a0 i hiun hself hother n hin (ok.dist i hin)
    have hdst : dstOf ops i = oi.dst := by simp [dstOf, hoi]
    have hagree : Agree (oi.looksAt ops) (fill ops (val s') (fun _ => true) a0 i) (fill ops (val s') (flag listed) a0 n) := by
      have e1 : fill ops (val s') (fun _ => true) a0 i = fill ops (val s') (fun j => decide (j < i)) a0 i := fill_congr _ _ _ _ _ i (fun j hj => ⟨by simp [hj], rfl⟩)
      have e2 : ∀ k, i ≤ k → fill ops (val s') (fun j => decide (j < i)) a0 k = fill ops (val s') (fun j => decide (j < i)) a0 i := by
        intro k hk
        induction k with
        | zero => rw [show i = 0 by omega]
        | succ k ihk =>
          by_cases e : i = k + 1
          · rw [e]
          · rw [← ihk (by omega)]
            show (if decide (k < i) then _ else _) = _
            rw [show decide (k < i) = false by simp; omega]
            rfl
      rw [e1, ← e2 n (by omega)]
      refine fill_agree (val s') _ _ a0 _ n (fun j hj hne d hd hl => ?_)
      obtain ⟨e, he, hb, hon⟩ := ok.looks i oi hin hoi j hj d hd hl
      have hlisted := hdep e he hb
      rw [hon] at hlisted
      have hback := ok.back i oi (by omega) hoi e he hb
      rw [hon] at hback
      exact hne (by show decide (j < i) = flag listed j; unfold flag; rw [hlisted]; simp [hback])
    have hat := hy.at (fun cs c => ok.sel i oi cs c hoi) hagree (K := wpAny P .any ops Q (f + (ops.size - n)) (listed.setIfInBounds i true)) (Q := Q) (fun w' hw' => by
      rw [← hdst, ← hfs]
      exact ih (listed.setIfInBounds i true) s' w' (inv.set hi hin) (by have := left_set hiun his n hin; omega) (hw' _ hself hother))
    unfold wpOp
    simp only [hoi]
    split
    · rename_i hwt; rw [if_pos hwt] at hat; exact .inl hat
    · rename_i hwt; rw [if_neg hwt] at hat; exact hat


/-- The walk in the order of the text: each operation answers a value in every world that has grown, and leaves what lay there. -/
def wpGrowB (P : Program) (ops : Array Oper) (w0 : World) (L : Act → Prop) : List Oper → Act → Prop
  | [], a => L a
  | o :: rest, a => ∃ v, (∀ w, Below w0.heap.size w0 w → GYR P ops (Below w.heap.size w) o v a w) ∧ wpGrowB P ops w0 L rest (a.put o.dst v)
theorem wpGrowB_nil {w0 : World} {L : Act → Prop} {a : Act} (h : L a) : wpGrowB P ops w0 L [] a := h
theorem wpGrowB_plain {w0 : World} {L : Act → Prop} {o : Oper} {rest : List Oper} {a : Act} (hg : o.guard = none) {v : Value} (h : ∀ w, Below w0.heap.size w0 w → ∀ K : Act → World → Prop, (∀ a' w', a' = a.put o.dst v → Below w.heap.size w w' → K a' w') → o.wp P a w K (fun _ _ _ => False))
    (hr : wpGrowB P ops w0 L rest (a.put o.dst v)) : wpGrowB P ops w0 L (o :: rest) a := ⟨v, fun w hw => GYR.plain hg (h w hw), hr⟩

theorem vals_of_growB {w0 : World} {L : Act → Prop} {a0 : Act} {n : Nat} : ∀ (l : List Oper) (k : Nat) (val : Nat → Value), (∀ j, j < l.length → l[j]? = ops[k + j]?) → k + l.length = n → wpGrowB P ops w0 L l (fill ops val (fun _ => true) a0 k) →
    ∃ val' : Nat → Value, (∀ i, i < k → val' i = val i) ∧ (∀ (j : Nat) (oj : Oper), k ≤ j → j < n → ops[j]? = some oj → ∀ w, Below w0.heap.size w0 w → GYR P ops (Below w.heap.size w) oj (val' j) (fill ops val' (fun _ => true) a0 j) w) ∧ L (fill ops val' (fun _ => true) a0 n)
  | [], k, val, _, hk, h => by
    have : k = n := by simpa using hk
    subst this
    exact ⟨val, fun _ _ => rfl, fun j _ h1 h2 => by omega, h⟩
  | o :: l, k, val, hl, hk, ⟨v, hy, h⟩ => by
    have h0 : ops[k]? = some o := by simpa using (hl 0 (by simp)).symm
    have same : ∀ m, m ≤ k → ∀ u : Nat → Value, (∀ i, i < k → u i = val i) → fill ops u (fun _ => true) a0 m = fill ops val (fun _ => true) a0 m := fun m hm u hu => fill_congr _ _ _ _ _ m (fun i hi => ⟨rfl, hu i (by omega)⟩)
    have hv1 : ∀ i, i < k → (fun i => if i = k then v else val i) i = val i := fun i hi => by simp only; rw [if_neg (by omega)]
    have step : fill ops (fun i => if i = k then v else val i) (fun _ => true) a0 (k + 1) = (fill ops val (fun _ => true) a0 k).put o.dst v := by
      show (fill ops (fun i => if i = k then v else val i) (fun _ => true) a0 k).put (dstOf ops k) (if k = k then v else val k) = _
      rw [same k (Nat.le_refl _) _ hv1, if_pos rfl]
      simp [dstOf, h0]
    rw [← step] at h
    obtain ⟨val', e1, e2, e3⟩ := vals_of_growB (n := n) l (k + 1) _ (fun j hj => by have := hl (j + 1) (by simp; omega); simpa [Nat.add_assoc, Nat.add_comm 1 j] using this) (by simp at hk; omega) h
    have e0 : ∀ i, i < k → val' i = val i := fun i hi => (e1 i (by omega)).trans (hv1 i hi)
    refine ⟨val', e0, fun j oj h1 h2 hj => ?_, e3⟩
    by_cases e : j = k
    · subst e
      rw [h0] at hj; cases hj
      rw [same j (Nat.le_refl _) val' e0, show val' j = v from (e1 j (by omega)).trans (by simp)]
      exact hy
    · exact e2 j oj (by omega) h2 hj

/-- The first n operations are listed. -/
def listedTo (n k : Nat) : Array Bool := (List.replicate n true ++ List.replicate k false).toArray
theorem listed_eq {n : Nat} {listed : Array Bool} (hn : n ≤ ops.size) (hall : ∀ i, i < n → flag listed i = true) (inv : HeadInv .any ops n listed) : listed = listedTo n (ops.size - n) := by
  apply Array.ext_getElem?
  intro i
  have hs := inv.size
  unfold listedTo
  rw [show (List.replicate n true ++ List.replicate (ops.size - n) false).toArray[i]? = (List.replicate n true ++ List.replicate (ops.size - n) false)[i]? from by simp, List.getElem?_append]
  by_cases h : i < n
  · have := hall i h
    unfold flag at this
    rw [Array.getD_eq_getD_getElem?, Array.getElem?_eq_getElem (by omega)] at this
    rw [Array.getElem?_eq_getElem (by omega)]
    simp only [Option.getD_some] at this
    simp [h, this]
  · by_cases h2 : i < ops.size
    · have := inv.tail i (by omega) h2
      rw [Array.getD_eq_getD_getElem?, Array.getElem?_eq_getElem (by omega)] at this
      rw [Array.getElem?_eq_getElem (by omega)]
      simp only [Option.getD_some] at this
      have h3 : i - n < ops.size - n := by omega
      simp [h, this, h3]
    · rw [Array.getElem?_eq_none (by omega)]
      simp [h]; omega

theorem any_region_make {Q : Exit → Act → World → Prop} {a : Act} {w0 w : World} {l : List Oper} (m : Nat) {o : Oper} (ho : l[m]? = some o) (hg : o.guard = none) (hB : growKB l.toArray (m + 1) = true) (hS : Region.seqB .any l.toArray (l.length - (m + 1)) (m + 1) (listedTo (m + 1) (l.length - (m + 1))) = true) (hw : Below w0.heap.size w0 w)
    (h : wpGrowB P l.toArray w0 (fun a' => ∃ (mk : Nat → Value) (obj : Obj), (∀ w1, Below w0.heap.size w0 w1 → ∀ K : Act → World → Prop, (∀ a2 w2, a2 = a'.put o.dst (mk w1.heap.size) → w2 = w1.alloc obj → K a2 w2) → o.wp P a' w1 K (fun _ _ _ => False)) ∧
      ∀ g w', w0.heap.size ≤ g → Below w0.heap.size w0 w' → w'.heap[g]? = some obj → wpList P l.toArray Q (l.drop (m + 1)) (a'.put o.dst (mk g)) w') (l.take m) a) :
    wpAny P .any l.toArray Q l.toArray.size (Array.replicate l.toArray.size false) a w := by
  have ok := growKB_ok hB
  have hlt : m < l.length := (List.getElem?_eq_some_iff.1 ho).1
  obtain ⟨val, -, hY, mk, obj, hmk, hL⟩ := vals_of_growB (n := m) (a0 := a) (l.take m) 0 (fun _ => undef) (fun j hj => by
    have : j < m := by simp at hj; omega
    simp [this]) (by simp; omega) h
  have hoA : l.toArray[m]? = some o := by simpa using ho
  have start : HeadInv .any l.toArray (m + 1) (Array.replicate l.toArray.size false) :=
    ⟨by simp, (fun j oj _ hl => by rw [getD_replicate_false] at hl; cases hl), fun t _ ht => getD_in (by simpa using ht) (getD_replicate_false _ _)⟩
  have fl : ∀ (s : Nat) k, k ≤ m → fill l.toArray (fun j => if j = m then mk s else val j) (fun _ => true) a k = fill l.toArray val (fun _ => true) a k := fun s k hk => fill_congr _ _ _ _ _ k (fun i hi => ⟨rfl, by show (if i = m then mk s else val i) = _; rw [if_neg (by omega)]⟩)
  have zero : ∀ (v : Nat → Value) k, fill l.toArray v (flag (Array.replicate l.toArray.size false)) a k = a := by
    intro v k
    induction k with
    | zero => rfl
    | succ k ih =>
      show (if flag (Array.replicate l.toArray.size false) k then _ else _) = a
      rw [show flag (Array.replicate l.toArray.size false) k = false from getD_replicate_false _ _]
      exact ih
  have full : left (Array.replicate l.toArray.size false) (m + 1) = m + 1 := by
    have : ∀ k, left (Array.replicate l.toArray.size false) k = k := by
      intro k
      induction k with
      | zero => rfl
      | succ k ih => unfold left; rw [ih, show flag (Array.replicate l.toArray.size false) k = false from getD_replicate_false _ _]; rfl
    exact this _
  have key := any_of_stateK (P := P) (ops := l.toArray) (σ := Nat) (n := m + 1) ok (a0 := a) (val := fun s j => if j = m then mk s else val j)
    (J := fun f s w' => Below w0.heap.size w0 w' ∧ (f m = true → w0.heap.size ≤ s ∧ w'.heap[s]? = some obj)) (Q := Q)
    (fun f s w' j oj hj hoj hfj hdep hJ => by
      by_cases e : j = m
      · subst e
        rw [hoA] at hoj; cases hoj
        refine ⟨w'.heap.size, fun i hi => ?_, ?_⟩
        · have : i ≠ j := fun e => by subst e; rw [hfj] at hi; cases hi
          simp [this]
        · rw [fl _ j (Nat.le_refl _)]
          simp only [if_true]
          refine GYR.plain hg (fun K hK => hmk w' hJ.1 K fun a2 w2 e1 e2 => hK a2 w2 e1 ?_)
          subst e2
          exact fun f' h1 h2 => ⟨hJ.1.alloc hJ.1.size _, fun _ => ⟨hJ.1.size, heap_alloc_new w' obj⟩⟩
      · refine ⟨s, fun _ _ => rfl, ?_⟩
        rw [fl _ j (by omega)]
        simp only [e, if_false]
        refine (hY j oj (Nat.zero_le _) (by omega) hoj w' hJ.1).mono fun w2 hw2 f' h1 h2 => ⟨hJ.1.trans (hw2.mono hJ.1.size), fun hm => ?_⟩
        rw [h2 m (fun e' => e e'.symm)] at hm
        obtain ⟨h3, h4⟩ := hJ.2 hm
        exact ⟨h3, (hw2.block s (Array.getElem?_eq_some_iff.1 h4).1).trans h4⟩)
    (fun listed s w' hall inv hJ => by
      obtain ⟨h3, h4⟩ := hJ.2 (hall m (by omega))
      have hlast := hL s w' h3 hJ.1 h4
      have e : fill l.toArray (fun j => if j = m then mk s else val j) (fun _ => true) a (m + 1) = (fill l.toArray val (fun _ => true) a m).put o.dst (mk s) := by
        show (fill l.toArray (fun j => if j = m then mk s else val j) (fun _ => true) a m).put (dstOf l.toArray m) (if m = m then mk s else val m) = _
        rw [fl s m (Nat.le_refl _), if_pos rfl]
        simp [dstOf, ho]
      rw [e, listed_eq (by simp; omega) hall inv]
      have hsz : l.toArray.size - (m + 1) = (l.drop (m + 1)).length := by simp
      rw [hsz]
      refine wpAny_of_seq (l.drop (m + 1)) (m + 1) _ _ _ (fun j => by simp) ?_ hlast
      have : (l.drop (m + 1)).length = l.length - (m + 1) := by simp
      rw [this]; exact hS)
    (m + 1) (Array.replicate l.toArray.size false) 0 w start full ⟨hw, fun hm => by
      rw [show flag (Array.replicate l.toArray.size false) m = false from getD_replicate_false _ _] at hm; cases hm⟩
  rw [zero] at key
  have hsz : m + 1 + (l.toArray.size - (m + 1)) = l.toArray.size := by simp; omega
  rw [hsz] at key
  exact key

theorem wpIn_region_make {l₀ n : Nat} {id : Nat} {Q : Exit → Act → World → Prop} {a : Act} {w : World} {l : List Oper} (m : Nat) {o : Oper} (ho : l[m]? = some o) (hg : o.guard = none) (hm : P.follows .mixedOrders = true) (hd : noDefer l = true) (hout : ¬ LetsOut Q) (hB : growKB l.toArray (m + 1) = true) (hS : Region.seqB .any l.toArray (l.length - (m + 1)) (m + 1) (listedTo (m + 1) (l.length - (m + 1))) = true)
    (h : wpGrowB P l.toArray w (fun a' => ∃ (mk : Nat → Value) (obj : Obj), (∀ w1, Below w.heap.size w w1 → ∀ K : Act → World → Prop, (∀ a2 w2, a2 = a'.put o.dst (mk w1.heap.size) → w2 = w1.alloc obj → K a2 w2) → o.wp P a' w1 K (fun _ _ _ => False)) ∧
      ∀ g w', w.heap.size ≤ g → Below w.heap.size w w' → w'.heap[g]? = some obj → wpList P l.toArray Q (l.drop (m + 1)) (a'.put o.dst (mk g)) w') (l.take m) a) : (Code.region id l.toArray true).wpIn (Fence.wide.inRound l₀) n P Q a w :=
  wpIn_region_any hm (any_in hout (by simpa using hd) _ _ _ _ (any_region_make m ho hg hB hS ((Below.refl _ w).drew) h))
theorem wp_region_make {id : Nat} {Q : Exit → Act → World → Prop} {a : Act} {w : World} {l : List Oper} (m : Nat) {o : Oper} (ho : l[m]? = some o) (hg : o.guard = none) (hm : P.follows .mixedOrders = true) (hB : growKB l.toArray (m + 1) = true) (hS : Region.seqB .any l.toArray (l.length - (m + 1)) (m + 1) (listedTo (m + 1) (l.length - (m + 1))) = true)
    (h : wpGrowB P l.toArray w (fun a' => ∃ (mk : Nat → Value) (obj : Obj), (∀ w1, Below w.heap.size w w1 → ∀ K : Act → World → Prop, (∀ a2 w2, a2 = a'.put o.dst (mk w1.heap.size) → w2 = w1.alloc obj → K a2 w2) → o.wp P a' w1 K (fun _ _ _ => False)) ∧
      ∀ g w', w.heap.size ≤ g → Below w.heap.size w w' → w'.heap[g]? = some obj → wpList P l.toArray Q (l.drop (m + 1)) (a'.put o.dst (mk g)) w') (l.take m) a) : (Code.region id l.toArray true).wp P Q a w :=
  wp_region_any hm (any_region_make m ho hg hB hS ((Below.refl _ w).drew) h)

/-- A guarded operation of a growing region whose guard is met, or not. -/
theorem wpGrow_on {w0 : World} {L : Act → Prop} {o : Oper} {rest : List Oper} {a : Act} {v : Value} (hwt : Region.wanted o (yielded ops a.tmps) = true) (h : ∀ w, Below w0.heap.size w0 w → ∀ K : Act → World → Prop, (∀ a' w', a' = a.put o.dst v → Below w0.heap.size w0 w' → K a' w') → o.wp P a w K (fun _ _ _ => False))
    (hr : wpGrow P ops w0 L rest (a.put o.dst v)) : wpGrow P ops w0 L (o :: rest) a :=
  wpGrow_step v (fun w hw K hK => by rw [if_pos hwt]; exact h w hw K hK) hr (.inl hwt)
theorem wpGrow_off {w0 : World} {L : Act → Prop} {o : Oper} {rest : List Oper} {a : Act} (hwt : Region.wanted o (yielded ops a.tmps) = false)
    (hr : wpGrow P ops w0 L rest (a.put o.dst undef)) : wpGrow P ops w0 L (o :: rest) a :=
  wpGrow_step undef (fun w hw K hK => by rw [if_neg (by simp [hwt])]; exact hK _ _ rfl hw) hr (.inr rfl)
end
end Go.Proofs.YtgmahakpmjfhhaaRR
