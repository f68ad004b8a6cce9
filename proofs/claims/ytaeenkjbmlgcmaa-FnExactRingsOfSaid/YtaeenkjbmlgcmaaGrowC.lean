/- Regions that draw their order, of which one operation is a call whose answer lies in memory it makes, and the next one makes a block out of the answer; a sequence follows. -/
import Derived.Test.YtaeenkjbmlgcmaaGrowV
import Derived.Test.YtaeenkjbmlgcmaaZD
namespace Go.Proofs.Ytaeenkjbmlgcmaa
open Go.RowKit
set_option linter.unusedVariables false

section
variable {P : Program} {ops : Array Oper}

/-- All orders come to the same slots, but for what hangs on a state that an operation's run tells; behind the first n operations a sequence follows. -/
theorem any_of_stateKX {σ : Type} {n : Nat} (ok : GrowKOk ops n) {a0 : Act} {val : σ → Nat → Value} {J : (Nat → Bool) → σ → World → Prop} {Q : Exit → Act → World → Prop}
    (hY : ∀ (l : Nat → Bool) (s : σ) (w : World) (j : Nat) (oj : Oper), j < n → ops[j]? = some oj → l j = false → (∀ e ∈ oj.after, Region.binds .any e = true → l e.on = true) → J l s w →
      GYX P ops (fun s' w' => (∀ i, l i = true → val s' i = val s i) ∧ ∀ l' : Nat → Bool, l' j = true → (∀ i, i ≠ j → l' i = l i) → J l' s' w') oj (fun s' => val s' j) (fill ops (val s) (fun _ => true) a0 j) w)
    (hnext : ∀ listed s w, (∀ i, i < n → flag listed i = true) → HeadInv .any ops n listed → J (flag listed) s w → wpAny P .any ops Q (ops.size - n) listed (fill ops (val s) (fun _ => true) a0 n) w) :
    ∀ (f : Nat) (listed : Array Bool) (s : σ) (w : World), HeadInv .any ops n listed → left listed n = f → J (flag listed) s w → wpAny P .any ops Q (f + (ops.size - n)) listed (fill ops (val s) (flag listed) a0 n) w := by
  intro f
  induction f with
  | zero =>
    intro listed s w inv hl hw
    have hall := left_zero n hl
    rw [fill_congr (val s) (val s) (flag listed) (fun _ => true) a0 n (fun i hi => ⟨hall i hi, rfl⟩), Nat.zero_add]
    exact hnext listed s w hall inv hw
  | succ f ih =>
    intro listed s w inv hl hw
    have hz : ¬ left listed n = 0 := by omega
    have hsz := ok.size
    obtain ⟨m, hm, hmun, hmin⟩ : ∃ m, m < n ∧ flag listed m = false ∧ ∀ j, j < m → flag listed j = true := by
      clear hl
      have key : ∀ k, k ≤ n → (∀ j, j < k → flag listed j = true) ∨ ∃ m, m < k ∧ flag listed m = false ∧ ∀ j, j < m → flag listed j = true := by
        intro k hk
        induction k with
        | zero => exact .inl fun j hj => by omega
        | succ k ihk =>
          rcases ihk (by omega) with h | ⟨m, h1, h2, h3⟩
          · cases hf : flag listed k with
            | true =>
              refine .inl (fun j hj => ?_)
              by_cases e : j = k
              · subst e; exact hf
              · exact h j (by omega)
            | false => exact .inr ⟨k, by omega, hf, h⟩
          · exact .inr ⟨m, by omega, h2, h3⟩
      rcases key n (Nat.le_refl _) with h | h
      · refine absurd ?_ hz
        have : ∀ k, k ≤ n → left listed k = 0 := by
          intro k hk
          induction k with
          | zero => rfl
          | succ k ihk => unfold left; rw [ihk (by omega), h k (by omega)]; rfl
        exact this n (Nat.le_refl _)
      · exact h
    have hms : m < listed.size := by rw [inv.size]; omega
    obtain ⟨om, hom⟩ : ∃ om, ops[m]? = some om := ⟨_, Array.getElem?_eq_getElem (by omega)⟩
    have hmr : m ∈ Region.ready .any ops listed := mem_ready.2 ⟨getD_in hms hmun, om, hom, fun e he hb => hmin _ (ok.back m om (by omega) hom e he hb)⟩
    rw [show f + 1 + (ops.size - n) = (f + (ops.size - n)) + 1 by omega]
    refine ⟨fun h => (by rw [h] at hmr; cases hmr), fun i hi => ?_⟩
    obtain ⟨h1, oi, hoi, hdep⟩ := mem_ready.1 hi
    have hin : i < n := by
      rcases Nat.lt_or_ge i n with h | h
      · exact h
      · exact absurd hi (bar_waits ok.bar inv _ m rfl hm (getD_in hms hmun) i h)
    have his : i < listed.size := by rw [inv.size]; omega
    have hiun : flag listed i = false := getD_both h1
    have hy := hY (flag listed) s w i oi hin hoi hiun hdep hw
    have hother : ∀ j, j ≠ i → flag (listed.setIfInBounds i true) j = flag listed j := fun j hj => getD_set_ne false (Ne.symm hj)
    have hself : flag (listed.setIfInBounds i true) i = true := by simp [flag, his]
    have hfs : ∀ s' : σ, (∀ i, flag listed i = true → val s' i = val s i) → fill ops (val s') (flag (listed.setIfInBounds i true)) a0 n = (fill ops (val s) (flag listed) a0 n).put (dstOf ops i) (val s' i) := fun s' hv => by
      rw [fill_same (val s) (val s') (flag listed) a0 n (fun j _ hj => (hv j hj).symm)]
      exact fill_set (val s') (flag listed) (flag (listed.setIfInBounds i true)) a0 i hiun hself hother n hin (ok.dist i hin)
    have hdst : dstOf ops i = oi.dst := by simp [dstOf, hoi]
    have hagree : Agree (oi.looksAt ops) (fill ops (val s) (fun _ => true) a0 i) (fill ops (val s) (flag listed) a0 n) := by
      have e1 : fill ops (val s) (fun _ => true) a0 i = fill ops (val s) (fun j => decide (j < i)) a0 i := fill_congr _ _ _ _ _ i (fun j hj => ⟨by simp [hj], rfl⟩)
      have e2 : ∀ k, i ≤ k → fill ops (val s) (fun j => decide (j < i)) a0 k = fill ops (val s) (fun j => decide (j < i)) a0 i := by
        intro k hk
        induction k with
        | zero => rw [show i = 0 by omega]
        | succ k ihk =>
          by_cases e : i = k + 1
          · rw [e]
          · rw [← ihk (by omega)]
            show (if decide (k < i) then _ else _) = _
            rw [show decide (k < i) = false by simp; omega]
            rfl
      rw [e1, ← e2 n (by omega)]
      refine fill_agree (val s) _ _ a0 _ n (fun j hj hne d hd hl => ?_)
      obtain ⟨e, he, hb, hon⟩ := ok.looks i oi hin hoi j hj d hd hl
      have hlisted := hdep e he hb
      rw [hon] at hlisted
      have hback := ok.back i oi (by omega) hoi e he hb
      rw [hon] at hback
      exact hne (by show decide (j < i) = flag listed j; unfold flag; rw [hlisted]; simp [hback])
    have hat := hy.at (fun cs c => ok.sel i oi cs c hoi) hagree (K := wpAny P .any ops Q (f + (ops.size - n)) (listed.setIfInBounds i true)) (Q := Q) (fun s' w' hw' => by
      rw [← hdst, ← hfs s' hw'.1]
      exact ih (listed.setIfInBounds i true) s' w' (inv.set hi hin) (by have := left_set hiun his n hin; omega) (hw'.2 _ hself hother))
    unfold wpOp
    simp only [hoi]
    split
    · rename_i hwt; rw [if_pos hwt] at hat; exact .inl hat
    · rename_i hwt; rw [if_neg hwt] at hat; exact hat

theorem any_region_call {Q : Exit → Act → World → Prop} {a : Act} {w0 w : World} {l : List Oper} (k : Nat) {oc om : Oper} (hc : l[k]? = some oc) (hgc : oc.guard = none) (ho : l[k + 1]? = some om) (hgm : om.guard = none) (hde : (om.after.any fun e => e.on == k && Region.binds .any e) = true)
    (hB : growKB l.toArray (k + 2) = true) (hS : Region.seqB .any l.toArray (l.length - (k + 2)) (k + 2) (listedTo (k + 2) (l.length - (k + 2))) = true) (I : Value → World → Prop) (hI : ∀ q w w', I q w → Below w.heap.size w w' → I q w') (mk : Value → Nat → Value) (obj : Value → Obj) (hw : Below w0.heap.size w0 w)
    (h : wpGrowB P l.toArray w0 (fun a' =>
      (∀ w1, Below w0.heap.size w0 w1 → ∀ K : Act → World → Prop, (∀ q a2 w2, a2 = a'.put oc.dst q → Below w1.heap.size w1 w2 → I q w2 → K a2 w2) → oc.wp P a' w1 K (fun _ _ _ => False)) ∧
      (∀ q w1, Below w0.heap.size w0 w1 → I q w1 → ∀ K : Act → World → Prop, (∀ a2 w2, a2 = (a'.put oc.dst q).put om.dst (mk q w1.heap.size) → w2 = w1.alloc (obj q) → K a2 w2) → om.wp P (a'.put oc.dst q) w1 K (fun _ _ _ => False)) ∧
      ∀ q g w', w0.heap.size ≤ g → Below w0.heap.size w0 w' → I q w' → w'.heap[g]? = some (obj q) → wpList P l.toArray Q (l.drop (k + 2)) ((a'.put oc.dst q).put om.dst (mk q g)) w') (l.take k) a) :
    wpAny P .any l.toArray Q l.toArray.size (Array.replicate l.toArray.size false) a w := by
  have ok := growKB_ok hB
  have hlt : k + 1 < l.length := (List.getElem?_eq_some_iff.1 ho).1
  obtain ⟨val, -, hY, hcall, hmk, hL⟩ := vals_of_growB (n := k) (a0 := a) (l.take k) 0 (fun _ => undef) (fun j hj => by
    have : j < k := by simp at hj; omega
    simp [this]) (by simp; omega) h
  have hcA : l.toArray[k]? = some oc := by simpa using hc
  have hoA : l.toArray[k + 1]? = some om := by simpa using ho
  have start : HeadInv .any l.toArray (k + 2) (Array.replicate l.toArray.size false) :=
    ⟨by simp, (fun j oj _ hl => by rw [getD_replicate_false] at hl; cases hl), fun t _ ht => getD_in (by simpa using ht) (getD_replicate_false _ _)⟩
  obtain ⟨V, hV⟩ : ∃ V : Value × Nat → Nat → Value, V = fun s j => if j = k then s.1 else if j = k + 1 then mk s.1 s.2 else val j := ⟨_, rfl⟩
  have V0 : ∀ s j, j < k → V s j = val j := fun s j hj => by rw [hV]; simp only; rw [if_neg (by omega), if_neg (by omega)]
  have Vk : ∀ s, V s k = s.1 := fun s => by rw [hV]; simp
  have Vm : ∀ s, V s (k + 1) = mk s.1 s.2 := fun s => by rw [hV]; simp
  have fl : ∀ s j, j ≤ k → fill l.toArray (V s) (fun _ => true) a j = fill l.toArray val (fun _ => true) a j := fun s j hj => fill_congr _ _ _ _ _ j (fun i hi => ⟨rfl, V0 s i (by omega)⟩)
  have flk : ∀ s, fill l.toArray (V s) (fun _ => true) a (k + 1) = (fill l.toArray val (fun _ => true) a k).put oc.dst s.1 := fun s => by
    show (if (fun _ => true) k = true then (fill l.toArray (V s) (fun _ => true) a k).put (dstOf l.toArray k) (V s k) else _) = _
    rw [if_pos rfl, fl s k (Nat.le_refl _), Vk]
    simp [dstOf, hc]
  have zero : ∀ (v : Nat → Value) k, fill l.toArray v (flag (Array.replicate l.toArray.size false)) a k = a := by
    intro v k
    induction k with
    | zero => rfl
    | succ k ih =>
      show (if flag (Array.replicate l.toArray.size false) k then _ else _) = a
      rw [show flag (Array.replicate l.toArray.size false) k = false from getD_replicate_false _ _]
      exact ih
  have full : left (Array.replicate l.toArray.size false) (k + 2) = k + 2 := by
    have : ∀ k, left (Array.replicate l.toArray.size false) k = k := by
      intro k
      induction k with
      | zero => rfl
      | succ k ih => unfold left; rw [ih, show flag (Array.replicate l.toArray.size false) k = false from getD_replicate_false _ _]; rfl
    exact this _
  have key := any_of_stateKX (P := P) (ops := l.toArray) (σ := Value × Nat) (n := k + 2) ok (a0 := a) (val := V)
    (J := fun f s w' => Below w0.heap.size w0 w' ∧ (f k = true → I s.1 w') ∧ (f (k + 1) = true → f k = true ∧ w0.heap.size ≤ s.2 ∧ w'.heap[s.2]? = some (obj s.1))) (Q := Q)
    (fun f s w' j oj hj hoj hfj hdep hJ => by
      by_cases e : j = k
      · subst e
        rw [hcA] at hoj; cases hoj
        rw [fl s j (Nat.le_refl _)]
        unfold GYX
        rw [if_pos (by simp [Region.wanted, hgc])]
        intro K hK
        have hfm : f (j + 1) = true → False := fun hm => by have := (hJ.2.2 hm).1; rw [hfj] at this; cases this
        refine hcall w' hJ.1 K fun q a2 w2 e1 e2 e3 => hK (q, s.2) a2 w2 (by simp only [Vk]; exact e1) ⟨fun i hi => ?_, fun f' h1 h2 => ⟨hJ.1.trans (e2.mono hJ.1.size), fun _ => e3, fun hm => ?_⟩⟩
        · have n1 : i ≠ j := fun e => by subst e; rw [hfj] at hi; cases hi
          have n2 : i ≠ j + 1 := fun e => by subst e; exact hfm hi
          rw [hV]
          simp only
          rw [if_neg n1, if_neg n2, if_neg n1, if_neg n2]
        · rw [h2 (j + 1) (by omega)] at hm
          exact (hfm hm).elim
      by_cases em : j = k + 1
      · subst em
        rw [hoA] at hoj; cases hoj
        have hfk : f k = true := by
          rw [Array.any_eq_true'] at hde
          obtain ⟨e, he, hb⟩ := hde
          simp only [Bool.and_eq_true, beq_iff_eq] at hb
          have := hdep e he hb.2
          rwa [hb.1] at this
        have hIq := hJ.2.1 hfk
        rw [flk s]
        unfold GYX
        rw [if_pos (by simp [Region.wanted, hgm])]
        intro K hK
        refine hmk s.1 w' hJ.1 hIq K fun a2 w2 e1 e2 => hK (s.1, w'.heap.size) a2 w2 (by simp only [Vm]; exact e1) ⟨fun i hi => ?_, fun f' h1 h2 => ?_⟩
        · have n2 : i ≠ k + 1 := fun e => by subst e; rw [hfj] at hi; cases hi
          rw [hV]
          simp only
          by_cases n1 : i = k
          · rw [if_pos n1, if_pos n1]
          · rw [if_neg n1, if_neg n2, if_neg n1, if_neg n2]
        · subst e2
          exact ⟨hJ.1.alloc hJ.1.size _, fun _ => hI _ _ _ hIq ((Below.refl _ _).alloc (Nat.le_refl _) _), fun _ => ⟨by rw [h2 k (by omega)]; exact hfk, hJ.1.size, heap_alloc_new w' (obj s.1)⟩⟩
      · have hjk : j < k := by omega
        rw [fl s j (by omega)]
        refine GYX.of s (hY j oj (Nat.zero_le _) hjk hoj w' hJ.1) (V0 s j hjk) fun w2 hw2 => ⟨fun _ _ => rfl, fun f' h1 h2 => ⟨hJ.1.trans (hw2.mono hJ.1.size), fun hf => hI _ _ _ (hJ.2.1 (by rw [← h2 k (by omega)]; exact hf)) hw2, fun hm => ?_⟩⟩
        rw [h2 (k + 1) (by omega)] at hm
        obtain ⟨h3, h4, h5⟩ := hJ.2.2 hm
        exact ⟨by rw [h2 k (by omega)]; exact h3, h4, (hw2.block s.2 (Array.getElem?_eq_some_iff.1 h5).1).trans h5⟩)
    (fun listed s w' hall inv hJ => by
      obtain ⟨-, h4, h5⟩ := hJ.2.2 (hall (k + 1) (by omega))
      have hlast := hL s.1 s.2 w' h4 hJ.1 (hJ.2.1 (hall k (by omega))) h5
      have e : fill l.toArray (V s) (fun _ => true) a (k + 2) = ((fill l.toArray val (fun _ => true) a k).put oc.dst s.1).put om.dst (mk s.1 s.2) := by
        show (if (fun _ => true) (k + 1) = true then (fill l.toArray (V s) (fun _ => true) a (k + 1)).put (dstOf l.toArray (k + 1)) (V s (k + 1)) else _) = _
        rw [if_pos rfl, flk s, Vm]
        simp [dstOf, ho]
      rw [e, listed_eq (by simp; omega) hall inv]
      have hsz : l.toArray.size - (k + 2) = (l.drop (k + 2)).length := by simp
      rw [hsz]
      refine wpAny_of_seq (l.drop (k + 2)) (k + 2) _ _ _ (fun j => by simp) ?_ hlast
      have : (l.drop (k + 2)).length = l.length - (k + 2) := by simp
      rw [this]; exact hS)
    (k + 2) (Array.replicate l.toArray.size false) (undef, 0) w start full ⟨hw, (fun hm => by
      rw [show flag (Array.replicate l.toArray.size false) k = false from getD_replicate_false _ _] at hm; cases hm), fun hm => by
      rw [show flag (Array.replicate l.toArray.size false) (k + 1) = false from getD_replicate_false _ _] at hm; cases hm⟩
  rw [zero] at key
  have hsz : k + 2 + (l.toArray.size - (k + 2)) = l.toArray.size := by simp; omega
  rw [hsz] at key
  exact key

theorem wpIn_region_call {l₀ n : Nat} {id : Nat} {Q : Exit → Act → World → Prop} {a : Act} {w : World} {l : List Oper} (k : Nat) {oc om : Oper} (hc : l[k]? = some oc) (hgc : oc.guard = none) (ho : l[k + 1]? = some om) (hgm : om.guard = none) (hde : (om.after.any fun e => e.on == k && Region.binds .any e) = true) (hm : P.follows .mixedOrders = true) (hd : noDefer l = true) (hout : ¬ LetsOut Q)
    (hB : growKB l.toArray (k + 2) = true) (hS : Region.seqB .any l.toArray (l.length - (k + 2)) (k + 2) (listedTo (k + 2) (l.length - (k + 2))) = true) (I : Value → World → Prop) (hI : ∀ q w w', I q w → Below w.heap.size w w' → I q w') (mk : Value → Nat → Value) (obj : Value → Obj)
    (h : wpGrowB P l.toArray w (fun a' =>
      (∀ w1, Below w.heap.size w w1 → ∀ K : Act → World → Prop, (∀ q a2 w2, a2 = a'.put oc.dst q → Below w1.heap.size w1 w2 → I q w2 → K a2 w2) → oc.wp P a' w1 K (fun _ _ _ => False)) ∧
      (∀ q w1, Below w.heap.size w w1 → I q w1 → ∀ K : Act → World → Prop, (∀ a2 w2, a2 = (a'.put oc.dst q).put om.dst (mk q w1.heap.size) → w2 = w1.alloc (obj q) → K a2 w2) → om.wp P (a'.put oc.dst q) w1 K (fun _ _ _ => False)) ∧
      ∀ q g w', w.heap.size ≤ g → Below w.heap.size w w' → I q w' → w'.heap[g]? = some (obj q) → wpList P l.toArray Q (l.drop (k + 2)) ((a'.put oc.dst q).put om.dst (mk q g)) w') (l.take k) a) : (Code.region id l.toArray true).wpIn (Fence.wide.inRound l₀) n P Q a w :=
  wpIn_region_any hm (any_in hout (by simpa using hd) _ _ _ _ (any_region_call k hc hgc ho hgm hde hB hS I hI mk obj ((Below.refl _ w).drew) h))
theorem wp_region_call {id : Nat} {Q : Exit → Act → World → Prop} {a : Act} {w : World} {l : List Oper} (k : Nat) {oc om : Oper} (hc : l[k]? = some oc) (hgc : oc.guard = none) (ho : l[k + 1]? = some om) (hgm : om.guard = none) (hde : (om.after.any fun e => e.on == k && Region.binds .any e) = true) (hm : P.follows .mixedOrders = true)
    (hB : growKB l.toArray (k + 2) = true) (hS : Region.seqB .any l.toArray (l.length - (k + 2)) (k + 2) (listedTo (k + 2) (l.length - (k + 2))) = true) (I : Value → World → Prop) (hI : ∀ q w w', I q w → Below w.heap.size w w' → I q w') (mk : Value → Nat → Value) (obj : Value → Obj)
    (h : wpGrowB P l.toArray w (fun a' =>
      (∀ w1, Below w.heap.size w w1 → ∀ K : Act → World → Prop, (∀ q a2 w2, a2 = a'.put oc.dst q → Below w1.heap.size w1 w2 → I q w2 → K a2 w2) → oc.wp P a' w1 K (fun _ _ _ => False)) ∧
      (∀ q w1, Below w.heap.size w w1 → I q w1 → ∀ K : Act → World → Prop, (∀ a2 w2, a2 = (a'.put oc.dst q).put om.dst (mk q w1.heap.size) → w2 = w1.alloc (obj q) → K a2 w2) → om.wp P (a'.put oc.dst q) w1 K (fun _ _ _ => False)) ∧
      ∀ q g w', w.heap.size ≤ g → Below w.heap.size w w' → I q w' → w'.heap[g]? = some (obj q) → wpList P l.toArray Q (l.drop (k + 2)) ((a'.put oc.dst q).put om.dst (mk q g)) w') (l.take k) a) : (Code.region id l.toArray true).wp P Q a w :=
  wp_region_any hm (any_region_call k hc hgc ho hgm hde hB hS I hI mk obj ((Below.refl _ w).drew) h)
end
end Go.Proofs.Ytaeenkjbmlgcmaa
