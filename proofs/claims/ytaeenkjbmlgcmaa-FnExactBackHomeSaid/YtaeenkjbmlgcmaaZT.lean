/- Regions that draw their order: any operation may answer what is known by what holds of its value; one of them may write to what the others have made; what leans on others is done ahead of it. Regions that draw their order: any operation may answer what is known by what holds of its value. -/
import Derived.Test.YtaeenkjbmlgcmaaGrowV
import Derived.Test.YtaeenkjbmlgcmaaZB
import Derived.ArgAppend
namespace Go.Proofs.Ytaeenkjbmlgcmaa
open Go.RowKit
set_option linter.unusedVariables false

section
variable {P : Program} {ops : Array Oper}

theorem GYX.mapW {σ τ : Type} (f : σ → τ) {R : σ → World → Prop} {R' : τ → World → Prop} {o : Oper} {v : σ → Value} {v' : τ → Value} {a : Act} {w : World} (h : GYX P ops R o v a w) (hv : ∀ s, v' (f s) = v s) (hr : ∀ s w', R s w' → R' (f s) w') : GYX P ops R' o v' a w := by
  unfold GYX at h ⊢
  split
  · rename_i hwt
    rw [if_pos hwt] at h
    exact fun K hK => h K fun s a' w' e r => hK (f s) a' w' (by rw [hv]; exact e) (hr s w' r)
  · rename_i hwt
    rw [if_neg hwt] at h
    obtain ⟨s, h1, h2⟩ := h
    exact ⟨f s, (hv s).trans h1, hr s w h2⟩

def shW (sh : List (Value → Value)) (j : Nat) : Value → Value := sh.getD j (fun _ => undef)
def inW (I : List (Value → World → Prop)) (j : Nat) : Value → World → Prop := I.getD j (fun _ _ => True)
def depW (ops : Array Oper) (n : Nat) (D : List (List Nat)) : Bool :=
  (List.range n).all fun j => (D.getD j []).all fun i => decide (i < n) && match ops[j]? with
    | some o => o.after.any fun e => Region.binds .any e && (e.on == i || (decide (e.on < n) && (D.getD e.on []).contains i))
    | none => false
def actW (P : Program) (ops : Array Oper) (w0 : World) (S : Nat) (sh : List (Value → Value)) (I : List (Value → World → Prop)) (D : List (List Nat)) (s : Nat → Value) (j : Nat) (o : Oper) (a : Act) : Prop :=
  ∀ w, Below w0.heap.size w0 w → (∀ i, i ∈ D.getD j [] → inW I i (s i) w) → GYX P ops (fun q w' => (if j = S then Below w0.heap.size w0 w' else Below w.heap.size w w') ∧ inW I j q w') o (shW sh j) a w
def seqW (P : Program) (ops : Array Oper) (w0 : World) (S : Nat) (sh : List (Value → Value)) (I : List (Value → World → Prop)) (D : List (List Nat)) (s : Nat → Value) (L : Act → Prop) : Nat → List Oper → Act → Prop
  | _, [], a => L a
  | j, o :: rest, a => actW P ops w0 S sh I D s j o a ∧ seqW P ops w0 S sh I D s L (j + 1) rest (a.put o.dst (shW sh j (s j)))
def valW (sh : List (Value → Value)) (s : Nat → Value) (j : Nat) : Value := shW sh j (s j)
theorem seqW_spec {w0 : World} {S : Nat} {sh : List (Value → Value)} {I : List (Value → World → Prop)} {D : List (List Nat)} {s : Nat → Value} {L : Act → Prop} {n : Nat} {a0 : Act} : ∀ (l : List Oper) (m : Nat), (∀ j, j < l.length → l[j]? = ops[m + j]?) → m + l.length = n →
    seqW P ops w0 S sh I D s L m l (fill ops (valW sh s) (fun _ => true) a0 m) →
    (∀ (j : Nat) (oj : Oper), m ≤ j → j < n → ops[j]? = some oj → actW P ops w0 S sh I D s j oj (fill ops (valW sh s) (fun _ => true) a0 j)) ∧ L (fill ops (valW sh s) (fun _ => true) a0 n)
  | [], m, _, hk, h => by
    have : m = n := by simpa using hk
    subst this
    exact ⟨fun j _ h1 h2 => by omega, h⟩
  | o :: l, m, hl, hk, ⟨hy, h⟩ => by
    have h0 : ops[m]? = some o := by simpa using (hl 0 (by simp)).symm
    have step : fill ops (valW sh s) (fun _ => true) a0 (m + 1) = (fill ops (valW sh s) (fun _ => true) a0 m).put o.dst (shW sh m (s m)) := by
      show (fill ops (valW sh s) (fun _ => true) a0 m).put (dstOf ops m) (valW sh s m) = _
      simp [dstOf, h0, valW]
    rw [← step] at h
    obtain ⟨e2, e3⟩ := seqW_spec (n := n) l (m + 1) (fun j hj => by have := hl (j + 1) (by simp; omega); simpa [Nat.add_assoc, Nat.add_comm 1 j] using this) (by simp at hk; omega) h
    refine ⟨fun j oj h1 h2 hj => ?_, e3⟩
    by_cases e : j = m
    · subst e
      rw [h0] at hj; cases hj
      exact hy
    · exact e2 j oj (by omega) h2 hj

theorem wp_region_growW {id : Nat} {Q : Exit → Act → World → Prop} {a : Act} {w : World} {l : List Oper} (n S : Nat) (sh : List (Value → Value)) (I : List (Value → World → Prop)) (D : List (List Nat))
    (hI : ∀ j p w w', inW I j p w → Below w.heap.size w w' → inW I j p w')
    (hm : P.follows .mixedOrders = true) (hB : growB l.toArray n = true) (hD : depW l.toArray n D = true)
    (hks : (decide (S < n) && (List.range n).all fun j => (D.getD j []).isEmpty || j == S || (D.getD S []).contains j) = true)
    (h : ∀ s, seqW P l.toArray w S sh I D s (fun a' => ∀ w', Below w.heap.size w w' → inW I S (s S) w' → wpList P l.toArray Q (l.drop n) a' w') 0 (l.take n) a) : (Code.region id l.toArray true).wp P Q a w := by
  have ok := growB_ok hB
  have hlen : l.length = n + 1 := by simpa using ok.size
  simp only [Bool.and_eq_true, decide_eq_true_eq] at hks
  obtain ⟨hSn, hfree⟩ := hks
  have hfr : ∀ j, j < n → j ≠ S → D.getD j [] ≠ [] → j ∈ D.getD S [] := by
    intro j hj hjS hjD
    have := List.all_eq_true.1 hfree j (List.mem_range.2 hj)
    simp only [Bool.or_eq_true, List.isEmpty_iff, beq_iff_eq, List.contains_iff_mem] at this
    rcases this with (h1 | h1) | h1
    · exact absurd h1 hjD
    · exact absurd h1 hjS
    · exact h1
  have hsp := fun s => seqW_spec (n := n) (a0 := a) (ops := l.toArray) (P := P) (l.take n) 0 (fun j hj => by
    have : j < n := by simp at hj; omega
    simp [this]) (by simp; omega) (h s)
  have start : HeadInv .any l.toArray n (Array.replicate l.toArray.size false) :=
    ⟨by simp, (fun j oj _ hl => by rw [getD_replicate_false] at hl; cases hl), fun t _ ht => getD_in (by simpa using ht) (getD_replicate_false _ _)⟩
  have zero : ∀ val : Nat → Value, ∀ k, fill l.toArray val (flag (Array.replicate l.toArray.size false)) a k = a := by
    intro val k
    induction k with
    | zero => rfl
    | succ k ih =>
      show (if flag (Array.replicate l.toArray.size false) k then _ else _) = a
      rw [show flag (Array.replicate l.toArray.size false) k = false from getD_replicate_false _ _]
      exact ih
  have most : ∀ k, left (Array.replicate l.toArray.size false) k ≤ k := by
    intro k
    induction k with
    | zero => exact Nat.le_refl _
    | succ k ih => unfold left; split <;> omega
  refine wp_region_any hm ?_
  have := any_of_stateX (P := P) (Q := Q) (σ := Nat → Value) (a0 := a) (val := valW sh)
    (J := fun f s w' => Below w.heap.size w w' ∧ (∀ j, j < n → f j = true → (f S = false → inW I j (s j) w') ∧ ∀ i, i ∈ D.getD j [] → f i = true) ∧ (f S = true → inW I S (s S) w')) ok
    (fun f s w1 j oj hj hoj hun hd hJ => by
      obtain ⟨hb, hh, hH⟩ := hJ
      have hdj : ∀ i, i ∈ D.getD j [] → i < n ∧ f i = true := by
        intro i hi
        have h1 := List.all_eq_true.1 (List.all_eq_true.1 hD j (List.mem_range.2 hj)) i hi
        rw [hoj] at h1
        simp only [Bool.and_eq_true, decide_eq_true_eq] at h1
        obtain ⟨e, he, hb⟩ := Array.any_eq_true'.1 h1.2
        simp only [Bool.and_eq_true, Bool.or_eq_true, beq_iff_eq, decide_eq_true_eq] at hb
        have hl := hd e he hb.1
        rcases hb.2 with h4 | h4
        · rw [h4] at hl; exact ⟨h1.1, hl⟩
        · exact ⟨h1.1, (hh e.on h4.1 hl).2 i (by simpa using h4.2)⟩
      have hst := (hsp s).1 j oj (Nat.zero_le _) hj hoj
      unfold actW at hst
      have hfacts : ∀ i, i ∈ D.getD j [] → inW I i (s i) w1 := fun i hi => by
        refine (hh i (hdj i hi).1 (hdj i hi).2).1 ?_
        cases e : f S with
        | false => rfl
        | true =>
          by_cases ejS : j = S
          · rw [← ejS, hun] at e; cases e
          · have := (hh S hSn e).2 j (hfr j hj ejS (fun h0 => by rw [h0] at hi; cases hi))
            rw [hun] at this; cases this
      refine (hst w1 hb hfacts).mapW (fun q i => if i = j then q else s i) (fun q => by simp [valW]) fun q w' hr => ⟨fun i hi => ?_, fun f' hf' ho => ?_⟩
      · have : i ≠ j := fun e => by rw [e, hun] at hi; cases hi
        simp [valW, this]
      · by_cases ejS : j = S
        · rw [if_pos ejS] at hr
          rw [ejS] at hf'
          refine ⟨hr.1, fun i hin hfi => ⟨fun hc => (by rw [hf'] at hc; cases hc), fun m hm => ?_⟩, fun _ => ?_⟩
          · by_cases em : m = j
            · rw [em, ejS]; exact hf'
            · by_cases e : i = j
              · rw [ho m em]; exact (hdj m (by rw [← e]; exact hm)).2
              · rw [ho i e] at hfi; rw [ho m em]; exact (hh i hin hfi).2 m hm
          · simp only [← ejS, if_true]
            exact hr.2
        · rw [if_neg ejS] at hr
          have hS' := ho S (Ne.symm ejS)
          refine ⟨below_onto hb hr.1, fun i hin hfi => ?_, fun hfk => ?_⟩
          · by_cases e : i = j
            · subst e
              refine ⟨fun _ => by simpa using hr.2, fun m hm => ?_⟩
              by_cases em : m = i
              · rw [em]; exact hf'
              · rw [ho m em]; exact (hdj m hm).2
            · rw [ho i e] at hfi
              obtain ⟨h1, h2⟩ := hh i hin hfi
              refine ⟨fun hc => by simpa [e] using hI i _ _ _ (h1 (hS' ▸ hc)) hr.1, fun m hm => ?_⟩
              by_cases em : m = j
              · rw [em]; exact hf'
              · rw [ho m em]; exact h2 m hm
          · rw [hS'] at hfk
            show inW I S (if S = j then q else s S) w'
            rw [if_neg (Ne.symm ejS)]
            exact hI S _ _ _ (hH hfk) hr.1)
    (fun f s w1 hall hJ => by
      obtain ⟨hb, -, hH⟩ := hJ
      have hn := (hsp s).2 w1 hb (hH (hall S hSn))
      have hd : l.drop n = [l[n]] := by
        rw [List.drop_eq_getElem_cons (by omega), List.drop_eq_nil_of_le (by omega)]
      rw [hd] at hn
      unfold wpOp
      have ho : l.toArray[n]? = some l[n] := by simp
      simp only [ho]
      exact hn) n (Array.replicate l.toArray.size false) (fun _ => undef) w.drew start (most n)
      ⟨(Below.refl _ w).drew, (fun j _ h => by rw [show flag (Array.replicate l.toArray.size false) j = false from getD_replicate_false _ _] at h; cases h), (fun h => by rw [show flag (Array.replicate l.toArray.size false) S = false from getD_replicate_false _ _] at h; cases h)⟩
  rw [zero _ n, ok.size] at this
  rw [ok.size]
  exact this
end

section
variable {P : Program} {ops : Array Oper} {w0 : World} {S : Nat} {sh : List (Value → Value)} {I : List (Value → World → Prop)} {D : List (List Nat)} {s : Nat → Value} {L : Act → Prop} {j : Nat} {o : Oper} {rest : List Oper} {a : Act}
theorem seqW_nil (h : L a) : seqW P ops w0 S sh I D s L j [] a := h
/-- An operation that answers a known value. -/
theorem seqW_lit (hS : (j == S) = false) (hg : o.guard = none) {v : Value} (hv : ∀ q, shW sh j q = v) (hI : ∀ q w, inW I j q w)
    (h : ∀ w, Below w0.heap.size w0 w → (∀ i, i ∈ D.getD j [] → inW I i (s i) w) → ∀ K : Act → World → Prop, (∀ a' w', a' = a.put o.dst v → Below w.heap.size w w' → K a' w') → o.wp P a w K (fun _ _ _ => False)) (hr : seqW P ops w0 S sh I D s L (j + 1) rest (a.put o.dst v)) :
    seqW P ops w0 S sh I D s L j (o :: rest) a := by
  have hS' : j ≠ S := by simpa using hS
  refine ⟨?_, by rw [hv]; exact hr⟩
  unfold actW
  intro w hw hd
  refine GYX.mono (R := fun q w' => Below w.heap.size w w' ∧ inW I j q w') ?_ (fun q w' hr => by rw [if_neg hS']; exact hr)
  unfold GYX
  rw [if_pos (by simp [Region.wanted, hg])]
  exact fun K hK => h w hw hd K fun a' w' ha hb => hK undef a' w' (ha.trans (congrArg (a.put o.dst) (hv undef).symm)) ⟨hb, hI _ _⟩
/-- An operation whose answer is known by what holds of it. -/
theorem seqW_val (hS : (j == S) = false) (hg : o.guard = none) (hv : ∀ q, shW sh j q = q)
    (h : ∀ w, Below w0.heap.size w0 w → (∀ i, i ∈ D.getD j [] → inW I i (s i) w) → ∀ K : Act → World → Prop, (∀ q a' w', a' = a.put o.dst q → Below w.heap.size w w' → inW I j q w' → K a' w') → o.wp P a w K (fun _ _ _ => False)) (hr : seqW P ops w0 S sh I D s L (j + 1) rest (a.put o.dst (s j))) :
    seqW P ops w0 S sh I D s L j (o :: rest) a := by
  have hS' : j ≠ S := by simpa using hS
  refine ⟨?_, by rw [hv]; exact hr⟩
  unfold actW
  intro w hw hd
  refine GYX.mono (R := fun q w' => Below w.heap.size w w' ∧ inW I j q w') ?_ (fun q w' hr => by rw [if_neg hS']; exact hr)
  unfold GYX
  rw [if_pos (by simp [Region.wanted, hg])]
  exact fun K hK => h w hw hd K fun q a' w' ha hb hi => hK q a' w' (ha.trans (congrArg (a.put o.dst) (hv q).symm)) ⟨hb, hi⟩
/-- The operation that may write to what the others have made. -/
theorem seqW_write (hS : (j == S) = true) (hg : o.guard = none) (hv : ∀ q, shW sh j q = q)
    (h : ∀ w, Below w0.heap.size w0 w → (∀ i, i ∈ D.getD j [] → inW I i (s i) w) → ∀ K : Act → World → Prop, (∀ q a' w', a' = a.put o.dst q → Below w0.heap.size w0 w' → inW I j q w' → K a' w') → o.wp P a w K (fun _ _ _ => False)) (hr : seqW P ops w0 S sh I D s L (j + 1) rest (a.put o.dst (s j))) :
    seqW P ops w0 S sh I D s L j (o :: rest) a := by
  have hS' : j = S := by simpa using hS
  refine ⟨?_, by rw [hv]; exact hr⟩
  unfold actW
  intro w hw hd
  refine GYX.mono (R := fun q w' => Below w0.heap.size w0 w' ∧ inW I j q w') ?_ (fun q w' hr => by rw [if_pos hS']; exact hr)
  unfold GYX
  rw [if_pos (by simp [Region.wanted, hg])]
  exact fun K hK => h w hw hd K fun q a' w' ha hb hi => hK q a' w' (ha.trans (congrArg (a.put o.dst) (hv q).symm)) ⟨hb, hi⟩

/-- append as one operation of a region, by what its run comes to. -/
theorem op_append {w : World} {x y : Operand} {t : TypeId} {K : Act → World → Prop} {Q : Exit → Act → World → Prop} {v u v' : Value} {w' : World} (hop : o.op = Op.call { callee := Callee.builtin Builtin.append, args := #[x, y], argTypes := #[t, t] })
    (hs : a.eval x = v) (hx : a.eval y = u) (hrun : (Builtin.append_ #[t, t] o.type #[v, u]).run P w = .ok v' w') (hK : K (a.put o.dst v') w') : o.wp P a w K Q := by
  unfold Oper.wp
  simp [execOp, hop, resolve, invoke, builtin, hs, hx, hrun, Result.andThen]
  exact hK
end
/-- append to an empty row without room. -/
theorem append_empty {P : Program} (w : World) (B : Nat) (hB : B ≤ w.heap.size) (t ty e : TypeId) (i : TypeInfo) (z : Value) (size bytes : Nat) (ht : P.underlying t = some (.slice e)) (hi : P.info? e = some i) (hz : i.zero = some z)
    (hsize : i.size = size) (hby : i.bytes = bytes) (hzs : z.cells.size = size) (hsz : 0 < size) (g : Nat) (hown : w.ownsRow B e size (.slice (some ⟨g, 0, none⟩) 0 0) 0 [])
    (a : Addr) (m c : Nat) (news : List Value) (hl : news.length = m * size) (hnews : ∀ j u, news[j]? = some u → w.cell? (a.add j) = some u) (h1 : ∀ u ∈ news, u.oneCell' = true)
    (h63 : m ≤ maxLen) (hbytes : m * bytes ≤ 140737488355328) :
    ∃ v' w', (Builtin.append_ #[t, t] ty #[.slice (some ⟨g, 0, none⟩) 0 0, .slice (some a) m c]).run P w = .ok v' w' ∧ w'.ownsRow B e size v' m news ∧ Below w.heap.size w w' := by
  rcases Nat.eq_zero_or_pos m with rfl | hm
  · obtain rfl : news = [] := List.eq_nil_of_length_eq_zero (by simpa using hl)
    have := run_append_room_cells (P := P) w t ty e i ht hi g 0 0 0 a 0 c [] (by simp) (by simp) (by simp) (by omega) (by simp) (by simp)
    exact ⟨_, _, this, hown, Below.refl _ _⟩
  · obtain ⟨v', w', hrun, r1, r2⟩ := run_append_arg_grows (P := P) w t ty e i z size bytes ht hi hz hsize hby hzs hsz ⟨g, 0, none⟩ 0 0 [] (by simp) (by simp) a m c news hl hnews (by omega) (by omega) (by rw [Nat.zero_add]; exact hbytes)
    refine ⟨v', w', hrun, ?_, (Below.refl w.heap.size w).grown r2 (Nat.le_refl _) (fun k e => by cases e)⟩
    rw [Nat.zero_add, List.nil_append] at r1
    exact ownsRow_low r1 hB
end Go.Proofs.Ytaeenkjbmlgcmaa

namespace Go.Proofs.Ytaeenkjbmlgcmaa
open Go.RowKit
set_option linter.unusedVariables false

section
variable {P : Program} {ops : Array Oper}

theorem GYX.mapXV {σ τ : Type} (f : σ → τ) {R : σ → World → Prop} {R' : τ → World → Prop} {o : Oper} {v : σ → Value} {v' : τ → Value} {a : Act} {w : World} (h : GYX P ops R o v a w) (hv : ∀ s, v' (f s) = v s) (hr : ∀ s w', R s w' → R' (f s) w') : GYX P ops R' o v' a w := by
  unfold GYX at h ⊢
  split
  · rename_i hwt
    rw [if_pos hwt] at h
    exact fun K hK => h K fun s a' w' e r => hK (f s) a' w' (by rw [hv]; exact e) (hr s w' r)
  · rename_i hwt
    rw [if_neg hwt] at h
    obtain ⟨s, h1, h2⟩ := h
    exact ⟨f s, (hv s).trans h1, hr s w h2⟩

def shXV (sh : List (Value → Value)) (j : Nat) : Value → Value := sh.getD j (fun _ => undef)
def inXV (I : List (Value → World → Prop)) (j : Nat) : Value → World → Prop := I.getD j (fun _ _ => True)
def depXV (ops : Array Oper) (n : Nat) (D : List (List Nat)) : Bool :=
  (List.range n).all fun j => (D.getD j []).all fun i => decide (i < n) && match ops[j]? with
    | some o => o.after.any fun e => Region.binds .any e && (e.on == i || (decide (e.on < n) && (D.getD e.on []).contains i))
    | none => false
/-- One operation's step: it may lean on what is known of those in its list. -/
def actXV (P : Program) (ops : Array Oper) (w0 : World) (sh : List (Value → Value)) (I : List (Value → World → Prop)) (D : List (List Nat)) (s : Nat → Value) (j : Nat) (o : Oper) (a : Act) : Prop :=
  ∀ w, Below w0.heap.size w0 w → (∀ i, i ∈ D.getD j [] → inXV I i (s i) w) → GYX P ops (fun q w' => Below w.heap.size w w' ∧ inXV I j q w') o (shXV sh j) a w
def seqXV (P : Program) (ops : Array Oper) (w0 : World) (sh : List (Value → Value)) (I : List (Value → World → Prop)) (D : List (List Nat)) (s : Nat → Value) (L : Act → Prop) : Nat → List Oper → Act → Prop
  | _, [], a => L a
  | j, o :: rest, a => actXV P ops w0 sh I D s j o a ∧ seqXV P ops w0 sh I D s L (j + 1) rest (a.put o.dst (shXV sh j (s j)))
def valXV (sh : List (Value → Value)) (s : Nat → Value) (j : Nat) : Value := shXV sh j (s j)
theorem seqXV_spec {w0 : World} {sh : List (Value → Value)} {I : List (Value → World → Prop)} {D : List (List Nat)} {s : Nat → Value} {L : Act → Prop} {n : Nat} {a0 : Act} : ∀ (l : List Oper) (m : Nat), (∀ j, j < l.length → l[j]? = ops[m + j]?) → m + l.length = n →
    seqXV P ops w0 sh I D s L m l (fill ops (valXV sh s) (fun _ => true) a0 m) →
    (∀ (j : Nat) (oj : Oper), m ≤ j → j < n → ops[j]? = some oj → actXV P ops w0 sh I D s j oj (fill ops (valXV sh s) (fun _ => true) a0 j)) ∧ L (fill ops (valXV sh s) (fun _ => true) a0 n)
  | [], m, _, hk, h => by
    have : m = n := by simpa using hk
    subst this
    exact ⟨fun j _ h1 h2 => by omega, h⟩
  | o :: l, m, hl, hk, ⟨hy, h⟩ => by
    have h0 : ops[m]? = some o := by simpa using (hl 0 (by simp)).symm
    have step : fill ops (valXV sh s) (fun _ => true) a0 (m + 1) = (fill ops (valXV sh s) (fun _ => true) a0 m).put o.dst (shXV sh m (s m)) := by
      show (fill ops (valXV sh s) (fun _ => true) a0 m).put (dstOf ops m) (valXV sh s m) = _
      simp [dstOf, h0, valXV]
    rw [← step] at h
    obtain ⟨e2, e3⟩ := seqXV_spec (n := n) l (m + 1) (fun j hj => by have := hl (j + 1) (by simp; omega); simpa [Nat.add_assoc, Nat.add_comm 1 j] using this) (by simp at hk; omega) h
    refine ⟨fun j oj h1 h2 hj => ?_, e3⟩
    by_cases e : j = m
    · subst e
      rw [h0] at hj; cases hj
      exact hy
    · exact e2 j oj (by omega) h2 hj

theorem wp_region_growXV {id : Nat} {Q : Exit → Act → World → Prop} {a : Act} {w : World} {l : List Oper} (n : Nat) (sh : List (Value → Value)) (I : List (Value → World → Prop)) (D : List (List Nat))
    (hI : ∀ j p w w', inXV I j p w → Below w.heap.size w w' → inXV I j p w')
    (hm : P.follows .mixedOrders = true) (hB : growB l.toArray n = true) (hD : depXV l.toArray n D = true)
    (h : ∀ s, seqXV P l.toArray w sh I D s (fun a' => ∀ w', Below w.heap.size w w' → (∀ i, i < n → inXV I i (s i) w') → wpList P l.toArray Q (l.drop n) a' w') 0 (l.take n) a) : (Code.region id l.toArray true).wp P Q a w := by
  have ok := growB_ok hB
  have hlen : l.length = n + 1 := by simpa using ok.size
  have hsp := fun s => seqXV_spec (n := n) (a0 := a) (ops := l.toArray) (P := P) (l.take n) 0 (fun j hj => by
    have : j < n := by simp at hj; omega
    simp [this]) (by simp; omega) (h s)
  have start : HeadInv .any l.toArray n (Array.replicate l.toArray.size false) :=
    ⟨by simp, (fun j oj _ hl => by rw [getD_replicate_false] at hl; cases hl), fun t _ ht => getD_in (by simpa using ht) (getD_replicate_false _ _)⟩
  have zero : ∀ val : Nat → Value, ∀ k, fill l.toArray val (flag (Array.replicate l.toArray.size false)) a k = a := by
    intro val k
    induction k with
    | zero => rfl
    | succ k ih =>
      show (if flag (Array.replicate l.toArray.size false) k then _ else _) = a
      rw [show flag (Array.replicate l.toArray.size false) k = false from getD_replicate_false _ _]
      exact ih
  have most : ∀ k, left (Array.replicate l.toArray.size false) k ≤ k := by
    intro k
    induction k with
    | zero => exact Nat.le_refl _
    | succ k ih => unfold left; split <;> omega
  refine wp_region_any hm ?_
  have := any_of_stateX (P := P) (Q := Q) (σ := Nat → Value) (a0 := a) (val := valXV sh)
    (J := fun f s w' => Below w.heap.size w w' ∧ ∀ j, j < n → f j = true → inXV I j (s j) w' ∧ ∀ i, i ∈ D.getD j [] → f i = true) ok
    (fun f s w1 j oj hj hoj hun hd hJ => by
      obtain ⟨hb, hh⟩ := hJ
      have hdj : ∀ i, i ∈ D.getD j [] → i < n ∧ f i = true := by
        intro i hi
        have h1 := List.all_eq_true.1 (List.all_eq_true.1 hD j (List.mem_range.2 hj)) i hi
        rw [hoj] at h1
        simp only [Bool.and_eq_true, decide_eq_true_eq] at h1
        obtain ⟨e, he, hb⟩ := Array.any_eq_true'.1 h1.2
        simp only [Bool.and_eq_true, Bool.or_eq_true, beq_iff_eq, decide_eq_true_eq] at hb
        have hl := hd e he hb.1
        rcases hb.2 with h4 | h4
        · rw [h4] at hl; exact ⟨h1.1, hl⟩
        · exact ⟨h1.1, (hh e.on h4.1 hl).2 i (by simpa using h4.2)⟩
      have hst := (hsp s).1 j oj (Nat.zero_le _) hj hoj w1 hb fun i hi => (hh i (hdj i hi).1 (hdj i hi).2).1
      refine hst.mapXV (fun q i => if i = j then q else s i) (fun q => by simp [valXV]) fun q w' hr => ⟨fun i hi => ?_, fun f' hf' ho => ⟨below_onto hb hr.1, fun i hin hfi => ?_⟩⟩
      · have : i ≠ j := fun e => by rw [e, hun] at hi; cases hi
        simp [valXV, this]
      · by_cases e : i = j
        · subst e
          refine ⟨by simpa using hr.2, fun k hk => ?_⟩
          by_cases ek : k = i
          · rw [ek]; exact hf'
          · rw [ho k ek]; exact (hdj k hk).2
        · rw [ho i e] at hfi
          obtain ⟨h1, h2⟩ := hh i hin hfi
          refine ⟨by simpa [e] using hI i _ _ _ h1 hr.1, fun k hk => ?_⟩
          by_cases ek : k = j
          · rw [ek]; exact hf'
          · rw [ho k ek]; exact h2 k hk)
    (fun f s w1 hall hJ => by
      obtain ⟨hb, hh⟩ := hJ
      have hn := (hsp s).2 w1 hb fun i hi => (hh i hi (hall i hi)).1
      have hd : l.drop n = [l[n]] := by
        rw [List.drop_eq_getElem_cons (by omega), List.drop_eq_nil_of_le (by omega)]
      rw [hd] at hn
      unfold wpOp
      have ho : l.toArray[n]? = some l[n] := by simp
      simp only [ho]
      exact hn) n (Array.replicate l.toArray.size false) (fun _ => undef) w.drew start (most n)
      ⟨(Below.refl _ w).drew, (fun j _ h => by rw [show flag (Array.replicate l.toArray.size false) j = false from getD_replicate_false _ _] at h; cases h)⟩
  rw [zero _ n, ok.size] at this
  rw [ok.size]
  exact this

theorem seqXV_nil {w0 : World} {sh : List (Value → Value)} {I : List (Value → World → Prop)} {D : List (List Nat)} {s : Nat → Value} {L : Act → Prop} {j : Nat} {a : Act} (h : L a) : seqXV P ops w0 sh I D s L j [] a := h
/-- An operation that answers a known value. -/
theorem seqXV_lit {w0 : World} {sh : List (Value → Value)} {I : List (Value → World → Prop)} {D : List (List Nat)} {s : Nat → Value} {L : Act → Prop} {j : Nat} {o : Oper} {rest : List Oper} {a : Act} (hg : o.guard = none) {v : Value} (hv : ∀ q, shXV sh j q = v) (hI : ∀ q w, inXV I j q w)
    (h : ∀ w, Below w0.heap.size w0 w → (∀ i, i ∈ D.getD j [] → inXV I i (s i) w) → ∀ K : Act → World → Prop, (∀ a' w', a' = a.put o.dst v → Below w.heap.size w w' → K a' w') → o.wp P a w K (fun _ _ _ => False)) (hr : seqXV P ops w0 sh I D s L (j + 1) rest (a.put o.dst v)) :
    seqXV P ops w0 sh I D s L j (o :: rest) a := by
  refine ⟨?_, by rw [hv]; exact hr⟩
  intro w hw hd
  unfold GYX
  rw [if_pos (by simp [Region.wanted, hg])]
  exact fun K hK => h w hw hd K fun a' w' ha hb => hK undef a' w' (ha.trans (congrArg (a.put o.dst) (hv undef).symm)) ⟨hb, hI _ _⟩
/-- An operation that answers what hangs on a number. -/
theorem seqXV_num {w0 : World} {sh : List (Value → Value)} {I : List (Value → World → Prop)} {D : List (List Nat)} {s : Nat → Value} {L : Act → Prop} {j : Nat} {o : Oper} {rest : List Oper} {a : Act} (hg : o.guard = none) {v : Value → Value} (hv : ∀ q, shXV sh j q = v q)
    (h : ∀ w, Below w0.heap.size w0 w → (∀ i, i ∈ D.getD j [] → inXV I i (s i) w) → ∀ K : Act → World → Prop, (∀ q a' w', a' = a.put o.dst (v q) → Below w.heap.size w w' → inXV I j q w' → K a' w') → o.wp P a w K (fun _ _ _ => False)) (hr : seqXV P ops w0 sh I D s L (j + 1) rest (a.put o.dst (v (s j)))) :
    seqXV P ops w0 sh I D s L j (o :: rest) a := by
  refine ⟨?_, by rw [hv]; exact hr⟩
  intro w hw hd
  unfold GYX
  rw [if_pos (by simp [Region.wanted, hg])]
  exact fun K hK => h w hw hd K fun q a' w' ha hb hi => hK q a' w' (ha.trans (congrArg (a.put o.dst) (hv q).symm)) ⟨hb, hi⟩
end
end Go.Proofs.Ytaeenkjbmlgcmaa
