/- Regions that draw their order, and make some variables and store to each of them once. -/
import Derived.Test.YteaajkkhbflmdaaDoorZD
namespace Go.Proofs.YteaajkkhbflmdaaDoor
open Go.RowKit
set_option linter.unusedVariables false

section
variable {P : Program} {ops : Array Oper}

/-- A variable: the operation that makes it, the one that stores to it, its cells ahead and behind, its type. -/
structure VarAt where
  k : Nat
  s : Nat
  Z : Array Value
  C : Array Value
  t : TypeId
def valAV (vs : List Value) (V : List VarAt) (p : Nat → Nat) (j : Nat) : Value := if (V.find? fun e => e.k == j).isSome then .pointer (some ⟨p j, 0, none⟩) else vs.getD j undef
def stepAV (P : Program) (ops : Array Oper) (w0 : World) (V : List VarAt) (p : Nat → Nat) (j : Nat) (o : Oper) (v : Value) (a : Act) : Prop :=
  match V.find? fun e => e.k == j with
  | some e => ∀ w, p j = w.heap.size → GYR P ops (fun w' => w' = w.alloc (.cells e.Z e.t)) o v a w
  | none => match V.find? fun e => e.s == j with
    | some e => ∀ w, w0.heap.size ≤ p e.k → Holds w (p e.k) e.Z → GYR P ops (fun w' => w' = w.setRow (p e.k) e.C) o v a w
    | none => ∀ w, Below w0.heap.size w0 w → GYR P ops (fun w' => Below w.heap.size w w') o v a w
def seqAV (P : Program) (ops : Array Oper) (w0 : World) (V : List VarAt) (vs : List Value) (L : Act → Prop) (p : Nat → Nat) : Nat → List Oper → Act → Prop
  | _, [], a => L a
  | j, o :: rest, a => stepAV P ops w0 V p j o (valAV vs V p j) a ∧ seqAV P ops w0 V vs L p (j + 1) rest (a.put o.dst (valAV vs V p j))

theorem seqAV_spec {w0 : World} {V : List VarAt} {vs : List Value} {L : Act → Prop} {p : Nat → Nat} {n : Nat} {a0 : Act} : ∀ (l : List Oper) (m : Nat), (∀ j, j < l.length → l[j]? = ops[m + j]?) → m + l.length = n →
    seqAV P ops w0 V vs L p m l (fill ops (valAV vs V p) (fun _ => true) a0 m) →
    (∀ (j : Nat) (oj : Oper), m ≤ j → j < n → ops[j]? = some oj → stepAV P ops w0 V p j oj (valAV vs V p j) (fill ops (valAV vs V p) (fun _ => true) a0 j)) ∧ L (fill ops (valAV vs V p) (fun _ => true) a0 n)
  | [], m, _, hk, h => by
    have : m = n := by simpa using hk
    subst this
    exact ⟨fun j _ h1 h2 => by omega, h⟩
  | o :: l, m, hl, hk, ⟨hy, h⟩ => by
    have h0 : ops[m]? = some o := by simpa using (hl 0 (by simp)).symm
    have step : fill ops (valAV vs V p) (fun _ => true) a0 (m + 1) = (fill ops (valAV vs V p) (fun _ => true) a0 m).put o.dst (valAV vs V p m) := by
      show (fill ops (valAV vs V p) (fun _ => true) a0 m).put (dstOf ops m) (valAV vs V p m) = _
      simp [dstOf, h0]
    rw [← step] at h
    obtain ⟨e2, e3⟩ := seqAV_spec (n := n) l (m + 1) (fun j hj => by have := hl (j + 1) (by simp; omega); simpa [Nat.add_assoc, Nat.add_comm 1 j] using this) (by simp at hk; omega) h
    refine ⟨fun j oj h1 h2 hj => ?_, e3⟩
    by_cases e : j = m
    · subst e
      rw [h0] at hj; cases hj
      exact hy
    · exact e2 j oj (by omega) h2 hj

theorem wp_region_growAV {id : Nat} {Q : Exit → Act → World → Prop} {a : Act} {w : World} {l : List Oper} (n : Nat) (V : List VarAt) (vs : List Value) (hm : P.follows .mixedOrders = true) (hB : growB l.toArray n = true)
    (hV : ∀ e ∈ V, e.k < n ∧ e.s < n ∧ (match l[e.s]? with | some o => o.after.any (fun d => Region.binds .any d && d.on == e.k) | none => false) = true)
    (hK : ∀ e ∈ V, ∀ e' ∈ V, e.k = e'.k → e = e') (hS : ∀ e ∈ V, ∀ e' ∈ V, e.s = e'.s → e = e') (hKS : ∀ e ∈ V, ∀ e' ∈ V, e.k ≠ e'.s)
    (h : ∀ p, seqAV P l.toArray w V vs (fun a' => ∀ w', (∀ e ∈ V, w.heap.size ≤ p e.k) → Below w.heap.size w w' → (∀ e ∈ V, Holds w' (p e.k) e.C) → (∀ e ∈ V, ∀ e' ∈ V, e.k ≠ e'.k → p e.k ≠ p e'.k) → wpList P l.toArray Q (l.drop n) a' w') p 0 (l.take n) a) : (Code.region id l.toArray true).wp P Q a w := by
  have ok := growB_ok hB
  have hlen : l.length = n + 1 := by simpa using ok.size
  have hsp := fun p => seqAV_spec (n := n) (a0 := a) (ops := l.toArray) (P := P) (l.take n) 0 (fun j hj => by
    have : j < n := by simp at hj; omega
    simp [this]) (by simp; omega) (h p)
  have start : HeadInv .any l.toArray n (Array.replicate l.toArray.size false) :=
    ⟨by simp, (fun j oj _ hl => by rw [getD_replicate_false] at hl; cases hl), fun t _ ht => getD_in (by simpa using ht) (getD_replicate_false _ _)⟩
  have zero : ∀ val : Nat → Value, ∀ k, fill l.toArray val (flag (Array.replicate l.toArray.size false)) a k = a := by
    intro val k
    induction k with
    | zero => rfl
    | succ k ih =>
      show (if flag (Array.replicate l.toArray.size false) k then _ else _) = a
      rw [show flag (Array.replicate l.toArray.size false) k = false from getD_replicate_false _ _]
      exact ih
  have most : ∀ k, left (Array.replicate l.toArray.size false) k ≤ k := by
    intro k
    induction k with
    | zero => exact Nat.le_refl _
    | succ k ih => unfold left; split <;> omega
  refine wp_region_any hm ?_
  have := any_of_state (P := P) (Q := Q) (σ := Nat → Nat) (a0 := a) (val := valAV vs V)
    (J := fun f p w' => Below w.heap.size w w' ∧ (∀ e ∈ V, f e.s = true → f e.k = true) ∧ (∀ e ∈ V, f e.k = true → w.heap.size ≤ p e.k ∧ Holds w' (p e.k) (if f e.s then e.C else e.Z)) ∧ ∀ e ∈ V, ∀ e' ∈ V, e.k ≠ e'.k → f e.k = true → f e'.k = true → p e.k ≠ p e'.k) ok
    (fun f p w1 j oj hj hoj hun hd hJ => by
      obtain ⟨hb, hsk, hh, hne⟩ := hJ
      cases hfk : V.find? (fun e => e.k == j) with
      | some e =>
        have he : e ∈ V := List.mem_of_find?_eq_some hfk
        have hek : e.k = j := by simpa using List.find?_some hfk
        have hfs : f e.s = false := by
          cases x : f e.s with
          | false => rfl
          | true => have := hsk e he x; rw [hek, hun] at this; cases this
        refine ⟨fun i => if i = j then w1.heap.size else p i, fun i hi => ?_, ?_⟩
        · have : i ≠ j := fun e => by rw [e, hun] at hi; cases hi
          simp [valAV, this]
        · have hst := (hsp fun i => if i = j then w1.heap.size else p i).1 j oj (Nat.zero_le _) hj hoj
          unfold stepAV at hst
          rw [hfk] at hst
          refine (hst w1 (by simp)).mono fun w' ew f' hf' ho => ?_
          subst ew
          have oth : ∀ i, i ≠ j → (if i = j then w1.heap.size else p i) = p i := fun i hi => if_neg hi
          have hold : ∀ e' ∈ V, e'.k ≠ j → f' e'.k = true → w.heap.size ≤ p e'.k ∧ p e'.k < w1.heap.size ∧ Holds (w1.alloc (.cells e.Z e.t)) (p e'.k) (if f' e'.s then e'.C else e'.Z) := fun e' he' hk' hf => by
            rw [ho _ hk'] at hf
            obtain ⟨h1, h2⟩ := hh e' he' hf
            have hs' : f' e'.s = f e'.s := ho _ (fun x => hKS e he e' he' (by rw [hek, x]))
            rw [hs']
            exact ⟨h1, h2.lt, h2.alloc _⟩
          refine ⟨hb.alloc hb.size _, fun e' he' hs => ?_, fun e' he' hf => ?_, fun e1 h1 e2 h2 hn hf1 hf2 => ?_⟩
          · by_cases x : e'.k = j
            · rw [x]; exact hf'
            · rw [ho _ x]
              exact hsk e' he' (by rwa [ho _ (fun y => hKS e he e' he' (by rw [hek, y]))] at hs)
          · by_cases x : e'.k = j
            · have : e' = e := hK e' he' e he (x.trans hek.symm)
              subst this
              have hs' : f' e'.s = false := (ho _ (fun y => hKS e' he e' he (by rw [hek, y]))).trans hfs
              rw [hs']
              simp only [x, if_true]
              exact ⟨hb.size, Holds.new _ _ _⟩
            · simp only [if_neg x]
              obtain ⟨g1, -, g2⟩ := hold e' he' x hf
              exact ⟨g1, g2⟩
          · by_cases x : e1.k = j
            · have y : e2.k ≠ j := fun y => hn (x.trans y.symm)
              simp only [x, if_true, if_neg y]
              have := (hold e2 h2 y hf2).2.1
              omega
            · by_cases y : e2.k = j
              · simp only [y, if_true, if_neg x]
                have := (hold e1 h1 x hf1).2.1
                omega
              · simp only [if_neg x, if_neg y]
                exact hne e1 h1 e2 h2 hn (by rwa [ho _ x] at hf1) (by rwa [ho _ y] at hf2)
      | none =>
        have hnk : ∀ e ∈ V, e.k ≠ j := fun e he x => by
          have := List.find?_eq_none.1 hfk e he
          simp [x] at this
        refine ⟨p, fun i _ => rfl, ?_⟩
        have hst := (hsp p).1 j oj (Nat.zero_le _) hj hoj
        unfold stepAV at hst
        rw [hfk] at hst
        simp only at hst
        cases hfs : V.find? (fun e => e.s == j) with
        | some e =>
          rw [hfs] at hst
          have he : e ∈ V := List.mem_of_find?_eq_some hfs
          have hes : e.s = j := by simpa using List.find?_some hfs
          have hfk : f e.k = true := by
            have hdep := (hV e he).2.2
            rw [hes, show l[j]? = some oj by simpa using hoj] at hdep
            obtain ⟨d, hd1, hb1⟩ := Array.any_eq_true'.1 hdep
            simp only [Bool.and_eq_true, beq_iff_eq] at hb1
            have := hd d hd1 hb1.1
            rwa [hb1.2] at this
          obtain ⟨hp, hH⟩ := hh e he hfk
          rw [hes, hun] at hH
          refine (hst w1 hp hH).mono fun w' ew f' hf' ho => ?_
          subst ew
          have hk' : ∀ e' ∈ V, f' e'.k = f e'.k := fun e' he' => ho _ (hnk e' he')
          refine ⟨below_setRow' hb hp _, fun e' he' hs => ?_, fun e' he' hf => ?_, fun e1 h1 e2 h2 hn hf1 hf2 => ?_⟩
          · rw [hk' e' he']
            by_cases x : e'.s = j
            · have : e' = e := hS e' he' e he (x.trans hes.symm)
              subst this
              exact hfk
            · exact hsk e' he' (by rwa [ho _ x] at hs)
          · rw [hk' e' he'] at hf
            obtain ⟨g1, g2⟩ := hh e' he' hf
            by_cases x : e'.s = j
            · have : e' = e := hS e' he' e he (x.trans hes.symm)
              subst this
              rw [x, hf']
              exact ⟨g1, hH.setRow _⟩
            · rw [ho _ x]
              refine ⟨g1, g2.setRow_other _ ?_⟩
              have hkk : e'.k ≠ e.k := fun y => x (by rw [hK e' he' e he y]; exact hes)
              exact hne e' he' e he hkk hf hfk
          · exact hne e1 h1 e2 h2 hn (by rwa [hk' e1 h1] at hf1) (by rwa [hk' e2 h2] at hf2)
        | none =>
          rw [hfs] at hst
          have hns : ∀ e ∈ V, e.s ≠ j := fun e he x => by
            have := List.find?_eq_none.1 hfs e he
            simp [x] at this
          refine (hst w1 hb).mono fun w' ew f' hf' ho => ?_
          have hk' : ∀ e' ∈ V, f' e'.k = f e'.k := fun e' he' => ho _ (hnk e' he')
          have hs' : ∀ e' ∈ V, f' e'.s = f e'.s := fun e' he' => ho _ (hns e' he')
          refine ⟨below_onto hb ew, fun e' he' hs => ?_, fun e' he' hf => ?_, fun e1 h1 e2 h2 hn hf1 hf2 => ?_⟩
          · rw [hk' e' he']; exact hsk e' he' (by rwa [hs' e' he'] at hs)
          · rw [hk' e' he'] at hf
            obtain ⟨g1, g2⟩ := hh e' he' hf
            rw [hs' e' he']
            exact ⟨g1, g2.below ew g2.lt⟩
          · exact hne e1 h1 e2 h2 hn (by rwa [hk' e1 h1] at hf1) (by rwa [hk' e2 h2] at hf2))
    (fun f p w1 hall hJ => by
      obtain ⟨hb, -, hh, hne⟩ := hJ
      have hn := (hsp p).2 w1 (fun e he => (hh e he (hall _ (hV e he).1)).1) hb (fun e he => by
        have := (hh e he (hall _ (hV e he).1)).2
        rwa [hall _ (hV e he).2.1] at this) (fun e1 h1 e2 h2 hn => hne e1 h1 e2 h2 hn (hall _ (hV e1 h1).1) (hall _ (hV e2 h2).1))
      have hd : l.drop n = [l[n]] := by
        rw [List.drop_eq_getElem_cons (by omega), List.drop_eq_nil_of_le (by omega)]
      rw [hd] at hn
      unfold wpOp
      have ho : l.toArray[n]? = some l[n] := by simp
      simp only [ho]
      exact hn) n (Array.replicate l.toArray.size false) (fun _ => 0) w.drew start (most n)
      ⟨(Below.refl _ w).drew, (fun e _ h => by rw [show flag (Array.replicate l.toArray.size false) e.s = false from getD_replicate_false _ _] at h; cases h), (fun e _ h => by rw [show flag (Array.replicate l.toArray.size false) e.k = false from getD_replicate_false _ _] at h; cases h), fun e _ e' _ _ h => by rw [show flag (Array.replicate l.toArray.size false) e.k = false from getD_replicate_false _ _] at h; cases h⟩
  rw [zero _ n, ok.size] at this
  rw [ok.size]
  exact this

theorem seqAV_nil {w0 : World} {V : List VarAt} {vs : List Value} {L : Act → Prop} {p : Nat → Nat} {j : Nat} {a : Act} (h : L a) : seqAV P ops w0 V vs L p j [] a := h
theorem seqAV_other {w0 : World} {V : List VarAt} {vs : List Value} {L : Act → Prop} {p : Nat → Nat} {j : Nat} {o : Oper} {rest : List Oper} {a : Act} (hk : (V.find? fun e => e.k == j) = none) (hs : (V.find? fun e => e.s == j) = none) (hg : o.guard = none) {v : Value} (hv : vs.getD j undef = v)
    (h : ∀ w, Below w0.heap.size w0 w → ∀ K : Act → World → Prop, (∀ a' w', a' = a.put o.dst v → Below w.heap.size w w' → K a' w') → o.wp P a w K (fun _ _ _ => False)) (hr : seqAV P ops w0 V vs L p (j + 1) rest (a.put o.dst v)) :
    seqAV P ops w0 V vs L p j (o :: rest) a := by
  have e : valAV vs V p j = v := by unfold valAV; rw [hk]; simpa using hv
  refine ⟨?_, by rw [e]; exact hr⟩
  unfold stepAV
  rw [hk, e]
  simp only
  rw [hs]
  exact fun w hw => GYR.plain hg (h w hw)
theorem seqAV_make {w0 : World} {V : List VarAt} {vs : List Value} {L : Act → Prop} {p : Nat → Nat} {j : Nat} {o : Oper} {rest : List Oper} {a : Act} (e : VarAt) (hk : (V.find? fun e => e.k == j) = some e) (hg : o.guard = none)
    (h : ∀ w, p j = w.heap.size → ∀ K : Act → World → Prop, (∀ a', a' = a.put o.dst (.pointer (some ⟨p j, 0, none⟩)) → K a' (w.alloc (.cells e.Z e.t))) → o.wp P a w K (fun _ _ _ => False)) (hr : seqAV P ops w0 V vs L p (j + 1) rest (a.put o.dst (.pointer (some ⟨p j, 0, none⟩)))) :
    seqAV P ops w0 V vs L p j (o :: rest) a := by
  have ev : valAV vs V p j = .pointer (some ⟨p j, 0, none⟩) := by unfold valAV; rw [hk]; rfl
  refine ⟨?_, by rw [ev]; exact hr⟩
  unfold stepAV
  rw [hk, ev]
  exact fun w hw => GYR.plain hg fun K hK => h w hw K fun a' ha => hK a' _ ha rfl
theorem seqAV_store {w0 : World} {V : List VarAt} {vs : List Value} {L : Act → Prop} {p : Nat → Nat} {j : Nat} {o : Oper} {rest : List Oper} {a : Act} (e : VarAt) (hk : (V.find? fun e => e.k == j) = none) (hs : (V.find? fun e => e.s == j) = some e) (hg : o.guard = none) (hd : o.dst = none)
    (h : ∀ w, w0.heap.size ≤ p e.k → Holds w (p e.k) e.Z → ∀ K : Act → World → Prop, K a (w.setRow (p e.k) e.C) → o.wp P a w K (fun _ _ _ => False)) (hr : seqAV P ops w0 V vs L p (j + 1) rest a) :
    seqAV P ops w0 V vs L p j (o :: rest) a := by
  have ev : ∀ v, a.put o.dst v = a := fun v => by rw [hd]; rfl
  refine ⟨?_, by rw [ev]; exact hr⟩
  unfold stepAV
  rw [hk]
  simp only
  rw [hs]
  exact fun w hp hH => GYR.plain hg fun K hK => h w hp hH K (hK a _ (ev _).symm rfl)
end
end Go.Proofs.YteaajkkhbflmdaaDoor
