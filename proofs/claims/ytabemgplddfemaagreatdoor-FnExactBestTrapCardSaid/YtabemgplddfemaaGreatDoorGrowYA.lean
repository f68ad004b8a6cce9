/- Regions that draw their order, with one call whose answer is known by a predicate (a row of unknown place, say), and one variable that is made and stored to; what is known of the answer outlives the store. -/
import Derived.Test.YtabemgplddfemaaGreatDoorGrowX
import Derived.Test.YtabemgplddfemaaGreatDoorZB
namespace Go.Proofs.YtabemgplddfemaaGreatDoor
open Go.RowKit
set_option linter.unusedVariables false

section
variable {P : Program} {ops : Array Oper}

def valYA (vs : Value → List Value) (k : Nat) (s : Value × Nat) (j : Nat) : Value := if j = k then .pointer (some ⟨s.2, 0, none⟩) else (vs s.1).getD j undef
def stepYA (P : Program) (ops : Array Oper) (w0 : World) (c k S : Nat) (dep : List Nat) (I : Value → World → Prop) (Z C : Array Value) (t : TypeId) (vs : Value → List Value) (s : Value × Nat) (j : Nat) (o : Oper) (a : Act) : Prop :=
  if j = c then ∀ w, Below w0.heap.size w0 w → GYX P ops (fun q w' => Below w.heap.size w w' ∧ I q w') o (fun q => (vs q).getD j undef) a w
  else if j = k then ∀ w, s.2 = w.heap.size → GYR P ops (fun w' => w' = w.alloc (.cells Z t)) o (.pointer (some ⟨s.2, 0, none⟩)) a w
  else if j = S then ∀ w, w0.heap.size ≤ s.2 → Holds w s.2 Z → GYR P ops (fun w' => w' = w.setRow s.2 C) o ((vs s.1).getD j undef) a w
  else if dep.contains j then ∀ w, Below w0.heap.size w0 w → I s.1 w → GYR P ops (fun w' => Below w.heap.size w w') o ((vs s.1).getD j undef) a w
  else ∀ w, Below w0.heap.size w0 w → GYR P ops (fun w' => Below w.heap.size w w') o ((vs s.1).getD j undef) a w
def seqYA (P : Program) (ops : Array Oper) (w0 : World) (c k S : Nat) (dep : List Nat) (I : Value → World → Prop) (Z C : Array Value) (t : TypeId) (vs : Value → List Value) (L : Act → Prop) (s : Value × Nat) : Nat → List Oper → Act → Prop
  | _, [], a => L a
  | j, o :: rest, a => stepYA P ops w0 c k S dep I Z C t vs s j o a ∧ seqYA P ops w0 c k S dep I Z C t vs L s (j + 1) rest (a.put o.dst (valYA vs k s j))

theorem seqYA_spec {w0 : World} {c k S : Nat} {dep : List Nat} {I : Value → World → Prop} {Z C : Array Value} {t : TypeId} {vs : Value → List Value} {L : Act → Prop} {s : Value × Nat} {n : Nat} {a0 : Act} : ∀ (l : List Oper) (m : Nat), (∀ j, j < l.length → l[j]? = ops[m + j]?) → m + l.length = n →
    seqYA P ops w0 c k S dep I Z C t vs L s m l (fill ops (valYA vs k s) (fun _ => true) a0 m) →
    (∀ (j : Nat) (oj : Oper), m ≤ j → j < n → ops[j]? = some oj → stepYA P ops w0 c k S dep I Z C t vs s j oj (fill ops (valYA vs k s) (fun _ => true) a0 j)) ∧ L (fill ops (valYA vs k s) (fun _ => true) a0 n)
  | [], m, _, hk, h => by
    have : m = n := by simpa using hk
    subst this
    exact ⟨fun j _ h1 h2 => by omega, h⟩
  | o :: l, m, hl, hk, ⟨hy, h⟩ => by
    have h0 : ops[m]? = some o := by simpa using (hl 0 (by simp)).symm
    have step : fill ops (valYA vs k s) (fun _ => true) a0 (m + 1) = (fill ops (valYA vs k s) (fun _ => true) a0 m).put o.dst (valYA vs k s m) := by
      show (fill ops (valYA vs k s) (fun _ => true) a0 m).put (dstOf ops m) (valYA vs k s m) = _
      simp [dstOf, h0]
    rw [← step] at h
    obtain ⟨e2, e3⟩ := seqYA_spec (n := n) l (m + 1) (fun j hj => by have := hl (j + 1) (by simp; omega); simpa [Nat.add_assoc, Nat.add_comm 1 j] using this) (by simp at hk; omega) h
    refine ⟨fun j oj h1 h2 hj => ?_, e3⟩
    by_cases e : j = m
    · subst e
      rw [h0] at hj; cases hj
      exact hy
    · exact e2 j oj (by omega) h2 hj

theorem wp_region_growYA {id : Nat} {Q : Exit → Act → World → Prop} {a : Act} {w : World} {l : List Oper} (n c k S : Nat) (dep : List Nat) (I : Value → World → Prop) (Z C : Array Value) (t : TypeId) (hI : ∀ p w w', I p w → Below w.heap.size w w' → I p w')
    (hIS : ∀ y p w', I y w' → w'.heap[p]? = some (.cells Z t (0, 0)) → I y (w'.setRow p C)) (vs : Value → List Value) (hv : ∀ p p' j, j ≠ c → dep.contains j = false → (vs p).getD j undef = (vs p').getD j undef)
    (hm : P.follows .mixedOrders = true) (hB : growB l.toArray n = true) (hD : depB l.toArray n c dep = true)
    (hks : (k < n && S < n && c != k && S != k && S != c && !dep.contains k && !dep.contains S && (match l[S]? with | some o => o.after.any (fun e => Region.binds .any e && e.on == k) | none => false)) = true)
    (h : ∀ s, seqYA P l.toArray w c k S dep I Z C t vs (fun a' => ∀ w', w.heap.size ≤ s.2 → Below w.heap.size w w' → Holds w' s.2 C → I s.1 w' → wpList P l.toArray Q (l.drop n) a' w') s 0 (l.take n) a) : (Code.region id l.toArray true).wp P Q a w := by
  have ok := growB_ok hB
  obtain ⟨hcn, hdp⟩ := depB_at hD
  have hlen : l.length = n + 1 := by simpa using ok.size
  simp only [Bool.and_eq_true, decide_eq_true_eq, bne_iff_ne, Bool.not_eq_true'] at hks
  obtain ⟨⟨⟨⟨⟨⟨⟨hkn, hSn⟩, hck⟩, hSk⟩, hSc⟩, hdk⟩, hdS⟩, hdep⟩ := hks
  have hsp := fun s => seqYA_spec (n := n) (a0 := a) (ops := l.toArray) (P := P) (l.take n) 0 (fun j hj => by
    have : j < n := by simp at hj; omega
    simp [this]) (by simp; omega) (h s)
  have start : HeadInv .any l.toArray n (Array.replicate l.toArray.size false) :=
    ⟨by simp, (fun j oj _ hl => by rw [getD_replicate_false] at hl; cases hl), fun t _ ht => getD_in (by simpa using ht) (getD_replicate_false _ _)⟩
  have zero : ∀ val : Nat → Value, ∀ k, fill l.toArray val (flag (Array.replicate l.toArray.size false)) a k = a := by
    intro val k
    induction k with
    | zero => rfl
    | succ k ih =>
      show (if flag (Array.replicate l.toArray.size false) k then _ else _) = a
      rw [show flag (Array.replicate l.toArray.size false) k = false from getD_replicate_false _ _]
      exact ih
  have most : ∀ k, left (Array.replicate l.toArray.size false) k ≤ k := by
    intro k
    induction k with
    | zero => exact Nat.le_refl _
    | succ k ih => unfold left; split <;> omega
  refine wp_region_any hm ?_
  have := any_of_stateX (P := P) (Q := Q) (σ := Value × Nat) (a0 := a) (val := valYA vs k)
    (J := fun f s w' => Below w.heap.size w w' ∧ (∀ j, dep.contains j = true → f j = true → f c = true) ∧ (f c = true → I s.1 w') ∧ (f S = true → f k = true) ∧ (f k = true → w.heap.size ≤ s.2 ∧ (f S = false → w'.heap[s.2]? = some (.cells Z t (0, 0))) ∧ (f S = true → Holds w' s.2 C))) ok
    (fun f s w1 j oj hj hoj hun hd hJ => by
      obtain ⟨y, p⟩ := s
      obtain ⟨hb, hdc, hh, hsk, hvar⟩ := hJ
      have hst := (hsp (y, p)).1 j oj (Nat.zero_le _) hj hoj
      unfold stepYA at hst
      have keep : ∀ {w' : World} {q : Nat}, Below w1.heap.size w1 w' → w1.heap[q]? = some (.cells Z t (0, 0)) → w'.heap[q]? = some (.cells Z t (0, 0)) := fun e h => (e.block _ (Array.getElem?_eq_some_iff.1 h).1).trans h
      by_cases ejc : j = c
      · rw [if_pos ejc] at hst
        refine (hst w1 hb).map (fun q => (q, p)) (fun q => by simp [valYA, show j ≠ k from ejc ▸ hck]) fun q w' e => ⟨fun i hi => ?_, fun f' hf' ho => ?_⟩
        · have hij : i ≠ j := fun e => by rw [e, hun] at hi; cases hi
          unfold valYA
          split
          · rfl
          · refine hv _ _ i (by rw [← ejc]; exact hij) ?_
            cases hx : dep.contains i with
            | false => rfl
            | true => have := hdc i hx hi; rw [← ejc, hun] at this; cases this
        · have ek : f' k = f k := ho k (by rw [ejc]; exact Ne.symm hck)
          have eS : f' S = f S := ho S (by rw [ejc]; exact hSc)
          refine ⟨below_onto hb e.1, fun i _ _ => by rw [← ejc]; exact hf', fun _ => e.2, fun x => by rw [ek]; exact hsk (by rwa [eS] at x), fun x => ?_⟩
          rw [ek] at x
          obtain ⟨g1, g2, g3⟩ := hvar x
          rw [eS]
          exact ⟨g1, fun z => keep e.1 (g2 z), fun z => (g3 z).below e.1 (g3 z).lt⟩
      · rw [if_neg ejc] at hst
        have ec : ∀ {f' : Nat → Bool}, (∀ i, i ≠ j → f' i = f i) → f' c = f c := fun ho => ho c (Ne.symm ejc)
        by_cases ejk : j = k
        · have hfS : f S = false := by
            cases x : f S with
            | false => rfl
            | true => have := hsk x; rw [← ejk, hun] at this; cases this
          have hst2 := (hsp (y, w1.heap.size)).1 j oj (Nat.zero_le _) hj hoj
          unfold stepYA at hst2
          rw [if_neg ejc, if_pos ejk] at hst2
          have hfill : fill l.toArray (valYA vs k (y, w1.heap.size)) (fun _ => true) a j = fill l.toArray (valYA vs k (y, p)) (fun _ => true) a j := fill_same _ _ _ _ _ fun i hi _ => by unfold valYA; rw [if_neg (by omega), if_neg (by omega)]
          rw [hfill] at hst2
          refine GYX.of (y, w1.heap.size) (hst2 w1 rfl) (by simp [valYA, ejk]) fun w' e => ⟨fun i hi => ?_, fun f' hf' ho => ?_⟩
          · have hij : i ≠ k := fun e => by rw [e, ← ejk, hun] at hi; cases hi
            simp [valYA, hij]
          · subst e
            have eS : f' S = false := (ho S (by rw [ejk]; exact hSk)).trans hfS
            refine ⟨hb.alloc hb.size _, fun i hi hfi => ?_, fun x => ?_, fun x => (by rw [eS] at x; cases x), fun _ => ⟨hb.size, fun _ => heap_alloc_new _ _, fun x => (by rw [eS] at x; cases x)⟩⟩
            · rw [ec ho]
              exact hdc i hi (by rwa [ho i (fun e => by rw [e, ejk, hdk] at hi; cases hi)] at hfi)
            · rw [ec ho] at x
              exact hI _ _ _ (hh x) ((Below.refl _ _).alloc (Nat.le_refl _) _)
        · rw [if_neg ejk] at hst
          have ek : ∀ {f' : Nat → Bool}, (∀ i, i ≠ j → f' i = f i) → f' k = f k := fun ho => ho k (Ne.symm ejk)
          have hval : valYA vs k (y, p) j = (vs y).getD j undef := by simp [valYA, ejk]
          by_cases ejS : j = S
          · rw [if_pos ejS] at hst
            have hfk : f k = true := by
              rw [← ejS, show l[j]? = some oj by simpa using hoj] at hdep
              obtain ⟨d, hd1, hb1⟩ := Array.any_eq_true'.1 hdep
              simp only [Bool.and_eq_true, beq_iff_eq] at hb1
              have := hd d hd1 hb1.1
              rwa [hb1.2] at this
            obtain ⟨g1, g2, -⟩ := hvar hfk
            have hZ := g2 (by rw [← ejS]; exact hun)
            have hH : Holds w1 p Z := ⟨_, hZ⟩
            refine GYX.of (y, p) (hst w1 g1 hH) hval fun w' e => ⟨fun i _ => rfl, fun f' hf' ho => ?_⟩
            subst e
            refine ⟨below_setRow' hb g1 _, fun i hi hfi => ?_, fun x => ?_, fun _ => (ek ho).trans hfk, fun _ => ⟨g1, fun x => (by rw [← ejS, hf'] at x; cases x), fun _ => hH.setRow _⟩⟩
            · rw [ec ho]
              exact hdc i hi (by rwa [ho i (fun e => by rw [e, ejS, hdS] at hi; cases hi)] at hfi)
            · rw [ec ho] at x
              exact hIS _ _ _ (hh x) hZ
          · rw [if_neg ejS] at hst
            have eS : ∀ {f' : Nat → Bool}, (∀ i, i ≠ j → f' i = f i) → f' S = f S := fun ho => ho S (Ne.symm ejS)
            have rest : ∀ {f' : Nat → Bool} {w' : World}, (∀ i, i ≠ j → f' i = f i) → Below w1.heap.size w1 w' → (f' S = true → f' k = true) ∧ (f' k = true → w.heap.size ≤ p ∧ (f' S = false → w'.heap[p]? = some (.cells Z t (0, 0))) ∧ (f' S = true → Holds w' p C)) := fun {f' w'} ho e => by
              rw [ek ho, eS ho]
              refine ⟨hsk, fun x => ?_⟩
              obtain ⟨g1, g2, g3⟩ := hvar x
              exact ⟨g1, fun z => keep e (g2 z), fun z => (g3 z).below e (g3 z).lt⟩
            cases hc : dep.contains j with
            | true =>
              rw [if_pos hc] at hst
              have hfc : f c = true := by
                obtain ⟨-, -, h3⟩ := hdp j hc
                obtain ⟨e, he, hb, h4⟩ := h3 oj (by simpa using hoj)
                have hl := hd e he hb
                rcases h4 with h4 | h4
                · rwa [h4] at hl
                · exact hdc _ h4 hl
              refine GYX.of (y, p) (hst w1 hb (hh hfc)) hval fun w' e => ⟨fun i _ => rfl, fun f' hf' ho => ⟨below_onto hb e, fun i _ _ => (ec ho).trans hfc, fun _ => hI _ _ _ (hh hfc) e, (rest ho e).1, (rest ho e).2⟩⟩
            | false =>
              rw [if_neg (by rw [hc]; simp)] at hst
              refine GYX.of (y, p) (hst w1 hb) hval fun w' e => ⟨fun i _ => rfl, fun f' hf' ho => ⟨below_onto hb e, fun i hi hfi => ?_, fun h => hI _ _ _ (hh (by rwa [ec ho] at h)) e, (rest ho e).1, (rest ho e).2⟩⟩
              rw [ec ho]
              have hij : i ≠ j := fun e => by rw [e, hc] at hi; cases hi
              exact hdc i hi (by rwa [ho i hij] at hfi))
    (fun f s w1 hall hJ => by
      obtain ⟨hb, -, hh, -, hvar⟩ := hJ
      obtain ⟨g1, -, g3⟩ := hvar (hall k hkn)
      have hn := (hsp s).2 w1 g1 hb (g3 (hall S hSn)) (hh (hall c hcn))
      have hd : l.drop n = [l[n]] := by
        rw [List.drop_eq_getElem_cons (by omega), List.drop_eq_nil_of_le (by omega)]
      rw [hd] at hn
      unfold wpOp
      have ho : l.toArray[n]? = some l[n] := by simp
      simp only [ho]
      exact hn) n (Array.replicate l.toArray.size false) (undef, 0) w.drew start (most n)
      ⟨(Below.refl _ w).drew, (fun j _ h => by rw [show flag (Array.replicate l.toArray.size false) j = false from getD_replicate_false _ _] at h; cases h), (fun h => by rw [show flag (Array.replicate l.toArray.size false) c = false from getD_replicate_false _ _] at h; cases h), (fun h => by rw [show flag (Array.replicate l.toArray.size false) S = false from getD_replicate_false _ _] at h; cases h), fun h => by rw [show flag (Array.replicate l.toArray.size false) k = false from getD_replicate_false _ _] at h; cases h⟩
  rw [zero _ n, ok.size] at this
  rw [ok.size]
  exact this
theorem seqYA_nil {w0 : World} {c k S : Nat} {dep : List Nat} {I : Value → World → Prop} {Z C : Array Value} {t : TypeId} {vs : Value → List Value} {L : Act → Prop} {s : Value × Nat} {j : Nat} {a : Act} (h : L a) : seqYA P ops w0 c k S dep I Z C t vs L s j [] a := h
theorem seqYA_free {w0 : World} {c k S : Nat} {dep : List Nat} {I : Value → World → Prop} {Z C : Array Value} {t : TypeId} {vs : Value → List Value} {L : Act → Prop} {s : Value × Nat} {j : Nat} {o : Oper} {rest : List Oper} {a : Act} (hc : (j == c) = false) (hk : (j == k) = false) (hS : (j == S) = false) (hd : dep.contains j = false) (hg : o.guard = none) {v : Value} (hv : (vs s.1).getD j undef = v)
    (h : ∀ w, Below w0.heap.size w0 w → ∀ K : Act → World → Prop, (∀ a' w', a' = a.put o.dst v → Below w.heap.size w w' → K a' w') → o.wp P a w K (fun _ _ _ => False)) (hr : seqYA P ops w0 c k S dep I Z C t vs L s (j + 1) rest (a.put o.dst v)) :
    seqYA P ops w0 c k S dep I Z C t vs L s j (o :: rest) a := by
  have hc' : j ≠ c := by simpa using hc
  have hk' : j ≠ k := by simpa using hk
  have hS' : j ≠ S := by simpa using hS
  have e : valYA vs k s j = v := by unfold valYA; rw [if_neg hk', hv]
  refine ⟨?_, by rw [e]; exact hr⟩
  unfold stepYA
  rw [if_neg hc', if_neg hk', if_neg hS', if_neg (by rw [hd]; simp), hv]
  exact fun w hw => GYR.plain hg (h w hw)
theorem seqYA_dep {w0 : World} {c k S : Nat} {dep : List Nat} {I : Value → World → Prop} {Z C : Array Value} {t : TypeId} {vs : Value → List Value} {L : Act → Prop} {s : Value × Nat} {j : Nat} {o : Oper} {rest : List Oper} {a : Act} (hc : (j == c) = false) (hk : (j == k) = false) (hS : (j == S) = false) (hd : dep.contains j = true) (hg : o.guard = none) {v : Value} (hv : (vs s.1).getD j undef = v)
    (h : ∀ w, Below w0.heap.size w0 w → I s.1 w → ∀ K : Act → World → Prop, (∀ a' w', a' = a.put o.dst v → Below w.heap.size w w' → K a' w') → o.wp P a w K (fun _ _ _ => False)) (hr : seqYA P ops w0 c k S dep I Z C t vs L s (j + 1) rest (a.put o.dst v)) :
    seqYA P ops w0 c k S dep I Z C t vs L s j (o :: rest) a := by
  have hc' : j ≠ c := by simpa using hc
  have hk' : j ≠ k := by simpa using hk
  have hS' : j ≠ S := by simpa using hS
  have e : valYA vs k s j = v := by unfold valYA; rw [if_neg hk', hv]
  refine ⟨?_, by rw [e]; exact hr⟩
  unfold stepYA
  rw [if_neg hc', if_neg hk', if_neg hS', if_pos hd, hv]
  exact fun w hw hi => GYR.plain hg (h w hw hi)
theorem seqYA_call {w0 : World} {c k S : Nat} {dep : List Nat} {I : Value → World → Prop} {Z C : Array Value} {t : TypeId} {vs : Value → List Value} {L : Act → Prop} {s : Value × Nat} {j : Nat} {o : Oper} {rest : List Oper} {a : Act} (hc : (j == c) = true) (hk : (j == k) = false) (hg : o.guard = none) (u : Value → Value) (hv : ∀ q, (vs q).getD j undef = u q)
    (h : ∀ w, Below w0.heap.size w0 w → ∀ K : Act → World → Prop, (∀ q a' w', a' = a.put o.dst (u q) → Below w.heap.size w w' → I q w' → K a' w') → o.wp P a w K (fun _ _ _ => False)) (hr : seqYA P ops w0 c k S dep I Z C t vs L s (j + 1) rest (a.put o.dst (u s.1))) :
    seqYA P ops w0 c k S dep I Z C t vs L s j (o :: rest) a := by
  have hc' : j = c := by simpa using hc
  have hk' : j ≠ k := by simpa using hk
  have e : valYA vs k s j = u s.1 := by unfold valYA; rw [if_neg hk', hv]
  refine ⟨?_, by rw [e]; exact hr⟩
  unfold stepYA
  rw [if_pos hc']
  intro w hw
  unfold GYX
  rw [if_pos (by simp [Region.wanted, hg])]
  exact fun K hK => h w hw K fun q a' w' ha hb hi => hK q a' w' (ha.trans (congrArg (a.put o.dst) (hv q).symm)) ⟨hb, hi⟩
theorem seqYA_make {w0 : World} {c k S : Nat} {dep : List Nat} {I : Value → World → Prop} {Z C : Array Value} {t : TypeId} {vs : Value → List Value} {L : Act → Prop} {s : Value × Nat} {j : Nat} {o : Oper} {rest : List Oper} {a : Act} (hc : (j == c) = false) (hk : (j == k) = true) (hg : o.guard = none)
    (h : ∀ w, s.2 = w.heap.size → ∀ K : Act → World → Prop, (∀ a', a' = a.put o.dst (.pointer (some ⟨s.2, 0, none⟩)) → K a' (w.alloc (.cells Z t))) → o.wp P a w K (fun _ _ _ => False)) (hr : seqYA P ops w0 c k S dep I Z C t vs L s (j + 1) rest (a.put o.dst (.pointer (some ⟨s.2, 0, none⟩)))) :
    seqYA P ops w0 c k S dep I Z C t vs L s j (o :: rest) a := by
  have hc' : j ≠ c := by simpa using hc
  have hk' : j = k := by simpa using hk
  have e : valYA vs k s j = .pointer (some ⟨s.2, 0, none⟩) := by unfold valYA; rw [if_pos hk']
  refine ⟨?_, by rw [e]; exact hr⟩
  unfold stepYA
  rw [if_neg hc', if_pos hk']
  exact fun w hw => GYR.plain hg fun K hK => h w hw K fun a' ha => hK a' _ ha rfl
theorem seqYA_store {w0 : World} {c k S : Nat} {dep : List Nat} {I : Value → World → Prop} {Z C : Array Value} {t : TypeId} {vs : Value → List Value} {L : Act → Prop} {s : Value × Nat} {j : Nat} {o : Oper} {rest : List Oper} {a : Act} (hc : (j == c) = false) (hk : (j == k) = false) (hS : (j == S) = true) (hg : o.guard = none) (hd : o.dst = none)
    (h : ∀ w, w0.heap.size ≤ s.2 → Holds w s.2 Z → ∀ K : Act → World → Prop, K a (w.setRow s.2 C) → o.wp P a w K (fun _ _ _ => False)) (hr : seqYA P ops w0 c k S dep I Z C t vs L s (j + 1) rest a) :
    seqYA P ops w0 c k S dep I Z C t vs L s j (o :: rest) a := by
  have hc' : j ≠ c := by simpa using hc
  have hk' : j ≠ k := by simpa using hk
  have hS' : j = S := by simpa using hS
  have ev : ∀ v, a.put o.dst v = a := fun v => by rw [hd]; rfl
  refine ⟨?_, by rw [ev]; exact hr⟩
  unfold stepYA
  rw [if_neg hc', if_neg hk', if_pos hS']
  exact fun w hp hH => GYR.plain hg fun K hK => h w hp hH K (hK a _ (ev _).symm rfl)
/-- A row outlives a store to a block of another type. -/
theorem own_typed {w : World} {B p : Nat} {e t : TypeId} {size n : Nat} {v : Value} {xs : List Value} {Z C : Array Value} (ho : w.ownsRow B e size v n xs) (hp : w.heap[p]? = some (.cells Z t (0, 0))) (het : e ≠ t) : (w.setRow p C).ownsRow B e size v n xs := by
  refine ((Only.refl [p] w).setRow (g := p) (.inl (by simp)) C).own ho fun k hk => ?_
  rcases ho.2 with ⟨rfl, -⟩ | ⟨g, cap, cur, rfl, hb, hg, -⟩
  · simp [Value.ownBlock] at hk
  · simp only [Value.ownBlock, Option.some.injEq] at hk
    subst hk
    intro hm
    have : g = p := by simpa using hm
    subst this
    rw [hg] at hp
    simp only [Option.some.injEq, Obj.cells.injEq] at hp
    exact het hp.2.1
end
end Go.Proofs.YtabemgplddfemaaGreatDoor
