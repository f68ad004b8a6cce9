/- Regions that draw their order, all of whose operations grow; plainly and in the round of a range over a function. -/
import Derived.Test.YtaeenkjbmlgcmaaZD
import Derived.Test.YtaeenkjbmlgcmaaZB
namespace Go.Proofs.Ytaeenkjbmlgcmaa
open Go.RowKit Go.Shelf
set_option linter.unusedVariables false

section
variable {P : Program} {l₀ n : Nat}
theorem any_region_all {Q : Exit → Act → World → Prop} {a : Act} {w0 w : World} {l : List Oper} (hB : growKB l.toArray l.length = true) (hw : Below w0.heap.size w0 w)
    (h : wpGrow P l.toArray w0 (fun a' => ∀ w', Below w0.heap.size w0 w' → Q .normal a' w') l a) : wpAny P .any l.toArray Q l.toArray.size (Array.replicate l.toArray.size false) a w := by
  have ok := growKB_ok hB
  have start : HeadInv .any l.toArray 0 (Array.replicate l.toArray.size false) :=
    ⟨by simp, (fun j oj _ hl => by rw [getD_replicate_false] at hl; cases hl), fun t _ ht => getD_in (by simpa using ht) (getD_replicate_false _ _)⟩
  have key := any_stage (P := P) (Q := Q) (a := a) (w0 := w0) (w := w) (k := 0) (n := l.length) (ops := l.toArray) l (fun j hj => by simp) (by simp) ok (fun i hi => by omega) start hw
  rw [Nat.sub_zero] at key
  refine key ?_
  clear key
  refine wpGrow_mono (fun a' h' => ?_) h
  intro w' listed' hw' hall inv
  refine ready_done ?_ _ _ _ (h' w' hw')
  apply List.eq_nil_iff_forall_not_mem.2
  intro j hj
  obtain ⟨g1, oj, hoj, -⟩ := mem_ready.1 hj
  have := hall j (by have := (Array.getElem?_eq_some_iff.1 hoj).1; simpa using this)
  unfold flag at this
  rw [getD_both g1] at this
  cases this
theorem wp_region_all {id : Nat} {Q : Exit → Act → World → Prop} {a : Act} {w : World} {l : List Oper} (hm : P.follows .mixedOrders = true) (hB : growKB l.toArray l.length = true)
    (h : wpGrow P l.toArray w (fun a' => ∀ w', Below w.heap.size w w' → Q .normal a' w') l a) : (Code.region id l.toArray true).wp P Q a w :=
  wp_region_any hm (any_region_all hB ((Below.refl _ w).drew) h)
theorem wpIn_region_all {id : Nat} {Q : Exit → Act → World → Prop} {a : Act} {w : World} {l : List Oper} (hm : P.follows .mixedOrders = true) (hd : noDefer l = true) (hout : ¬ LetsOut Q) (hB : growKB l.toArray l.length = true)
    (h : wpGrow P l.toArray w (fun a' => ∀ w', Below w.heap.size w w' → Q .normal a' w') l a) : (Code.region id l.toArray true).wpIn (Fence.wide.inRound l₀) n P Q a w :=
  wpIn_region_any hm (any_in hout (by simpa using hd) _ _ _ _ (any_region_all hB ((Below.refl _ w).drew) h))
end
end Go.Proofs.Ytaeenkjbmlgcmaa
