/- The deferred call of GrowthAll: it finds what weather that is not valid panics with, or nothing. -/
import Derived.Test.YtpjninnammddlaaZB
import Derived.RecoverIn
import Derived.RangeFuncLeaves
import Derived.Laws.Pointers
namespace Go.Proofs.Ytpjninnammddlaa
open Go.RowKit
set_option linter.unusedVariables false

set_option maxRecDepth 100000 in
set_option maxHeartbeats 1000000 in
theorem catch_panicking {n : Nat} (p q : Nat) (x y : Value) (d : Int) (older : List PanicEntry) (w : World) (hp : Holds w p #[x]) (hq : Holds w q #[y]) (hpq : p ≠ q) :
    CallsDIn Fence.wide n Try.prog 36 #[.pointer (some ⟨p, 0, none⟩), .pointer (some ⟨q, 0, none⟩)] (.panicking ({ v := .iface 64 (.int .i64 d), recovered := false } :: older)) w fun e u' w' =>
      e = .returned (.tuple #[]) ∧ u' = .panicking ({ v := .iface 64 (.int .i64 d), recovered := true } :: older) ∧ w' = (w.setCell ⟨p, 0, none⟩ (.slice none 0 0)).setCell ⟨q, 0, none⟩ (.int .i64 1) := by
  obtain ⟨-, fp, cp, zp, lp⟩ := hp.facts
  obtain ⟨-, fq, cq, zq, lq⟩ := hq.facts
  have cp0 := cp 0
  have cq0 := cq 0
  refine callsDIn_of_wpSIn Try.func36 rfl trivial fun c₀ cs hu => ?_
  apply wpSIn_seq
  apply wpSIn_region
  simp [wpOpsSIn, go_sem, recoverD, hu, Try.ntmps36, Exit.thenS]
  apply wpSIn_seq
  apply wpSIn_region
  simp [wpOpsSIn, go_sem, Exit.thenS]
  refine wpSIn_cond (t := true) (by simp [Act.eval, Array.replicate]) ?_
  simp only [if_true]
  apply wpSIn_region
  have hqp : q ≠ p := Ne.symm hpq
  have cq1 : (w.setCell ⟨p, 0, none⟩ (.slice none 0 0)).cell? ⟨q, 0, none⟩ = some y := by
    rw [World.cell?_of_block (Below.heap_setCell w _ _ q hqp)]
    simpa using cq0
  have zq1 : (w.setCell ⟨p, 0, none⟩ (.slice none 0 0)).frozen? ⟨q, 0, none⟩ = false := by
    rw [World.frozen?_of_block (Below.heap_setCell w _ _ q hqp)]
    exact zq 0
  simp [wpOpsSIn, go_sem, cp, zp, cq1, zq1, bodyPostS, results, Try.results36]

set_option maxRecDepth 100000 in
set_option maxHeartbeats 1000000 in
theorem catch_idle {n : Nat} (p q : Nat) (w : World) :
    CallsDIn Fence.wide n Try.prog 36 #[.pointer (some ⟨p, 0, none⟩), .pointer (some ⟨q, 0, none⟩)] .returning w fun e u' w' =>
      e = .returned (.tuple #[]) ∧ u' = .returning ∧ w' = w := by
  refine callsDIn_of_wpSIn Try.func36 rfl trivial fun c₀ cs hu => ?_
  apply wpSIn_seq
  apply wpSIn_region
  simp [wpOpsSIn, go_sem, recoverD, hu, Try.ntmps36, Exit.thenS]
  apply wpSIn_seq
  apply wpSIn_region
  simp [wpOpsSIn, go_sem, Exit.thenS]
  refine wpSIn_cond (t := false) (by simp [Act.eval, Array.replicate]) ?_
  simp only [Bool.false_eq_true, if_false]
  refine wpSIn_of_wpIn rfl ?_
  apply wpIn_skip
  cases c₀
  simp_all [bodyPostS, results, Try.results36]
end Go.Proofs.Ytpjninnammddlaa
