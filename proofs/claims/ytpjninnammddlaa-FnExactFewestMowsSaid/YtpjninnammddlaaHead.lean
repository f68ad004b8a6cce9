/- The closed facts on the whole program that every row asks, laid cheaply: the dump's head is read as a list of signs once. -/
import Derived.Test.YtpjninnammddlaaRows
import Derived.ProofKit
namespace Go.Proofs.Ytpjninnammddlaa
set_option maxRecDepth 100000
theorem toList_of {s : String} {l : List Char} (h : s = String.ofList l) : s.toList = l := by rw [h]; exact String.toList_ofList
theorem headOf {s : String} {l : List Char} (h : s = String.ofList l) (hr : ((behindMainWord (wordsSigns l)).head? == some "cut".toList) = true) : ∃ rest, behindMainWord (wordsSigns s.toList) = "cut".toList :: rest := by
  rw [toList_of h]
  cases hb : behindMainWord (wordsSigns l) with
  | nil => rw [hb] at hr; simp at hr
  | cons a rest => rw [hb] at hr; exact ⟨rest, by rw [show a = "cut".toList from by simpa using hr]⟩
theorem strip_cut (rest : List (List Char)) : stripLifts liftWords ("cut".toList :: rest) = ([], "cut".toList :: rest) := by kernel_rfl
theorem make_of {P : Program} {rest : List (List Char)} (h : behindMainWord (wordsSigns P.initOrder.toList) = "cut".toList :: rest) : P.make = some .cut := by
  unfold Program.make
  rewrite [h]
  kernel_rfl
theorem lifts_of {P : Program} {rest : List (List Char)} (h : behindMainWord (wordsSigns P.initOrder.toList) = "cut".toList :: rest) : P.liftsFinal = false := by
  unfold Program.liftsFinal Program.headLifts
  rewrite [h, strip_cut]
  kernel_rfl
theorem enter_of {P : Program} {rest : List (List Char)} (h : behindMainWord (wordsSigns P.initOrder.toList) = "cut".toList :: rest) (h1 : P.laysLater = false) (h2 : P.bearsReflect = false) (h3 : P.doorFits [] = true) : P.mayEnter = true := by
  unfold Program.mayEnter
  rewrite [h]
  simp only [strip_cut, h1, h2, h3]
  kernel_rfl
theorem headIs : ∃ rest, behindMainWord (wordsSigns Try.prog.initOrder.toList) = "cut".toList :: rest := headOf (s := Try.prog.initOrder) rfl (by kernel_rfl)
theorem laysIs : Try.prog.laysLater = false := by kernel_rfl
theorem reflIs : Try.prog.bearsReflect = false := by kernel_rfl
theorem doorIs : Try.prog.doorFits [] = true := by kernel_rfl
theorem enterIs : Try.prog.mayEnter = true := by
  obtain ⟨rest, h⟩ := headIs
  exact enter_of h laysIs reflIs doorIs
theorem liftsIs : Try.prog.liftsFinal = false := by
  obtain ⟨rest, h⟩ := headIs
  exact lifts_of h
theorem makeIs : Try.prog.make = some .cut := by
  obtain ⟨rest, h⟩ := headIs
  exact make_of h
end Go.Proofs.Ytpjninnammddlaa
