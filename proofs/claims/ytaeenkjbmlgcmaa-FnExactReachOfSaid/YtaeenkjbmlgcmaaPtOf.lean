/- A cell of a lawn as a pair of numbers. -/
import Derived.Test.YtaeenkjbmlgcmaaZB
import Derived.Test.YtaeenkjbmlgcmaaZF
namespace Go.Proofs.Ytaeenkjbmlgcmaa
open Go.RowKit
set_option linter.unusedVariables false

def ptOf {W H : Nat} (c : Fin W × Fin H) : Pt := ((c.1.val : Int), (c.2.val : Int))
theorem ptOf_inj {W H : Nat} {a b : Fin W × Fin H} (h : ptOf a = ptOf b) : a = b := by
  have h1 := congrArg Prod.fst h
  have h2 := congrArg Prod.snd h
  simp only [ptOf] at h1 h2
  ext <;> omega
theorem allC_nodup (W H : Nat) : (allC W H).Nodup := by
  rw [List.nodup_iff_pairwise_ne, List.pairwise_iff_getElem]
  intro i j hi hj hij he
  have hl := allC_length W H
  have h0 : 0 < W := Nat.pos_of_ne_zero (fun h => by rw [hl, h] at hi; omega)
  have gi := allC_get W H (i / W) (i % W) (Nat.mod_lt _ h0) (by rw [Nat.div_lt_iff_lt_mul h0]; omega)
  have gj := allC_get W H (j / W) (j % W) (Nat.mod_lt _ h0) (by rw [Nat.div_lt_iff_lt_mul h0]; omega)
  have ei : i / W * W + i % W = i := by rw [Nat.mul_comm]; exact Nat.div_add_mod i W
  have ej : j / W * W + j % W = j := by rw [Nat.mul_comm]; exact Nat.div_add_mod j W
  rw [ei, List.getElem?_eq_getElem hi] at gi
  rw [ej, List.getElem?_eq_getElem hj] at gj
  have : (some ((⟨i % W, Nat.mod_lt _ h0⟩, ⟨i / W, by rw [Nat.div_lt_iff_lt_mul h0]; omega⟩) : Fin W × Fin H)) = some (⟨j % W, Nat.mod_lt _ h0⟩, ⟨j / W, by rw [Nat.div_lt_iff_lt_mul h0]; omega⟩) := by rw [← gi, ← gj, he]
  simp only [Option.some.injEq, Prod.mk.injEq, Fin.mk.injEq] at this
  rw [← ei, ← ej, this.1, this.2] at hij
  omega
end Go.Proofs.Ytaeenkjbmlgcmaa
