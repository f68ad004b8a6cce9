/- Lists that came in: what they read, and the copies that a law makes of them. -/
import Derived.Test.YteaajkkhbflmdaaDoorZC
import Derived.Test.YteaajkkhbflmdaaDoorZD
import Derived.Laws.MakeOwn
import Derived.DataElems
namespace Go.Proofs.YteaajkkhbflmdaaDoor
open Go.RowKit
set_option linter.unusedVariables false

/-- A list of n elements of so many numbers each that came in. -/
def ArgRow (k : IntKind) (s : Nat) (w : World) (v : Value) (n : Nat) (zs : List Int) : Prop :=
  zs.length = n * s ∧ ((v = .slice none 0 0 ∧ n = 0) ∨ ∃ a cap, v = .slice (some a) n cap ∧ n ≤ cap ∧ cap ≤ maxLen ∧ ∀ i z, zs[i]? = some z → w.cell? (a.add i) = some (.int k z))
theorem cell_block {w : World} {a : Addr} {v : Value} (h : w.cell? a = some v) : a.block < w.heap.size := by
  rcases Nat.lt_or_ge a.block w.heap.size with hl | hl
  · exact hl
  · simp [World.cell?, Array.getElem?_eq_none hl] at h
theorem ArgRow.below {k : IntKind} {s : Nat} {w w' : World} {v : Value} {n : Nat} {zs : List Int} {B : Nat} (h : ArgRow k s w v n zs) (hb : Below B w w') (hB : w.heap.size ≤ B) : ArgRow k s w' v n zs := by
  obtain ⟨h1, h2 | ⟨a, cap, h3, h4, h5, h7⟩⟩ := h
  · exact ⟨h1, .inl h2⟩
  · refine ⟨h1, .inr ⟨a, cap, h3, h4, h5, fun i z hz => ?_⟩⟩
    have hl := cell_block (h7 i z hz)
    rw [← h7 i z hz]
    exact World.cell?_of_block (hb.block _ (by omega))
theorem ArgRow.slice {k : IntKind} {s : Nat} {w : World} {v : Value} {n : Nat} {zs : List Int} (h : ArgRow k s w v n zs) : ∃ a c, v = .slice a n c := by
  obtain ⟨h1, ⟨h2, h3⟩ | ⟨a, cap, h3, h4, h5, h7⟩⟩ := h
  · exact ⟨none, 0, by rw [h2, h3]⟩
  · exact ⟨some a, cap, h3⟩
/-- Numbers as a row of cells. -/
def intsV (k : IntKind) (zs : List Int) : List Value := zs.map (.int k)
theorem intsV_get {k : IntKind} {zs : List Int} {i : Nat} {z : Int} (h : zs[i]? = some z) : (intsV k zs)[i]? = some (.int k z) := by simp [intsV, h]
theorem intsV_ints {k : IntKind} {zs : List Int} {n : Nat} (h : zs.length = n) : ∀ j, j < n → ∃ z, (intsV k zs)[j]? = some (.int k z) := fun j hj => ⟨zs[j], intsV_get (List.getElem?_eq_getElem (by omega))⟩

theorem i64Info : (Tryd.prog.info? 2).map (fun i => (i.zero, i.size, i.bytes)) = some (some (.int .i64 0), 1, 8) := by kernel_rfl


theorem addr_one (x : Addr) : x.add 1 = ⟨x.block, x.off + 1, none⟩ := by simp [Addr.add]


end Go.Proofs.YteaajkkhbflmdaaDoor
