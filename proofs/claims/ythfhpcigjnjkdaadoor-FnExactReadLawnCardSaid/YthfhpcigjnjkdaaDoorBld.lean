/- Builders of strings: what grows keeps them. -/
import Derived.Test.YthfhpcigjnjkdaaDoorWrite
import Derived.Test.YthfhpcigjnjkdaaDoorShelf
import Derived.Test.YthfhpcigjnjkdaaDoorZE
import Derived.Test.YthfhpcigjnjkdaaDoorZI
import Derived.Test.YthfhpcigjnjkdaaDoorGrowV
namespace Go.Proofs.YthfhpcigjnjkdaaDoor
open Go.RowKit Go.Shelf
set_option linter.unusedVariables false
theorem str_snoc (l : List UInt8) (c : UInt8) : (⟨l.toArray⟩ : ByteArray) ++ ⟨#[c]⟩ = ⟨(l ++ [c]).toArray⟩ := by
  apply ByteArray.ext
  simp
theorem size_of_list (l : List UInt8) : (⟨l.toArray⟩ : ByteArray).size = l.length := by simp [ByteArray.size]
theorem ownF_below {w w' : World} {B : Nat} {e : TypeId} {size n : Nat} {v : Value} {xs : List Value} (h : w.ownsRowF B e size v n xs) (hb : Below w.heap.size w w') : w'.ownsRowF B e size v n xs := by
  obtain ⟨h1, h2⟩ := h
  refine ⟨h1, ?_⟩
  rcases h2 with h2 | ⟨g, cap, cur, fz, h3, h4, h5, h6⟩
  · exact .inl h2
  · exact .inr ⟨g, cap, cur, fz, h3, h4, by rw [hb.block g (Array.getElem?_eq_some_iff.1 h5).1]; exact h5, h6⟩
theorem bld_below {w w' : World} {B b : Nat} {bs : List Value} (h : Bld w B b bs) (hb : Below w.heap.size w w') : Bld w' B b bs := by
  rcases h with ⟨h1, v, h2, h3, h4⟩ | ⟨h1, v, h2, h3, h4⟩
  · exact .inl ⟨h1, v, by rw [hb.block b (Array.getElem?_eq_some_iff.1 h2).1]; exact h2, ownF_below h3 hb, h4⟩
  · exact .inr ⟨h1, v, by rw [hb.block b (Array.getElem?_eq_some_iff.1 h2).1]; exact h2, ownF_below h3 hb, h4⟩
end Go.Proofs.YthfhpcigjnjkdaaDoor
