/- Join of an own row of strings, and Itoa below a hundred. -/
import Derived.Test.YthfhpcigjnjkdaaDoorStrV
import Derived.Test.YthfhpcigjnjkdaaDoorShelf
namespace Go.Proofs.YthfhpcigjnjkdaaDoor
open Go.RowKit
set_option linter.unusedVariables false
set_option linter.unusedSimpArgs false

theorem itoa_any (x : Nat) (h : x < 100) (w : World) : Calls Tryd.prog 69 #[.int .i64 (x : Int)] w fun e w' => e = .returned (.string ⟨(dd x).toArray⟩) ∧ w' = w := by
  have := Tryd.strconv_Itoa_small x h w
  rwa [dec_dd (by omega)] at this
theorem join_own (c : UInt8) (ls : List (List UInt8)) (n : Nat) (hn : ls.length = n) (B : Nat) (v : Value) (w : World) (ho : w.ownsRow B 9 1 v n (strV ls)) (hN : n ≤ 1000) (hlen : (joinS c ls).length ≤ 100000) :
    Calls Tryd.prog 70 #[v, .string ⟨#[c]⟩] w fun e w' => e = .returned (.string ⟨(joinS c ls).toArray⟩) ∧ Below w.heap.size w w' := by
  rcases ho.2 with ⟨rfl, h0⟩ | ⟨g, cap, cur, rfl, hB, hg, hcap, hmax, -⟩
  · have e0 : ls = [] := List.length_eq_zero_iff.1 (by omega)
    subst e0
    exact (Tryd.strings_Join_none none 0 ⟨#[c]⟩ w).mono fun e w' ⟨h1, h2⟩ => ⟨by rw [h1]; rfl, by rw [h2]; exact Below.refl _ _⟩
  · have hm : (ls.map fun l => (⟨l.toArray⟩ : ByteArray)).length = n := by rw [List.length_map, hn]
    have hl : (ls.map fun l => (⟨l.toArray⟩ : ByteArray)).map (·.data.toList) = ls := by
      rw [List.map_map]
      conv => rhs; rw [← List.map_id ls]
      exact List.map_congr_left fun l _ => by simp
    have hJ : Lib.join ((ls.map fun l => (⟨l.toArray⟩ : ByteArray)).map (·.data.toList)) (⟨#[c]⟩ : ByteArray).data.toList = joinS c ls := by
      rw [hl]; exact join_is c ls
    have key := Tryd.strings_Join g 0 cap (ls.map fun l => (⟨l.toArray⟩ : ByteArray)) ⟨#[c]⟩ w (fun j x hx => by
        rw [List.getElem?_map, Option.map_eq_some_iff] at hx
        obtain ⟨l, hl, rfl⟩ := hx
        rw [Nat.zero_add]
        exact own_cell ho j _ (strV_get hl)) (Array.getElem?_eq_some_iff.1 hg).1 (by omega) (by omega) (by rw [hJ]; omega)
    rw [hJ, hm] at key
    exact key
end Go.Proofs.YthfhpcigjnjkdaaDoor
