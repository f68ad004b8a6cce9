/- Lists of cells that came in: what they read. -/
import Derived.Test.YtaeenkjbmlgcmaaOpenL
namespace Go.Proofs.Ytaeenkjbmlgcmaa
open Go.RowKit Go.ChangeShapes Go.WideShapes Go.ChangeAt
set_option linter.unusedVariables false

set_option maxRecDepth 100000 in
theorem open_cellsA {H : Type} {enc : TypeId × Value → H} {W : World} {sp : Nat → Bool} {held : Bool} {v : Value} {d : DataW H} {p : List MemPlace} {r : Reach} {b : Nat}
    (hv : Value.okWide Try.prog W r b 54 v) (h : DataW.Trod enc Try.prog W 0 sp held 54 v d p) : ∃ (n : Nat) (zs : List Int), ArgRow .i8 2 W v n zs ∧ n ≤ maxLen ∧ ∀ z ∈ zs, -128 ≤ z ∧ z ≤ 127 := by
  obtain ⟨a, len, cap, rfl⟩ := okWide_slice Try.underlying54 hv
  obtain ⟨fuel, hf⟩ := h
  rcases Go.Deep.open_slice Try.underlying54 hf with ⟨h1, -⟩ | ⟨a', len', cap', m, n, D, Pl, h1, hb, hl, hm, hmm, -, hc⟩
  · simp [Value.cells] at h1
    obtain ⟨rfl, rfl, rfl⟩ := h1
    exact ⟨0, [], ⟨rfl, .inl ⟨rfl, rfl⟩⟩, by simp [maxLen], by simp⟩
  · simp [Value.cells] at h1
    obtain ⟨rfl, rfl, rfl⟩ := h1
    have hle : len ≤ m := by rw [hmm]; split <;> omega
    have hce : Try.prog.cellsOf 33 = 2 := by kernel_rfl
    have key : ∀ i, i < len * 2 → ∃ z, W.cell? (a'.add i) = some (.int .i8 z) ∧ (Lit.int .i8 z).wf = true := fun i hi => by
      obtain ⟨cs', hcs, ht⟩ := hc (i / 2) (by omega)
      rw [hce] at hcs
      have h2 := (World.cells?_some hcs).2.2 (i % 2) (by omega)
      rw [Addr.add_add, show i / 2 * 2 + i % 2 = i by omega] at h2
      rcases Nat.mod_two_eq_zero_or_one i with h0 | h0
      · obtain ⟨z, hz, hw⟩ := field_i8 Try.underlying33 Try.underlying22 cellsI8 ht 0 0 rfl
        exact ⟨z, by rw [h2, h0, hz], hw⟩
      · obtain ⟨z, hz, hw⟩ := field_i8 Try.underlying33 Try.underlying22 cellsI8 ht 1 1 rfl
        exact ⟨z, by rw [h2, h0, hz], hw⟩
    refine ⟨len, (List.range (len * 2)).map fun i => cellNum W (a'.add i), ⟨by simp, .inr ⟨a', cap, rfl, hl, hm, fun i z hz => ?_⟩⟩, by omega, fun z hz => ?_⟩
    · have hi : i < len * 2 := by have := (List.getElem?_eq_some_iff.1 hz).1; simpa using this
      obtain ⟨y, hy, -⟩ := key i hi
      simp only [List.getElem?_map, List.getElem?_range hi, Option.map_some, Option.some.injEq, cellNum, hy] at hz
      rw [hy, hz]
    · simp only [List.mem_map, List.mem_range] at hz
      obtain ⟨i, hi, rfl⟩ := hz
      obtain ⟨y, hy, hw⟩ := key i hi
      simp only [cellNum, hy]
      exact wf_i8 hw
end Go.Proofs.Ytaeenkjbmlgcmaa
