/- How lists that came in are read. -/
import Derived.Test.YtpjninnammddlaaOpen
import Derived.Test.YtpjninnammddlaaArgs
import Derived.ChangeSlices
import Derived.Deep.Slices
namespace Go.Proofs.Ytpjninnammddlaa
open Go.ChangeShapes Go.WideShapes Go.ChangeAt Go.RowKit

set_option maxRecDepth 100000 in
theorem open_int64s {H : Type} {enc : TypeId × Value → H} {W : World} {sp : Nat → Bool} {held : Bool} {v : Value} {d : DataW H} {p : List MemPlace} {r : Reach} {b : Nat}
    (hv : Value.okWide Try.prog W r b 24 v) (h : DataW.Trod enc Try.prog W 0 sp held 24 v d p) : ∃ (n : Nat) (zs : List Int), ArgRow .i64 1 W v n zs ∧ n ≤ maxLen ∧ ∀ z ∈ zs, -9223372036854775808 ≤ z ∧ z ≤ 9223372036854775807 := by
  obtain ⟨a, len, cap, rfl⟩ := okWide_slice Try.underlying24 hv
  obtain ⟨fuel, hf⟩ := h
  rcases Go.ChangeShapes.open_ints Try.underlying24 Try.underlying2 (by kernel_rfl) hf with ⟨h1, -⟩ | ⟨a', len', cap', zs, h1, hb, hl, hm, hlen, -, hc, hw⟩
  · simp [Value.cells] at h1
    obtain ⟨rfl, rfl, rfl⟩ := h1
    exact ⟨0, [], ⟨rfl, .inl ⟨rfl, rfl⟩⟩, by simp [maxLen], by simp⟩
  · simp [Value.cells] at h1
    obtain ⟨rfl, rfl, rfl⟩ := h1
    have hle : len ≤ zs.length := by rw [hlen]; split <;> omega
    refine ⟨len, zs.take len, ⟨by rw [List.length_take]; omega, .inr ⟨a', cap, rfl, hl, hm, fun i z hz => ?_⟩⟩, by omega, fun z hz => ?_⟩
    · rw [List.getElem?_take] at hz
      split at hz
      · have := hc i (by omega)
        rw [List.getD_eq_getElem?_getD, hz] at this
        exact this
      · cases hz
    · have := hw z (List.mem_of_mem_take hz)
      simp [Lit.wf, IntKind.min, IntKind.max, IntKind.signed, IntKind.bits] at this
      omega

theorem field_i8 {H : Type} {enc : TypeId × Value → H} {P : Program} {W : World} {base : Nat} {sp : Nat → Bool} {held : Bool} {fuel : Nat} {cs : List Value} {x : DataW H × List MemPlace} {t : TypeId} {fs : Array Field}
    (ht : P.underlying t = some (.struct fs)) (h8 : P.underlying 44 = some (.int .i8)) (c8 : P.cellsOf 44 = 1) (h : DataW.trod enc P W base sp held fuel t cs = some x) (i o : Nat) (hi : (fs[i]?).map (fun f => (f.type, f.offset)) = some (44, o)) :
    ∃ z, cs[o]? = some (.int .i8 z) ∧ (Lit.int .i8 z).wf = true := by
  obtain ⟨xs, m, rfl, -, -, hn, hx⟩ := DataW.trod_struct ht h
  cases hf : fs[i]? with
  | none => simp [hf] at hi
  | some f =>
    simp only [hf, Option.map_some, Option.some.injEq, Prod.mk.injEq] at hi
    have hlt : i < xs.length := by rw [hn]; exact (Array.getElem?_eq_some_iff.1 hf).1
    have := hx i f hf
    rw [hi.1, hi.2, c8, List.getElem?_eq_getElem hlt] at this
    obtain ⟨z, hz, -, hw⟩ := DataW.trod_int h8 this
    refine ⟨z, ?_, hw⟩
    have h0 : ((cs.drop o).take 1)[0]? = some (.int .i8 z) := by rw [hz]; rfl
    simpa using h0

/-- The number that a cell holds. -/
def cellNum (w : World) (a : Addr) : Int := match w.cell? a with | some (.int _ z) => z | _ => 0

set_option maxRecDepth 100000 in
theorem open_weathers {H : Type} {enc : TypeId × Value → H} {W : World} {sp : Nat → Bool} {held : Bool} {v : Value} {d : DataW H} {p : List MemPlace} {r : Reach} {b : Nat}
    (hv : Value.okWide Try.prog W r b 22 v) (h : DataW.Trod enc Try.prog W 0 sp held 22 v d p) : ∃ (n : Nat) (zs : List Int), ArgRow .i8 2 W v n zs ∧ n ≤ maxLen ∧ ∀ z ∈ zs, -128 ≤ z ∧ z ≤ 127 := by
  obtain ⟨a, len, cap, rfl⟩ := okWide_slice Try.underlying22 hv
  obtain ⟨fuel, hf⟩ := h
  rcases Go.Deep.open_slice Try.underlying22 hf with ⟨h1, -⟩ | ⟨a', len', cap', m, n, D, Pl, h1, hb, hl, hm, hmm, -, hc⟩
  · simp [Value.cells] at h1
    obtain ⟨rfl, rfl, rfl⟩ := h1
    exact ⟨0, [], ⟨rfl, .inl ⟨rfl, rfl⟩⟩, by simp [maxLen], by simp⟩
  · simp [Value.cells] at h1
    obtain ⟨rfl, rfl, rfl⟩ := h1
    have hle : len ≤ m := by rw [hmm]; split <;> omega
    have hce : Try.prog.cellsOf 48 = 2 := by kernel_rfl
    have key : ∀ i, i < len * 2 → ∃ z, W.cell? (a'.add i) = some (.int .i8 z) ∧ (Lit.int .i8 z).wf = true := fun i hi => by
      obtain ⟨cs', hcs, ht⟩ := hc (i / 2) (by omega)
      rw [hce] at hcs
      have h2 := (World.cells?_some hcs).2.2 (i % 2) (by omega)
      rw [Addr.add_add, show i / 2 * 2 + i % 2 = i by omega] at h2
      rcases Nat.mod_two_eq_zero_or_one i with h0 | h0
      · obtain ⟨z, hz, hw⟩ := field_i8 Try.underlying48 Try.underlying44 cellsI8 ht 0 0 rfl
        exact ⟨z, by rw [h2, h0, hz], hw⟩
      · obtain ⟨z, hz, hw⟩ := field_i8 Try.underlying48 Try.underlying44 cellsI8 ht 1 1 rfl
        exact ⟨z, by rw [h2, h0, hz], hw⟩
    refine ⟨len, (List.range (len * 2)).map fun i => cellNum W (a'.add i), ⟨by simp, .inr ⟨a', cap, rfl, hl, hm, fun i z hz => ?_⟩⟩, by omega, fun z hz => ?_⟩
    · have hi : i < len * 2 := by have := (List.getElem?_eq_some_iff.1 hz).1; simpa using this
      obtain ⟨y, hy, -⟩ := key i hi
      simp only [List.getElem?_map, List.getElem?_range hi, Option.map_some, Option.some.injEq, cellNum, hy] at hz
      rw [hy, hz]
    · simp only [List.mem_map, List.mem_range] at hz
      obtain ⟨i, hi, rfl⟩ := hz
      obtain ⟨y, hy, hw⟩ := key i hi
      simp only [cellNum, hy]
      exact wf_i8 hw
end Go.Proofs.Ytpjninnammddlaa
