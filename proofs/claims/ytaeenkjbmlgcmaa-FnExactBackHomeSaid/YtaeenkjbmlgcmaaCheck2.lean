/- The code of a lawn and of two cells. -/
import Derived.Test.YtaeenkjbmlgcmaaZC
namespace Go.Proofs.Ytaeenkjbmlgcmaa
open Go.RowKit
set_option linter.unusedVariables false
attribute [local go_sem ↓] loadRow loadGrid loadLawn loadMirror storeRow storeGrid storeLawn allocRow allocGrid allocLawn buildZero buildSides

set_option maxRecDepth 100000 in
set_option maxHeartbeats 1000000 in
theorem check2_any (L : Lawn) (hL : L.Fits) (x y x2 y2 : Int) (b : Nat) (w : World) (h : Holds w b #[.int .i8 x, .int .i8 y, .int .i8 x2, .int .i8 y2]) :
    Calls Try.prog 106 #[.agg L.cells, .slice (some ⟨b, 0, none⟩) 2 2] w fun e w' => e = .returned (.int .i64 (told (validB L) (isB L x y && isB L x2 y2))) ∧ Below w.heap.size w w' := by
  have HI' : ∀ w : World, Calls Try.prog 98 #[.agg L.cells] w fun e w' => e = .returned (.bool (validB L)) ∧ Below w.heap.size w w' := fun w => implValid_any L hL w
  have HB' : ∀ w : World, Calls Try.prog 110 #[.agg L.cells, .agg #[.int .i8 x, .int .i8 y]] w fun e w' => e = .returned (.bool (isB L x y)) ∧ Below w.heap.size w w' := fun w => has_any L x y w
  have HC' : ∀ w : World, Calls Try.prog 110 #[.agg L.cells, .agg #[.int .i8 x2, .int .i8 y2]] w fun e w' => e = .returned (.bool (isB L x2 y2)) ∧ Below w.heap.size w w' := fun w => has_any L x2 y2 w
  generalize validB L = v at HI' ⊢
  generalize isB L x y = f at HB' ⊢
  generalize isB L x2 y2 = f2 at HC' ⊢
  have HI := Lib.hid HI'
  have HB := Lib.hid HB'
  have HC := Lib.hid HC'
  clear HI' HB' HC'
  go_enter Try.func106, Try.ntmps106
  go_wp2_with fail
  refine (HI.out _).mono ?_
  rintro e w1 ⟨rfl, hb1⟩
  have hb := ((Below.refl w.heap.size w).alloc (Nat.le_refl _) (.cells L.cells 29)).trans (hb1.mono (by simp))
  have h1 := (Holds.new w L.cells 29).below hb1 (by simp)
  have h2 := h.below hb h.lt
  obtain ⟨r1, -⟩ := h1.facts
  obtain ⟨-, -, c2, -⟩ := h2.facts
  clear hb1
  cases v
  · go_wp2_with fail
    go_ret
    exact ⟨rfl, hb⟩
  · go_wp2_with fail
    have r1' := h1.later.1
    have c2' := h2.later.2
    clear r1 c2
    go_loopw [12] (fun i wr => (i = .int .i64 0 ∨ i = .int .i64 1 ∧ f = true ∨ i = .int .i64 2 ∧ f = true ∧ f2 = true) ∧ Below w1.heap.size w1 wr) (fun i _ => 2 - (intOf i).toNat)
    case atStart => exact ⟨.inl rfl, Below.refl _ _⟩
    case round =>
      obtain ⟨hi, hbi⟩ := hrel
      have r1 := r1' _ hbi
      have c2 := c2' _ hbi
      rcases hi with rfl | ⟨rfl, rfl⟩ | ⟨rfl, rfl, rfl⟩
      · have l1 : w.heap.size < wr.heap.size := Nat.lt_of_lt_of_le h1.lt hbi.size
        have l2 : b < wr.heap.size := Nat.lt_of_lt_of_le h2.lt hbi.size
        obtain ⟨-, f1, -, -, -⟩ := (h1.below hbi h1.lt).facts
        go_wp2_with fail
        refine (HB.out _).mono ?_
        rintro e w2 ⟨rfl, hb2⟩
        have hb3 := (hbi.alloc hbi.size _).trans (hb2.mono (by simp; have := hbi.size; omega))
        clear hbi hb2
        cases f
        · go_wp2_with fail
          go_ret
          exact ⟨rfl, below_onto hb hb3⟩
        · go_wp2_with fail
          go_roundw
          case rel => exact ⟨.inr (.inl ⟨by go_num, trivial⟩), hb3⟩
          case measure => simp [intOf]
      · have l1 : w.heap.size < wr.heap.size := Nat.lt_of_lt_of_le h1.lt hbi.size
        have l2 : b < wr.heap.size := Nat.lt_of_lt_of_le h2.lt hbi.size
        obtain ⟨-, f1, -, -, -⟩ := (h1.below hbi h1.lt).facts
        go_wp2_with fail
        refine (HC.out _).mono ?_
        rintro e w2 ⟨rfl, hb2⟩
        have hb3 := (hbi.alloc hbi.size _).trans (hb2.mono (by simp; have := hbi.size; omega))
        clear hbi hb2
        cases f2
        · go_wp2_with fail
          go_ret
          exact ⟨rfl, below_onto hb hb3⟩
        · go_wp2_with fail
          go_roundw
          case rel => exact ⟨.inr (.inr ⟨by go_num, trivial, trivial⟩), hb3⟩
          case measure => simp [intOf]
      · go_wp2_with fail
        go_ret
        exact ⟨rfl, below_onto hb hbi⟩
end Go.Proofs.Ytaeenkjbmlgcmaa
