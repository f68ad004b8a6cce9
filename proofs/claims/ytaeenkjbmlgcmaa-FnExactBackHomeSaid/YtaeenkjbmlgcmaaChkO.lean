/- checkOpen of the program, over one cell. -/
import Derived.Test.YtaeenkjbmlgcmaaJStepsFrom
namespace Go.Proofs.Ytaeenkjbmlgcmaa
open Go.RowKit
set_option linter.unusedVariables false
attribute [local go_sem ↓] loadRow loadGrid loadLawn loadMirror storeRow storeGrid storeLawn allocRow allocGrid allocLawn buildZero buildSides

set_option maxRecDepth 100000 in
set_option maxHeartbeats 1000000 in
theorem checkOpen_one (L : Lawn) (hL : L.Fits) (x y : Int) (g : Nat) (w : World) (h : Holds w g #[.int .i8 x, .int .i8 y]) :
    Calls Try.prog 63 #[.agg L.cells, .slice (some ⟨g, 0, none⟩) 1 1] w fun e w' => e = .returned (.int .i64 (stepsC L x y)) ∧ Below w.heap.size w w' := by
  obtain ⟨v, hv⟩ : ∃ v, validB L = v := ⟨_, rfl⟩
  obtain ⟨f, hf⟩ : ∃ f, isB L x y = f := ⟨_, rfl⟩
  obtain ⟨o, ho⟩ : ∃ o, openB L x y = o := ⟨_, rfl⟩
  obtain ⟨c, hc⟩ : ∃ c, stepsC L x y = c := ⟨_, rfl⟩
  have HC := Lib.hid (show c = if v then (if f then (if o then 0 else 4) else 2) else 1 by rw [← hc]; unfold stepsC; rw [hv, hf, ho])
  have HCK := Lib.hid (show ∀ (g : Nat) (w : World), Holds w g #[.int .i8 x, .int .i8 y] → Calls Try.prog 106 #[.agg L.cells, .slice (some ⟨g, 0, none⟩) 1 1] w fun e w' => e = .returned (.int .i64 (told v f)) ∧ Below w.heap.size w w' from fun g w h => by
    have := check_any L hL x y g w h
    rwa [hv, hf] at this)
  have HOP := Lib.hid (show v = true → ∀ w, Calls Try.prog 78 #[.agg L.cells, .agg #[.int .i8 x, .int .i8 y]] w fun e w' => e = .returned (.bool o) ∧ Below w.heap.size w w' from fun hv' w => ho ▸ isOpen_any L (hv.trans hv') hL x y w)
  have HT := Lib.hid (show told v f = if v then (if f then 0 else 2) else 1 from rfl)
  rw [hc]
  obtain ⟨W0, hW0⟩ : ∃ W0, w.alloc (.cells L.cells 29) = W0 := ⟨_, rfl⟩
  have g0 : Holds W0 w.heap.size L.cells := by rw [← hW0]; exact Holds.new _ _ _
  have c0 : Holds W0 g #[.int .i8 x, .int .i8 y] := by rw [← hW0]; exact h.alloc _
  have hb0 : Below w.heap.size w W0 := by rw [← hW0]; exact (Below.refl w.heap.size w).alloc (Nat.le_refl _) _
  have hgl := h.lt
  clear hv hf ho hc hL h
  obtain ⟨r0, -, -, -, -⟩ := g0.facts
  go_enter Try.func63, Try.ntmps63
  go_wp2_with fail
  clear hW0 r0
  refine (HCK.out _ _ c0).mono ?_
  rintro e w1 ⟨rfl, hb1⟩
  have k0 := g0.below hb1 g0.lt
  have k1 := c0.below hb1 c0.lt
  have hb2 := below_onto hb0 hb1
  clear g0 c0 hb0 hb1 HCK
  rw [HT.out]
  obtain ⟨r0, -, -, -, -⟩ := k0.facts
  have q0 : w1.cell? ⟨g, 0, none⟩ = some (.int .i8 x) := k1.cell 0
  have q1 : w1.cell? ⟨g, 1, none⟩ = some (.int .i8 y) := k1.cell 1
  have HC2 := HC.out
  cases v <;> cases f
  case true.true =>
    simp only [if_true] at HC2 ⊢
    have HO2 := Lib.hid (HOP.out rfl)
    go_wp2_with fail
    clear r0 q0 q1
    go_loopw [16] (fun i wr => ∃ k : Nat, k ≤ 1 ∧ i = .int .i64 k ∧ (k = 1 → o = true) ∧ Holds wr w.heap.size L.cells ∧ Holds wr g #[.int .i8 x, .int .i8 y] ∧ Below w.heap.size w wr) (fun i _ => 1 - (intOf i).toNat)
    case atStart => exact ⟨0, by omega, rfl, fun h => absurd h (by decide), k0, k1, hb2⟩
    case round =>
      obtain ⟨k, hk, rfl, ho, j0, j1, hb⟩ := hrel
      clear k0 k1 hb2
      obtain ⟨r0, -, -, -, -⟩ := j0.facts
      have q0 : wr.cell? ⟨g, 0, none⟩ = some (.int .i8 x) := j1.cell 0
      have q1 : wr.cell? ⟨g, 1, none⟩ = some (.int .i8 y) := j1.cell 1
      rcases (by omega : k = 0 ∨ k = 1) with rfl | rfl
      · clear ho
        have rr : rowAt (wr.alloc (.cells #[.int .i8 x, .int .i8 y] 37)) w.heap.size = L.cells := (j0.alloc _).facts.1
        go_wp2_with fail
        refine (HO2.out _).mono ?_
        rintro e w5 ⟨rfl, hb5⟩
        have v0 := (j0.alloc (.cells #[.int .i8 x, .int .i8 y] 37)).below hb5 (by have := j0.lt; simp; omega)
        have v1 := (j1.alloc (.cells #[.int .i8 x, .int .i8 y] 37)).below hb5 (by have := j1.lt; simp; omega)
        have hb6 := (hb.alloc hb.size (.cells #[.int .i8 x, .int .i8 y] 37)).trans (hb5.mono (by have := hb.size; simp; omega))
        clear j0 j1 hb hb5 r0 q0 q1 rr
        cases o
        · simp only [Bool.false_eq_true, if_false] at HC2
          go_wp2_with fail
          go_ret
          exact ⟨by rw [HC2]; rfl, hb6⟩
        · go_wp2_with fail
          go_roundw
          case rel => exact ⟨1, by omega, by go_num, fun _ => trivial, v0, v1, hb6⟩
          case measure => simp [intOf]
      · have ho1 := ho rfl
        rw [ho1] at HC2
        go_wp2_with fail
        go_ret
        exact ⟨rfl, hb⟩
  all_goals
    simp only [if_true, Bool.false_eq_true, if_false] at HC2 ⊢
    go_wp2_with fail
    go_ret
    first | exact ⟨rfl, hb2⟩ | exact ⟨by rw [HC2]; rfl, hb2⟩
end Go.Proofs.Ytaeenkjbmlgcmaa
