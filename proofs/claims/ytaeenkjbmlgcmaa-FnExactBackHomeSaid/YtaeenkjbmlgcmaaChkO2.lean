/- checkOpen of the program, over two cells. -/
import Derived.Test.YtaeenkjbmlgcmaaJStepsFrom
import Derived.Test.YtaeenkjbmlgcmaaCheck2
namespace Go.Proofs.Ytaeenkjbmlgcmaa
open Go.RowKit
set_option linter.unusedVariables false
attribute [local go_sem ↓] loadRow loadGrid loadLawn loadMirror storeRow storeGrid storeLawn allocRow allocGrid allocLawn buildZero buildSides

/-- The code of a lawn and two cells that have to be open. -/
def openC (L : Lawn) (x y x2 y2 : Int) : Int := if validB L then (if isB L x y && isB L x2 y2 then (if openB L x y && openB L x2 y2 then 0 else 4) else 2) else 1
theorem openC_zero {L : Lawn} {x y x2 y2 : Int} (h : openC L x y x2 y2 = 0) : validB L = true ∧ (isB L x y = true ∧ isB L x2 y2 = true) ∧ openB L x y = true ∧ openB L x2 y2 = true := by
  unfold openC at h
  split at h
  · split at h
    · split at h
      · rename_i h1 h2 h3
        simp only [Bool.and_eq_true] at h2 h3
        exact ⟨h1, h2, h3⟩
      · omega
    · omega
  · omega

set_option maxRecDepth 100000 in
set_option maxHeartbeats 1000000 in
theorem checkOpen_two (L : Lawn) (hL : L.Fits) (x y x2 y2 : Int) (g : Nat) (w : World) (h : Holds w g #[.int .i8 x, .int .i8 y, .int .i8 x2, .int .i8 y2]) :
    Calls Try.prog 63 #[.agg L.cells, .slice (some ⟨g, 0, none⟩) 2 2] w fun e w' => e = .returned (.int .i64 (openC L x y x2 y2)) ∧ Below w.heap.size w w' := by
  obtain ⟨v, hv⟩ : ∃ v, validB L = v := ⟨_, rfl⟩
  obtain ⟨f, hf⟩ : ∃ f, (isB L x y && isB L x2 y2) = f := ⟨_, rfl⟩
  obtain ⟨o, ho⟩ : ∃ o, openB L x y = o := ⟨_, rfl⟩
  obtain ⟨o2, ho2⟩ : ∃ o2, openB L x2 y2 = o2 := ⟨_, rfl⟩
  obtain ⟨c, hc⟩ : ∃ c, openC L x y x2 y2 = c := ⟨_, rfl⟩
  have HC := Lib.hid (show c = if v then (if f then (if o && o2 then 0 else 4) else 2) else 1 by rw [← hc]; unfold openC; rw [hv, hf, ho, ho2])
  have HCK := Lib.hid (show ∀ (g : Nat) (w : World), Holds w g #[.int .i8 x, .int .i8 y, .int .i8 x2, .int .i8 y2] → Calls Try.prog 106 #[.agg L.cells, .slice (some ⟨g, 0, none⟩) 2 2] w fun e w' => e = .returned (.int .i64 (told v f)) ∧ Below w.heap.size w w' from fun g w h => by
    have := check2_any L hL x y x2 y2 g w h
    rwa [hv, hf] at this)
  have HOP := Lib.hid (show v = true → ∀ w, Calls Try.prog 78 #[.agg L.cells, .agg #[.int .i8 x, .int .i8 y]] w fun e w' => e = .returned (.bool o) ∧ Below w.heap.size w w' from fun hv' w => ho ▸ isOpen_any L (hv.trans hv') hL x y w)
  have HOP2 := Lib.hid (show v = true → ∀ w, Calls Try.prog 78 #[.agg L.cells, .agg #[.int .i8 x2, .int .i8 y2]] w fun e w' => e = .returned (.bool o2) ∧ Below w.heap.size w w' from fun hv' w => ho2 ▸ isOpen_any L (hv.trans hv') hL x2 y2 w)
  have HT := Lib.hid (show told v f = if v then (if f then 0 else 2) else 1 from rfl)
  rw [hc]
  obtain ⟨W0, hW0⟩ : ∃ W0, w.alloc (.cells L.cells 29) = W0 := ⟨_, rfl⟩
  have g0 : Holds W0 w.heap.size L.cells := by rw [← hW0]; exact Holds.new _ _ _
  have c0 : Holds W0 g #[.int .i8 x, .int .i8 y, .int .i8 x2, .int .i8 y2] := by rw [← hW0]; exact h.alloc _
  have hb0 : Below w.heap.size w W0 := by rw [← hW0]; exact (Below.refl w.heap.size w).alloc (Nat.le_refl _) _
  have hgl := h.lt
  clear hv hf ho ho2 hc hL h
  obtain ⟨r0, -, -, -, -⟩ := g0.facts
  go_enter Try.func63, Try.ntmps63
  go_wp2_with fail
  clear hW0 r0
  refine (HCK.out _ _ c0).mono ?_
  rintro e w1 ⟨rfl, hb1⟩
  have k0 := g0.below hb1 g0.lt
  have k1 := c0.below hb1 c0.lt
  have hb2 := below_onto hb0 hb1
  clear g0 c0 hb0 hb1 HCK
  rw [HT.out]
  obtain ⟨r0, -, -, -, -⟩ := k0.facts
  have HC2 := HC.out
  cases v <;> cases f
  case true.true =>
    simp only [if_true] at HC2 ⊢
    have HO2 := Lib.hid (HOP.out rfl)
    have HO3 := Lib.hid (HOP2.out rfl)
    have HCC := Lib.hid HC2
    clear HC2 HC HOP HOP2
    go_wp2_with fail
    clear r0
    go_loopw [16] (fun i wr => ∃ k : Nat, k ≤ 2 ∧ i = .int .i64 k ∧ (1 ≤ k → o = true) ∧ (k = 2 → o2 = true) ∧ Holds wr w.heap.size L.cells ∧ Holds wr g #[.int .i8 x, .int .i8 y, .int .i8 x2, .int .i8 y2] ∧ Below w.heap.size w wr) (fun i _ => 2 - (intOf i).toNat)
    case atStart => exact ⟨0, by omega, rfl, fun h => absurd h (by decide), fun h => absurd h (by decide), k0, k1, hb2⟩
    case round =>
      obtain ⟨k, hk, rfl, ho, ho2, j0, j1, hb⟩ := hrel
      clear k0 k1 hb2
      obtain ⟨r0, -, -, -, -⟩ := j0.facts
      have q0 : wr.cell? ⟨g, 0, none⟩ = some (.int .i8 x) := j1.cell 0
      have q1 : wr.cell? ⟨g, 1, none⟩ = some (.int .i8 y) := j1.cell 1
      have q2 : wr.cell? ⟨g, 2, none⟩ = some (.int .i8 x2) := j1.cell 2
      have q3 : wr.cell? ⟨g, 3, none⟩ = some (.int .i8 y2) := j1.cell 3
      rcases (by omega : k = 0 ∨ k = 1 ∨ k = 2) with rfl | rfl | rfl
      · clear ho ho2
        have rr : rowAt (wr.alloc (.cells #[.int .i8 x, .int .i8 y] 37)) w.heap.size = L.cells := (j0.alloc _).facts.1
        go_wp2_with fail
        refine (HO2.out _).mono ?_
        rintro e w5 ⟨rfl, hb5⟩
        have v0 := (j0.alloc (.cells #[.int .i8 x, .int .i8 y] 37)).below hb5 (by have := j0.lt; simp; omega)
        have v1 := (j1.alloc (.cells #[.int .i8 x, .int .i8 y] 37)).below hb5 (by have := j1.lt; simp; omega)
        have hb6 := (hb.alloc hb.size (.cells #[.int .i8 x, .int .i8 y] 37)).trans (hb5.mono (by have := hb.size; simp; omega))
        clear j0 j1 hb hb5 r0 q0 q1 q2 q3 rr
        cases o
        · have HC2 := HCC.out
          simp only [Bool.false_and, Bool.false_eq_true, if_false] at HC2
          go_wp2_with fail
          go_ret
          exact ⟨by rw [HC2]; rfl, hb6⟩
        · go_wp2_with fail
          go_roundw
          case rel => exact ⟨1, by omega, by go_num, fun _ => trivial, fun h => absurd h (by decide), v0, v1, hb6⟩
          case measure => simp [intOf]
      · clear ho2
        have ho1 := ho (by omega)
        have rr : rowAt (wr.alloc (.cells #[.int .i8 x2, .int .i8 y2] 37)) w.heap.size = L.cells := (j0.alloc _).facts.1
        clear ho
        go_wp2_with fail
        refine (HO3.out _).mono ?_
        rintro e w5 ⟨rfl, hb5⟩
        have v0 := (j0.alloc (.cells #[.int .i8 x2, .int .i8 y2] 37)).below hb5 (by have := j0.lt; simp; omega)
        have v1 := (j1.alloc (.cells #[.int .i8 x2, .int .i8 y2] 37)).below hb5 (by have := j1.lt; simp; omega)
        have hb6 := (hb.alloc hb.size (.cells #[.int .i8 x2, .int .i8 y2] 37)).trans (hb5.mono (by have := hb.size; simp; omega))
        clear j0 j1 hb hb5 r0 q0 q1 q2 q3 rr
        cases o2
        · have HC2 := HCC.out
          simp only [Bool.and_false, Bool.false_eq_true, if_false] at HC2
          go_wp2_with fail
          go_ret
          exact ⟨by rw [HC2]; rfl, hb6⟩
        · go_wp2_with fail
          go_roundw
          case rel => exact ⟨2, by omega, by go_num, fun _ => ho1, fun _ => trivial, v0, v1, hb6⟩
          case measure => simp [intOf]
      · have ho1 := ho (by omega)
        have ho3 := ho2 rfl
        have HC2 := HCC.out
        rw [ho1, ho3] at HC2
        simp only [Bool.and_self, if_true] at HC2
        clear ho ho2 ho1 ho3
        go_wp2_with fail
        go_ret
        exact ⟨by rw [HC2]; rfl, hb⟩
  all_goals
    simp only [if_true, Bool.false_eq_true, if_false] at HC2 ⊢
    go_wp2_with fail
    go_ret
    first | exact ⟨rfl, hb2⟩ | exact ⟨by rw [HC2]; rfl, hb2⟩
end Go.Proofs.Ytaeenkjbmlgcmaa
