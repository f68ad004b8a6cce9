/- GiveUp and PlantAt, of the program. -/
import Derived.Test.YthpfejbigdjhlaaBestCh
namespace Go.Proofs.Ythpfejbigdjhlaa
open Go.RowKit
set_option linter.unusedVariables false
set_option linter.unusedSimpArgs false
attribute [local go_sem ↓] loadRow loadGrid loadLawn loadMirror storeRow storeGrid storeLawn allocRow allocGrid allocLawn buildZero buildSides loadSd storeSd allocSd buildSd

/-- The best cell of a kind that becomes another one, how long the edge is then, and the code. -/
def changeO (L : Lawn) (a b : Int) (up : Bool) : Option (Fin L.wide.toNat × Fin L.high.toNat) := bestOf up (edgeC L b) (cellsL L a) (cellsL L a).length
def changeA (L : Lawn) (a b : Int) (up : Bool) : Int × Int × Int × Int := if validB L then (match changeO L a b up with
  | none => (0, 0, 0, 6)
  | some c => (c.1.val, c.2.val, edgeC L b c, 0)) else (0, 0, 0, 1)
def changeV (p : Int × Int × Int × Int) : Value := .tuple #[.agg #[.int .i8 p.1, .int .i8 p.2.1], .int .i64 p.2.2.1, .int .i64 p.2.2.2]

set_option maxRecDepth 100000 in
set_option maxHeartbeats 4000000 in
theorem bestChange_any (L : Lawn) (hL : L.Fits) (a b : Int) (ha : inB a 0 3 = true) (hb : inB b 0 3 = true) (up : Bool) (w : World) :
    Calls Try.prog 75 #[.agg L.cells, .int .i64 a, .int .i64 b, .func (.func (betterF up)) #[] #[]] w fun e w' => e = .returned (changeV (changeA L a b up)) ∧ Below w.heap.size w w' := by
  have HC := Lib.hid (implCells_any L hL a)
  rw [ha] at HC
  obtain ⟨W0, hW0⟩ : ∃ W0, ((w.alloc (.cells L.cells 31)).alloc (.cells #[.int .i64 b] 2)).alloc (.cells #[.int .i8 0, .int .i8 0] 40) = W0 := ⟨_, rfl⟩
  have g0 : Holds W0 w.heap.size L.cells := by rw [← hW0]; exact ((Holds.new _ _ _).alloc _).alloc _
  have g1 : Holds W0 (w.heap.size + 1) #[.int .i64 b] := by rw [← hW0]; exact (Holds.new' _ _ _ _ (by simp)).alloc _
  have g2 : Holds W0 (w.heap.size + 1 + 1) #[.int .i8 0, .int .i8 0] := by rw [← hW0]; exact Holds.new' _ _ _ _ (by simp)
  have hb0 : Below w.heap.size w W0 := by rw [← hW0]; exact (((Below.refl w.heap.size w).alloc (Nat.le_refl _) _).alloc (by simp) _).alloc (by simp; omega) _
  have r0 := g0.row
  cases hv : validB L
  case false =>
    have HA := Lib.hid (show changeA L a b up = (0, 0, 0, 1) by unfold changeA; rw [hv]; rfl)
    rw [hv, show told false true = 1 from rfl] at HC
    clear hv hL ha hb
    go_enter Try.func75, Try.ntmps75
    go_wp2_with fail
    clear hW0
    refine (HC.out _).mono ?_
    rintro e w1 ⟨⟨v, rfl, hv1⟩, hb1⟩
    have hb2 := below_onto hb0 hb1
    have k2 := g2.below hb1 g2.lt
    obtain ⟨-, -, d2, f2, l2⟩ := k2.facts
    have q2 := (k2.setCell 0 (.int .i8 0)).setCell 1 (.int .i8 0)
    have hb3 := (hb2.setCell (p := ⟨w.heap.size + 1 + 1, 0, none⟩) (by dsimp only; omega) (.int .i8 0)).setCell (p := ⟨w.heap.size + 1 + 1, 1, none⟩) (by dsimp only; omega) (.int .i8 0)
    clear hv1 hb0 hb1 g0 g1 g2 r0
    go_wp2_with fail
    exact bodyPost_ret (results_cell_tmp2_holds rfl (by kernel_rfl) _ rfl q2 rfl) rfl ⟨by rw [HA.out]; rfl, hb3⟩
  case true =>
    obtain ⟨h1, h2, -⟩ := validB_true hv
    have HE := Lib.hid (fun (bb g B : Nat) (v : Value) (w : World) ho hb' hg => eachChange_any (W := L.wide.toNat) (H := L.high.toNat) L hL hv (by omega) (by omega) b hb bb g B (cellsL L a).length v (cellsL_le L a) (cellsL L a) rfl w ho hb' hg)
    have HB := Lib.hid (fun (B : Nat) (v : Value) (w : World) ho => best_any L b up B (cellsL L a).length v (cellsL_le L a) (cellsL L a) rfl w ho)
    have HA := Lib.hid (show changeA L a b up = (match changeO L a b up with
      | none => (0, 0, 0, 6)
      | some c => ((c.1.val : Int), (c.2.val : Int), edgeC L b c, 0)) by unfold changeA; rw [hv]; rfl)
    have HOO : Hid (changeO L a b up = bestOf up (edgeC L b) (cellsL L a) (cellsL L a).length) := Lib.hid rfl
    have HNZ := Lib.hid (show ∀ h : 0 < (cellsL L a).length, ∃ c, changeO L a b up = some c from fun h => bestOf_some up (edgeC L b) h (Nat.le_refl _))
    have HZ := Lib.hid (show (cellsL L a).length = 0 → changeO L a b up = none from fun h => by unfold changeO; rw [h]; rfl)
    rw [← HOO.out] at HB
    rw [hv, show told true true = 0 from rfl] at HC
    have hcl := cellsL_le L a
    obtain ⟨n, hn⟩ : ∃ n, (cellsL L a).length = n := ⟨_, rfl⟩
    rw [hn] at HC HE HB HNZ HZ hcl
    clear hv hL ha hb h1 h2 HOO hn
    go_enter Try.func75, Try.ntmps75
    go_wp2_with fail
    clear hW0
    refine (HC.out _).mono ?_
    rintro e w1 ⟨⟨v, rfl, hv1⟩, hb1⟩
    have hb2 := below_onto hb0 hb1
    have k0 := g0.below hb1 g0.lt
    have k1 := g1.below hb1 g1.lt
    have k2 := g2.below hb1 g2.lt
    have HV := Lib.hid hv1
    obtain ⟨av, cv, rfl⟩ := own_slice hv1
    clear hv1 hb0 hb1 g0 g1 g2 r0
    go_wp2_with fail
    refine (HE.out _ _ _ _ _ HV.out k0 k1).mono ?_
    rintro e w2 ⟨⟨u, rfl, hu⟩, hb3⟩
    have hb4 := below_onto hb2 hb3
    have z2 := k2.below hb3 k2.lt
    have HU := Lib.hid hu
    obtain ⟨au, cu, rfl⟩ := own_slice hu
    clear hu hb2 hb3 k0 k1 k2 HV
    go_wp2_with fail
    refine (HB.out _ _ _ HU.out).mono ?_
    rintro e w3 ⟨rfl, hb3⟩
    have hb5 := below_onto hb4 hb3
    have z3 := z2.below hb3 z2.lt
    clear hb3 hb4 z2 HU
    rcases Nat.eq_zero_or_pos n with h0 | h0
    · have HN := Lib.hid (HZ.out h0)
      have hdn : decide (0 < n) = false := by simp [h0]
      rw [hdn, HN.out]
      simp only [chO]
      unfold chV
      have z4 := z3.alloc (.cells #[.int .i8 0, .int .i8 0, .int .i64 0] 99)
      have hb6 := hb5.alloc hb5.size (.cells #[.int .i8 0, .int .i8 0, .int .i64 0] 99)
      obtain ⟨-, -, d2, f2, l2⟩ := z4.facts
      have q2 := (z4.setCell 0 (.int .i8 0)).setCell 1 (.int .i8 0)
      have hb7 := (hb6.setCell (p := ⟨w.heap.size + 1 + 1, 0, none⟩) (by dsimp only; omega) (.int .i8 0)).setCell (p := ⟨w.heap.size + 1 + 1, 1, none⟩) (by dsimp only; omega) (.int .i8 0)
      have HQ := Lib.hid q2
      have HQ7 := Lib.hid hb7
      clear h0 hdn q2 hb7 hb5 z3
      go_wp2_with fail
      exact bodyPost_ret (results_cell_tmp2_holds rfl (by kernel_rfl) _ rfl HQ.out rfl) rfl ⟨by rw [HA.out, HN.out]; rfl, HQ7.out⟩
    · obtain ⟨c, hc⟩ := HNZ.out h0
      have hdn : decide (0 < n) = true := by simpa using h0
      have HN := Lib.hid hc
      rw [hdn, hc]
      simp only [chO]
      unfold chV
      have y4 := Holds.new w3 #[.int .i8 c.1.val, .int .i8 c.2.val, .int .i64 (edgeC L b c)] 99
      obtain ⟨-, -, d2, f2, l2⟩ := z3.facts
      have d20 := d2 0
      have d21 := d2 1
      have f20 := f2 0
      have f21 := f2 1
      obtain ⟨-, -, d4, f4, l4⟩ := y4.facts
      have q2 := ((z3.setCell 0 (.int .i8 c.1.val)).setCell 1 (.int .i8 c.2.val)).alloc (.cells #[.int .i8 c.1.val, .int .i8 c.2.val, .int .i64 (edgeC L b c)] 99)
      have hb7 := ((hb5.setCell (p := ⟨w.heap.size + 1 + 1, 0, none⟩) (by dsimp only; omega) (.int .i8 c.1.val)).setCell (p := ⟨w.heap.size + 1 + 1, 1, none⟩) (by dsimp only; omega) (.int .i8 c.2.val)).alloc (by simp; have := hb5.size; omega) (.cells #[.int .i8 c.1.val, .int .i8 c.2.val, .int .i64 (edgeC L b c)] 99)
      have HQ := Lib.hid q2
      have HQ7 := Lib.hid hb7
      clear h0 hdn q2 hb7 hb5 z3 hc
      go_wp2_with fail
      go_region
      all_goals
        go_wp2_with fail
        exact bodyPost_ret (results_cell_tmp2_holds rfl (by kernel_rfl) _ rfl HQ.out.drew rfl) rfl ⟨by rw [HA.out, HN.out]; rfl, HQ7.out.drew⟩

set_option maxRecDepth 100000 in
theorem implGiveUp_any (L : Lawn) (hL : L.Fits) (w : World) :
    Calls Try.prog 47 #[.agg L.cells] w fun e w' => e = .returned (changeV (changeA L 1 0 false)) ∧ Below w.heap.size w w' := by
  have HC := Lib.hid (show ∀ w, Calls Try.prog 75 #[.agg L.cells, .int .i64 1, .int .i64 0, .func (.func 76) #[] #[]] w fun e w' => e = .returned (changeV (changeA L 1 0 false)) ∧ Below w.heap.size w w' from fun w => bestChange_any L hL 1 0 (by decide) (by decide) false w)
  obtain ⟨⟨x, y, z, m⟩, hp⟩ : ∃ p, changeA L 1 0 false = p := ⟨_, rfl⟩
  rw [hp] at HC ⊢
  have g1 := Holds.new' (w.alloc (.cells L.cells 31)) #[.int .i8 0, .int .i8 0] 40 (w.heap.size + 1) (by simp)
  have hb0 := ((Below.refl w.heap.size w).alloc (Nat.le_refl _) (.cells L.cells 31)).alloc (by simp) (.cells #[.int .i8 0, .int .i8 0] 40)
  clear hp hL
  unfold changeV at HC ⊢
  go_enter Try.func47, Try.ntmps47
  go_wp2_with fail
  refine (HC.out _).mono ?_
  rintro e w1 ⟨rfl, hb1⟩
  have hb2 := below_onto hb0 hb1
  have k1 := g1.below hb1 g1.lt
  obtain ⟨-, -, d2, f2, l2⟩ := k1.facts
  have q2 := (k1.setCell 0 (.int .i8 x)).setCell 1 (.int .i8 y)
  have hb3 := (hb2.setCell (p := ⟨w.heap.size + 1, 0, none⟩) (by dsimp only; omega) (.int .i8 x)).setCell (p := ⟨w.heap.size + 1, 1, none⟩) (by dsimp only; omega) (.int .i8 y)
  clear hb0 hb1 g1
  go_wp2_with fail
  exact bodyPost_ret (results_cell_tmp2_holds rfl (by kernel_rfl) _ rfl q2 rfl) rfl ⟨rfl, hb3⟩

set_option maxRecDepth 100000 in
theorem implPlantAt_any (L : Lawn) (hL : L.Fits) (w : World) :
    Calls Try.prog 50 #[.agg L.cells] w fun e w' => e = .returned (changeV (changeA L 0 1 true)) ∧ Below w.heap.size w w' := by
  have HC := Lib.hid (show ∀ w, Calls Try.prog 75 #[.agg L.cells, .int .i64 0, .int .i64 1, .func (.func 77) #[] #[]] w fun e w' => e = .returned (changeV (changeA L 0 1 true)) ∧ Below w.heap.size w w' from fun w => bestChange_any L hL 0 1 (by decide) (by decide) true w)
  obtain ⟨⟨x, y, z, m⟩, hp⟩ : ∃ p, changeA L 0 1 true = p := ⟨_, rfl⟩
  rw [hp] at HC ⊢
  have g1 := Holds.new' (w.alloc (.cells L.cells 31)) #[.int .i8 0, .int .i8 0] 40 (w.heap.size + 1) (by simp)
  have hb0 := ((Below.refl w.heap.size w).alloc (Nat.le_refl _) (.cells L.cells 31)).alloc (by simp) (.cells #[.int .i8 0, .int .i8 0] 40)
  clear hp hL
  unfold changeV at HC ⊢
  go_enter Try.func50, Try.ntmps50
  go_wp2_with fail
  refine (HC.out _).mono ?_
  rintro e w1 ⟨rfl, hb1⟩
  have hb2 := below_onto hb0 hb1
  have k1 := g1.below hb1 g1.lt
  obtain ⟨-, -, d2, f2, l2⟩ := k1.facts
  have q2 := (k1.setCell 0 (.int .i8 x)).setCell 1 (.int .i8 y)
  have hb3 := (hb2.setCell (p := ⟨w.heap.size + 1, 0, none⟩) (by dsimp only; omega) (.int .i8 x)).setCell (p := ⟨w.heap.size + 1, 1, none⟩) (by dsimp only; omega) (.int .i8 y)
  clear hb0 hb1 g1
  go_wp2_with fail
  exact bodyPost_ret (results_cell_tmp2_holds rfl (by kernel_rfl) _ rfl q2 rfl) rfl ⟨rfl, hb3⟩
end Go.Proofs.Ythpfejbigdjhlaa
