/- CellsOf of the model. -/
import Derived.Test.YtgmahakpmjfhhaaRRCount
namespace Go.Proofs.YtgmahakpmjfhhaaRR
open Go.RowKit
attribute [local go_sem ↓] loadRow loadGrid loadLawn loadMirror storeRow storeGrid storeLawn allocRow allocGrid allocLawn buildZero buildSides

set_option maxRecDepth 100000 in
set_option maxHeartbeats 1000000 in
theorem specCells_any (L : Lawn) (hL : L.Fits) (K : Int) (w : World) :
    Calls Try.prog 32 #[.agg L.cells, .int .i64 K] w fun e w' => (∃ v, e = .returned (.tuple #[v, .int .i64 (told (validB L) (inB K 0 3))]) ∧ w'.ownsRow w.heap.size 35 2 v (cellsL L K).length (flatV (cellsL L K))) ∧ Below w.heap.size w w' := by
  have HL := Lib.hid hL
  clear hL
  obtain ⟨v, hv⟩ : ∃ v, validB L = v := ⟨_, rfl⟩
  obtain ⟨f, hf⟩ : ∃ f, inB K 0 3 = f := ⟨_, rfl⟩
  have HV := Lib.hid hv
  have HF := Lib.hid hf
  have HE := Lib.hid (show cellsL L K = if told v f = 0 then ofKind L L.wide.toNat L.high.toNat K else [] by simp only [cellsL, hv, hf])
  rw [hv, hf]
  clear hv hf
  go_enter Try.func32, Try.ntmps32
  go_wp2_with (go_at_call 106; refine (l01Kind_is _ _ HF.out _).mono ?_; rintro e w1 ⟨rfl, rfl⟩)
  have g0 : Holds (w.alloc (.cells L.cells 28)) w.heap.size L.cells := Holds.new _ _ _
  have hb : Below w.heap.size w (w.alloc (.cells L.cells 28)) := (Below.refl w.heap.size w).alloc (Nat.le_refl _) _
  obtain ⟨W0, hW⟩ : ∃ W0, w.alloc (.cells L.cells 28) = W0 := ⟨_, rfl⟩
  rw [hW] at g0 hb ⊢
  clear hW
  refine (told_any L HL.out w.heap.size _ g0 _).mono ?_
  rw [HV.out]
  rintro e w2 ⟨rfl, hb1⟩
  have g1 := g0.below hb1 g0.lt
  have hb2 := below_onto hb hb1
  clear g0 hb hb1 W0
  cases v <;> cases f
  case true.true =>
    obtain ⟨h1, h2, -⟩ := validB_true HV.out
    simp only [told, if_true]
    go_wp2_with fail
    refine (l01Cells_any L.wide.toNat L.high.toNat (by omega) (by omega) (by omega) (by omega) L HL.out (by omega) (by omega) K w.heap.size _ g1).mono ?_
    rintro e w3 ⟨vA, rfl, hA, hb3⟩
    have hb4 := below_onto hb2 hb3
    have hlow := hb2.size
    have HA := Lib.hid hA
    clear hA h1 h2
    go_wp2_with fail
    go_ret2
    refine ⟨⟨_, rfl, ?_⟩, hb4⟩
    rw [HE.out]
    exact ownsRow_low HA.out hlow
  all_goals
    simp only [told, if_true, Bool.false_eq_true, if_false]
    go_wp2_with fail
    go_ret2
    refine ⟨⟨_, rfl, ?_⟩, hb2.alloc hb2.size _⟩
    rw [HE.out]
    exact World.ownsRow_made w2 #[] 0 hb2.size (by simp [maxLen]) rfl
end Go.Proofs.YtgmahakpmjfhhaaRR
