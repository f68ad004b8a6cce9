/- What the laws' own small functions do: two rows, grids or lawns that are the same are told to be so; a copy has the same numbers. -/
import Derived.Test.YtgmahakpmjfhhaaRRTy
namespace Go.Proofs.YtgmahakpmjfhhaaRR
open Go.RowKit
attribute [local go_sem ↓] loadRow loadGrid loadLawn loadMirror storeRow storeGrid storeLawn allocRow allocGrid allocLawn buildZero buildSides




set_option maxRecDepth 100000 in
set_option maxHeartbeats 400000 in
theorem toRow_any (f : Nat → Int) (w : World) :
    Calls Try.prog 181 #[.agg (rowOf 10 f)] w fun e w' => e = .returned (.agg (rowOf 10 f)) ∧ Below w.heap.size w w' := by
  go_enter Try.func181, Try.ntmps181
  go_wp2
  go_loopw [4] (fun i wr => ∃ k : Nat, k ≤ 10 ∧ i = .int .i64 k ∧ Below w.heap.size w wr ∧ Holds wr w.heap.size (rowOf 10 f) ∧ Holds wr (w.heap.size+1) (rowOf 10 fun _ => 0) ∧ Holds wr (w.heap.size+2) (rowOf 10 (upTo f k))) (fun i _ => 10 - (intOf i).toNat)
  case atStart =>
    exact ⟨0, by omega, rfl, (((Below.refl _ _).alloc (Nat.le_refl _) _).alloc (by simp) _).alloc (by simp; omega) _, ((Holds.new _ _ _).alloc _).alloc _, (Holds.new' _ _ _ _ (by simp)).alloc _, Holds.new' _ _ _ _ (by simp)⟩
  case round =>
    obtain ⟨k, hk, rfl, hb, h1, h2, h3⟩ := hrel
    obtain ⟨-, -, c1, -, l1⟩ := h1.facts
    obtain ⟨r2, f2, -, -, l2⟩ := h2.facts
    obtain ⟨r3, f3, c3, z3, l3⟩ := h3.facts
    by_cases hlt : k < 10
    · go_wp2
      go_roundw
      case rel => exact ⟨k + 1, by omega, by go_num, hb.setCell (by simp; omega) _, h1.setCell_other _ _ (by dsimp only; omega), h2.setCell_other _ _ (by dsimp only; omega), (rowOf_upTo 10 f k hlt) ▸ h3.setCell k _⟩
      case measure => simp [intOf]; omega
    · obtain rfl : k = 10 := by omega
      rw [rowOf_upTo_all] at h3 r3 c3
      go_wp2
      exact bodyPost_ret (v := .agg (rowOf 10 f)) (results_cell_holds rfl wideRow _ rfl (h2.setRow _) (by simp)) rfl ⟨rfl, below_setRow' hb (by omega) _⟩

set_option maxRecDepth 100000 in
set_option maxHeartbeats 400000 in
theorem toGrid_any (g : Nat → Nat → Int) (w : World) :
    Calls Try.prog 141 #[.agg (gridOf g)] w fun e w' => e = .returned (.agg (gridOf g)) ∧ Below w.heap.size w w' := by
  go_enter Try.func141, Try.ntmps141
  go_wp2
  go_loopw [4] (fun i wr => ∃ k : Nat, k ≤ 10 ∧ i = .int .i64 k ∧ Below w.heap.size w wr ∧ Holds wr w.heap.size (gridOf g) ∧ Holds wr (w.heap.size+1) (gridOf fun _ _ => 0) ∧ Holds wr (w.heap.size+2) (gridOf (rowsTo g k))) (fun i _ => 10 - (intOf i).toNat)
  case atStart =>
    exact ⟨0, by omega, rfl, (((Below.refl _ _).alloc (Nat.le_refl _) _).alloc (by simp) _).alloc (by simp; omega) _, ((Holds.new _ _ _).alloc _).alloc _, (Holds.new' _ _ _ _ (by simp)).alloc _, Holds.new' _ _ _ _ (by simp)⟩
  case round =>
    obtain ⟨k, hk, rfl, hb, h1, h2, h3⟩ := hrel
    obtain ⟨r1, -, -, -, l1⟩ := h1.facts
    obtain ⟨r2, f2, -, -, l2⟩ := h2.facts
    obtain ⟨r3, f3, -, -, l3⟩ := h3.facts
    by_cases hlt : k < 10
    · have hfit : k * 10 + 10 ≤ 100 := by omega
      clear r2 f2 r3 f3
      go_wp2_with (go_at_call 181; refine (toRow_any _ _).mono ?_; rintro e w1 ⟨rfl, hb1⟩; obtain ⟨r3, f3, -, -, l3'⟩ := (h3.below hb1 l3).facts)
      go_roundw
      case rel =>
        exact ⟨k + 1, by omega, by go_num, below_setRow' (hb.trans (hb1.mono hb.size)) (by omega) _, (h1.below hb1 l1).setRow_other _ (by omega), (h2.below hb1 l2).setRow_other _ (by omega), (gridOf_rowsTo g k hlt) ▸ (h3.below hb1 l3).setRow _⟩
      case measure => simp [intOf]; omega
    · obtain rfl : k = 10 := by omega
      rw [gridOf_rowsTo_all] at h3 r3
      go_wp2
      exact bodyPost_ret (v := .agg (gridOf g)) (results_cell_holds rfl wideGrid _ rfl (h2.setRow _) (by simp)) rfl ⟨rfl, below_setRow' hb (by omega) _⟩

set_option maxRecDepth 100000 in
set_option maxHeartbeats 400000 in
theorem toLawn_any (L : Lawn) (w : World) :
    Calls Try.prog 65 #[.agg L.cells] w fun e w' => e = .returned (.agg L.cells) ∧ Below w.heap.size w w' := by
  go_enter Try.func65, Try.ntmps65
  go_wp2_with fail
  refine (toGrid_any _ _).mono ?_
  rintro e w1 ⟨rfl, hb1⟩
  have h2 := ((Holds.new' (w.alloc (.cells L.cells 75)) (Lawn.cells ⟨0, 0, fun _ _ => 0⟩) 28 (w.heap.size + 1) (by simp)).alloc (.cells (Lawn.cells ⟨L.wide, L.high, fun _ _ => 0⟩) 28)).below hb1 (by simp)
  have h3 := (Holds.new' ((w.alloc (.cells L.cells 75)).alloc (.cells (Lawn.cells ⟨0, 0, fun _ _ => 0⟩) 28)) (Lawn.cells ⟨L.wide, L.high, fun _ _ => 0⟩) 28 (w.heap.size + 1 + 1) (by simp)).below hb1 (by simp)
  have hb : Below w.heap.size w w1 := ((((Below.refl _ _).alloc (Nat.le_refl _) _).alloc (by simp) _).alloc (by simp; omega) _).trans (hb1.mono (by simp; omega))
  obtain ⟨r2, f2, -, -, l2⟩ := h2.facts
  obtain ⟨r3, f3, -, -, l3⟩ := h3.facts
  clear hb1
  go_wp2
  exact bodyPost_ret (v := .agg L.cells) (results_cell_holds rfl wideLawn _ rfl ((h2.setRow_other _ (by omega)).setRow _) (by simp)) rfl ⟨rfl, below_setRow' (below_setRow' hb (by omega) _) (by omega) _⟩
end Go.Proofs.YtgmahakpmjfhhaaRR
