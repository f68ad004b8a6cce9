/- Sides that come in at a law. -/
import Derived.Test.YthfhpcigjnjkdaaDoorSd5
import Derived.Test.YthfhpcigjnjkdaaDoorDays
import Derived.Test.YthfhpcigjnjkdaaDoorOpenL
namespace Go.Proofs.YthfhpcigjnjkdaaDoor
open Go.RowKit Go.ChangeShapes Go.WideShapes Go.ChangeAt
set_option linter.unusedVariables false

section
variable (ρ : Operand → Value) (dst : Option Tmp) (x y : Operand) (t : TypeId) (pos : String) (aft : Array Edge) (g : Option (Nat × Bool)) (w : World)
theorem loadS5 : (execOp ρ ⟨dst, .load 51 x, t, pos, aft, g⟩).run Tryd.prog w = opLoad Tryd.prog 51 5 (ρ x) w := rfl
theorem storeS5 : (execOp ρ ⟨dst, .store 51 x y, t, pos, aft, g⟩).run Tryd.prog w = opStore Tryd.prog 51 5 (ρ x) (ρ y) w := rfl
theorem allocS5 : (execOp ρ ⟨dst, .alloc 51, t, pos, aft, g⟩).run Tryd.prog w = .ok (.value (.pointer (some ⟨w.heap.size, 0, none⟩))) (w.alloc (.cells (sdV fun _ => 0) 51)) := by kernel_rfl
end
@[go_sem] theorem wideS5 : wideB Tryd.prog 51 5 = true := by kernel_rfl
@[go_sem] theorem store_S5 (g : Nat) (f f' : Sd) (w : World) : opStoreRow Tryd.prog 51 5 g 0 (sdV f) true (sdV f') w = .ok .skip (w.setRow g (sdV f')) := by
  rw [opStoreRow_at _ _ _ _ _ _ _ _ wideS5 rfl (sdV_ones f') (Nat.le_refl 5), splice_sdV]
@[go_sem] theorem load_S5 (g : Nat) (f : Sd) (w : World) : opLoadRow Tryd.prog 51 5 g 0 (sdV f) w = .ok (.value (.agg (sdV f))) w := by
  rw [opLoadRow_at _ _ _ _ _ _ _ wideS5 (Nat.le_refl 5)]
  rw [Nat.zero_add, sdV_all]
/-- The first k numbers of f; 0 behind them. -/
def cutSd (f : Sd) (k : Nat) : Sd := fun j => if j < k then f j else 0
theorem cutSd_zero (f : Sd) : cutSd f 0 = fun _ => 0 := by funext j; simp [cutSd]
theorem cutSd_succ (f : Sd) (k : Nat) : sdSet (cutSd f k) k (f k) = cutSd f (k + 1) := by
  funext j
  unfold sdSet cutSd
  by_cases h : j = k
  · subst h; simp
  · rw [if_neg h]
    by_cases h2 : j < k
    · rw [if_pos h2, if_pos (by omega)]
    · rw [if_neg h2, if_neg (by omega)]
theorem cutSd_all (f : Sd) : sdV (cutSd f 5) = sdV f := sdV_ext fun k hk => by simp [cutSd, hk]
set_option maxRecDepth 100000 in
theorem open_sides5 {H : Type} {enc : TypeId × Value → H} {W : World} {sp : Nat → Bool} {held : Bool} {v : Value} {d : DataW H} {p : List MemPlace} {r : Reach} {b : Nat}
    (hv : Value.okWide Tryd.prog W r b 51 v) (h : DataW.Trod enc Tryd.prog W 0 sp held 51 v d p) : ∃ f : Sd, v = .agg (sdV f) := by
  have hu : Tryd.prog.underlying 51 = some (.array 5 2) := Tryd.underlying51
  have hc : Tryd.prog.cellsOf 51 = 5 := by kernel_rfl
  simp only [Value.okWide, hu] at hv
  obtain ⟨cs, rfl, hsz, -⟩ := hv
  rw [hc] at hsz
  obtain ⟨fuel, hf⟩ := h
  have hk := trod_ints hu Tryd.underlying2 (by kernel_rfl) hf
  simp only [Value.cells, Array.getElem?_toList] at hk
  refine ⟨fun j => numAt cs j, ?_⟩
  · refine congrArg Value.agg ?_
    apply Array.ext_getElem?
    intro j
    by_cases hj : j < 5
    · rw [sdV_get _ j hj]
      obtain ⟨z, hz, -⟩ := hk j hj
      rw [hz]
      simp [numAt, hz]
    · rw [Array.getElem?_eq_none (by omega), Array.getElem?_eq_none (by simp; omega)]

attribute [local go_sem ↓] loadSd storeSd allocSd loadS5 storeS5 allocS5
set_option maxRecDepth 100000 in
set_option maxHeartbeats 1000000 in
theorem toSides_any (f : Sd) (w : World) :
    Calls Tryd.prog 36 #[.agg (sdV f)] w fun e w' => e = .returned (.agg (sdV f)) ∧ Below w.heap.size w w' := by
  go_enter Tryd.func36, Tryd.ntmps36
  go_wp2_with fail
  obtain ⟨W0, hW0⟩ : ∃ W0, ((w.alloc (.cells (sdV f) 51)).alloc (.cells (sdV fun _ => 0) 53)).alloc (.cells (sdV fun _ => 0) 53) = W0 := ⟨_, rfl⟩
  have g0 : Holds W0 w.heap.size (sdV f) := by rw [← hW0]; exact ((Holds.new _ _ _).alloc _).alloc _
  have g1 : Holds W0 (w.heap.size + 1) (sdV fun _ => 0) := by rw [← hW0]; exact (Holds.new' _ _ _ _ (by simp)).alloc _
  have g2 : Holds W0 (w.heap.size + 1 + 1) (sdV fun _ => 0) := by rw [← hW0]; exact Holds.new' _ _ _ _ (by simp)
  have hb0 : Below w.heap.size w W0 := by rw [← hW0]; exact (((Below.refl w.heap.size w).alloc (Nat.le_refl _) _).alloc (by simp) _).alloc (by simp; omega) _
  rw [hW0]
  obtain ⟨s, hs⟩ : ∃ s, w.heap.size = s := ⟨_, rfl⟩
  rw [hs] at g0 g1 g2 hb0 ⊢
  have HS := Lib.hid hs
  clear hs hW0
  go_loopw [4] (fun q wr => ∃ k : Nat, k ≤ 5 ∧ q = .int .i64 k ∧ Holds wr s (sdV f) ∧ Holds wr (s + 1) (sdV fun _ => 0) ∧ Holds wr (s + 1 + 1) (sdV (cutSd f k)) ∧ Below s w wr) (fun q _ => 5 - (intOf q).toNat)
  case atStart => exact ⟨0, by omega, rfl, g0, g1, by rw [cutSd_zero]; exact g2, hb0⟩
  case round =>
    obtain ⟨k, hk, rfl, k0, k1, k2, hb⟩ := hrel
    clear g0 g1 g2 hb0
    by_cases hlt : k < 5
    · have hd : decide ((k : Int) < (5 : Int)) = true := by simp; omega
      have cf := k0.sd k hlt
      have ck := k2.sd k hlt
      obtain ⟨-, -, -, fr, hl⟩ := k2.facts
      go_wp2_with fail
      go_roundw
      case rel =>
        refine ⟨k + 1, by omega, by go_num, k0.setCell_other _ _ (by dsimp only; omega), k1.setCell_other _ _ (by dsimp only; omega), ?_, hb.setCell (p := ⟨s + 1 + 1, k, none⟩) (by dsimp only; omega) _⟩
        rw [← cutSd_succ]
        exact k2.setSd k hlt _
      case measure => simp [intOf]; omega
    · obtain rfl : k = 5 := by omega
      have hd : decide (((5 : Nat) : Int) < (5 : Int)) = false := by decide
      rw [cutSd_all] at k2
      have r0 := k2.row
      obtain ⟨rr, fr, -, -, -⟩ := k1.facts
      have HR := Lib.hid (k1.setRow (sdV f))
      have HB := Lib.hid hb
      go_wp2_with fail
      exact bodyPost_ret (results_cell_holds (n := 5) rfl (by kernel_rfl) _ rfl HR.out rfl) rfl ⟨rfl, by have := HS.out; subst this; exact below_setRow HB.out _ (by omega) _⟩

end Go.Proofs.YthfhpcigjnjkdaaDoor
