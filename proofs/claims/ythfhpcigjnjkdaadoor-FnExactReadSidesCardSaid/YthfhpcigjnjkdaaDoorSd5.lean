/- Sides by value: five numbers. -/
import Derived.Test.YthfhpcigjnjkdaaDoorSideP
namespace Go.Proofs.YthfhpcigjnjkdaaDoor
open Go.RowKit
set_option linter.unusedVariables false

attribute [simp, go_sem] sdV_size
theorem sdV_all' (f : Sd) (n : Nat) (h : n = (sdV f).size) : (sdV f).extract 0 n = sdV f := by subst h; exact Array.extract_size
@[go_sem] theorem sdV_all (f : Sd) : (sdV f).extract 0 5 = sdV f := sdV_all' f 5 rfl
@[go_sem] theorem sdV_ones (f : Sd) : Ones (sdV f) = true := by
  refine of_ones fun v hv => ?_
  simp only [sdV, List.mem_cons, List.not_mem_nil, or_false] at hv
  rcases hv with rfl | rfl | rfl | rfl | rfl <;> rfl
@[go_sem] theorem splice_sdV (f g : Sd) : splice (sdV f) 0 (sdV g) = sdV g := splice_all _ _ rfl
@[go_sem] theorem wideSd : wideB Tryd.prog 53 5 = true := by kernel_rfl
section
variable (ρ : Operand → Value) (dst : Option Tmp) (x y : Operand) (t : TypeId) (pos : String) (aft : Array Edge) (g : Option (Nat × Bool)) (w : World)
theorem loadSd : (execOp ρ ⟨dst, .load 53 x, t, pos, aft, g⟩).run Tryd.prog w = opLoad Tryd.prog 53 5 (ρ x) w := rfl
theorem storeSd : (execOp ρ ⟨dst, .store 53 x y, t, pos, aft, g⟩).run Tryd.prog w = opStore Tryd.prog 53 5 (ρ x) (ρ y) w := rfl
theorem allocSd : (execOp ρ ⟨dst, .alloc 53, t, pos, aft, g⟩).run Tryd.prog w = .ok (.value (.pointer (some ⟨w.heap.size, 0, none⟩))) (w.alloc (.cells (sdV fun _ => 0) 53)) := by kernel_rfl
theorem buildSd : (execOp ρ ⟨dst, .build 53 #[], t, pos, aft, g⟩).run Tryd.prog w = .ok (.value (.agg (sdV fun _ => 0))) w := by kernel_rfl
theorem loadSd' (q : Option Nat) : (Oper.semAt q ρ ⟨dst, .load 53 x, t, pos, aft, g⟩).run Tryd.prog w = opLoad Tryd.prog 53 5 (ρ x) w := by
  have h : Oper.semAt q ρ ⟨dst, .load 53 x, t, pos, aft, g⟩ = execOp ρ ⟨dst, .load 53 x, t, pos, aft, g⟩ := by cases q <;> rfl
  rw [h, loadSd]
theorem storeSd' (q : Option Nat) : (Oper.semAt q ρ ⟨dst, .store 53 x y, t, pos, aft, g⟩).run Tryd.prog w = opStore Tryd.prog 53 5 (ρ x) (ρ y) w := by
  have h : Oper.semAt q ρ ⟨dst, .store 53 x y, t, pos, aft, g⟩ = execOp ρ ⟨dst, .store 53 x y, t, pos, aft, g⟩ := by cases q <;> rfl
  rw [h, storeSd]
theorem allocSd' (q : Option Nat) : (Oper.semAt q ρ ⟨dst, .alloc 53, t, pos, aft, g⟩).run Tryd.prog w = .ok (.value (.pointer (some ⟨w.heap.size, 0, none⟩))) (w.alloc (.cells (sdV fun _ => 0) 53)) := by
  have h : Oper.semAt q ρ ⟨dst, .alloc 53, t, pos, aft, g⟩ = execOp ρ ⟨dst, .alloc 53, t, pos, aft, g⟩ := by cases q <;> rfl
  rw [h, allocSd]
theorem buildSd' (q : Option Nat) : (Oper.semAt q ρ ⟨dst, .build 53 #[], t, pos, aft, g⟩).run Tryd.prog w = .ok (.value (.agg (sdV fun _ => 0))) w := by
  have h : Oper.semAt q ρ ⟨dst, .build 53 #[], t, pos, aft, g⟩ = execOp ρ ⟨dst, .build 53 #[], t, pos, aft, g⟩ := by cases q <;> rfl
  rw [h, buildSd]
end
@[go_sem] theorem store_sd (g : Nat) (f f' : Sd) (w : World) : opStoreRow Tryd.prog 53 5 g 0 (sdV f) true (sdV f') w = .ok .skip (w.setRow g (sdV f')) := by
  rw [opStoreRow_at _ _ _ _ _ _ _ _ wideSd rfl (sdV_ones f') (Nat.le_refl 5), splice_sdV]
@[go_sem] theorem load_sd (g : Nat) (f : Sd) (w : World) : opLoadRow Tryd.prog 53 5 g 0 (sdV f) w = .ok (.value (.agg (sdV f))) w := by
  rw [opLoadRow_at _ _ _ _ _ _ _ wideSd (Nat.le_refl 5)]
  rw [Nat.zero_add, sdV_all]
theorem below_setRow {B : Nat} {w w' : World} (h : Below B w w') (g : Nat) (hg : B ≤ g) (cs : Array Value) : Below B w (w'.setRow g cs) :=
  ⟨h.os, h.tape, h.output, by have := h.size; simpa [World.setRow] using this, fun k hk => (setRow_other w' g k cs (by omega)).trans (h.block k hk)⟩
theorem own_setAt {W : World} {B : Nat} {e : TypeId} {size n : Nat} {v : Value} {xs : List Value} (h : W.ownsRow B e size v n xs) (g k : Nat) (u : Value) (hg : g < B) : (W.setCell ⟨g, k, none⟩ u).ownsRow B e size v n xs := by
  refine ⟨h.1, ?_⟩
  rcases h.2 with h2 | ⟨b, cap, cur, hv, hbg, hb, r⟩
  · exact .inl h2
  · exact .inr ⟨b, cap, cur, hv, hbg, (heap_setCell_other W ⟨g, k, none⟩ b u (by dsimp only; omega)).trans hb, r⟩
theorem sd_index0 (f : Sd) (w : World) : (Instr.index 53 (.agg (sdV f)) (.int .i64 ((0 : Nat) : Int))).run Tryd.prog w = .ok (.int .i64 (f 0)) w := by kernel_rfl
theorem sd_index1 (f : Sd) (w : World) : (Instr.index 53 (.agg (sdV f)) (.int .i64 ((1 : Nat) : Int))).run Tryd.prog w = .ok (.int .i64 (f 1)) w := by kernel_rfl
theorem sd_index2 (f : Sd) (w : World) : (Instr.index 53 (.agg (sdV f)) (.int .i64 ((2 : Nat) : Int))).run Tryd.prog w = .ok (.int .i64 (f 2)) w := by kernel_rfl
theorem sd_index3 (f : Sd) (w : World) : (Instr.index 53 (.agg (sdV f)) (.int .i64 ((3 : Nat) : Int))).run Tryd.prog w = .ok (.int .i64 (f 3)) w := by kernel_rfl
theorem sd_index4 (f : Sd) (w : World) : (Instr.index 53 (.agg (sdV f)) (.int .i64 ((4 : Nat) : Int))).run Tryd.prog w = .ok (.int .i64 (f 4)) w := by kernel_rfl
theorem sd_index (f : Sd) (k : Nat) (hk : k < 5) (w : World) : (Instr.index 53 (.agg (sdV f)) (.int .i64 k)).run Tryd.prog w = .ok (.int .i64 (f k)) w := by
  have : k = 0 ∨ k = 1 ∨ k = 2 ∨ k = 3 ∨ k = 4 := by omega
  rcases this with rfl | rfl | rfl | rfl | rfl
  · exact sd_index0 f w
  · exact sd_index1 f w
  · exact sd_index2 f w
  · exact sd_index3 f w
  · exact sd_index4 f w
/-- The numbers of a row of sides, one by one, and how one is exchanged. -/
theorem Holds.sd {w : World} {g : Nat} {f : Sd} (h : Holds w g (sdV f)) (k : Nat) (hk : k < 5) : w.cell? ⟨g, k, none⟩ = some (.int .i64 (f k)) := (h.cell k).trans (sdV_get f k hk)
theorem Holds.setSd {w : World} {g : Nat} {f : Sd} (h : Holds w g (sdV f)) (k : Nat) (hk : k < 5) (v : Int) : Holds (w.setCell ⟨g, k, none⟩ (.int .i64 v)) g (sdV (sdSet f k v)) := by
  have := h.setCell k (.int .i64 v)
  rwa [sdV_set f k hk] at this
end Go.Proofs.YthfhpcigjnjkdaaDoor
