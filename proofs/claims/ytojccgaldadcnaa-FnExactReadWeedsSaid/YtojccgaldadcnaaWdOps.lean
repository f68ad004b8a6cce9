/- What the program does with weeds: whether a cell has them, with and without others, how many there are. -/
import Derived.Test.YtojccgaldadcnaaWd
import Derived.Lib.Tables
namespace Go.Proofs.Ytojccgaldadcnaa
open Go.RowKit
set_option linter.unusedVariables false
set_option linter.unusedSimpArgs false
attribute [local go_sem] Oper.semAt_some
attribute [local go_sem ↓] loadRow loadGrid loadLawn loadMirror storeRow storeGrid storeLawn allocRow allocGrid allocLawn buildZero buildSides loadWd loadU10 storeWd storeU10 allocWd allocU10 buildZWd eqlWd loadWd' storeWd' allocWd' eqlWd'

theorem shr_row (a : Nat → Bool) (n : Nat) : ((rowN a : Nat) : Int) / 2 ^ n = (rowN (fun x => decide (x + n < 16) && a (x + n)) : Int) := by
  rw [← rowN_shr]; push_cast; rfl
theorem has_row (a : Nat → Bool) (n : Nat) (h : n < 16) : (bits .and .u16 (((rowN a : Nat) : Int) / 2 ^ n) 1 == 1) = a n := by
  rw [shr_row, show (1 : Int) = ((rowN (fun j => j == 0) : Nat) : Int) by rw [rowN_one]; rfl, bits_and_row, rowN_one, rowN_and1]
  simp only [Nat.zero_add, h, decide_true, Bool.true_and]
  cases a n <;> rfl

set_option maxRecDepth 100000 in
set_option maxHeartbeats 400000 in
theorem wdHas_any (s : Nat → Nat → Bool) (x y : Nat) (hx : x < 10) (hy : y < 10) (w : World) :
    Calls Try.prog 43 #[.agg (bV 10 s), .agg #[.int .i8 x, .int .i8 y]] w fun e w' => e = .returned (.bool (s y x)) ∧ Below w.heap.size w w' := by
  have hx0 : (0 : Int) ≤ x := by omega
  have hx1 : (x : Int) < 10 := by omega
  have hy0 : (0 : Int) ≤ y := by omega
  have hy1 : (y : Int) < 10 := by omega
  have ck : (bV 10 s)[y]? = some (.int .u16 (rowN (s y) : Int)) := bV_get 10 s y hy
  go_enter Try.func43, Try.ntmps43
  go_wp2
  go_quiet (fail)
  go_wp2
  go_ret
  exact ⟨by rw [has_row _ _ (by omega)]; rfl, below_drewN (((Below.refl _ _).alloc (Nat.le_refl _) _).alloc (by simp) _) _⟩

/-- Weeds and those of a cell. -/
def withB (s : Nat → Nat → Bool) (y x : Nat) : Nat → Nat → Bool := fun y' x' => s y' x' || (y' == y && x' == x)

theorem wrap_pow (x : Nat) (h : x < 16) : IntKind.u16.wrap ((2 : Int) ^ x) = ((rowN (fun j => j == x) : Nat) : Int) := by
  have hl := rowN_lt (fun j => j == x)
  rw [rowN_pow x h] at hl ⊢
  rw [IntKind.wrap_u16]
  have e : ((2 : Int) ^ x) = ((2 ^ x : Nat) : Int) := by push_cast; rfl
  rw [e]
  exact Int.emod_eq_of_lt (Int.natCast_nonneg _) (show ((2 ^ x : Nat) : Int) < ((65536 : Nat) : Int) from Int.ofNat_lt.2 hl)
theorem with_set (s : Nat → Nat → Bool) (y x : Nat) (hy : y < 10) : (bV 10 s).setIfInBounds y (.int .u16 ((rowN (fun j => s y j || j == x) : Nat) : Int)) = bV 10 (withB s y x) := by
  rw [bV_set _ _ _ _ hy]
  refine bV_ext fun y' x' _ _ => ?_
  unfold updR withB
  by_cases e : y' = y
  · subst e; simp
  · simp [e]

set_option maxRecDepth 100000 in
set_option maxHeartbeats 400000 in
theorem wdWith_any (s : Nat → Nat → Bool) (x y : Nat) (hx : x < 10) (hy : y < 10) (w : World) :
    Calls Try.prog 49 #[.agg (bV 10 s), .agg #[.int .i8 x, .int .i8 y]] w fun e w' => e = .returned (.agg (bV 10 (withB s y x))) ∧ Below w.heap.size w w' := by
  have hx0 : (0 : Int) ≤ x := by omega
  have hx1 : (x : Int) < 10 := by omega
  have hy0 : (0 : Int) ≤ y := by omega
  have hy1 : (y : Int) < 10 := by omega
  have ck : (bV 10 s)[y]? = some (.int .u16 (rowN (s y) : Int)) := bV_get 10 s y hy
  go_enter Try.func49, Try.ntmps49
  go_wp2
  have hpw := wrap_pow x (by omega)
  have hset := with_set s y x hy
  go_region
  all_goals go_wp2
  refine bodyPost_ret (v := .agg (bV 10 (withB s y x))) (results_cell_holds rfl wideWd _ rfl (((Holds.new' _ _ _ _ (by simp))).drew) (by simp)) rfl ⟨rfl, ?_⟩
  exact (((Below.refl w.heap.size w).alloc (Nat.le_refl _) _).alloc (by simp) _).alloc (by simp; omega) _ |>.drew

/-- Weeds in cells that have others, too, as far as k rows have been gone through. -/
def inTo (s t : Nat → Nat → Bool) (k : Nat) : Nat → Nat → Bool := fun y x => s y x && (decide (k ≤ y) || t y x)
theorem inTo_zero (s t : Nat → Nat → Bool) (n : Nat) : bV n (inTo s t 0) = bV n s := bV_ext fun y x _ _ => by simp [inTo]
theorem inTo_succ (s t : Nat → Nat → Bool) (n k : Nat) (h : k < n) : (bV n (inTo s t k)).setIfInBounds k (.int .u16 ((rowN (fun x => inTo s t k k x && t k x) : Nat) : Int)) = bV n (inTo s t (k + 1)) := by
  rw [bV_set _ _ _ _ h]
  refine bV_ext fun y x _ _ => ?_
  unfold updR inTo
  by_cases e : y = k
  · subst e; simp [show ¬ y + 1 ≤ y by omega]
  · rw [if_neg e]
    by_cases hy : k ≤ y
    · simp [hy, show k + 1 ≤ y by omega]
    · simp [hy, show ¬ k + 1 ≤ y by omega]
theorem inTo_all (s t : Nat → Nat → Bool) (n : Nat) : bV n (inTo s t n) = bV n fun y x => s y x && t y x := bV_ext fun y x hy _ => by simp [inTo, show ¬ n ≤ y by omega]

theorem index_one {P : Program} (w : World) {t e m : Nat} {q : IntKind} (ht : P.underlying t = some (.array m e)) (he : P.underlying e = some (.int q)) (hc : (P.info? e).map (·.size) = some 1) (cs : Array Value) (k : Nat) (hk : k < m) (v : Value) (hv : cs[k]? = some v) : (Instr.index t (.agg cs) (.int .i64 k)).run P w = .ok v w := by
  cases hi : P.info? e with
  | none => simp [hi] at hc
  | some i =>
    have hs : i.size = 1 := by simpa [hi] using hc
    have hp := run_part_one (P := P) w he cs k v hv
    simp [Instr.index, asIntOf, Sem.run_bind, run_underlying ht, sizeOf, typeInfo, hi, hs, hk, hp]
theorem sizeU16 : (Try.prog.info? 27).map (·.size) = some 1 := by kernel_rfl
theorem wd_index (s : Nat → Nat → Bool) (k : Nat) (hk : k < 10) (w : World) : (Instr.index 32 (.agg (bV 10 s)) (.int .i64 k)).run Try.prog w = .ok (.int .u16 ((rowN (s k) : Nat) : Int)) w :=
  index_one (P := Try.prog) w Try.underlying32 Try.underlying27 sizeU16 _ k hk _ (bV_get _ _ _ hk)

set_option maxRecDepth 100000 in
set_option maxHeartbeats 1000000 in
theorem wdWithin_any (s t : Nat → Nat → Bool) (w : World) :
    Calls Try.prog 85 #[.agg (bV 10 s), .agg (bV 10 t)] w fun e w' => e = .returned (.agg (bV 10 fun y x => s y x && t y x)) ∧ Below w.heap.size w w' := by
  go_enter Try.func85, Try.ntmps85
  go_wp2
  go_loopw [5, 6, 8] (fun _ _ i wr => ∃ k : Nat, k ≤ 10 ∧ i = .int .i64 k ∧ Below w.heap.size w wr ∧ Holds wr w.heap.size (bV 10 (inTo s t k)) ∧ Holds wr (w.heap.size+2) (bV 10 fun _ _ => false)) (fun _ _ i _ => 10 - (intOf i).toNat)
  case atStart =>
    exact ⟨0, by omega, rfl, (((Below.refl _ _).alloc (Nat.le_refl _) _).alloc (by simp) _).alloc (by simp; omega) _, by rw [inTo_zero]; exact ((Holds.new _ _ _).alloc _).alloc _, Holds.new' _ _ _ _ (by simp)⟩
  case round =>
    obtain ⟨k, hk, rfl, hb, h1, h3⟩ := hrel
    by_cases hlt : k < 10
    · have hd : decide ((k : Int) < 10) = true := by simp; omega
      have hix := wd_index t k hlt
      obtain ⟨-, -, c1, z1, l1⟩ := h1.facts
      have ck := (c1 k).trans (bV_get 10 _ k hlt)
      have hset := inTo_succ s t 10 k hlt
      clear c1
      go_wp2
      go_roundw
      case rel => exact ⟨k + 1, by omega, by go_num, hb.setCell (by simp) _, hset ▸ h1.setCell k _, h3.setCell_other _ _ (by dsimp only; omega)⟩
      case measure => simp [intOf]; omega
    · obtain rfl : k = 10 := by omega
      have hd : decide (((10 : Nat) : Int) < 10) = false := by decide
      rw [inTo_all] at h1
      obtain ⟨r1, -, -, -, l1⟩ := h1.facts
      obtain ⟨r3, f3, -, z3, l3⟩ := h3.facts
      go_wp2
      exact bodyPost_ret (v := .agg (bV 10 fun y x => s y x && t y x)) (results_cell_holds rfl wideWd _ rfl (h3.setRow _) (by simp)) rfl ⟨rfl, below_setRow' hb (by omega) _⟩
/-- How many bits are set in the first k rows. -/
def cntR (s : Nat → Nat → Bool) : Nat → Nat
  | 0 => 0
  | k + 1 => cntR s k + cntN (s k)
theorem cntR_le (s : Nat → Nat → Bool) : ∀ k, cntR s k ≤ 16 * k
  | 0 => by simp [cntR]
  | k + 1 => by have := cntR_le s k; have := cntTo_le (s k) 16; simp only [cntR, cntN]; omega
theorem cntTo_ext {a b : Nat → Bool} : ∀ {n : Nat}, (∀ j, j < n → a j = b j) → cntTo a n = cntTo b n
  | 0, _ => rfl
  | n + 1, h => by simp only [cntTo]; rw [cntTo_ext (fun j hj => h j (by omega)), h n (by omega)]
theorem cntTo_add (b : Nat → Bool) (m : Nat) : ∀ n, cntTo b (m + n) = cntTo b m + cntTo (fun j => b (m + j)) n
  | 0 => by simp [cntTo]
  | n + 1 => by rw [← Nat.add_assoc]; simp only [cntTo]; rw [cntTo_add b m n]; omega
theorem pop8_is : ∀ n : Fin 256, Lib.pop8 (n.val : Int) = (cntTo n.val.testBit 8 : Int) := by decide +kernel
theorem pop8_row (b : Nat → Bool) (h : ∀ j, 8 ≤ j → j < 16 → b j = false) : Lib.pop8 ((rowN b : Nat) : Int) = (cntTo b 8 : Int) ∧ rowN b ≤ 255 := by
  have hl : rowN b < 256 := by
    refine Nat.lt_pow_two_of_testBit (n := 8) _ fun j hj => ?_
    rw [rowN_bit]
    by_cases h2 : j < 16
    · rw [h j hj h2]; simp
    · simp [h2]
  refine ⟨?_, by omega⟩
  rw [pop8_is ⟨rowN b, hl⟩]
  refine congrArg (fun n : Nat => (n : Int)) (cntTo_ext fun j hj => ?_)
  rw [rowN_bit]; simp [show j < 16 by omega]
theorem pop_hi (b : Nat → Bool) : Lib.pop8 ((rowN (fun x => decide (x + 8 < 16) && b (x + 8)) : Nat) : Int) = (cntTo (fun j => b (8 + j)) 8 : Int) ∧ rowN (fun x => decide (x + 8 < 16) && b (x + 8)) ≤ 255 := by
  obtain ⟨h1, h2⟩ := pop8_row (fun x => decide (x + 8 < 16) && b (x + 8)) (fun j h1 _ => by simp [show ¬ j + 8 < 16 by omega])
  refine ⟨?_, h2⟩
  rw [h1]
  refine congrArg (fun n : Nat => (n : Int)) (cntTo_ext fun j hj => ?_)
  simp [show j + 8 < 16 by omega, Nat.add_comm]
theorem row255 : rowN (fun x => decide (x < 8)) = 255 := by decide
theorem pop_lo (b : Nat → Bool) : Lib.pop8 ((rowN (fun x => b x && decide (x < 8)) : Nat) : Int) = (cntTo b 8 : Int) ∧ rowN (fun x => b x && decide (x < 8)) ≤ 255 := by
  obtain ⟨h1, h2⟩ := pop8_row (fun x => b x && decide (x < 8)) (fun j h1 _ => by simp [show ¬ j < 8 by omega])
  refine ⟨?_, h2⟩
  rw [h1]
  refine congrArg (fun n : Nat => (n : Int)) (cntTo_ext fun j hj => ?_)
  simp [hj]
theorem and255 (b : Nat → Bool) : bits .and .u16 ((rowN b : Nat) : Int) 255 = ((rowN (fun x => b x && decide (x < 8)) : Nat) : Int) := by
  rw [show (255 : Int) = ((rowN (fun x => decide (x < 8)) : Nat) : Int) by rw [row255]; rfl, bits_and_row]
theorem div256 (b : Nat → Bool) : ((rowN b : Nat) : Int) / 256 = ((rowN (fun x => decide (x + 8 < 16) && b (x + 8)) : Nat) : Int) := by
  rw [← shr_row]; rfl

theorem popFold : (({ data := (([0, 1, 1, 2, 1, 2, 2, 3, 1, 2, 2, 3, 2, 3, 3, 4, 1, 2, 2, 3, 2, 3, 3, 4, 2, 3, 3, 4, 3, 4, 4, 5, 1, 2, 2, 3, 2, 3, 3, 4, 2, 3, 3, 4, 3, 4, 4, 5, 2, 3, 3, 4, 3, 4, 4, 5, 3, 4, 4, 5, 4, 5, 5, 6].append [1, 2, 2, 3, 2, 3, 3, 4, 2, 3, 3, 4, 3, 4, 4, 5, 2, 3, 3, 4, 3, 4, 4, 5, 3, 4, 4, 5, 4, 5, 5, 6, 2, 3, 3, 4, 3, 4, 4, 5, 3, 4, 4, 5, 4, 5, 5, 6, 3, 4, 4, 5, 4, 5, 5, 6, 4, 5, 5, 6, 5, 6, 6, 7]).append ([1, 2, 2, 3, 2, 3, 3, 4, 2, 3, 3, 4, 3, 4, 4, 5, 2, 3, 3, 4, 3, 4, 4, 5, 3, 4, 4, 5, 4, 5, 5, 6, 2, 3, 3, 4, 3, 4, 4, 5, 3, 4, 4, 5, 4, 5, 5, 6, 3, 4, 4, 5, 4, 5, 5, 6, 4, 5, 5, 6, 5, 6, 6, 7].append [2, 3, 3, 4, 3, 4, 4, 5, 3, 4, 4, 5, 4, 5, 5, 6, 3, 4, 4, 5, 4, 5, 5, 6, 4, 5, 5, 6, 5, 6, 6, 7, 3, 4, 4, 5, 4, 5, 5, 6, 4, 5, 5, 6, 5, 6, 6, 7, 4, 5, 5, 6, 5, 6, 6, 7, 5, 6, 6, 7, 6, 7, 7, 8])).toArray }) : ByteArray) = Lib.pop8tab := by kernel_rfl

end Go.Proofs.Ytojccgaldadcnaa
