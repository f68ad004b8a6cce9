/- Weeds: ten rows of bits, by value; how a law's weeds are read, copied and compared. -/
import Derived.Test.YtojccgaldadcnaaBit
import Derived.Test.YtojccgaldadcnaaOpen
import Derived.Test.YtojccgaldadcnaaZH
namespace Go.Proofs.Ytojccgaldadcnaa
open Go.RowKit Go.ChangeShapes Go.WideShapes Go.ChangeAt
set_option linter.unusedVariables false
set_option linter.unusedSimpArgs false

@[go_sem] theorem wideWd : wideB Try.prog 32 10 = true := by kernel_rfl
@[go_sem] theorem wideU10 : wideB Try.prog 28 10 = true := by kernel_rfl
section
variable (ρ : Operand → Value) (dst : Option Tmp) (x y : Operand) (t : TypeId) (pos : String) (aft : Array Edge) (g : Option (Nat × Bool)) (w : World)
theorem loadWd : (execOp ρ ⟨dst, .load 32 x, t, pos, aft, g⟩).run Try.prog w = opLoad Try.prog 32 10 (ρ x) w := rfl
theorem loadWd' (q : Option Nat) : (Oper.semAt q ρ ⟨dst, .load 32 x, t, pos, aft, g⟩).run Try.prog w = opLoad Try.prog 32 10 (ρ x) w := by
  have h : Oper.semAt q ρ ⟨dst, .load 32 x, t, pos, aft, g⟩ = execOp ρ ⟨dst, .load 32 x, t, pos, aft, g⟩ := by cases q <;> rfl
  rw [h, loadWd]
theorem storeWd : (execOp ρ ⟨dst, .store 32 x y, t, pos, aft, g⟩).run Try.prog w = opStore Try.prog 32 10 (ρ x) (ρ y) w := rfl
theorem storeWd' (q : Option Nat) : (Oper.semAt q ρ ⟨dst, .store 32 x y, t, pos, aft, g⟩).run Try.prog w = opStore Try.prog 32 10 (ρ x) (ρ y) w := by
  have h : Oper.semAt q ρ ⟨dst, .store 32 x y, t, pos, aft, g⟩ = execOp ρ ⟨dst, .store 32 x y, t, pos, aft, g⟩ := by cases q <;> rfl
  rw [h, storeWd]
theorem allocWd : (execOp ρ ⟨dst, .alloc 32, t, pos, aft, g⟩).run Try.prog w = .ok (.value (.pointer (some ⟨w.heap.size, 0, none⟩))) (w.alloc (.cells (bV 10 fun _ _ => false) 32)) := by
  rw [bV_zero]; kernel_rfl
theorem allocWd' (q : Option Nat) : (Oper.semAt q ρ ⟨dst, .alloc 32, t, pos, aft, g⟩).run Try.prog w = .ok (.value (.pointer (some ⟨w.heap.size, 0, none⟩))) (w.alloc (.cells (bV 10 fun _ _ => false) 32)) := by
  have h : Oper.semAt q ρ ⟨dst, .alloc 32, t, pos, aft, g⟩ = execOp ρ ⟨dst, .alloc 32, t, pos, aft, g⟩ := by cases q <;> rfl
  rw [h, allocWd]
theorem loadU10 : (execOp ρ ⟨dst, .load 28 x, t, pos, aft, g⟩).run Try.prog w = opLoad Try.prog 28 10 (ρ x) w := rfl
theorem loadU10' (q : Option Nat) : (Oper.semAt q ρ ⟨dst, .load 28 x, t, pos, aft, g⟩).run Try.prog w = opLoad Try.prog 28 10 (ρ x) w := by
  have h : Oper.semAt q ρ ⟨dst, .load 28 x, t, pos, aft, g⟩ = execOp ρ ⟨dst, .load 28 x, t, pos, aft, g⟩ := by cases q <;> rfl
  rw [h, loadU10]
theorem storeU10 : (execOp ρ ⟨dst, .store 28 x y, t, pos, aft, g⟩).run Try.prog w = opStore Try.prog 28 10 (ρ x) (ρ y) w := rfl
theorem storeU10' (q : Option Nat) : (Oper.semAt q ρ ⟨dst, .store 28 x y, t, pos, aft, g⟩).run Try.prog w = opStore Try.prog 28 10 (ρ x) (ρ y) w := by
  have h : Oper.semAt q ρ ⟨dst, .store 28 x y, t, pos, aft, g⟩ = execOp ρ ⟨dst, .store 28 x y, t, pos, aft, g⟩ := by cases q <;> rfl
  rw [h, storeU10]
theorem allocU10 : (execOp ρ ⟨dst, .alloc 28, t, pos, aft, g⟩).run Try.prog w = .ok (.value (.pointer (some ⟨w.heap.size, 0, none⟩))) (w.alloc (.cells (bV 10 fun _ _ => false) 28)) := by
  rw [bV_zero]; kernel_rfl
theorem allocU10' (q : Option Nat) : (Oper.semAt q ρ ⟨dst, .alloc 28, t, pos, aft, g⟩).run Try.prog w = .ok (.value (.pointer (some ⟨w.heap.size, 0, none⟩))) (w.alloc (.cells (bV 10 fun _ _ => false) 28)) := by
  have h : Oper.semAt q ρ ⟨dst, .alloc 28, t, pos, aft, g⟩ = execOp ρ ⟨dst, .alloc 28, t, pos, aft, g⟩ := by cases q <;> rfl
  rw [h, allocU10]
theorem buildZWd : (execOp ρ ⟨dst, .build 32 #[], t, pos, aft, g⟩).run Try.prog w = .ok (.value (.agg (bV 10 fun _ _ => false))) w := by
  rw [bV_zero]; kernel_rfl
theorem buildZWd' (q : Option Nat) : (Oper.semAt q ρ ⟨dst, .build 32 #[], t, pos, aft, g⟩).run Try.prog w = .ok (.value (.agg (bV 10 fun _ _ => false))) w := by
  have h : Oper.semAt q ρ ⟨dst, .build 32 #[], t, pos, aft, g⟩ = execOp ρ ⟨dst, .build 32 #[], t, pos, aft, g⟩ := by cases q <;> rfl
  rw [h, buildZWd]
theorem eqlWd : (execOp ρ ⟨dst, .binOp .eql 32 x y 32, t, pos, aft, g⟩).run Try.prog w = opEql Try.prog 32 x y (ρ x) (ρ y) w := rfl
theorem eqlWd' (q : Option Nat) : (Oper.semAt q ρ ⟨dst, .binOp .eql 32 x y 32, t, pos, aft, g⟩).run Try.prog w = opEql Try.prog 32 x y (ρ x) (ρ y) w := by
  have h : Oper.semAt q ρ ⟨dst, .binOp .eql 32 x y 32, t, pos, aft, g⟩ = execOp ρ ⟨dst, .binOp .eql 32 x y 32, t, pos, aft, g⟩ := by cases q <;> rfl
  rw [h, eqlWd]
end
theorem guardWd : Try.prog.eqGuardType Try.prog.depth 32 = false := by kernel_rfl
theorem cellsU16 : Try.prog.cellsOf 27 = 1 := by kernel_rfl
theorem cellsU10 : Try.prog.cellsOf 28 = 10 := by kernel_rfl
@[go_sem] theorem eqlWd_at (x y : Operand) (s u : Nat → Nat → Bool) (w : World) : opEql Try.prog 32 x y (.agg (bV 10 s)) (.agg (bV 10 u)) w = .ok (.value (.bool (bEq 10 s u))) w := by
  have he := equal_bV (P := Try.prog) w 9998 Try.underlying32 Try.underlying27 cellsU16 s u
  simp only [opEql, Sem.run_bind, run_eqGuard_agg (P := Try.prog) w .eql _ x y _ _ guardWd, Result.andThen_ok, run_eql_struct (P := Try.prog) w]
  rw [show (10000 : Nat) = 9998 + 2 from rfl, he]
  rfl

theorem wf_u16 {z : Int} (h : (Lit.int .u16 z).wf = true) : 0 ≤ z ∧ z < 65536 := by
  simp [Lit.wf, IntKind.min, IntKind.max, IntKind.signed, IntKind.bits] at h
  omega
set_option maxRecDepth 100000 in
theorem open_weeds {H : Type} {enc : TypeId × Value → H} {W : World} {sp : Nat → Bool} {held : Bool} {v : Value} {d : DataW H} {p : List MemPlace} {r : Reach} {b : Nat}
    (hv : Value.okWide Try.prog W r b 28 v) (h : DataW.Trod enc Try.prog W 0 sp held 28 v d p) : ∃ s : Nat → Nat → Bool, v = .agg (bV 10 s) := by
  have hu : Try.prog.underlying 28 = some (.array 10 27) := Try.underlying28
  simp only [Value.okWide, hu] at hv
  obtain ⟨cs, rfl, hsz, -⟩ := hv
  rw [cellsU10] at hsz
  obtain ⟨fuel, hf⟩ := h
  have hk : ∀ j, j < 10 → ∃ z, cs[j]? = some (.int .u16 z) ∧ (Lit.int .u16 z).wf = true := by
    intro j hj
    obtain ⟨z, hz, hw⟩ := trod_ints hu Try.underlying27 cellsU16 hf j hj
    exact ⟨z, by simpa [Value.cells] using hz, hw⟩
  refine ⟨fun y => (numAt cs y).toNat.testBit, ?_⟩
  refine congrArg Value.agg ?_
  apply bV_of hsz
  intro j hj
  obtain ⟨z, hz, hw⟩ := hk j hj
  have := wf_u16 hw
  rw [hz]
  simp only [numAt, hz]
  rw [rowN_of _ (by omega)]
  congr 2
  omega

attribute [local go_sem ↓] loadRow loadGrid loadLawn loadMirror storeRow storeGrid storeLawn allocRow allocGrid allocLawn buildZero buildSides loadWd loadU10 storeWd storeU10 allocWd allocU10 buildZWd

set_option maxHeartbeats 400000 in
theorem eqWeeds_same (s : Nat → Nat → Bool) (w : World) :
    Calls Try.prog 17 #[.agg (bV 10 s), .agg (bV 10 s)] w fun e w' => e = .returned (.bool true) ∧ Below w.heap.size w w' := by
  go_enter Try.func17, Try.ntmps17
  go_wp2
  go_loopw [5] (fun i wr => ∃ k : Nat, k ≤ 10 ∧ i = .int .i64 k ∧ Below w.heap.size w wr ∧ Holds wr w.heap.size (bV 10 s) ∧ Holds wr (w.heap.size+1) (bV 10 s)) (fun i _ => 10 - (intOf i).toNat)
  case atStart =>
    exact ⟨0, by omega, rfl, ((Below.refl _ _).alloc (Nat.le_refl _) _).alloc (by simp) _, (Holds.new _ _ _).alloc _, Holds.new' _ _ _ _ (by simp)⟩
  case round =>
    obtain ⟨k, hk, rfl, hb, h1, h2⟩ := hrel
    obtain ⟨-, -, c1, -, -⟩ := h1.facts
    obtain ⟨-, -, c2, -, -⟩ := h2.facts
    by_cases hlt : k < 10
    · go_wp2
      go_quiet (fail)
      all_goals go_wp2
      go_roundw
      case rel => exact ⟨k + 1, by omega, by go_num, below_drewN hb _, h1.drewN _, h2.drewN _⟩
      case measure => simp [intOf]; omega
    · go_wp2
      go_ret
      exact ⟨rfl, hb⟩

/-- The first k rows. -/
def upR (s : Nat → Nat → Bool) (k : Nat) : Nat → Nat → Bool := fun y x => decide (y < k) && s y x
theorem upR_zero (s : Nat → Nat → Bool) (n : Nat) : bV n (upR s 0) = bV n fun _ _ => false := bV_ext fun y x _ _ => by simp [upR]
theorem upR_succ (s : Nat → Nat → Bool) (n k : Nat) (h : k < n) : (bV n (upR s k)).setIfInBounds k (.int .u16 (rowN (s k) : Int)) = bV n (upR s (k + 1)) := by
  rw [bV_set _ _ _ _ h]
  refine bV_ext fun y x _ _ => ?_
  unfold updR upR
  by_cases e : y = k
  · subst e; simp
  · rw [if_neg e]
    by_cases hy : y < k
    · simp [hy, Nat.lt_succ_of_lt hy]
    · simp [hy, show ¬ y < k + 1 by omega]
theorem upR_all (s : Nat → Nat → Bool) (n : Nat) : bV n (upR s n) = bV n s := bV_ext fun y x hy _ => by simp [upR, hy]

set_option maxRecDepth 100000 in
set_option maxHeartbeats 400000 in
theorem toWeeds_any (s : Nat → Nat → Bool) (w : World) :
    Calls Try.prog 13 #[.agg (bV 10 s)] w fun e w' => e = .returned (.agg (bV 10 s)) ∧ Below w.heap.size w w' := by
  go_enter Try.func13, Try.ntmps13
  go_wp2
  go_loopw [4] (fun i wr => ∃ k : Nat, k ≤ 10 ∧ i = .int .i64 k ∧ Below w.heap.size w wr ∧ Holds wr w.heap.size (bV 10 s) ∧ Holds wr (w.heap.size+1) (bV 10 fun _ _ => false) ∧ Holds wr (w.heap.size+2) (bV 10 (upR s k))) (fun i _ => 10 - (intOf i).toNat)
  case atStart =>
    exact ⟨0, by omega, rfl, (((Below.refl _ _).alloc (Nat.le_refl _) _).alloc (by simp) _).alloc (by simp; omega) _, ((Holds.new _ _ _).alloc _).alloc _, (Holds.new' _ _ _ _ (by simp)).alloc _, by rw [upR_zero]; exact Holds.new' _ _ _ _ (by simp)⟩
  case round =>
    obtain ⟨k, hk, rfl, hb, h1, h2, h3⟩ := hrel
    obtain ⟨-, -, c1, -, l1⟩ := h1.facts
    obtain ⟨r2, f2, -, -, l2⟩ := h2.facts
    obtain ⟨r3, f3, c3, z3, l3⟩ := h3.facts
    by_cases hlt : k < 10
    · go_wp2
      go_roundw
      case rel => exact ⟨k + 1, by omega, by go_num, hb.setCell (by simp; omega) _, h1.setCell_other _ _ (by dsimp only; omega), h2.setCell_other _ _ (by dsimp only; omega), (upR_succ s 10 k hlt) ▸ h3.setCell k _⟩
      case measure => simp [intOf]; omega
    · obtain rfl : k = 10 := by omega
      rw [upR_all] at h3 r3 c3
      go_wp2
      exact bodyPost_ret (v := .agg (bV 10 s)) (results_cell_holds rfl wideWd _ rfl (h2.setRow _) (by simp)) rfl ⟨rfl, below_setRow' hb (by omega) _⟩
theorem results_cell_tmp2_wd {P : Program} {fn : Func} {p u v : Tmp} {ty : TypeId} {n : Nat} (h : fn.results = #[.cell p ty, .tmp u, .tmp v]) (hw : wideB P ty n = true) (tmps : Array Value) {w : World} {g : Nat} {cs : Array Value}
    (hp : tmps.getD p undef = .pointer (some ⟨g, 0, none⟩)) (hg : Holds w g cs) (hn : cs.size = n) : (results fn tmps).run P w = .ok (.tuple #[.agg cs, tmps.getD u undef, tmps.getD v undef]) w := by
  have hp' : tmps[p]?.getD undef = .pointer (some ⟨g, 0, none⟩) := by simpa using hp
  simp [results, h, hp', asAddr, (wide_of hw).loadVar hg hn]
end Go.Proofs.Ytojccgaldadcnaa
