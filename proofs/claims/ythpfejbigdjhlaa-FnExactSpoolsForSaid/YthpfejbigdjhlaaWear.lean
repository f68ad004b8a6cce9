/- Wear by value: five small numbers; when it is valid. -/
import Derived.Test.YthpfejbigdjhlaaSd5
import Derived.Test.YthpfejbigdjhlaaDays
import Derived.Test.YthpfejbigdjhlaaOpen
namespace Go.Proofs.Ythpfejbigdjhlaa
open Go.RowKit Go.ChangeShapes Go.WideShapes Go.ChangeAt
set_option linter.unusedVariables false

/-- The five numbers as values. -/
def wrV (f : Sd) : Array Value := #[.int .i8 (f 0), .int .i8 (f 1), .int .i8 (f 2), .int .i8 (f 3), .int .i8 (f 4)]
@[simp, go_sem] theorem wrV_size (f : Sd) : (wrV f).size = 5 := rfl
theorem wrV_get (f : Sd) (k : Nat) (hk : k < 5) : (wrV f)[k]? = some (.int .i8 (f k)) := by
  have : k = 0 ∨ k = 1 ∨ k = 2 ∨ k = 3 ∨ k = 4 := by omega
  rcases this with rfl | rfl | rfl | rfl | rfl <;> rfl
theorem wrV_set (f : Sd) (k : Nat) (hk : k < 5) (v : Int) : (wrV f).setIfInBounds k (.int .i8 v) = wrV (sdSet f k v) := by
  have : k = 0 ∨ k = 1 ∨ k = 2 ∨ k = 3 ∨ k = 4 := by omega
  rcases this with rfl | rfl | rfl | rfl | rfl <;> simp [wrV, sdSet]
theorem wrV_ext {f g : Sd} (h : ∀ k, k < 5 → f k = g k) : wrV f = wrV g := by
  simp only [wrV, h 0 (by omega), h 1 (by omega), h 2 (by omega), h 3 (by omega), h 4 (by omega)]
theorem wrV_all' (f : Sd) (n : Nat) (h : n = (wrV f).size) : (wrV f).extract 0 n = wrV f := by subst h; exact Array.extract_size
@[go_sem] theorem wrV_all (f : Sd) : (wrV f).extract 0 5 = wrV f := wrV_all' f 5 rfl
@[go_sem] theorem wrV_ones (f : Sd) : Ones (wrV f) = true := by
  refine of_ones fun v hv => ?_
  simp only [wrV, List.mem_cons, List.not_mem_nil, or_false] at hv
  rcases hv with rfl | rfl | rfl | rfl | rfl <;> rfl
@[go_sem] theorem splice_wrV (f g : Sd) : splice (wrV f) 0 (wrV g) = wrV g := splice_all _ _ rfl
section
variable (ρ : Operand → Value) (dst : Option Tmp) (x y : Operand) (t : TypeId) (pos : String) (aft : Array Edge) (g : Option (Nat × Bool)) (w : World)
theorem loadWr : (execOp ρ ⟨dst, .load 45 x, t, pos, aft, g⟩).run Try.prog w = opLoad Try.prog 45 5 (ρ x) w := rfl
theorem storeWr : (execOp ρ ⟨dst, .store 45 x y, t, pos, aft, g⟩).run Try.prog w = opStore Try.prog 45 5 (ρ x) (ρ y) w := rfl
theorem allocWr : (execOp ρ ⟨dst, .alloc 45, t, pos, aft, g⟩).run Try.prog w = .ok (.value (.pointer (some ⟨w.heap.size, 0, none⟩))) (w.alloc (.cells (wrV fun _ => 0) 45)) := by kernel_rfl
end
@[go_sem] theorem wideWr : wideB Try.prog 45 5 = true := by kernel_rfl
@[go_sem] theorem store_Wr (g : Nat) (f f' : Sd) (w : World) : opStoreRow Try.prog 45 5 g 0 (wrV f) true (wrV f') w = .ok .skip (w.setRow g (wrV f')) := by
  rw [opStoreRow_at _ _ _ _ _ _ _ _ wideWr rfl (wrV_ones f') (Nat.le_refl 5), splice_wrV]
@[go_sem] theorem load_Wr (g : Nat) (f : Sd) (w : World) : opLoadRow Try.prog 45 5 g 0 (wrV f) w = .ok (.value (.agg (wrV f))) w := by
  rw [opLoadRow_at _ _ _ _ _ _ _ wideWr (Nat.le_refl 5)]
  rw [Nat.zero_add, wrV_all]
section
variable (ρ : Operand → Value) (dst : Option Tmp) (x y : Operand) (t : TypeId) (pos : String) (aft : Array Edge) (g : Option (Nat × Bool)) (w : World)
theorem loadW5 : (execOp ρ ⟨dst, .load 43 x, t, pos, aft, g⟩).run Try.prog w = opLoad Try.prog 43 5 (ρ x) w := rfl
theorem storeW5 : (execOp ρ ⟨dst, .store 43 x y, t, pos, aft, g⟩).run Try.prog w = opStore Try.prog 43 5 (ρ x) (ρ y) w := rfl
theorem allocW5 : (execOp ρ ⟨dst, .alloc 43, t, pos, aft, g⟩).run Try.prog w = .ok (.value (.pointer (some ⟨w.heap.size, 0, none⟩))) (w.alloc (.cells (wrV fun _ => 0) 43)) := by kernel_rfl
end
@[go_sem] theorem wideW5 : wideB Try.prog 43 5 = true := by kernel_rfl
@[go_sem] theorem store_W5 (g : Nat) (f f' : Sd) (w : World) : opStoreRow Try.prog 43 5 g 0 (wrV f) true (wrV f') w = .ok .skip (w.setRow g (wrV f')) := by
  rw [opStoreRow_at _ _ _ _ _ _ _ _ wideW5 rfl (wrV_ones f') (Nat.le_refl 5), splice_wrV]
@[go_sem] theorem load_W5 (g : Nat) (f : Sd) (w : World) : opLoadRow Try.prog 43 5 g 0 (wrV f) w = .ok (.value (.agg (wrV f))) w := by
  rw [opLoadRow_at _ _ _ _ _ _ _ wideW5 (Nat.le_refl 5)]
  rw [Nat.zero_add, wrV_all]
theorem wr_index0 (f : Sd) (w : World) : (Instr.index 45 (.agg (wrV f)) (.int .i64 ((0 : Nat) : Int))).run Try.prog w = .ok (.int .i8 (f 0)) w := by kernel_rfl
theorem wr_index1 (f : Sd) (w : World) : (Instr.index 45 (.agg (wrV f)) (.int .i64 ((1 : Nat) : Int))).run Try.prog w = .ok (.int .i8 (f 1)) w := by kernel_rfl
theorem wr_index2 (f : Sd) (w : World) : (Instr.index 45 (.agg (wrV f)) (.int .i64 ((2 : Nat) : Int))).run Try.prog w = .ok (.int .i8 (f 2)) w := by kernel_rfl
theorem wr_index3 (f : Sd) (w : World) : (Instr.index 45 (.agg (wrV f)) (.int .i64 ((3 : Nat) : Int))).run Try.prog w = .ok (.int .i8 (f 3)) w := by kernel_rfl
theorem wr_index4 (f : Sd) (w : World) : (Instr.index 45 (.agg (wrV f)) (.int .i64 ((4 : Nat) : Int))).run Try.prog w = .ok (.int .i8 (f 4)) w := by kernel_rfl
theorem wr_index (f : Sd) (k : Nat) (hk : k < 5) (w : World) : (Instr.index 45 (.agg (wrV f)) (.int .i64 k)).run Try.prog w = .ok (.int .i8 (f k)) w := by
  have : k = 0 ∨ k = 1 ∨ k = 2 ∨ k = 3 ∨ k = 4 := by omega
  rcases this with rfl | rfl | rfl | rfl | rfl
  · exact wr_index0 f w
  · exact wr_index1 f w
  · exact wr_index2 f w
  · exact wr_index3 f w
  · exact wr_index4 f w
theorem Holds.wr {w : World} {g : Nat} {f : Sd} (h : Holds w g (wrV f)) (k : Nat) (hk : k < 5) : w.cell? ⟨g, k, none⟩ = some (.int .i8 (f k)) := (h.cell k).trans (wrV_get f k hk)
theorem Holds.setWr {w : World} {g : Nat} {f : Sd} (h : Holds w g (wrV f)) (k : Nat) (hk : k < 5) (v : Int) : Holds (w.setCell ⟨g, k, none⟩ (.int .i8 v)) g (wrV (sdSet f k v)) := by
  have := h.setCell k (.int .i8 v)
  rwa [wrV_set f k hk] at this
/-- The first k numbers of f; 0 behind them. -/
def cutTo (f : Sd) (k : Nat) : Sd := fun j => if j < k then f j else 0
theorem cutTo_zero (f : Sd) : cutTo f 0 = fun _ => 0 := by funext j; simp [cutTo]
theorem cutTo_succ (f : Sd) (k : Nat) : sdSet (cutTo f k) k (f k) = cutTo f (k + 1) := by
  funext j
  unfold sdSet cutTo
  by_cases h : j = k
  · subst h; simp
  · rw [if_neg h]
    by_cases h2 : j < k
    · rw [if_pos h2, if_pos (by omega)]
    · rw [if_neg h2, if_neg (by omega)]
theorem cutTo_all (f : Sd) : wrV (cutTo f 5) = wrV f := wrV_ext fun k hk => by simp [cutTo, hk]
/-- Whether wear is valid. -/
def wearB (f : Sd) : Bool := ((List.range 5).all fun j => inB (f j) 0 100) && f 0 == 0
theorem wearB_not {f : Sd} {k : Nat} (hk : k < 5) (h : inB (f k) 0 100 = false) : wearB f = false := by
  cases e : wearB f with
  | false => rfl
  | true =>
    simp only [wearB, Bool.and_eq_true, List.all_eq_true, List.mem_range] at e
    have := e.1 k hk
    rw [h] at this
    cases this
theorem wearB_all {f : Sd} (h : ∀ j, j < 5 → inB (f j) 0 100 = true) : wearB f = (f 0 == 0) := by
  have e : ((List.range 5).all fun j => inB (f j) 0 100) = true := by simpa using h
  unfold wearB
  rw [e, Bool.true_and]
theorem wearB_true {f : Sd} (h : wearB f = true) : (∀ j, j < 5 → 0 ≤ f j ∧ f j ≤ 100) ∧ f 0 = 0 := by
  simp only [wearB, Bool.and_eq_true, List.all_eq_true, List.mem_range, beq_iff_eq] at h
  exact ⟨fun j hj => inB_true (h.1 j hj), h.2⟩

set_option maxRecDepth 100000 in
theorem open_wear {H : Type} {enc : TypeId × Value → H} {W : World} {sp : Nat → Bool} {held : Bool} {v : Value} {d : DataW H} {p : List MemPlace} {r : Reach} {b : Nat}
    (hv : Value.okWide Try.prog W r b 43 v) (h : DataW.Trod enc Try.prog W 0 sp held 43 v d p) : ∃ f : Sd, v = .agg (wrV f) ∧ ∀ k, k < 5 → -128 ≤ f k ∧ f k ≤ 127 := by
  have hu : Try.prog.underlying 43 = some (.array 5 22) := Try.underlying43
  have hc : Try.prog.cellsOf 43 = 5 := by kernel_rfl
  simp only [Value.okWide, hu] at hv
  obtain ⟨cs, rfl, hsz, -⟩ := hv
  rw [hc] at hsz
  obtain ⟨fuel, hf⟩ := h
  have hk := trod_ints hu Try.underlying22 cellsI8 hf
  simp only [Value.cells, Array.getElem?_toList] at hk
  refine ⟨fun j => numAt cs j, ?_, fun k hk5 => ?_⟩
  · refine congrArg Value.agg ?_
    apply Array.ext_getElem?
    intro j
    by_cases hj : j < 5
    · rw [wrV_get _ j hj]
      obtain ⟨z, hz, -⟩ := hk j hj
      rw [hz]
      simp [numAt, hz]
    · rw [Array.getElem?_eq_none (by omega), Array.getElem?_eq_none (by simp; omega)]
  · obtain ⟨z, hz, hw⟩ := hk k hk5
    have := wf_i8 hw
    simpa [numAt, hz] using this

attribute [local go_sem ↓] loadWr storeWr allocWr loadW5 storeW5 allocW5
theorem inB_up (n : Int) : upB n 100 = inB n 0 100 := rfl

set_option maxRecDepth 100000 in
set_option maxHeartbeats 1000000 in
theorem toWear_any (f : Sd) (w : World) :
    Calls Try.prog 27 #[.agg (wrV f)] w fun e w' => e = .returned (.agg (wrV f)) ∧ Below w.heap.size w w' := by
  go_enter Try.func27, Try.ntmps27
  go_wp2_with fail
  obtain ⟨W0, hW0⟩ : ∃ W0, ((w.alloc (.cells (wrV f) 43)).alloc (.cells (wrV fun _ => 0) 45)).alloc (.cells (wrV fun _ => 0) 45) = W0 := ⟨_, rfl⟩
  have g0 : Holds W0 w.heap.size (wrV f) := by rw [← hW0]; exact ((Holds.new _ _ _).alloc _).alloc _
  have g1 : Holds W0 (w.heap.size + 1) (wrV fun _ => 0) := by rw [← hW0]; exact (Holds.new' _ _ _ _ (by simp)).alloc _
  have g2 : Holds W0 (w.heap.size + 1 + 1) (wrV fun _ => 0) := by rw [← hW0]; exact Holds.new' _ _ _ _ (by simp)
  have hb0 : Below w.heap.size w W0 := by rw [← hW0]; exact (((Below.refl w.heap.size w).alloc (Nat.le_refl _) _).alloc (by simp) _).alloc (by simp; omega) _
  rw [hW0]
  obtain ⟨s, hs⟩ : ∃ s, w.heap.size = s := ⟨_, rfl⟩
  rw [hs] at g0 g1 g2 hb0 ⊢
  have HS := Lib.hid hs
  clear hs hW0
  go_loopw [4] (fun q wr => ∃ k : Nat, k ≤ 5 ∧ q = .int .i64 k ∧ Holds wr s (wrV f) ∧ Holds wr (s + 1) (wrV fun _ => 0) ∧ Holds wr (s + 1 + 1) (wrV (cutTo f k)) ∧ Below s w wr) (fun q _ => 5 - (intOf q).toNat)
  case atStart => exact ⟨0, by omega, rfl, g0, g1, by rw [cutTo_zero]; exact g2, hb0⟩
  case round =>
    obtain ⟨k, hk, rfl, k0, k1, k2, hb⟩ := hrel
    clear g0 g1 g2 hb0
    by_cases hlt : k < 5
    · have hd : decide ((k : Int) < (5 : Int)) = true := by simp; omega
      have cf := k0.wr k hlt
      have ck := k2.wr k hlt
      obtain ⟨-, -, -, fr, hl⟩ := k2.facts
      go_wp2_with fail
      go_roundw
      case rel =>
        refine ⟨k + 1, by omega, by go_num, k0.setCell_other _ _ (by dsimp only; omega), k1.setCell_other _ _ (by dsimp only; omega), ?_, hb.setCell (p := ⟨s + 1 + 1, k, none⟩) (by dsimp only; omega) _⟩
        rw [← cutTo_succ]
        exact k2.setWr k hlt _
      case measure => simp [intOf]; omega
    · obtain rfl : k = 5 := by omega
      have hd : decide (((5 : Nat) : Int) < (5 : Int)) = false := by decide
      rw [cutTo_all] at k2
      have r0 := k2.row
      obtain ⟨rr, fr, -, -, -⟩ := k1.facts
      have HR := Lib.hid (k1.setRow (wrV f))
      have HB := Lib.hid hb
      go_wp2_with fail
      exact bodyPost_ret (results_cell_holds (n := 5) rfl (by kernel_rfl) _ rfl HR.out rfl) rfl ⟨rfl, by have := HS.out; subst this; exact below_setRow HB.out _ (by omega) _⟩

set_option maxRecDepth 100000 in
set_option maxHeartbeats 1000000 in
theorem implWear_any (f : Sd) (w : World) :
    Calls Try.prog 28 #[.agg (wrV f)] w fun e w' => e = .returned (.bool (wearB f)) ∧ Below w.heap.size w w' := by
  go_enter Try.func28, Try.ntmps28
  go_wp2_with fail
  have g0 := Holds.new w (wrV f) 45
  have hb0 := (Below.refl w.heap.size w).alloc (Nat.le_refl _) (.cells (wrV f) 45)
  obtain ⟨W0, hW0⟩ : ∃ W0, w.alloc (.cells (wrV f) 45) = W0 := ⟨_, rfl⟩
  rw [hW0] at g0 hb0 ⊢
  clear hW0
  go_loopw [6] (fun q wr => ∃ k : Nat, k ≤ 5 ∧ q = .int .i64 k ∧ wr = W0 ∧ ∀ j, j < k → inB (f j) 0 100 = true) (fun q _ => 5 - (intOf q).toNat)
  case atStart => exact ⟨0, by omega, rfl, rfl, fun j hj => by omega⟩
  case round =>
    obtain ⟨k, hk, rfl, rfl, hok⟩ := hrel
    have HOK := Lib.hid hok
    clear hok
    by_cases hlt : k < 5
    · have hd : decide ((k : Int) < (5 : Int)) = true := by simp; omega
      have hix := wr_index f k hlt
      cases hin : inB (f k) 0 100
      case true =>
        have HIN := Lib.hid hin
        have HU := Lib.hid (upto8_is (f k) 100 true ((inB_up _).trans hin))
        clear hin
        go_wp2_with (go_at_call 65; refine (HU.out _).mono ?_; rintro e w2 ⟨rfl, rfl⟩)
        go_roundw
        case rel => exact ⟨k + 1, by omega, by go_num, trivial, fun j hj => by
          by_cases e : j = k
          · subst e; exact HIN.out
          · exact HOK.out j (by omega)⟩
        case measure => simp [intOf]; omega
      case false =>
        have HF := Lib.hid (wearB_not hlt hin)
        have HU := Lib.hid (upto8_is (f k) 100 false ((inB_up _).trans hin))
        clear hin
        go_wp2_with (go_at_call 65; refine (HU.out _).mono ?_; rintro e w2 ⟨rfl, rfl⟩)
        go_ret
        exact ⟨by rw [HF.out]; rfl, hb0⟩
    · obtain rfl : k = 5 := by omega
      have hd : decide (((5 : Nat) : Int) < (5 : Int)) = false := by decide
      have c0 := g0.wr 0 (by omega)
      have HF := Lib.hid (wearB_all HOK.out)
      go_wp2_with fail
      go_ret
      exact ⟨by rw [HF.out]; rfl, hb0⟩

set_option maxRecDepth 100000 in
set_option maxHeartbeats 1000000 in
theorem l05Wear_any (f : Sd) (hf : ∀ k, k < 5 → -128 ≤ f k ∧ f k ≤ 127) (b : Nat) (w : World) (h : Holds w b (wrV f)) :
    Calls Try.prog 64 #[.pointer (some ⟨b, 0, none⟩)] w fun e w' => e = .returned (.bool (wearB f)) ∧ w' = w := by
  have HF := Lib.hid hf
  have hl := h.lt
  clear hf
  go_enter Try.func64, Try.ntmps64
  go_wp2_with fail
  go_loopw [3] (fun q wr => ∃ k : Nat, k ≤ 5 ∧ q = .int .i64 k ∧ wr = w ∧ ∀ j, j < k → inB (f j) 0 100 = true) (fun q _ => 5 - (intOf q).toNat)
  case atStart => exact ⟨0, by omega, rfl, rfl, fun j hj => by omega⟩
  case round =>
    obtain ⟨k, hk, rfl, rfl, hok⟩ := hrel
    have HOK := Lib.hid hok
    clear hok
    by_cases hlt : k < 5
    · have hd : decide ((k : Int) < (5 : Int)) = true := by simp; omega
      have cf := h.wr k hlt
      have bk := HF.out k hlt
      have hwr : IntKind.i64.wrap (f k) = f k := IntWalk.i64_in _ (by omega)
      cases hin : inB (f k) 0 100
      case true =>
        have HIN := Lib.hid hin
        clear hin
        go_wp2_with (go_at_call 96; refine (in_yes _ _ _ _ HIN.out).mono ?_; rintro e w2 ⟨rfl, rfl⟩)
        go_roundw
        case rel => exact ⟨k + 1, by omega, by go_num, trivial, fun j hj => by
          by_cases e : j = k
          · subst e; exact HIN.out
          · exact HOK.out j (by omega)⟩
        case measure => simp [intOf]; omega
      case false =>
        have HN := Lib.hid (wearB_not hlt hin)
        have HIN := Lib.hid hin
        clear hin
        go_wp2_with (go_at_call 96; refine (in_no _ _ _ _ HIN.out).mono ?_; rintro e w2 ⟨rfl, rfl⟩)
        go_ret
        exact ⟨by rw [HN.out]; rfl, rfl⟩
    · obtain rfl : k = 5 := by omega
      have hd : decide (((5 : Nat) : Int) < (5 : Int)) = false := by decide
      have c0 := h.wr 0 (by omega)
      have HA := Lib.hid (wearB_all HOK.out)
      go_wp2_with fail
      go_ret
      exact ⟨by rw [HA.out]; rfl, rfl⟩

set_option maxRecDepth 100000 in
set_option maxHeartbeats 1000000 in
theorem specWear_any (f : Sd) (hf : ∀ k, k < 5 → -128 ≤ f k ∧ f k ≤ 127) (w : World) :
    Calls Try.prog 26 #[.agg (wrV f)] w fun e w' => e = .returned (.bool (wearB f)) ∧ Below w.heap.size w w' := by
  have HW := Lib.hid (l05Wear_any f hf)
  clear hf
  go_enter Try.func26, Try.ntmps26
  go_wp2_with fail
  refine (HW.out _ _ (Holds.new _ _ _)).mono ?_
  rintro e w1 ⟨rfl, rfl⟩
  go_wp2_with fail
  go_ret
  exact ⟨rfl, (Below.refl w.heap.size w).alloc (Nat.le_refl _) _⟩

set_option maxRecDepth 100000 in
set_option maxHeartbeats 1000000 in
theorem exactValidWear (f : Sd) (hf : ∀ k, k < 5 → -128 ≤ f k ∧ f k ≤ 127) (w : World) :
    Calls Try.prog 7 #[.agg (wrV f)] w fun e w' => e = .returned (.bool true) ∧ Below w.heap.size w w' := by
  have HI := Lib.hid (implWear_any f)
  have HS := Lib.hid (specWear_any f hf)
  obtain ⟨v, hv⟩ : ∃ v, wearB f = v := ⟨_, rfl⟩
  rw [hv] at HI HS
  clear hf hv
  go_enter Try.func7, Try.ntmps7
  go_wp2_with fail
  have g0 := Holds.new w (wrV f) 43
  have hb := (Below.refl w.heap.size w).alloc (Nat.le_refl _) (.cells (wrV f) 43)
  obtain ⟨W, hW⟩ : ∃ W, w.alloc (.cells (wrV f) 43) = W := ⟨_, rfl⟩
  rw [hW] at g0 hb ⊢
  clear hW
  refine (toWear_any _ _).mono ?_
  rintro e w1 ⟨rfl, hb1⟩
  go_wp2_with fail
  refine (HS.out _).mono ?_
  rintro e w2 ⟨rfl, hb2⟩
  have hb3 := below_onto hb1 hb2
  have hb4 := below_onto hb hb3
  have g1 := g0.below hb3 g0.lt
  obtain ⟨r1, -, -, -, -⟩ := g1.facts
  clear hb hb1 hb2 hb3 g0
  go_wp2_with fail
  refine (toWear_any _ _).mono ?_
  rintro e w3 ⟨rfl, hb1⟩
  go_wp2_with fail
  refine (HI.out _).mono ?_
  rintro e w4 ⟨rfl, hb2⟩
  have hb5 := below_onto hb4 (below_onto hb1 hb2)
  clear hb1 hb2 hb4 g1 r1
  cases v
  all_goals
    go_wp2_with fail
    go_ret
    exact ⟨rfl, hb5⟩
end Go.Proofs.Ythpfejbigdjhlaa
