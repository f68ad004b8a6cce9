/- Levels: rows and grids of small numbers that may be less than 0, by value; how a law's levels are read, copied and compared. -/
import Derived.Test.YthfhpcigjnjkdaaDoorZA
import Derived.Test.YthfhpcigjnjkdaaDoorOpen
import Derived.Test.YthfhpcigjnjkdaaDoorZH
namespace Go.Proofs.YthfhpcigjnjkdaaDoor
open Go.RowKit Go.ChangeShapes Go.WideShapes Go.ChangeAt
set_option linter.unusedVariables false

def srow (n : Nat) (f : Nat → Int) : Array Value := ((List.range n).map fun j => Value.int .i8 (f j)).toArray
@[simp, go_sem] theorem srow_size (n : Nat) (f : Nat → Int) : (srow n f).size = n := by simp [srow]
@[go_sem] theorem srow_get (n : Nat) (f : Nat → Int) (j : Nat) (h : j < n) : (srow n f)[j]? = some (.int .i8 (f j)) := by simp [srow, h]
@[go_sem] theorem srow_at (n : Nat) (f : Nat → Int) (j : Nat) (h : j < (srow n f).size) : (srow n f)[j] = .int .i8 (f j) := by
  have := srow_get n f j (by simpa using h)
  rw [Array.getElem?_eq_getElem h] at this; exact Option.some.inj this
@[go_sem] theorem srow_ones (n : Nat) (f : Nat → Int) : Ones (srow n f) = true := by
  refine of_ones fun v hv => ?_; simp [srow] at hv; obtain ⟨j, _, rfl⟩ := hv; rfl
theorem srow_ext {n : Nat} {f g : Nat → Int} (h : ∀ j, j < n → f j = g j) : srow n f = srow n g := by
  unfold srow; congr 1; apply List.map_congr_left; intro j hj; rw [h j (by simpa using hj)]
theorem srow_of {cs : Array Value} {n : Nat} {f : Nat → Int} (hs : cs.size = n) (h : ∀ j, j < n → cs[j]? = some (.int .i8 (f j))) : cs = srow n f := by
  apply Array.ext_getElem?
  intro j
  by_cases hj : j < n
  · rw [h j hj, srow_get n f j hj]
  · rw [Array.getElem?_eq_none (by omega), Array.getElem?_eq_none (by simp; omega)]

theorem srow_upTo (n : Nat) (f : Nat → Int) (k : Nat) (h : k < n) : (srow n (upTo f k)).setIfInBounds k (.int .i8 (f k)) = srow n (upTo f (k + 1)) := by
  apply srow_of
  · simp
  · intro j hj
    rw [Array.getElem?_setIfInBounds]
    by_cases e : k = j
    · subst e; simp [h, upTo]
    · rw [if_neg e, srow_get _ _ _ hj]
      simp only [upTo]
      by_cases hk : j < k
      · rw [if_pos hk, if_pos (by omega)]
      · rw [if_neg hk, if_neg (by omega)]
theorem srow_upTo_all (n : Nat) (f : Nat → Int) : srow n (upTo f n) = srow n f := srow_ext fun j hj => by simp [upTo, hj]

/-- Levels: 10 by 10 small numbers, of which each may be less than 0. -/
def levV (g : Nat → Nat → Int) : Array Value := srow 100 fun j => g (j / 10) (j % 10)
@[simp, go_sem] theorem levV_size (g : Nat → Nat → Int) : (levV g).size = 100 := by simp [levV]
@[go_sem] theorem levV_row (g : Nat → Nat → Int) (k : Nat) (h : k < 10) : (levV g).extract (k * 10) (k * 10 + 10) = srow 10 (g k) := by
  apply srow_of
  · simp; omega
  · intro j hj
    rw [Array.getElem?_extract, if_pos (by simp; omega)]
    unfold levV
    rw [srow_get _ _ _ (by omega), show (k * 10 + j) / 10 = k by omega, show (k * 10 + j) % 10 = j by omega]
@[go_sem] theorem srow_all (n : Nat) (f : Nat → Int) : (srow n f).extract 0 n = srow n f := by
  simp
@[go_sem] theorem levV_all (g : Nat → Nat → Int) : (levV g).extract 0 100 = levV g := srow_all 100 _
@[go_sem] theorem levV_get (g : Nat → Nat → Int) (k j : Nat) (h : k < 10) (hj : j < 10) : (levV g)[k * 10 + j]? = some (.int .i8 (g k j)) := by
  unfold levV
  rw [srow_get _ _ _ (by omega), show (k * 10 + j) / 10 = k by omega, show (k * 10 + j) % 10 = j by omega]
@[go_sem] theorem levV_at (g : Nat → Nat → Int) (k j : Nat) (h : k < 10) (hj : j < 10) (hh : k * 10 + j < (levV g).size) : (levV g)[k * 10 + j] = .int .i8 (g k j) := by
  have := levV_get g k j h hj
  rw [Array.getElem?_eq_getElem hh] at this; exact Option.some.inj this
theorem levV_ext {g g' : Nat → Nat → Int} (h : ∀ y x, y < 10 → x < 10 → g y x = g' y x) : levV g = levV g' := srow_ext fun j hj => h _ _ (by omega) (by omega)
theorem levV_rowsTo (g : Nat → Nat → Int) (k : Nat) (h : k < 10) : splice (levV (rowsTo g k)) (k * 10) (srow 10 (g k)) = levV (rowsTo g (k + 1)) := by
  unfold levV
  apply srow_of
  · rw [splice_size _ _ _ (by simp; omega)]; simp
  · intro j hj
    rw [splice_get _ _ _ (by simp; omega)]
    by_cases e : k * 10 ≤ j ∧ j < k * 10 + 10
    · rw [if_pos (by simpa using e), srow_get _ _ _ (by omega)]
      rw [show j / 10 = k by omega, show j % 10 = j - k * 10 by omega]
      simp [rowsTo]
    · rw [if_neg (by simpa using e), srow_get _ _ _ hj]
      simp only [rowsTo]
      by_cases hk : j / 10 < k
      · rw [if_pos hk, if_pos (by omega)]
      · rw [if_neg hk, if_neg (by omega)]
theorem levV_rowsTo_all (g : Nat → Nat → Int) : levV (rowsTo g 10) = levV g := levV_ext fun y x hy _ => by simp [rowsTo, hy]
@[go_sem] theorem levV_ones (g : Nat → Nat → Int) : Ones (levV g) = true := srow_ones _ _


theorem levV_set (g : Nat → Nat → Int) (y x : Nat) (v : Int) (hy : y < 10) (hx : x < 10) : (levV g).setIfInBounds (y * 10 + x) (.int .i8 v) = levV (upd g y x v) := by
  unfold levV
  apply srow_of
  · simp
  · intro j hj
    rw [Array.getElem?_setIfInBounds]
    by_cases e : y * 10 + x = j
    · subst e
      rw [if_pos rfl, if_pos (by simp; omega)]
      rw [show (y * 10 + x) / 10 = y by omega, show (y * 10 + x) % 10 = x by omega]
      simp [upd]
    · rw [if_neg e, srow_get _ _ _ hj]
      have hne : ¬ (j / 10 = y ∧ j % 10 = x) := fun h => e (by omega)
      simp [upd, hne]
@[go_sem] theorem splice_lev (g h : Nat → Nat → Int) : splice (levV g) 0 (levV h) = levV h := splice_all _ _ (by simp)

@[go_sem] theorem wideR8 : wideB Tryd.prog 60 10 = true := by kernel_rfl
@[go_sem] theorem wideL8 : wideB Tryd.prog 61 100 = true := by kernel_rfl
@[go_sem] theorem wideLv : wideB Tryd.prog 64 100 = true := by kernel_rfl
section
variable (ρ : Operand → Value) (dst : Option Tmp) (x y : Operand) (t : TypeId) (pos : String) (aft : Array Edge) (g : Option (Nat × Bool)) (w : World)
theorem loadR8 : (execOp ρ ⟨dst, .load 60 x, t, pos, aft, g⟩).run Tryd.prog w = opLoad Tryd.prog 60 10 (ρ x) w := rfl
theorem loadR8' (q : Option Nat) : (Oper.semAt q ρ ⟨dst, .load 60 x, t, pos, aft, g⟩).run Tryd.prog w = opLoad Tryd.prog 60 10 (ρ x) w := by
  have h : Oper.semAt q ρ ⟨dst, .load 60 x, t, pos, aft, g⟩ = execOp ρ ⟨dst, .load 60 x, t, pos, aft, g⟩ := by cases q <;> rfl
  rw [h, loadR8]
theorem storeR8 : (execOp ρ ⟨dst, .store 60 x y, t, pos, aft, g⟩).run Tryd.prog w = opStore Tryd.prog 60 10 (ρ x) (ρ y) w := rfl
theorem storeR8' (q : Option Nat) : (Oper.semAt q ρ ⟨dst, .store 60 x y, t, pos, aft, g⟩).run Tryd.prog w = opStore Tryd.prog 60 10 (ρ x) (ρ y) w := by
  have h : Oper.semAt q ρ ⟨dst, .store 60 x y, t, pos, aft, g⟩ = execOp ρ ⟨dst, .store 60 x y, t, pos, aft, g⟩ := by cases q <;> rfl
  rw [h, storeR8]
set_option maxRecDepth 100000 in
theorem allocR8 : (execOp ρ ⟨dst, .alloc 60, t, pos, aft, g⟩).run Tryd.prog w = .ok (.value (.pointer (some ⟨w.heap.size, 0, none⟩))) (w.alloc (.cells (srow 10 fun _ => 0) 60)) := by kernel_rfl
theorem allocR8' (q : Option Nat) : (Oper.semAt q ρ ⟨dst, .alloc 60, t, pos, aft, g⟩).run Tryd.prog w = .ok (.value (.pointer (some ⟨w.heap.size, 0, none⟩))) (w.alloc (.cells (srow 10 fun _ => 0) 60)) := by
  have h : Oper.semAt q ρ ⟨dst, .alloc 60, t, pos, aft, g⟩ = execOp ρ ⟨dst, .alloc 60, t, pos, aft, g⟩ := by cases q <;> rfl
  rw [h, allocR8]
theorem loadL8 : (execOp ρ ⟨dst, .load 61 x, t, pos, aft, g⟩).run Tryd.prog w = opLoad Tryd.prog 61 100 (ρ x) w := rfl
theorem loadL8' (q : Option Nat) : (Oper.semAt q ρ ⟨dst, .load 61 x, t, pos, aft, g⟩).run Tryd.prog w = opLoad Tryd.prog 61 100 (ρ x) w := by
  have h : Oper.semAt q ρ ⟨dst, .load 61 x, t, pos, aft, g⟩ = execOp ρ ⟨dst, .load 61 x, t, pos, aft, g⟩ := by cases q <;> rfl
  rw [h, loadL8]
theorem loadLv : (execOp ρ ⟨dst, .load 64 x, t, pos, aft, g⟩).run Tryd.prog w = opLoad Tryd.prog 64 100 (ρ x) w := rfl
theorem loadLv' (q : Option Nat) : (Oper.semAt q ρ ⟨dst, .load 64 x, t, pos, aft, g⟩).run Tryd.prog w = opLoad Tryd.prog 64 100 (ρ x) w := by
  have h : Oper.semAt q ρ ⟨dst, .load 64 x, t, pos, aft, g⟩ = execOp ρ ⟨dst, .load 64 x, t, pos, aft, g⟩ := by cases q <;> rfl
  rw [h, loadLv]
theorem storeLv : (execOp ρ ⟨dst, .store 64 x y, t, pos, aft, g⟩).run Tryd.prog w = opStore Tryd.prog 64 100 (ρ x) (ρ y) w := rfl
theorem storeLv' (q : Option Nat) : (Oper.semAt q ρ ⟨dst, .store 64 x y, t, pos, aft, g⟩).run Tryd.prog w = opStore Tryd.prog 64 100 (ρ x) (ρ y) w := by
  have h : Oper.semAt q ρ ⟨dst, .store 64 x y, t, pos, aft, g⟩ = execOp ρ ⟨dst, .store 64 x y, t, pos, aft, g⟩ := by cases q <;> rfl
  rw [h, storeLv]
set_option maxRecDepth 100000 in
theorem allocLv : (execOp ρ ⟨dst, .alloc 64, t, pos, aft, g⟩).run Tryd.prog w = .ok (.value (.pointer (some ⟨w.heap.size, 0, none⟩))) (w.alloc (.cells (levV fun _ _ => 0) 64)) := by kernel_rfl
theorem allocLv' (q : Option Nat) : (Oper.semAt q ρ ⟨dst, .alloc 64, t, pos, aft, g⟩).run Tryd.prog w = .ok (.value (.pointer (some ⟨w.heap.size, 0, none⟩))) (w.alloc (.cells (levV fun _ _ => 0) 64)) := by
  have h : Oper.semAt q ρ ⟨dst, .alloc 64, t, pos, aft, g⟩ = execOp ρ ⟨dst, .alloc 64, t, pos, aft, g⟩ := by cases q <;> rfl
  rw [h, allocLv]
set_option maxRecDepth 100000 in
theorem buildZLv : (execOp ρ ⟨dst, .build 64 #[], t, pos, aft, g⟩).run Tryd.prog w = .ok (.value (.agg (levV fun _ _ => 0))) w := by kernel_rfl
theorem buildZLv' (q : Option Nat) : (Oper.semAt q ρ ⟨dst, .build 64 #[], t, pos, aft, g⟩).run Tryd.prog w = .ok (.value (.agg (levV fun _ _ => 0))) w := by
  have h : Oper.semAt q ρ ⟨dst, .build 64 #[], t, pos, aft, g⟩ = execOp ρ ⟨dst, .build 64 #[], t, pos, aft, g⟩ := by cases q <;> rfl
  rw [h, buildZLv]
end

section
variable {P : Program} (w : World)
theorem eqItems_r8 (d : Nat) {e : TypeId} (he : P.underlying e = some (.int .i8)) (n : Nat) (f g : Nat → Int) : ∀ (is : List Nat), (∀ i ∈ is, i < n) →
    (Op.eqItems (d + 1) e 1 (srow n f) (srow n g) is).run P w = .ok (is.all fun i => f i == g i) w
  | [], _ => by simp [Op.eqItems]
  | i :: is, h => by
    have hi := h i (by simp)
    have ih := eqItems_r8 d he n f g is (fun j hj => h j (by simp [hj]))
    simp only [Op.eqItems, Sem.run_bind, Nat.mul_one, run_part_one w he _ _ _ (srow_get n f i hi), run_part_one w he _ _ _ (srow_get n g i hi), Result.andThen_ok, run_equalIn_int w d e .i8 .i8 (f i) (g i) he]
    cases hq : (f i == g i)
    · simp [hq]
    · simp [hq, ih]
theorem equal_r8 (d : Nat) {t e : TypeId} (ht : P.underlying t = some (.array 10 e)) (he : P.underlying e = some (.int .i8)) (hc : P.cellsOf e = 1) (f g : Nat → Int) :
    (Op.equalIn (d + 2) t (.agg (srow 10 f)) (.agg (srow 10 g))).run P w = .ok (rowEq 10 f g) w := by
  obtain ⟨i, hi⟩ := info_of_underlying he
  rw [show d + 2 = (d + 1) + 1 from rfl, run_equalIn_array w (d + 1) _ _ ht hi, hc]
  exact eqItems_r8 w d he 10 f g _ (fun i hi => by simpa using hi)
theorem eqItems_lev (d : Nat) {t e : TypeId} (hw : wideB P t 10 = true) (ht : P.underlying t = some (.array 10 e)) (he : P.underlying e = some (.int .i8)) (hc : P.cellsOf e = 1) (g h : Nat → Nat → Int) : ∀ (is : List Nat), (∀ i ∈ is, i < 10) →
    (Op.eqItems (d + 2) t 10 (levV g) (levV h) is).run P w = .ok (is.all fun i => rowEq 10 (g i) (h i)) w
  | [], _ => by simp [Op.eqItems]
  | i :: is, hh => by
    have hi := hh i (by simp)
    have ih := eqItems_lev d hw ht he hc g h is (fun j hj => hh j (by simp [hj]))
    simp only [Op.eqItems, Sem.run_bind, run_part_wide w hw, levV_row _ i hi, Result.andThen_ok, equal_r8 w d ht he hc]
    cases hq : rowEq 10 (g i) (h i)
    · simp [hq]
    · simp [hq, ih]
theorem equal_lev (d : Nat) {s t e : TypeId} (hs : P.underlying s = some (.array 10 t)) (cs : P.cellsOf t = 10) (hw : wideB P t 10 = true) (ht : P.underlying t = some (.array 10 e)) (he : P.underlying e = some (.int .i8)) (hc : P.cellsOf e = 1) (g h : Nat → Nat → Int) :
    (Op.equalIn (d + 3) s (.agg (levV g)) (.agg (levV h))).run P w = .ok (gridEq g h) w := by
  obtain ⟨⟨i, hi, _⟩, _⟩ := wide_of hw
  rw [show d + 3 = (d + 2) + 1 from rfl, run_equalIn_array w (d + 2) _ _ hs hi, cs]
  exact eqItems_lev w d hw ht he hc g h _ (fun i hi => by simpa using hi)
end
section
variable (ρ : Operand → Value) (dst : Option Tmp) (x y : Operand) (t : TypeId) (pos : String) (aft : Array Edge) (g : Option (Nat × Bool)) (w : World)
theorem eqlLv : (execOp ρ ⟨dst, .binOp .eql 64 x y 64, t, pos, aft, g⟩).run Tryd.prog w = opEql Tryd.prog 64 x y (ρ x) (ρ y) w := rfl
theorem eqlLv' (q : Option Nat) : (Oper.semAt q ρ ⟨dst, .binOp .eql 64 x y 64, t, pos, aft, g⟩).run Tryd.prog w = opEql Tryd.prog 64 x y (ρ x) (ρ y) w := by
  have h : Oper.semAt q ρ ⟨dst, .binOp .eql 64 x y 64, t, pos, aft, g⟩ = execOp ρ ⟨dst, .binOp .eql 64 x y 64, t, pos, aft, g⟩ := by cases q <;> rfl
  rw [h, eqlLv]
end
theorem guardLv : Tryd.prog.eqGuardType Tryd.prog.depth 64 = false := by kernel_rfl
theorem cellsR8' : Tryd.prog.cellsOf 60 = 10 := by kernel_rfl
theorem cellsI8' : Tryd.prog.cellsOf 22 = 1 := by kernel_rfl
@[go_sem] theorem eqlLv_at (x y : Operand) (g h : Nat → Nat → Int) (w : World) : opEql Tryd.prog 64 x y (.agg (levV g)) (.agg (levV h)) w = .ok (.value (.bool (gridEq g h))) w := by
  have he := equal_lev (P := Tryd.prog) w 9997 Tryd.underlying64 cellsR8' wideR8 Tryd.underlying60 Tryd.underlying22 cellsI8' g h
  simp only [opEql, Sem.run_bind, run_eqGuard_agg (P := Tryd.prog) w .eql _ x y _ _ guardLv, Result.andThen_ok, run_eql_struct (P := Tryd.prog) w]
  rw [show (10000 : Nat) = 9997 + 3 from rfl, he]
  rfl

theorem cellsR8 : Tryd.prog.cellsOf 60 = 10 := by kernel_rfl
theorem cellsL8 : Tryd.prog.cellsOf 61 = 100 := by kernel_rfl
theorem cellsLv : Tryd.prog.cellsOf 64 = 100 := by kernel_rfl
/-- Levels that fit into int8. -/
def LevFits (g : Nat → Nat → Int) : Prop := ∀ y x, y < 10 → x < 10 → -128 ≤ g y x ∧ g y x ≤ 127
set_option maxRecDepth 100000 in
theorem open_levels {H : Type} {enc : TypeId × Value → H} {W : World} {sp : Nat → Bool} {held : Bool} {v : Value} {d : DataW H} {p : List MemPlace} {r : Reach} {b : Nat}
    (hv : Value.okWide Tryd.prog W r b 61 v) (h : DataW.Trod enc Tryd.prog W 0 sp held 61 v d p) : ∃ f : Nat → Nat → Int, v = .agg (levV f) ∧ LevFits f := by
  have hu : Tryd.prog.underlying 61 = some (.array 10 60) := Tryd.underlying61
  simp only [Value.okWide, hu] at hv
  obtain ⟨cs, rfl, hsz, -⟩ := hv
  rw [cellsL8] at hsz
  obtain ⟨fuel, hf⟩ := h
  obtain ⟨ys, m', rfl, -, -, hn', hy⟩ := DataW.trod_array hu hf
  have hk : ∀ k j, k < 10 → j < 10 → ∃ z, cs[k * 10 + j]? = some (.int .i8 z) ∧ (Lit.int .i8 z).wf = true := by
    intro k j hk hj
    have h3 := hy k hk
    rw [cellsR8, List.getElem?_eq_getElem (by omega)] at h3
    obtain ⟨z, hz, hw⟩ := trod_ints Tryd.underlying60 Tryd.underlying22 cellsI8 h3 j hj
    refine ⟨z, ?_, hw⟩
    rw [List.getElem?_take, if_pos hj, List.getElem?_drop] at hz
    simpa [Value.cells] using hz
  refine ⟨fun y x => numAt cs (y * 10 + x), ?_, fun y x hy hx => ?_⟩
  · refine congrArg Value.agg ?_
    apply srow_of hsz
    intro j hj
    obtain ⟨z, hz, -⟩ := hk (j / 10) (j % 10) (by omega) (by omega)
    rw [show j / 10 * 10 + j % 10 = j by omega] at hz
    rw [hz]
    simp only [numAt]
    rw [show j / 10 * 10 + j % 10 = j by omega, hz]
  · obtain ⟨z, hz, hw⟩ := hk y x hy hx
    have := wf_i8 hw
    simpa [numAt, hz] using this
attribute [local go_sem ↓] loadRow loadGrid loadLawn loadMirror storeRow storeGrid storeLawn allocRow allocGrid allocLawn buildZero buildSides loadR8 loadL8 loadLv storeR8 storeLv allocR8 allocLv buildZLv

set_option maxHeartbeats 400000 in
theorem eqR8_same (f : Nat → Int) (w : World) :
    Calls Tryd.prog 99 #[.agg (srow 10 f), .agg (srow 10 f)] w fun e w' => e = .returned (.bool true) ∧ Below w.heap.size w w' := by
  go_enter Tryd.func99, Tryd.ntmps99
  go_wp2
  go_loopw [5] (fun i wr => ∃ k : Nat, k ≤ 10 ∧ i = .int .i64 k ∧ Below w.heap.size w wr ∧ Holds wr w.heap.size (srow 10 f) ∧ Holds wr (w.heap.size+1) (srow 10 f)) (fun i _ => 10 - (intOf i).toNat)
  case atStart =>
    exact ⟨0, by omega, rfl, ((Below.refl _ _).alloc (Nat.le_refl _) _).alloc (by simp) _, (Holds.new _ _ _).alloc _, Holds.new' _ _ _ _ (by simp)⟩
  case round =>
    obtain ⟨k, hk, rfl, hb, h1, h2⟩ := hrel
    obtain ⟨-, -, c1, -, -⟩ := h1.facts
    obtain ⟨-, -, c2, -, -⟩ := h2.facts
    by_cases hlt : k < 10
    · go_wp2
      go_quiet (fail)
      all_goals go_wp2
      go_roundw
      case rel => exact ⟨k + 1, by omega, by go_num, below_drewN hb _, h1.drewN _, h2.drewN _⟩
      case measure => simp [intOf]; omega
    · go_wp2
      go_ret
      exact ⟨rfl, hb⟩

set_option maxRecDepth 100000 in
set_option maxHeartbeats 400000 in
theorem eqLev_same (g : Nat → Nat → Int) (w : World) :
    Calls Tryd.prog 47 #[.agg (levV g), .agg (levV g)] w fun e w' => e = .returned (.bool true) ∧ Below w.heap.size w w' := by
  go_enter Tryd.func47, Tryd.ntmps47
  go_wp2
  go_loopw [5] (fun i wr => ∃ k : Nat, k ≤ 10 ∧ i = .int .i64 k ∧ Below w.heap.size w wr ∧ Holds wr w.heap.size (levV g) ∧ Holds wr (w.heap.size+1) (levV g)) (fun i _ => 10 - (intOf i).toNat)
  case atStart =>
    exact ⟨0, by omega, rfl, ((Below.refl _ _).alloc (Nat.le_refl _) _).alloc (by simp) _, (Holds.new _ _ _).alloc _, Holds.new' _ _ _ _ (by simp)⟩
  case round =>
    obtain ⟨k, hk, rfl, hb, h1, h2⟩ := hrel
    obtain ⟨r1, -, -, -, l1⟩ := h1.facts
    obtain ⟨r2, -, -, -, l2⟩ := h2.facts
    by_cases hlt : k < 10
    · have hfit : k * 10 + 10 ≤ 100 := by omega
      go_wp2
      go_still_tail 6, (by kernel_rfl)
      go_wp2_with (go_at_call 99; refine (eqR8_same _ _).mono ?_; rintro e w1 ⟨rfl, hb1⟩)
      go_roundw
      case rel => exact ⟨k + 1, by omega, by go_num, (hb.drew).trans (hb1.mono (by simp; exact hb.size)), h1.drew.below hb1 (by simpa using l1), h2.drew.below hb1 (by simpa using l2)⟩
      case measure => simp [intOf]; omega
    · go_wp2
      go_ret
      exact ⟨rfl, hb⟩

set_option maxRecDepth 100000 in
set_option maxHeartbeats 400000 in
theorem toR8_any (f : Nat → Int) (w : World) :
    Calls Tryd.prog 88 #[.agg (srow 10 f)] w fun e w' => e = .returned (.agg (srow 10 f)) ∧ Below w.heap.size w w' := by
  go_enter Tryd.func88, Tryd.ntmps88
  go_wp2
  go_loopw [4] (fun i wr => ∃ k : Nat, k ≤ 10 ∧ i = .int .i64 k ∧ Below w.heap.size w wr ∧ Holds wr w.heap.size (srow 10 f) ∧ Holds wr (w.heap.size+1) (srow 10 fun _ => 0) ∧ Holds wr (w.heap.size+2) (srow 10 (upTo f k))) (fun i _ => 10 - (intOf i).toNat)
  case atStart =>
    exact ⟨0, by omega, rfl, (((Below.refl _ _).alloc (Nat.le_refl _) _).alloc (by simp) _).alloc (by simp; omega) _, ((Holds.new _ _ _).alloc _).alloc _, (Holds.new' _ _ _ _ (by simp)).alloc _, Holds.new' _ _ _ _ (by simp)⟩
  case round =>
    obtain ⟨k, hk, rfl, hb, h1, h2, h3⟩ := hrel
    obtain ⟨-, -, c1, -, l1⟩ := h1.facts
    obtain ⟨r2, f2, -, -, l2⟩ := h2.facts
    obtain ⟨r3, f3, c3, z3, l3⟩ := h3.facts
    by_cases hlt : k < 10
    · go_wp2
      go_roundw
      case rel => exact ⟨k + 1, by omega, by go_num, hb.setCell (by simp; omega) _, h1.setCell_other _ _ (by dsimp only; omega), h2.setCell_other _ _ (by dsimp only; omega), (srow_upTo 10 f k hlt) ▸ h3.setCell k _⟩
      case measure => simp [intOf]; omega
    · obtain rfl : k = 10 := by omega
      rw [srow_upTo_all] at h3 r3 c3
      go_wp2
      exact bodyPost_ret (v := .agg (srow 10 f)) (results_cell_holds rfl wideR8 _ rfl (h2.setRow _) (by simp)) rfl ⟨rfl, below_setRow' hb (by omega) _⟩

set_option maxRecDepth 100000 in
set_option maxHeartbeats 400000 in
theorem toLev_any (g : Nat → Nat → Int) (w : World) :
    Calls Tryd.prog 43 #[.agg (levV g)] w fun e w' => e = .returned (.agg (levV g)) ∧ Below w.heap.size w w' := by
  go_enter Tryd.func43, Tryd.ntmps43
  go_wp2
  go_loopw [4] (fun i wr => ∃ k : Nat, k ≤ 10 ∧ i = .int .i64 k ∧ Below w.heap.size w wr ∧ Holds wr w.heap.size (levV g) ∧ Holds wr (w.heap.size+1) (levV fun _ _ => 0) ∧ Holds wr (w.heap.size+2) (levV (rowsTo g k))) (fun i _ => 10 - (intOf i).toNat)
  case atStart =>
    exact ⟨0, by omega, rfl, (((Below.refl _ _).alloc (Nat.le_refl _) _).alloc (by simp) _).alloc (by simp; omega) _, ((Holds.new _ _ _).alloc _).alloc _, (Holds.new' _ _ _ _ (by simp)).alloc _, Holds.new' _ _ _ _ (by simp)⟩
  case round =>
    obtain ⟨k, hk, rfl, hb, h1, h2, h3⟩ := hrel
    obtain ⟨r1, -, -, -, l1⟩ := h1.facts
    obtain ⟨r2, f2, -, -, l2⟩ := h2.facts
    obtain ⟨r3, f3, -, -, l3⟩ := h3.facts
    by_cases hlt : k < 10
    · have hfit : k * 10 + 10 ≤ 100 := by omega
      clear r2 f2 r3 f3
      go_wp2_with (go_at_call 88; refine (toR8_any _ _).mono ?_; rintro e w1 ⟨rfl, hb1⟩; obtain ⟨r3, f3, -, -, l3'⟩ := (h3.below hb1 l3).facts)
      go_roundw
      case rel =>
        exact ⟨k + 1, by omega, by go_num, below_setRow' (hb.trans (hb1.mono hb.size)) (by omega) _, (h1.below hb1 l1).setRow_other _ (by omega), (h2.below hb1 l2).setRow_other _ (by omega), (levV_rowsTo g k hlt) ▸ (h3.below hb1 l3).setRow _⟩
      case measure => simp [intOf]; omega
    · obtain rfl : k = 10 := by omega
      rw [levV_rowsTo_all] at h3 r3
      go_wp2
      exact bodyPost_ret (v := .agg (levV g)) (results_cell_holds rfl wideLv _ rfl (h2.setRow _) (by simp)) rfl ⟨rfl, below_setRow' hb (by omega) _⟩

end Go.Proofs.YthfhpcigjnjkdaaDoor
