/- Levels: rows and grids of small numbers that may be less than 0, by value; how a law's levels are read, copied and compared. When levels are valid for a lawn: pure; and the levels that a range over the cells has laid. Hauls, pure. -/
import Derived.Test.YtaeenkjbmlgcmaaZA
import Derived.Test.YtaeenkjbmlgcmaaOpen
import Derived.Test.YtaeenkjbmlgcmaaZH
import Derived.Test.YtaeenkjbmlgcmaaZE
namespace Go.Proofs.Ytaeenkjbmlgcmaa
open Go.RowKit Go.ChangeShapes Go.WideShapes Go.ChangeAt
set_option linter.unusedVariables false

def srow (n : Nat) (f : Nat → Int) : Array Value := ((List.range n).map fun j => Value.int .i8 (f j)).toArray
@[simp, go_sem] theorem srow_size (n : Nat) (f : Nat → Int) : (srow n f).size = n := by simp [srow]
@[go_sem] theorem srow_get (n : Nat) (f : Nat → Int) (j : Nat) (h : j < n) : (srow n f)[j]? = some (.int .i8 (f j)) := by simp [srow, h]
@[go_sem] theorem srow_at (n : Nat) (f : Nat → Int) (j : Nat) (h : j < (srow n f).size) : (srow n f)[j] = .int .i8 (f j) := by
  have := srow_get n f j (by simpa using h)
  rw [Array.getElem?_eq_getElem h] at this; exact Option.some.inj this
@[go_sem] theorem srow_ones (n : Nat) (f : Nat → Int) : Ones (srow n f) = true := by
  refine of_ones fun v hv => ?_; simp [srow] at hv; obtain ⟨j, _, rfl⟩ := hv; rfl
theorem srow_ext {n : Nat} {f g : Nat → Int} (h : ∀ j, j < n → f j = g j) : srow n f = srow n g := by
  unfold srow; congr 1; apply List.map_congr_left; intro j hj; rw [h j (by simpa using hj)]
theorem srow_of {cs : Array Value} {n : Nat} {f : Nat → Int} (hs : cs.size = n) (h : ∀ j, j < n → cs[j]? = some (.int .i8 (f j))) : cs = srow n f := by
  apply Array.ext_getElem?
  intro j
  by_cases hj : j < n
  · rw [h j hj, srow_get n f j hj]
  · rw [Array.getElem?_eq_none (by omega), Array.getElem?_eq_none (by simp; omega)]

theorem srow_upTo (n : Nat) (f : Nat → Int) (k : Nat) (h : k < n) : (srow n (upTo f k)).setIfInBounds k (.int .i8 (f k)) = srow n (upTo f (k + 1)) := by
  apply srow_of
  · simp
  · intro j hj
    rw [Array.getElem?_setIfInBounds]
    by_cases e : k = j
    · subst e; simp [h, upTo]
    · rw [if_neg e, srow_get _ _ _ hj]
      simp only [upTo]
      by_cases hk : j < k
      · rw [if_pos hk, if_pos (by omega)]
      · rw [if_neg hk, if_neg (by omega)]
theorem srow_upTo_all (n : Nat) (f : Nat → Int) : srow n (upTo f n) = srow n f := srow_ext fun j hj => by simp [upTo, hj]

/-- Levels: 10 by 10 small numbers, of which each may be less than 0. -/
def levV (g : Nat → Nat → Int) : Array Value := srow 100 fun j => g (j / 10) (j % 10)
@[simp, go_sem] theorem levV_size (g : Nat → Nat → Int) : (levV g).size = 100 := by simp [levV]
@[go_sem] theorem levV_row (g : Nat → Nat → Int) (k : Nat) (h : k < 10) : (levV g).extract (k * 10) (k * 10 + 10) = srow 10 (g k) := by
  apply srow_of
  · simp; omega
  · intro j hj
    rw [Array.getElem?_extract, if_pos (by simp; omega)]
    unfold levV
    rw [srow_get _ _ _ (by omega), show (k * 10 + j) / 10 = k by omega, show (k * 10 + j) % 10 = j by omega]
@[go_sem] theorem srow_all (n : Nat) (f : Nat → Int) : (srow n f).extract 0 n = srow n f := by
  simp
@[go_sem] theorem levV_all (g : Nat → Nat → Int) : (levV g).extract 0 100 = levV g := srow_all 100 _
@[go_sem] theorem levV_get (g : Nat → Nat → Int) (k j : Nat) (h : k < 10) (hj : j < 10) : (levV g)[k * 10 + j]? = some (.int .i8 (g k j)) := by
  unfold levV
  rw [srow_get _ _ _ (by omega), show (k * 10 + j) / 10 = k by omega, show (k * 10 + j) % 10 = j by omega]
@[go_sem] theorem levV_at (g : Nat → Nat → Int) (k j : Nat) (h : k < 10) (hj : j < 10) (hh : k * 10 + j < (levV g).size) : (levV g)[k * 10 + j] = .int .i8 (g k j) := by
  have := levV_get g k j h hj
  rw [Array.getElem?_eq_getElem hh] at this; exact Option.some.inj this
theorem levV_ext {g g' : Nat → Nat → Int} (h : ∀ y x, y < 10 → x < 10 → g y x = g' y x) : levV g = levV g' := srow_ext fun j hj => h _ _ (by omega) (by omega)
theorem levV_rowsTo (g : Nat → Nat → Int) (k : Nat) (h : k < 10) : splice (levV (rowsTo g k)) (k * 10) (srow 10 (g k)) = levV (rowsTo g (k + 1)) := by
  unfold levV
  apply srow_of
  · rw [splice_size _ _ _ (by simp; omega)]; simp
  · intro j hj
    rw [splice_get _ _ _ (by simp; omega)]
    by_cases e : k * 10 ≤ j ∧ j < k * 10 + 10
    · rw [if_pos (by simpa using e), srow_get _ _ _ (by omega)]
      rw [show j / 10 = k by omega, show j % 10 = j - k * 10 by omega]
      simp [rowsTo]
    · rw [if_neg (by simpa using e), srow_get _ _ _ hj]
      simp only [rowsTo]
      by_cases hk : j / 10 < k
      · rw [if_pos hk, if_pos (by omega)]
      · rw [if_neg hk, if_neg (by omega)]
theorem levV_rowsTo_all (g : Nat → Nat → Int) : levV (rowsTo g 10) = levV g := levV_ext fun y x hy _ => by simp [rowsTo, hy]
@[go_sem] theorem levV_ones (g : Nat → Nat → Int) : Ones (levV g) = true := srow_ones _ _


theorem levV_set (g : Nat → Nat → Int) (y x : Nat) (v : Int) (hy : y < 10) (hx : x < 10) : (levV g).setIfInBounds (y * 10 + x) (.int .i8 v) = levV (upd g y x v) := by
  unfold levV
  apply srow_of
  · simp
  · intro j hj
    rw [Array.getElem?_setIfInBounds]
    by_cases e : y * 10 + x = j
    · subst e
      rw [if_pos rfl, if_pos (by simp; omega)]
      rw [show (y * 10 + x) / 10 = y by omega, show (y * 10 + x) % 10 = x by omega]
      simp [upd]
    · rw [if_neg e, srow_get _ _ _ hj]
      have hne : ¬ (j / 10 = y ∧ j % 10 = x) := fun h => e (by omega)
      simp [upd, hne]
@[go_sem] theorem splice_lev (g h : Nat → Nat → Int) : splice (levV g) 0 (levV h) = levV h := splice_all _ _ (by simp)

section
variable (ρ : Operand → Value) (dst : Option Tmp) (x y : Operand) (t : TypeId) (pos : String) (aft : Array Edge) (g : Option (Nat × Bool)) (w : World)
end

section
variable {P : Program} (w : World)
theorem eqItems_r8 (d : Nat) {e : TypeId} (he : P.underlying e = some (.int .i8)) (n : Nat) (f g : Nat → Int) : ∀ (is : List Nat), (∀ i ∈ is, i < n) →
    (Op.eqItems (d + 1) e 1 (srow n f) (srow n g) is).run P w = .ok (is.all fun i => f i == g i) w
  | [], _ => by simp [Op.eqItems]
  | i :: is, h => by
    have hi := h i (by simp)
    have ih := eqItems_r8 d he n f g is (fun j hj => h j (by simp [hj]))
    simp only [Op.eqItems, Sem.run_bind, Nat.mul_one, run_part_one w he _ _ _ (srow_get n f i hi), run_part_one w he _ _ _ (srow_get n g i hi), Result.andThen_ok, run_equalIn_int w d e .i8 .i8 (f i) (g i) he]
    cases hq : (f i == g i)
    · simp [hq]
    · simp [hq, ih]
theorem equal_r8 (d : Nat) {t e : TypeId} (ht : P.underlying t = some (.array 10 e)) (he : P.underlying e = some (.int .i8)) (hc : P.cellsOf e = 1) (f g : Nat → Int) :
    (Op.equalIn (d + 2) t (.agg (srow 10 f)) (.agg (srow 10 g))).run P w = .ok (rowEq 10 f g) w := by
  obtain ⟨i, hi⟩ := info_of_underlying he
  rw [show d + 2 = (d + 1) + 1 from rfl, run_equalIn_array w (d + 1) _ _ ht hi, hc]
  exact eqItems_r8 w d he 10 f g _ (fun i hi => by simpa using hi)
theorem eqItems_lev (d : Nat) {t e : TypeId} (hw : wideB P t 10 = true) (ht : P.underlying t = some (.array 10 e)) (he : P.underlying e = some (.int .i8)) (hc : P.cellsOf e = 1) (g h : Nat → Nat → Int) : ∀ (is : List Nat), (∀ i ∈ is, i < 10) →
    (Op.eqItems (d + 2) t 10 (levV g) (levV h) is).run P w = .ok (is.all fun i => rowEq 10 (g i) (h i)) w
  | [], _ => by simp [Op.eqItems]
  | i :: is, hh => by
    have hi := hh i (by simp)
    have ih := eqItems_lev d hw ht he hc g h is (fun j hj => hh j (by simp [hj]))
    simp only [Op.eqItems, Sem.run_bind, run_part_wide w hw, levV_row _ i hi, Result.andThen_ok, equal_r8 w d ht he hc]
    cases hq : rowEq 10 (g i) (h i)
    · simp [hq]
    · simp [hq, ih]
theorem equal_lev (d : Nat) {s t e : TypeId} (hs : P.underlying s = some (.array 10 t)) (cs : P.cellsOf t = 10) (hw : wideB P t 10 = true) (ht : P.underlying t = some (.array 10 e)) (he : P.underlying e = some (.int .i8)) (hc : P.cellsOf e = 1) (g h : Nat → Nat → Int) :
    (Op.equalIn (d + 3) s (.agg (levV g)) (.agg (levV h))).run P w = .ok (gridEq g h) w := by
  obtain ⟨⟨i, hi, _⟩, _⟩ := wide_of hw
  rw [show d + 3 = (d + 2) + 1 from rfl, run_equalIn_array w (d + 2) _ _ hs hi, cs]
  exact eqItems_lev w d hw ht he hc g h _ (fun i hi => by simpa using hi)
end
section
variable (ρ : Operand → Value) (dst : Option Tmp) (x y : Operand) (t : TypeId) (pos : String) (aft : Array Edge) (g : Option (Nat × Bool)) (w : World)
end
theorem cellsI8' : Try.prog.cellsOf 22 = 1 := by kernel_rfl

/-- Levels that fit into int8. -/
def LevFits (g : Nat → Nat → Int) : Prop := ∀ y x, y < 10 → x < 10 → -128 ≤ g y x ∧ g y x ≤ 127
attribute [local go_sem ↓] loadRow loadGrid loadLawn loadMirror storeRow storeGrid storeLawn allocRow allocGrid allocLawn buildZero buildSides





end Go.Proofs.Ytaeenkjbmlgcmaa

namespace Go.Proofs.Ytaeenkjbmlgcmaa
open Go.RowKit
set_option linter.unusedVariables false

/-- Whether a place has a level that it may have. -/
def levAt (L : Lawn) (g : Nat → Nat → Int) (y x : Nat) : Bool := inB (g y x) (-9) 9 && (g y x == 0 || grassB L x y)
def levB (L : Lawn) (g : Nat → Nat → Int) : Bool := validB L && (List.range 10).all fun y => (List.range 10).all fun x => levAt L g y x
/-- All places ahead of a row's place are fine. -/
def levTo (L : Lawn) (g : Nat → Nat → Int) (k j : Nat) : Prop := ∀ y x, y < 10 → x < 10 → (y < k ∨ y = k ∧ x < j) → levAt L g y x = true
theorem levTo_zero (L : Lawn) (g : Nat → Nat → Int) : levTo L g 0 0 := fun y x _ _ h => by omega
theorem levTo_snoc {L : Lawn} {g : Nat → Nat → Int} {k j : Nat} (h : levTo L g k j) (hn : levAt L g k j = true) : levTo L g k (j + 1) := fun y x hy hx hl => by
  by_cases e : y = k ∧ x = j
  · obtain ⟨rfl, rfl⟩ := e; exact hn
  · exact h y x hy hx (by omega)
theorem levTo_row {L : Lawn} {g : Nat → Nat → Int} {k : Nat} (h : levTo L g k 10) : levTo L g (k + 1) 0 := fun y x hy hx hl => h y x hy hx (by omega)
theorem levB_true {L : Lawn} {g : Nat → Nat → Int} (h : levB L g = true) : validB L = true ∧ ∀ y x, y < 10 → x < 10 → levAt L g y x = true := by
  simp only [levB, Bool.and_eq_true, List.all_eq_true, List.mem_range] at h
  exact ⟨h.1, fun y x hy hx => h.2 y hy x hx⟩
theorem levB_of {L : Lawn} {g : Nat → Nat → Int} (hv : validB L = true) (h : levTo L g 10 0) : levB L g = true := by
  simp only [levB, Bool.and_eq_true, List.all_eq_true, List.mem_range]
  exact ⟨hv, fun y hy x hx => h y x hy hx (by omega)⟩
theorem levB_not {L : Lawn} {g : Nat → Nat → Int} {y x : Nat} (hy : y < 10) (hx : x < 10) (h : levAt L g y x = false) : levB L g = false := by
  cases hv : levB L g with
  | false => rfl
  | true => have := (levB_true hv).2 y x hy hx; rw [h] at this; cases this
theorem levB_lawn {L : Lawn} {g : Nat → Nat → Int} (h : validB L = false) : levB L g = false := by simp [levB, h]
theorem levAt_true {L : Lawn} {g : Nat → Nat → Int} {y x : Nat} (h : levAt L g y x = true) : (-9 ≤ g y x ∧ g y x ≤ 9) ∧ (g y x = 0 ∨ grassB L x y = true) := by
  simp only [levAt, Bool.and_eq_true, Bool.or_eq_true, beq_iff_eq] at h
  exact ⟨inB_true h.1, h.2⟩
theorem lev_range {L : Lawn} {g : Nat → Nat → Int} (h : levB L g = true) (y x : Nat) (hy : y < 10) (hx : x < 10) : -9 ≤ g y x ∧ g y x ≤ 9 := (levAt_true ((levB_true h).2 y x hy hx)).1

/-- Whether a cell's level is taken. -/
def layB (L : Lawn) (g : Nat → Nat → Int) (y x : Nat) : Bool := grassB L x y && inB (g y x) (-9) 9
/-- The levels of grass that have come; 0 elsewhere. -/
def layG {W H : Nat} (L : Lawn) (g : Nat → Nat → Int) (pre : List (Fin W × Fin H)) (y x : Nat) : Int := if pre.any (fun c => c.2.val == y && c.1.val == x) && layB L g y x then g y x else 0
theorem layG_nil {W H : Nat} (L : Lawn) (g : Nat → Nat → Int) : levV (layG L g ([] : List (Fin W × Fin H))) = levV fun _ _ => 0 := levV_ext fun y x _ _ => by simp [layG]
theorem layG_hit {W H : Nat} (hW : W ≤ 10) (hH : H ≤ 10) (L : Lawn) (g : Nat → Nat → Int) (pre : List (Fin W × Fin H)) (c : Fin W × Fin H) (h : layB L g c.2 c.1 = true) :
    (levV (layG L g pre)).setIfInBounds (c.2.val * 10 + c.1.val) (.int .i8 (g c.2.val c.1.val)) = levV (layG L g (pre ++ [c])) := by
  have h1 := c.1.isLt; have h2 := c.2.isLt
  rw [levV_set _ _ _ _ (by omega) (by omega)]
  refine levV_ext fun y x _ _ => ?_
  unfold upd layG
  by_cases e : y = c.2.val ∧ x = c.1.val
  · obtain ⟨rfl, rfl⟩ := e
    simp [h]
  · rw [if_neg e]
    have hb : (c.2.val == y && c.1.val == x) = false := by
      cases h : (c.2.val == y && c.1.val == x) with
      | false => rfl
      | true => simp only [Bool.and_eq_true, beq_iff_eq] at h; exact absurd ⟨h.1.symm, h.2.symm⟩ e
    simp only [List.any_append, List.any_cons, List.any_nil, Bool.or_false, hb]
theorem layG_miss {W H : Nat} (L : Lawn) (g : Nat → Nat → Int) (pre : List (Fin W × Fin H)) (c : Fin W × Fin H) (h : layB L g c.2 c.1 = false) :
    levV (layG L g (pre ++ [c])) = levV (layG L g pre) := by
  refine levV_ext fun y x _ _ => ?_
  unfold layG
  by_cases e : y = c.2.val ∧ x = c.1.val
  · obtain ⟨rfl, rfl⟩ := e
    simp [h]
  · have hb : (c.2.val == y && c.1.val == x) = false := by
      cases h : (c.2.val == y && c.1.val == x) with
      | false => rfl
      | true => simp only [Bool.and_eq_true, beq_iff_eq] at h; exact absurd ⟨h.1.symm, h.2.symm⟩ e
    simp only [List.any_append, List.any_cons, List.any_nil, Bool.or_false, hb]
theorem allC_any (W H : Nat) (y x : Nat) : (allC W H).any (fun c => c.2.val == y && c.1.val == x) = decide (x < W ∧ y < H) := by
  rw [Bool.eq_iff_iff, List.any_eq_true, decide_eq_true_eq]
  constructor
  · rintro ⟨c, _, hc⟩
    simp only [Bool.and_eq_true, beq_iff_eq] at hc
    have := c.1.isLt; have := c.2.isLt; omega
  · rintro ⟨hx, hy⟩
    exact ⟨(⟨x, hx⟩, ⟨y, hy⟩), allC_mem _ _ _, by simp⟩
/-- Levels are valid where they are what has been laid. -/
theorem lay_final {W H : Nat} {L : Lawn} (hv : validB L = true) (hW : L.wide = W) (hH : L.high = H) (g : Nat → Nat → Int) : gridEq g (layG L g (allC W H)) = levB L g := by
  have point : ∀ y x, (g y x = layG L g (allC W H) y x) ↔ levAt L g y x = true := by
    intro y x
    unfold layG
    rw [allC_any]
    cases hl : layB L g y x with
    | true =>
      have hl' := hl
      simp only [layB, Bool.and_eq_true] at hl'
      have := isB_in (grassB_in hl'.1)
      have hd : decide (x < W ∧ y < H) = true := by simp; omega
      rw [hd]
      simp [levAt, hl'.1, hl'.2]
    | false =>
      rw [Bool.and_false]
      simp only [Bool.false_eq_true, if_false]
      constructor
      · intro h0
        simp [levAt, h0, inB]
      · intro h1
        simp only [levAt, Bool.and_eq_true, Bool.or_eq_true, beq_iff_eq] at h1
        rcases h1.2 with h | h
        · exact h
        · rw [layB, h, h1.1] at hl
          cases hl
  rw [Bool.eq_iff_iff]
  constructor
  · intro h
    have h := gridEq_true h
    exact levB_of hv fun y x hy hx _ => (point y x).1 (h y x hy hx)
  · intro h
    have h := (levB_true h).2
    exact gridEq_of fun y x hy hx => (point y x).2 (h y x hy hx)
end Go.Proofs.Ytaeenkjbmlgcmaa

namespace Go.Proofs.Ytaeenkjbmlgcmaa
set_option linter.unusedVariables false

/-- A haul's cells or amount are out of range. -/
def hlOut (L : Lawn) (fx fy tx ty n : Int) : Bool := !isB L fx fy || !isB L tx ty || decide (n < 1) || decide (18 < n)
/-- A haul's cell is no grass. -/
def hlBare (L : Lawn) (fx fy tx ty : Int) : Bool := !grassB L fx fy || !grassB L tx ty
/-- The levels behind a haul. -/
def hlG (g : Nat → Nat → Int) (fx fy tx ty n : Int) : Nat → Nat → Int :=
  upd (upd g fy.toNat fx.toNat (g fy.toNat fx.toNat - n)) ty.toNat tx.toNat (upd g fy.toNat fx.toNat (g fy.toNat fx.toNat - n) ty.toNat tx.toNat + n)
/-- Which error a haul meets. -/
def hlE (L : Lawn) (g : Nat → Nat → Int) (fx fy tx ty n : Int) : Option Nat :=
  if hlOut L fx fy tx ty n then some 0 else if hlBare L fx fy tx ty then some 1 else if fx = tx ∧ fy = ty then some 2 else if levB L (hlG g fx fy tx ty n) then none else some 3
/-- The code of an error. -/
def errZ (i : Nat) : Int := if i = 4 then 1 else if i = 0 then 2 else 4

theorem levB_upd {L : Lawn} {g : Nat → Nat → Int} (h : levB L g = true) (y x : Nat) (v : Int) (hy : y < 10) (hx : x < 10) (hg : grassB L x y = true) : levB L (upd g y x v) = inB v (-9) 9 := by
  obtain ⟨hv, ha⟩ := levB_true h
  cases hi : inB v (-9) 9 with
  | false => exact levB_not hy hx (by unfold levAt upd; simp [hi])
  | true =>
    simp only [levB, Bool.and_eq_true, List.all_eq_true, List.mem_range]
    refine ⟨hv, fun y' hy' x' hx' => ?_⟩
    have := ha y' x' hy' hx'
    unfold levAt upd at *
    by_cases he : y' = y ∧ x' = x
    · obtain ⟨rfl, rfl⟩ := he
      simp [hi, hg]
    · rw [if_neg he]; exact this
/-- Levels that differ from fine ones at two cells of grass. -/
theorem levB_upd2 {L : Lawn} {g : Nat → Nat → Int} (h : levB L g = true) (y x y' x' : Nat) (v v' : Int) (hy : y < 10) (hx : x < 10) (hy' : y' < 10) (hx' : x' < 10) (hg : grassB L x y = true) (hg' : grassB L x' y' = true) (hne : ¬(y = y' ∧ x = x')) :
    levB L (upd (upd g y x v) y' x' v') = (inB v (-9) 9 && inB v' (-9) 9) := by
  cases hi : inB v (-9) 9 with
  | true => rw [levB_upd (by rw [levB_upd h y x v hy hx hg, hi]) y' x' v' hy' hx' hg', Bool.true_and]
  | false =>
    rw [Bool.false_and]
    refine levB_not hy hx ?_
    unfold levAt upd
    rw [if_neg hne, if_pos ⟨rfl, rfl⟩, hi, Bool.false_and]
end Go.Proofs.Ytaeenkjbmlgcmaa
