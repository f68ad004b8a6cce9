/- A lawn's cells: whether there is one, its kind, and the codes of a lawn with a cell. KindAt, of the program and of the model. Runs of grass: one of them, by the program and by the model. All cells of a lawn, as the model lists them. CountKind and CellsOf of the model. The marks that a law writes into an answer, and the look whether they still stand there. DifferIn, of the program and of the model. -/
import Derived.Test.YtaeenkjbmlgcmaaZB
import Derived.Test.YtaeenkjbmlgcmaaZA
import Derived.Maps.AppendAt
import Derived.Maps.OwnIn
namespace Go.Proofs.Ytaeenkjbmlgcmaa
open Go.RowKit
attribute [local go_sem ↓] loadRow loadGrid loadLawn loadMirror storeRow storeGrid storeLawn allocRow allocGrid allocLawn buildZero buildSides

/-- The code of a lawn with a cell. -/
def told (v f : Bool) : Int := if v then (if f then 0 else 2) else 1

theorem toCell_any (x y : Int) (w : World) :
    Calls Try.prog 16 #[.agg #[.int .i8 x, .int .i8 y]] w fun e w' => e = .returned (.agg #[.int .i8 x, .int .i8 y]) ∧ Below w.heap.size w w' := by
  go_enter Try.func16, Try.ntmps16
  go_wp2
  have h1 := (Holds.new' (w.alloc (.cells #[.int .i8 x, .int .i8 y] 33)) #[.int .i8 x, .int .i8 y] 37 (w.heap.size + 1) (by simp)).alloc (.cells #[.int .i8 x, .int .i8 y] 37)
  exact bodyPost_ret (v := .agg #[.int .i8 x, .int .i8 y]) (results_cell_holds (n := 2) rfl (by kernel_rfl) _ rfl h1 rfl) rfl ⟨rfl, (((Below.refl _ _).alloc (Nat.le_refl _) _).alloc (by simp) _).alloc (by simp; omega) _⟩

theorem has_any (L : Lawn) (x y : Int) (w : World) :
    Calls Try.prog 110 #[.agg L.cells, .agg #[.int .i8 x, .int .i8 y]] w fun e w' => e = .returned (.bool (isB L x y)) ∧ Below w.heap.size w w' := by
  go_enter Try.func110, Try.ntmps110
  go_wp2
  all_goals
    go_ret
    exact ⟨ret_bool (by simp only [isB, inB]; rw [Bool.eq_iff_iff]; simp; omega), ((Below.refl _ _).alloc (Nat.le_refl _) _).alloc (by simp) _⟩
theorem has_is (L : Lawn) (x y : Int) (w : World) (v : Bool) (h : isB L x y = v) :
    Calls Try.prog 110 #[.agg L.cells, .agg #[.int .i8 x, .int .i8 y]] w fun e w' => e = .returned (.bool v) ∧ Below w.heap.size w w' := h ▸ has_any L x y w
theorem at_any (L : Lawn) (hL : L.Fits) (b x y : Nat) (hx : x < 10) (hy : y < 10) (w : World) (h : Holds w b L.cells) :
    Calls Try.prog 52 #[.pointer (some ⟨b, 0, none⟩), .agg #[.int .i8 x, .int .i8 y]] w fun e w' => e = .returned (.int .i64 (L.kind y x)) ∧ Below w.heap.size w w' := by
  have hx0 : (0 : Int) ≤ x := by omega
  have hx1 : (x : Int) < 10 := by omega
  have hy0 : (0 : Int) ≤ y := by omega
  have hy1 : (y : Int) < 10 := by omega
  obtain ⟨-, -, c, -, l⟩ := h.facts
  have ck : w.cell? ⟨b, 2 + y * 10 + x, none⟩ = some (.int .u8 (L.kind y x)) := (c _).trans (Lawn.cells_get L y x hy hx)
  have k0 := hL.k0 y x hy hx
  have k1 := hL.k1 y x hy hx
  have hwr : IntKind.i64.wrap (L.kind y x) = L.kind y x := IntWalk.i64_in _ (by omega)
  clear c hL
  go_enter Try.func52, Try.ntmps52
  go_wp2
  go_quiet (fail)
  go_wp2
  go_ret
  exact ⟨rfl, below_drewN ((Below.refl _ _).alloc (Nat.le_refl _) _) _⟩
theorem told_any (L : Lawn) (hL : L.Fits) (b : Nat) (w : World) (h : Holds w b L.cells) (f : Bool) :
    Calls Try.prog 57 #[.pointer (some ⟨b, 0, none⟩), .bool f] w fun e w' => e = .returned (.int .i64 (told (validB L) f)) ∧ Below w.heap.size w w' := by
  have HO := l01Ok_any L hL b w h
  generalize validB L = v at HO ⊢
  go_enter Try.func57, Try.ntmps57
  cases v <;> cases f
  all_goals
    go_wp2_with (go_at_call 45; refine HO.mono ?_; rintro e w1 ⟨rfl, hb1⟩)
    go_ret
    exact ⟨rfl, hb1⟩

set_option maxRecDepth 100000 in
set_option maxHeartbeats 1000000 in
theorem check_any (L : Lawn) (hL : L.Fits) (x y : Int) (b : Nat) (w : World) (h : Holds w b #[.int .i8 x, .int .i8 y]) :
    Calls Try.prog 106 #[.agg L.cells, .slice (some ⟨b, 0, none⟩) 1 1] w fun e w' => e = .returned (.int .i64 (told (validB L) (isB L x y))) ∧ Below w.heap.size w w' := by
  have HI' : ∀ w : World, Calls Try.prog 98 #[.agg L.cells] w fun e w' => e = .returned (.bool (validB L)) ∧ Below w.heap.size w w' := fun w => implValid_any L hL w
  have HB' : ∀ w : World, Calls Try.prog 110 #[.agg L.cells, .agg #[.int .i8 x, .int .i8 y]] w fun e w' => e = .returned (.bool (isB L x y)) ∧ Below w.heap.size w w' := fun w => has_any L x y w
  generalize validB L = v at HI' ⊢
  generalize isB L x y = f at HB' ⊢
  have HI := Lib.hid HI'
  have HB := Lib.hid HB'
  clear HI' HB'
  go_enter Try.func106, Try.ntmps106
  go_wp2_with fail
  refine (HI.out _).mono ?_
  rintro e w1 ⟨rfl, hb1⟩
  have hb := ((Below.refl w.heap.size w).alloc (Nat.le_refl _) (.cells L.cells 29)).trans (hb1.mono (by simp))
  have h1 := (Holds.new w L.cells 29).below hb1 (by simp)
  have h2 := h.below hb h.lt
  obtain ⟨r1, -⟩ := h1.facts
  obtain ⟨-, -, c2, -⟩ := h2.facts
  clear hb1
  cases v
  · go_wp2_with fail
    go_ret
    exact ⟨rfl, hb⟩
  · go_wp2_with fail
    have r1' := h1.later.1
    have c2' := h2.later.2
    clear r1 c2
    go_loopw [12] (fun i wr => (i = .int .i64 0 ∨ i = .int .i64 1 ∧ f = true) ∧ Below w1.heap.size w1 wr) (fun i _ => 1 - (intOf i).toNat)
    case atStart => exact ⟨.inl rfl, Below.refl _ _⟩
    case round =>
      obtain ⟨hi, hbi⟩ := hrel
      have r1 := r1' _ hbi
      have c2 := c2' _ hbi
      rcases hi with rfl | ⟨rfl, rfl⟩
      · have l1 : w.heap.size < wr.heap.size := Nat.lt_of_lt_of_le h1.lt hbi.size
        have l2 : b < wr.heap.size := Nat.lt_of_lt_of_le h2.lt hbi.size
        obtain ⟨-, f1, -, -, -⟩ := (h1.below hbi h1.lt).facts
        go_wp2_with fail
        refine (HB.out _).mono ?_
        rintro e w2 ⟨rfl, hb2⟩
        have hb3 := (hbi.alloc hbi.size _).trans (hb2.mono (by simp; have := hbi.size; omega))
        clear hbi hb2
        cases f
        · go_wp2_with fail
          go_ret
          exact ⟨rfl, below_onto hb hb3⟩
        · go_wp2_with fail
          go_roundw
          case rel => exact ⟨.inr ⟨by go_num, trivial⟩, hb3⟩
          case measure => simp [intOf]
      · go_wp2_with fail
        go_ret
        exact ⟨rfl, below_onto hb hbi⟩
end Go.Proofs.Ytaeenkjbmlgcmaa

namespace Go.Proofs.Ytaeenkjbmlgcmaa
open Go.RowKit
attribute [local go_sem ↓] loadRow loadGrid loadLawn loadMirror storeRow storeGrid storeLawn allocRow allocGrid allocLawn buildZero buildSides

/-- What KindAt answers. -/
def kindAtV (L : Lawn) (x y : Int) : Value := if told (validB L) (isB L x y) = 0 then .tuple #[.int .i64 (L.kind y.toNat x.toNat), .int .i64 0] else .tuple #[.int .i64 0, .int .i64 (told (validB L) (isB L x y))]
/-- A cell of a valid lawn. -/
theorem cell_nat {L : Lawn} {x y : Int} (hv : validB L = true) (hf : isB L x y = true) : ∃ i j : Nat, i < 10 ∧ j < 10 ∧ x = i ∧ y = j := by
  obtain ⟨h1, h2, -⟩ := validB_true hv
  simp only [isB, Bool.and_eq_true] at hf
  have a := inB_true hf.1
  have b := inB_true hf.2
  exact ⟨x.toNat, y.toNat, by omega, by omega, by omega, by omega⟩



end Go.Proofs.Ytaeenkjbmlgcmaa

namespace Go.Proofs.Ytaeenkjbmlgcmaa
open Go.RowKit
set_option linter.unusedVariables false
attribute [local go_sem ↓] loadRow loadGrid loadLawn loadMirror storeRow storeGrid storeLawn allocRow allocGrid allocLawn buildZero buildSides

/-- There is grass. -/
def grassB (L : Lawn) (x y : Int) : Bool := isB L x y && L.kind y.toNat x.toNat == 0
theorem grassB_in {L : Lawn} {x y : Int} (h : grassB L x y = true) : isB L x y = true := by simp only [grassB, Bool.and_eq_true] at h; exact h.1
theorem isB_in {L : Lawn} {x y : Int} (h : isB L x y = true) : 0 ≤ x ∧ x < L.wide ∧ 0 ≤ y ∧ y < L.high := by
  simp only [isB, inB, Bool.and_eq_true, decide_eq_true_eq] at h; omega
/-- The place of the i-th cell of a run. -/
def posX (across : Bool) (x : Int) (i : Nat) : Int := if across then x + i else x
def posY (across : Bool) (y : Int) (i : Nat) : Int := if across then y else y + i
/-- The step of a way. -/
def stepX (across : Bool) : Int := if across then 1 else 0
def stepY (across : Bool) : Int := if across then 0 else 1
theorem posX_zero (across : Bool) (x : Int) : posX across x 0 = x := by cases across <;> simp [posX]
theorem posY_zero (across : Bool) (x : Int) : posY across x 0 = x := by cases across <;> simp [posY]
theorem posX_succ (across : Bool) (x : Int) (i : Nat) : posX across x i + stepX across = posX across x (i + 1) := by cases across <;> simp [posX, stepX]; omega
theorem posY_succ (across : Bool) (x : Int) (i : Nat) : posY across x i + stepY across = posY across x (i + 1) := by cases across <;> simp [posY, stepY]; omega
/-- From a cell on there are n cells of grass. -/
def RunIs (L : Lawn) (across : Bool) (x y : Int) (n : Nat) : Prop := (∀ i : Nat, i < n → grassB L (posX across x i) (posY across y i) = true) ∧ grassB L (posX across x n) (posY across y n) = false
def runN (L : Lawn) (across : Bool) (x y : Int) : Nat → Nat → Nat
  | 0, i => i
  | f + 1, i => if grassB L (posX across x i) (posY across y i) then runN L across x y f (i + 1) else i
theorem runN_of (L : Lawn) (across : Bool) (x y : Int) (n : Nat) (h : RunIs L across x y n) : ∀ (f i : Nat), i ≤ n → n < i + f → runN L across x y f i = n
  | 0, i, h1, h2 => by omega
  | f + 1, i, h1, h2 => by
    by_cases e : i = n
    · subst e
      simp [runN, h.2]
    · simp only [runN, h.1 i (by omega), if_true]
      exact runN_of L across x y n h f (i + 1) (by omega) (by omega)
/-- How long the run from a cell on is. -/
def runLen (L : Lawn) (across : Bool) (x y : Int) : Nat := runN L across x y 12 0
theorem runLen_of {L : Lawn} {across : Bool} {x y : Int} {n : Nat} (h : RunIs L across x y n) (hn : n ≤ 10) : runLen L across x y = n := runN_of L across x y n h 12 0 (by omega) (by omega)
theorem grass_pos {L : Lawn} (hv : validB L = true) {across : Bool} {x y : Int} {j : Nat} (hx : 0 ≤ x) (hy : 0 ≤ y) (h : grassB L (posX across x j) (posY across y j) = true) :
    j ≤ 9 ∧ 0 ≤ posX across x j ∧ posX across x j ≤ 9 ∧ 0 ≤ posY across y j ∧ posY across y j ≤ 9 := by
  obtain ⟨h1, h2, -⟩ := validB_true hv
  have := isB_in (grassB_in h)
  cases across <;> simp [posX, posY] at this ⊢ <;> omega

theorem cell_new (w : World) (L : Lawn) (x y : Int) : Holds ((w.alloc (.cells L.cells 29)).alloc (.cells #[.int .i8 x, .int .i8 y] 37)) w.heap.size L.cells ∧ Holds ((w.alloc (.cells L.cells 29)).alloc (.cells #[.int .i8 x, .int .i8 y] 37)) (w.heap.size + 1) #[.int .i8 x, .int .i8 y] ∧ Below w.heap.size w ((w.alloc (.cells L.cells 29)).alloc (.cells #[.int .i8 x, .int .i8 y] 37)) :=
  ⟨(Holds.new _ _ _).alloc _, Holds.new' _ _ _ _ (by simp), ((Below.refl _ _).alloc (Nat.le_refl _) _).alloc (by simp) _⟩

set_option maxRecDepth 100000 in
set_option maxHeartbeats 1000000 in
theorem isGrass_any (L : Lawn) (hv : validB L = true) (hL : L.Fits) (x y : Int) (w : World) :
    Calls Try.prog 55 #[.agg L.cells, .agg #[.int .i8 x, .int .i8 y]] w fun e w' => e = .returned (.bool (grassB L x y)) ∧ Below w.heap.size w w' := by
  cases hi : isB L x y
  case false =>
    have e : grassB L x y = false := by simp [grassB, hi]
    rw [e]
    have HB := Lib.hid (has_is L x y · false hi)
    clear e hi hv hL
    go_enter Try.func55, Try.ntmps55
    obtain ⟨g0, c0, hb0⟩ := cell_new w L x y
    go_wp2_with fail
    refine (HB.out _).mono ?_
    rintro e w1 ⟨rfl, hb1⟩
    have hb2 := below_onto hb0 hb1
    clear hb0 hb1 g0 c0
    go_wp2_with fail
    go_ret
    exact ⟨rfl, hb2⟩
  case true =>
    have HB := Lib.hid (has_is L x y · true hi)
    obtain ⟨i, j, hi10, hj10, rfl, rfl⟩ := cell_nat hv hi
    have e : grassB L i j = (L.kind j i == 0) := by simp [grassB, hi]
    rw [e]
    have HK := Lib.hid (kind_any L i j hi10 hj10)
    clear e hi hv hL
    go_enter Try.func55, Try.ntmps55
    obtain ⟨g0, c0, hb0⟩ := cell_new w L i j
    go_wp2_with fail
    refine (HB.out _).mono ?_
    rintro e w1 ⟨rfl, hb1⟩
    have hb2 := below_onto hb0 hb1
    have g1 := g0.below hb1 g0.lt
    have c1 := c0.below hb1 c0.lt
    clear hb0 hb1 g0 c0
    obtain ⟨r1, -⟩ := g1.facts
    obtain ⟨-, -, d1, -⟩ := c1.facts
    go_wp2_with fail
    refine (HK.out _).mono ?_
    rintro e w2 ⟨rfl, hb1⟩
    have hb3 := below_onto hb2 hb1
    clear hb2 hb1 g1 c1 r1 d1
    go_wp2_with fail
    go_ret
    exact ⟨rfl, hb3⟩
theorem isGrass_is (L : Lawn) (hv : validB L = true) (hL : L.Fits) (x y : Int) (v : Bool) (h : grassB L x y = v) (w : World) :
    Calls Try.prog 55 #[.agg L.cells, .agg #[.int .i8 x, .int .i8 y]] w fun e w' => e = .returned (.bool v) ∧ Below w.heap.size w w' := h ▸ isGrass_any L hv hL x y w

/-- The cells beside one. -/
theorem west_any (x y : Int) (h0 : -128 < x) (h1 : x ≤ 127) (w : World) : Calls Try.prog 137 #[.agg #[.int .i8 x, .int .i8 y]] w fun e w' => e = .returned (.agg #[.int .i8 (x - 1), .int .i8 y]) ∧ Below w.heap.size w w' := by
  go_enter Try.func137, Try.ntmps137
  go_wp2_with fail
  exact bodyPost_ret (results_cell_holds (n := 2) rfl (by kernel_rfl) _ rfl (Holds.new' _ _ _ (w.heap.size + 1) (by simp)) rfl) rfl ⟨rfl, ((Below.refl _ _).alloc (Nat.le_refl _) _).alloc (by simp) _⟩
theorem east_any (x y : Int) (h0 : -128 ≤ x) (h1 : x < 127) (w : World) : Calls Try.prog 138 #[.agg #[.int .i8 x, .int .i8 y]] w fun e w' => e = .returned (.agg #[.int .i8 (x + 1), .int .i8 y]) ∧ Below w.heap.size w w' := by
  go_enter Try.func138, Try.ntmps138
  go_wp2_with fail
  exact bodyPost_ret (results_cell_holds (n := 2) rfl (by kernel_rfl) _ rfl (Holds.new' _ _ _ (w.heap.size + 1) (by simp)) rfl) rfl ⟨rfl, ((Below.refl _ _).alloc (Nat.le_refl _) _).alloc (by simp) _⟩
theorem north_any (x y : Int) (h0 : -128 < y) (h1 : y ≤ 127) (w : World) : Calls Try.prog 135 #[.agg #[.int .i8 x, .int .i8 y]] w fun e w' => e = .returned (.agg #[.int .i8 x, .int .i8 (y - 1)]) ∧ Below w.heap.size w w' := by
  go_enter Try.func135, Try.ntmps135
  go_wp2_with fail
  exact bodyPost_ret (results_cell_holds (n := 2) rfl (by kernel_rfl) _ rfl (Holds.new' _ _ _ (w.heap.size + 1) (by simp)) rfl) rfl ⟨rfl, ((Below.refl _ _).alloc (Nat.le_refl _) _).alloc (by simp) _⟩
theorem south_any (x y : Int) (h0 : -128 ≤ y) (h1 : y < 127) (w : World) : Calls Try.prog 136 #[.agg #[.int .i8 x, .int .i8 y]] w fun e w' => e = .returned (.agg #[.int .i8 x, .int .i8 (y + 1)]) ∧ Below w.heap.size w w' := by
  go_enter Try.func136, Try.ntmps136
  go_wp2_with fail
  exact bodyPost_ret (results_cell_holds (n := 2) rfl (by kernel_rfl) _ rfl (Holds.new' _ _ _ (w.heap.size + 1) (by simp)) rfl) rfl ⟨rfl, ((Below.refl _ _).alloc (Nat.le_refl _) _).alloc (by simp) _⟩

/-- The functions of the cell behind and of the cell before in a run. -/
def behindF (across : Bool) : Nat := if across then 138 else 136
def beforeF (across : Bool) : Nat := if across then 137 else 135
theorem behind_any (across : Bool) (x y : Int) (h0 : -128 ≤ x) (h1 : x < 127) (h2 : -128 ≤ y) (h3 : y < 127) (w : World) : Calls Try.prog (behindF across) #[.agg #[.int .i8 x, .int .i8 y]] w fun e w' => e = .returned (.agg #[.int .i8 (x + stepX across), .int .i8 (y + stepY across)]) ∧ Below w.heap.size w w' := by
  cases across
  · simpa [behindF, stepX, stepY] using south_any x y h2 h3 w
  · simpa [behindF, stepX, stepY] using east_any x y h0 h1 w
theorem before_any (across : Bool) (x y : Int) (h0 : -128 < x) (h1 : x ≤ 127) (h2 : -128 < y) (h3 : y ≤ 127) (w : World) : Calls Try.prog (beforeF across) #[.agg #[.int .i8 x, .int .i8 y]] w fun e w' => e = .returned (.agg #[.int .i8 (x - stepX across), .int .i8 (y - stepY across)]) ∧ Below w.heap.size w w' := by
  cases across
  · simpa [beforeF, stepX, stepY] using north_any x y h2 h3 w
  · simpa [beforeF, stepX, stepY] using west_any x y h0 h1 w
theorem behind_enters (across : Bool) (args : Array Value) (w : World) : (callFunc (behindF across) args).run Try.prog w = .ok (.enter (behindF across) args) w := by
  cases across
  · exact enters_of Try.func136 (by kernel_rfl) rfl args w
  · exact enters_of Try.func138 (by kernel_rfl) rfl args w
theorem before_enters (across : Bool) (args : Array Value) (w : World) : (callFunc (beforeF across) args).run Try.prog w = .ok (.enter (beforeF across) args) w := by
  cases across
  · exact enters_of Try.func135 (by kernel_rfl) rfl args w
  · exact enters_of Try.func137 (by kernel_rfl) rfl args w

/-- The value of a run. -/
def runV (x y l : Int) : Value := .agg #[.int .i8 x, .int .i8 y, .int .i8 l]

end Go.Proofs.Ytaeenkjbmlgcmaa

namespace Go.Proofs.Ytaeenkjbmlgcmaa
open Go.RowKit
attribute [local go_sem ↓] loadRow loadGrid loadLawn loadMirror storeRow storeGrid storeLawn allocRow allocGrid allocLawn buildZero buildSides

/-- The cells of a list of cells, behind each other. -/
def flatV {W H : Nat} (l : List (Fin W × Fin H)) : List Value := l.flatMap fun c => [.int .i8 c.1.val, .int .i8 c.2.val]
theorem flatV_length {W H : Nat} (l : List (Fin W × Fin H)) : (flatV l).length = l.length * 2 := by
  induction l with
  | nil => rfl
  | cons a l ih => simp [flatV] at ih ⊢; omega
theorem flatV_append {W H : Nat} (l l' : List (Fin W × Fin H)) : flatV (l ++ l') = flatV l ++ flatV l' := by simp [flatV]
theorem flatV_get {W H : Nat} : ∀ (l : List (Fin W × Fin H)) (i : Nat) (c : Fin W × Fin H), l[i]? = some c → (flatV l)[i * 2]? = some (.int .i8 c.1.val) ∧ (flatV l)[i * 2 + 1]? = some (.int .i8 c.2.val)
  | [], i, c, h => by simp at h
  | a :: l, 0, c, h => by simp at h; subst h; exact ⟨rfl, rfl⟩
  | a :: l, i + 1, c, h => by
    have ih := flatV_get l i c (by simpa using h)
    simp only [flatV, List.flatMap_cons] at ih ⊢
    rw [show (i + 1) * 2 = i * 2 + 2 by omega, show i * 2 + 2 + 1 = i * 2 + 1 + 2 by omega]
    simpa using ih

theorem flatV_ints {W H : Nat} (l : List (Fin W × Fin H)) (n : Nat) (hn : l.length = n) : ∀ j, j < n * 2 → ∃ z, (flatV l)[j]? = some (.int .i8 z) := by
  intro j hj
  obtain ⟨c, hc⟩ : ∃ c, l[j / 2]? = some c := ⟨_, List.getElem?_eq_getElem (by omega)⟩
  obtain ⟨h1, h2⟩ := flatV_get _ _ _ hc
  rcases Nat.mod_two_eq_zero_or_one j with h | h
  · exact ⟨_, by rw [show j = j / 2 * 2 by omega]; exact h1⟩
  · exact ⟨_, by rw [show j = j / 2 * 2 + 1 by omega]; exact h2⟩

theorem cellInfo : (Try.prog.info? 37).map (fun i => (i.zero, i.size, i.bytes)) = some (some (.agg #[.int .i8 0, .int .i8 0]), 2, 2) := by kernel_rfl
theorem below_own {B : Nat} {w W W' : World} {e : TypeId} {size n : Nat} {v : Value} {xs : List Value} (h : Below B w W) (ho : W.ownsRow B e size v n xs) (hg : W.grownBy W' v.ownBlock) (hB : B ≤ W.heap.size) : Below B w W' := by
  refine h.grown hg hB fun k hk => ?_
  rcases ho.2 with ⟨rfl, -⟩ | ⟨g, cap, cur, rfl, hb, -⟩
  · simp [Value.ownBlock] at hk
  · simp only [Value.ownBlock, Option.some.injEq] at hk
    exact hk ▸ hb

set_option maxRecDepth 100000 in
set_option maxHeartbeats 1000000 in
theorem l01All_any (Wn Hn : Nat) (hW : Wn ≤ 10) (hH : Hn ≤ 10) (L : Lawn) (hLw : L.wide = Wn) (hLh : L.high = Hn) (b : Nat) (w : World) (h : Holds w b L.cells) :
    Calls Try.prog 75 #[.pointer (some ⟨b, 0, none⟩)] w fun e w' => ∃ v, e = .returned v ∧ w'.ownsRow w.heap.size 37 2 v (Hn * Wn) (flatV (allC Wn Hn)) ∧ Below w.heap.size w w' := by
  obtain ⟨i0, hi, hz0, hz1, hz2⟩ := info_parts cellInfo
  have c0 : ∀ w', Below w.heap.size w w' → w'.cell? ⟨b, 0, none⟩ = some (.int .i8 Wn) ∧ w'.cell? ⟨b, 1, none⟩ = some (.int .i8 Hn) := fun w' hb => by
    have := (h.below hb h.lt).cell
    rw [this, this, Lawn.cells_0, Lawn.cells_1, hLw, hLh]
    exact ⟨rfl, rfl⟩
  have HC := Lib.hid c0
  have HI := Lib.hid (show Try.prog.info? 37 = some i0 ∧ i0.zero = some (.agg #[.int .i8 0, .int .i8 0]) ∧ i0.size = 2 ∧ i0.bytes = 2 from ⟨hi, hz0, hz1, hz2⟩)
  clear c0 hi hz0 hz1 hz2 hLw hLh h
  go_enter Try.func75, Try.ntmps75
  go_wp2_with fail
  have hm : (w.alloc (.cells #[] 37)).ownsRow w.heap.size 37 2 (.slice (some ⟨w.heap.size, 0, none⟩) 0 0) 0 [] := World.ownsRow_made w #[] 0 (Nat.le_refl _) (by simp [maxLen]) rfl
  have hb0 := (Below.refl w.heap.size w).alloc (Nat.le_refl _) (.cells #[] 37)
  obtain ⟨W0, hW0⟩ : ∃ W0, w.alloc (.cells #[] 37) = W0 := ⟨_, rfl⟩
  rw [hW0] at hm hb0 ⊢
  clear hW0
  go_loopw [3, 4, 5] (fun v y _ wr => ∃ k : Nat, k ≤ Hn ∧ y = .int .i8 k ∧ wr.ownsRow w.heap.size 37 2 v (k * Wn) (flatV ((allC Wn Hn).take (k * Wn))) ∧ Below w.heap.size w wr) (fun _ y _ _ => Hn - (intOf y).toNat)
  case atStart => exact ⟨0, by omega, rfl, by simpa [flatV] using hm, hb0⟩
  case round =>
    obtain ⟨k, hk, rfl, ho, hb⟩ := hrel
    obtain ⟨c0, c1⟩ := HC.out _ hb
    have HO := Lib.hid ho
    clear ho hm hb0
    by_cases hlt : k < Hn
    · have hd : decide ((k : Int) < (Hn : Int)) = true := by simp; omega
      go_wp2_with fail
      clear c0 c1
      go_loopw [3, 5] (fun v x wi => ∃ j : Nat, j ≤ Wn ∧ x = .int .i8 j ∧ wi.ownsRow w.heap.size 37 2 v (k * Wn + j) (flatV ((allC Wn Hn).take (k * Wn + j))) ∧ Below w.heap.size w wi) (fun _ x _ => Wn - (intOf x).toNat)
      case atStart => exact ⟨0, by omega, rfl, HO.out, hb⟩
      case round =>
        obtain ⟨j, hj, rfl, hoi, hbi⟩ := hrel
        obtain ⟨c0, c1⟩ := HC.out _ hbi
        have HOI := Lib.hid hoi
        clear hoi
        by_cases hjt : j < Wn
        · have hdj : decide ((j : Int) < (Wn : Int)) = true := by simp; omega
          have hkw : k * Wn ≤ 90 := Nat.le_trans (Nat.mul_le_mul (show k ≤ 9 by omega) hW) (by omega)
          go_wp2_with (at_builtin; refine wpList_append_own _ rfl _ _ 45 rfl w.heap.size 37 i0 (.agg #[.int .i8 0, .int .i8 0]) 2 2 Try.underlying45 HI.out.1 HI.out.2.1 HI.out.2.2.1 HI.out.2.2.2 rfl (by decide) _ _ _ rfl (HOI.out.alloc _) ⟨wr.heap.size, 0, none⟩ 1 1 [.int .i8 j, .int .i8 k] rfl rfl ?c1 ?c2 ?c3 ?c4 ?c5 ?_)
          case c1 =>
            intro i u hu
            match i, hu with
            | 0, hu => simp at hu; subst hu; exact (Holds.new wr #[.int .i8 j, .int .i8 k] 37).cell 0
            | 1, hu => simp at hu; subst hu; exact (Holds.new wr #[.int .i8 j, .int .i8 k] 37).cell 1
          case c2 => intro u hu; simp at hu; rcases hu with rfl | rfl <;> rfl
          case c3 => unfold maxLen; omega
          case c4 => omega
          case c5 => have := hbi.size; simp; omega
          · intro v' w1 hown' hgrow _
            have hs : w.heap.size ≤ wr.heap.size := hbi.size
            have hb1 : Below w.heap.size w w1 := below_own (hbi.alloc hs _) (HOI.out.alloc _) hgrow (by simp; omega)
            have ho1 : w1.ownsRow w.heap.size 37 2 v' (k * Wn + (j + 1)) (flatV ((allC Wn Hn).take (k * Wn + (j + 1)))) := by
              rw [← Nat.add_assoc, allC_take Wn Hn k j hjt hlt, flatV_append]
              exact hown'
            have HO1 := Lib.hid ho1
            clear hown' hgrow ho1 c0 c1
            go_wp2_with fail
            go_roundw
            case rel => exact ⟨j + 1, by omega, by go_num, HO1.out, hb1⟩
            case measure => simp [intOf]; omega
        · have hdj : decide ((j : Int) < (Wn : Int)) = false := by simp; omega
          go_wp2_with fail
          go_roundw
          case rel => exact ⟨k + 1, by omega, by go_num, by rw [Nat.add_mul, Nat.one_mul]; rw [show j = Wn by omega] at HOI; exact HOI.out, hbi⟩
          case measure => simp [intOf]; omega
    · have hd : decide ((k : Int) < (Hn : Int)) = false := by simp; omega
      go_wp2_with fail
      go_ret
      obtain rfl : k = Hn := by omega
      refine ⟨_, rfl, ?_, hb⟩
      have := HO.out
      rwa [List.take_of_length_le (by rw [allC_length]; omega)] at this

theorem own_cell {w : World} {B : Nat} {e : TypeId} {size n g cap : Nat} {xs : List Value} (h : w.ownsRow B e size (.slice (some ⟨g, 0, none⟩) n cap) n xs) (i : Nat) (u : Value) (hu : xs[i]? = some u) : w.cell? ⟨g, i, none⟩ = some u := by
  rcases h.2 with ⟨h0, -⟩ | ⟨g', cap', cur, he, hb, hg, hn, hm, hs, ht⟩
  · simp at h0
  · simp only [Value.slice.injEq, Option.some.injEq, Addr.mk.injEq] at he
    obtain ⟨⟨rfl, -⟩, -, rfl⟩ := he
    have hlt : i < xs.length := (List.getElem?_eq_some_iff.1 hu).1
    rw [← ht] at hu
    simp only [World.cell?, hg]
    rw [List.getElem?_take] at hu
    split at hu
    · simpa using hu
    · cases hu
theorem own_form {w : World} {B : Nat} {e : TypeId} {size n : Nat} {v : Value} {xs : List Value} (h : w.ownsRow B e size v n xs) (hn : 0 < n) : ∃ g cap, v = .slice (some ⟨g, 0, none⟩) n cap ∧ B ≤ g ∧ g < w.heap.size := by
  rcases h.2 with ⟨-, h0⟩ | ⟨g, cap, cur, he, hb, hg, -⟩
  · omega
  · exact ⟨g, cap, he, hb, (Array.getElem?_eq_some_iff.1 hg).1⟩

/-- The cells of a kind. -/
def ofKind (L : Lawn) (W H : Nat) (K : Int) : List (Fin W × Fin H) := (allC W H).filter fun c => L.kind c.2 c.1 == K
def ofKindTo (L : Lawn) (W H : Nat) (K : Int) (i : Nat) : List (Fin W × Fin H) := ((allC W H).take i).filter fun c => L.kind c.2 c.1 == K

theorem ofKindTo_hit {L : Lawn} {W H : Nat} {K : Int} {i : Nat} {c : Fin W × Fin H} (hc : (allC W H)[i]? = some c) (hk : L.kind c.2 c.1 = K) : ofKindTo L W H K (i + 1) = ofKindTo L W H K i ++ [c] := by
  unfold ofKindTo
  rw [List.take_add_one, hc]
  simp [hk]
theorem ofKindTo_miss {L : Lawn} {W H : Nat} {K : Int} {i : Nat} {c : Fin W × Fin H} (hc : (allC W H)[i]? = some c) (hk : ¬ L.kind c.2 c.1 = K) : ofKindTo L W H K (i + 1) = ofKindTo L W H K i := by
  unfold ofKindTo
  rw [List.take_add_one, hc]
  simp [hk]
theorem ofKindTo_le (L : Lawn) (W H : Nat) (K : Int) (i : Nat) : (ofKindTo L W H K i).length ≤ i := by
  unfold ofKindTo
  refine Nat.le_trans (List.length_filter_le _ _) ?_
  simp; omega

set_option maxRecDepth 100000 in
set_option maxHeartbeats 1000000 in
theorem l01Cells_any (Wn Hn : Nat) (hW : Wn ≤ 10) (hH : Hn ≤ 10) (hW1 : 1 ≤ Wn) (hH1 : 1 ≤ Hn) (L : Lawn) (hL : L.Fits) (hLw : L.wide = Wn) (hLh : L.high = Hn) (K : Int) (b : Nat) (w : World) (h : Holds w b L.cells) :
    Calls Try.prog 70 #[.pointer (some ⟨b, 0, none⟩), .int .i64 K] w fun e w' => ∃ v, e = .returned v ∧ w'.ownsRow w.heap.size 37 2 v (ofKind L Wn Hn K).length (flatV (ofKind L Wn Hn K)) ∧ Below w.heap.size w w' := by
  obtain ⟨i0, hi, hz0, hz1, hz2⟩ := info_parts cellInfo
  have HI := Lib.hid (show Try.prog.info? 37 = some i0 ∧ i0.zero = some (.agg #[.int .i8 0, .int .i8 0]) ∧ i0.size = 2 ∧ i0.bytes = 2 from ⟨hi, hz0, hz1, hz2⟩)
  have HH := Lib.hid h
  have HL := Lib.hid hL
  clear hi hz0 hz1 hz2 hL
  go_enter Try.func70, Try.ntmps70
  go_wp2_with fail
  have hm : (w.alloc (.cells #[] 37)).ownsRow w.heap.size 37 2 (.slice (some ⟨w.heap.size, 0, none⟩) 0 0) 0 [] := World.ownsRow_made w #[] 0 (Nat.le_refl _) (by simp [maxLen]) rfl
  have hb0 := (Below.refl w.heap.size w).alloc (Nat.le_refl _) (.cells #[] 37)
  have hs0 : w.heap.size < (w.alloc (.cells #[] 37)).heap.size := by simp
  obtain ⟨W0, hW0⟩ : ∃ W0, w.alloc (.cells #[] 37) = W0 := ⟨_, rfl⟩
  rw [hW0] at hm hb0 hs0 ⊢
  clear hW0
  refine (l01All_any Wn Hn hW hH L hLw hLh b W0 (h.below hb0 h.lt)).mono ?_
  rintro e w1 ⟨vA, rfl, hoA, hb1⟩
  clear h hLw hLh
  have hn : 0 < Hn * Wn := Nat.mul_pos (by omega) (by omega)
  have hn1 : Hn * Wn ≤ 100 := Nat.le_trans (Nat.mul_le_mul hH hW) (by omega)
  obtain ⟨g, cap, rfl, hg0, hg1⟩ := own_form hoA hn
  have hb2 : Below w.heap.size w w1 := hb0.trans (hb1.mono (by omega))
  have hm1 : w1.ownsRow w.heap.size 37 2 (.slice (some ⟨w.heap.size, 0, none⟩) 0 0) 0 [] := hm.kept (row := none) ⟨hb1.os, hb1.tape, hb1.output, hb1.size, fun k hk _ => hb1.block k hk⟩ (by simp [Value.ownBlock])
  clear hm hb0 hb1
  obtain ⟨N, hN⟩ : ∃ N, Hn * Wn = N := ⟨_, rfl⟩
  have hall : (allC Wn Hn).length = N := by rw [allC_length, hN]
  rw [hN] at hoA hn hn1 ⊢
  have HA := Lib.hid hall
  clear hN hall
  go_wp2_with fail
  have hs0' : w.heap.size ≤ g := by omega
  have hne : w.heap.size ≠ g := by omega
  go_loopw [5, 7] (fun v x wr => ∃ i : Nat, i ≤ N ∧ x = .int .i64 i ∧ wr.ownsRow w.heap.size 37 2 v (ofKindTo L Wn Hn K i).length (flatV (ofKindTo L Wn Hn K i)) ∧ wr.ownsRow W0.heap.size 37 2 (.slice (some ⟨g, 0, none⟩) N cap) N (flatV (allC Wn Hn)) ∧ v.ownBlock ≠ some g ∧ g < wr.heap.size ∧ Below w.heap.size w wr) (fun _ x _ => N - (intOf x).toNat)
  case atStart => exact ⟨0, by omega, rfl, by simpa [ofKindTo, flatV] using hm1, hoA, by simp [Value.ownBlock]; exact hne, hg1, hb2⟩
  case round =>
    obtain ⟨i, hi, rfl, ho, hA, hv, hg, hb⟩ := hrel
    have HO := Lib.hid ho
    have HAo := Lib.hid hA
    have HV := Lib.hid hv
    clear ho hA hv hm1 hoA hb2
    by_cases hlt : i < N
    · have hd : decide ((i : Int) < (N : Int)) = true := by simp; omega
      obtain ⟨c, hc⟩ : ∃ c, (allC Wn Hn)[i]? = some c := ⟨_, List.getElem?_eq_getElem (by rw [HA.out]; exact hlt)⟩
      have HC := Lib.hid hc
      obtain ⟨ca, cb⟩ := flatV_get _ _ _ hc
      have ca := own_cell HAo.out _ _ ca
      have cb := own_cell HAo.out _ _ cb
      clear hc
      go_wp2_with fail
      refine (at_any L HL.out b c.1.val c.2.val (by have := c.1.isLt; omega) (by have := c.2.isLt; omega) _ (HH.out.below hb HH.out.lt)).mono ?_
      rintro e w2 ⟨rfl, hb3⟩
      have hb4 : Below w.heap.size w w2 := below_onto hb hb3
      have hk3 : wr.grownBy w2 none := ⟨hb3.os, hb3.tape, hb3.output, hb3.size, fun k hk _ => hb3.block k hk⟩
      have HO2 := Lib.hid (HO.out.kept hk3 (by cases hx : Value.ownBlock _ <;> simp))
      have HA2 := Lib.hid (HAo.out.kept hk3 (by simp [Value.ownBlock]))
      have hg2 : g < w2.heap.size := Nat.lt_of_lt_of_le hg hb3.size
      clear hk3 hb3 hb ca cb
      by_cases hk : L.kind c.2.val c.1.val = K
      · have hkd : ((L.kind c.2.val c.1.val : Int) == K) = true := by simp [hk]
        have HK := Lib.hid hk
        obtain ⟨ca, cb⟩ := flatV_get _ _ _ HC.out
        have ca := own_cell HA2.out _ _ ca
        have cb := own_cell HA2.out _ _ cb
        have hle := ofKindTo_le L Wn Hn K i
        clear hk
        go_wp2_with (at_builtin; refine wpList_append_own_at _ rfl _ _ 45 rfl w.heap.size 37 i0 (.agg #[.int .i8 0, .int .i8 0]) 2 2 Try.underlying45 HI.out.1 HI.out.2.1 HI.out.2.2.1 HI.out.2.2.2 rfl (by decide) _ _ _ rfl (HO2.out.alloc _) ⟨w2.heap.size, 0, none⟩ 1 1 [.int .i8 c.1.val, .int .i8 c.2.val] rfl rfl ?c1 ?c2 ?c3 ?c4 ?c5 ?_)
        case c1 =>
          intro m u hu
          match m, hu with
          | 0, hu => simp at hu; subst hu; exact (Holds.new w2 #[.int .i8 c.1.val, .int .i8 c.2.val] 37).cell 0
          | 1, hu => simp at hu; subst hu; exact (Holds.new w2 #[.int .i8 c.1.val, .int .i8 c.2.val] 37).cell 1
        case c2 => intro u hu; simp at hu; rcases hu with rfl | rfl <;> rfl
        case c3 => unfold maxLen; omega
        case c4 => omega
        case c5 => have := hb4.size; simp; omega
        · intro v' w3 hown' hgrow _ hat
          have hs : w.heap.size ≤ w2.heap.size := hb4.size
          have hb5 : Below w.heap.size w w3 := below_own (hb4.alloc hs _) (HO2.out.alloc _) hgrow (by simp; omega)
          have ho3 : w3.ownsRow w.heap.size 37 2 v' (ofKindTo L Wn Hn K (i + 1)).length (flatV (ofKindTo L Wn Hn K (i + 1))) := by
            rw [ofKindTo_hit HC.out HK.out, flatV_append, List.length_append]
            exact hown'
          have hA3 : w3.ownsRow W0.heap.size 37 2 (.slice (some ⟨g, 0, none⟩) N cap) N (flatV (allC Wn Hn)) := (HA2.out.alloc _).kept hgrow (.inr (Ne.symm HV.out))
          have hv3 : v'.ownBlock ≠ some g := by
            rcases hat with h | h
            · rw [h]; exact HV.out
            · rw [h]; simp; omega
          have hg3 : g < w3.heap.size := Nat.lt_of_lt_of_le (by simp; omega) hgrow.size
          have HO3 := Lib.hid ho3
          have HA3 := Lib.hid hA3
          have HV3 := Lib.hid hv3
          clear hown' hgrow ho3 hA3 hv3 hat ca cb hb4
          go_wp2_with fail
          go_roundw
          case rel => exact ⟨i + 1, by omega, by go_num, HO3.out, HA3.out, HV3.out, hg3, hb5⟩
          case measure => simp [intOf]; omega
      · have hkd : ((L.kind c.2.val c.1.val : Int) == K) = false := by simp [hk]
        have ho3 := ofKindTo_miss (L := L) (K := K) HC.out hk
        rw [← ho3] at HO2
        have HO3 := HO2
        clear ho3 HO2 hk
        go_wp2_with fail
        go_roundw
        case rel => exact ⟨i + 1, by omega, by go_num, HO3.out, HA2.out, HV.out, hg2, hb4⟩
        case measure => simp [intOf]; omega
    · have hd : decide ((i : Int) < (N : Int)) = false := by simp; omega
      go_wp2_with fail
      go_ret
      refine ⟨_, rfl, ?_, hb⟩
      have := HO.out
      unfold ofKindTo at this
      rwa [List.take_of_length_le (by rw [HA.out]; omega)] at this
end Go.Proofs.Ytaeenkjbmlgcmaa

namespace Go.Proofs.Ytaeenkjbmlgcmaa
open Go.RowKit
attribute [local go_sem ↓] loadRow loadGrid loadLawn loadMirror storeRow storeGrid storeLawn allocRow allocGrid allocLawn buildZero buildSides

/-- What CountKind answers. -/
def countV (L : Lawn) (K : Int) : Value :=
  if told (validB L) (inB K 0 3) = 0 then .tuple #[.int .i64 (ofKind L L.wide.toNat L.high.toNat K).length, .int .i64 0] else .tuple #[.int .i64 0, .int .i64 (told (validB L) (inB K 0 3))]
theorem valid_sides {L : Lawn} (h : validB L = true) : ∃ W H : Nat, (W ≤ 10 ∧ H ≤ 10) ∧ (1 ≤ W ∧ 1 ≤ H) ∧ L.wide = W ∧ L.high = H := by
  obtain ⟨h1, h2, -⟩ := validB_true h
  exact ⟨L.wide.toNat, L.high.toNat, by omega, by omega, by omega, by omega⟩

end Go.Proofs.Ytaeenkjbmlgcmaa

namespace Go.Proofs.Ytaeenkjbmlgcmaa
open Go.RowKit
set_option linter.unusedVariables false

theorem own_set {w : World} {B : Nat} {e : TypeId} {size n g cap : Nat} {xs : List Value} (h : w.ownsRow B e size (.slice (some ⟨g, 0, none⟩) n cap) n xs) (i : Nat) (u : Value) (hi : i < xs.length) :
    (w.setCell ⟨g, i, none⟩ u).ownsRow B e size (.slice (some ⟨g, 0, none⟩) n cap) n (xs.set i u) := by
  obtain ⟨hl, h2⟩ := h
  refine ⟨by simpa using hl, ?_⟩
  rcases h2 with ⟨h0, -⟩ | ⟨g', cap', cur, he, hb, hg, hn, hm, hs, ht⟩
  · simp at h0
  · simp only [Value.slice.injEq, Option.some.injEq, Addr.mk.injEq] at he
    obtain ⟨⟨rfl, -⟩, -, rfl⟩ := he
    refine .inr ⟨g, cap, cur.setIfInBounds i u, rfl, hb, heap_setCell_same w g i cur e u hg, hn, hm, by simpa using hs, ?_⟩
    rw [← ht, Array.toList_setIfInBounds, List.take_set]
theorem own_free {w : World} {B : Nat} {e : TypeId} {size n g cap : Nat} {xs : List Value} (h : w.ownsRow B e size (.slice (some ⟨g, 0, none⟩) n cap) n xs) (j : Nat) : w.frozen? ⟨g, j, none⟩ = false := by
  rcases h.2 with ⟨h0, -⟩ | ⟨g', cap', cur, he, hb, hg, -⟩
  · simp at h0
  · simp only [Value.slice.injEq, Option.some.injEq, Addr.mk.injEq] at he
    obtain ⟨⟨rfl, -⟩, -, rfl⟩ := he
    simp [World.frozen?, hg]
theorem own_lt {w : World} {B : Nat} {e : TypeId} {size n g cap : Nat} {xs : List Value} (h : w.ownsRow B e size (.slice (some ⟨g, 0, none⟩) n cap) n xs) : B ≤ g ∧ g < w.heap.size := by
  rcases h.2 with ⟨h0, -⟩ | ⟨g', cap', cur, he, hb, hg, -⟩
  · simp at h0
  · simp only [Value.slice.injEq, Option.some.injEq, Addr.mk.injEq] at he
    obtain ⟨⟨rfl, -⟩, -, rfl⟩ := he
    exact ⟨hb, (Array.getElem?_eq_some_iff.1 hg).1⟩

/-- Numbers from k on, as int8. -/
def marks8 (k m : Nat) : List Value := (List.range m).map fun j : Nat => .int .i8 (IntKind.i8.wrap ((k : Int) + j))
def marks64 (k m : Nat) : List Value := (List.range m).map fun j : Nat => .int .i64 ((k : Int) + j)
@[simp] theorem marks8_length (k m : Nat) : (marks8 k m).length = m := by simp [marks8]
@[simp] theorem marks64_length (k m : Nat) : (marks64 k m).length = m := by simp [marks64]
theorem marks8_get (k m j : Nat) (h : j < m) : (marks8 k m)[j]? = some (.int .i8 (IntKind.i8.wrap ((k : Int) + j))) := by simp [marks8, h]
theorem marks64_get (k m j : Nat) (h : j < m) : (marks64 k m)[j]? = some (.int .i64 ((k : Int) + j)) := by simp [marks64, h]
/-- A list whose first i members are marks. -/
def marked (ms xs : List Value) (i : Nat) : List Value := ms.take i ++ xs.drop i
theorem marked_length (ms xs : List Value) (i : Nat) (h : ms.length = xs.length) : (marked ms xs i).length = xs.length := by simp [marked]; omega
theorem marked_set (ms xs : List Value) (i : Nat) (u : Value) (h : ms.length = xs.length) (hi : ms[i]? = some u) : (marked ms xs i).set i u = marked ms xs (i + 1) := by
  have hlt := (List.getElem?_eq_some_iff.1 hi).1
  unfold marked
  rw [List.set_append_right _ _ (by simp; omega)]
  rw [List.take_add_one, hi]
  simp only [List.length_take, Option.toList_some, List.append_assoc]
  congr 1
  rw [show i - min i ms.length = 0 by omega, List.drop_eq_getElem_cons (by omega : i < xs.length)]
  rfl
theorem marked_all (ms xs : List Value) (h : ms.length = xs.length) : marked ms xs ms.length = ms := by simp [marked, List.drop_eq_nil_of_le (Nat.le_of_eq h.symm)]
theorem marked_none (ms xs : List Value) : marked ms xs 0 = xs := by simp [marked]

theorem own_mark {w : World} {B : Nat} {e : TypeId} {size n g cap : Nat} {ms xs : List Value} {i : Nat} {u : Value} (h : w.ownsRow B e size (.slice (some ⟨g, 0, none⟩) n cap) n (marked ms xs i)) (hl : ms.length = xs.length) (hu : ms[i]? = some u) :
    (w.setCell ⟨g, i, none⟩ u).ownsRow B e size (.slice (some ⟨g, 0, none⟩) n cap) n (marked ms xs (i + 1)) := by
  have hlt := (List.getElem?_eq_some_iff.1 hu).1
  rw [← marked_set ms xs i u hl hu]
  exact own_set h i u (by rw [marked_length _ _ _ hl]; omega)
theorem grown_set {w w' : World} {g : Nat} (h : w.grownBy w' (some g)) (i : Nat) (u : Value) : w.grownBy (w'.setCell ⟨g, i, none⟩ u) (some g) :=
  ⟨h.os, h.tape, h.output, by have := h.size; simpa using this, fun k hk hr => (Below.heap_setCell w' ⟨g, i, none⟩ u k (fun e => hr (by rw [e]))).trans (h.block k hk hr)⟩
theorem grown_refl (w : World) (row : Option Nat) : w.grownBy w row := ⟨rfl, rfl, rfl, Nat.le_refl _, fun _ _ _ => rfl⟩
theorem own_apart {w w' : World} {B B' : Nat} {e e' : TypeId} {size size' n n' : Nat} {v v' : Value} {xs xs' : List Value} (h : w.ownsRow B e size v n xs) (hs : w.heap.size ≤ B') (h' : w'.ownsRow B' e' size' v' n' xs') : v.ownBlock = none ∨ v.ownBlock ≠ v'.ownBlock := by
  cases hv : v.ownBlock with
  | none => exact .inl rfl
  | some k =>
    refine .inr fun he => ?_
    have h1 := (h.lt k hv).2
    have h2 := own_far h' k he.symm
    omega
theorem held_grown {W W' : World} {b B : Nat} {cs : Array Value} {e : TypeId} {size n : Nat} {v : Value} {xs : List Value} (h : Holds W b cs) (ho : W.ownsRow B e size v n xs) (hg : W.grownBy W' v.ownBlock) (hb : b < B) : Holds W' b cs := by
  have hl := h.lt
  obtain ⟨t, ht⟩ := h
  refine ⟨t, (hg.block b hl fun hk => ?_).trans ht⟩
  have := own_far ho b hk.symm
  omega
theorem below_marked {W W' : World} {A B : Nat} {w : World} {e : TypeId} {size n : Nat} {v : Value} {xs : List Value} (h : Below A w W) (ho : W.ownsRow B e size v n xs) (hg : W.grownBy W' v.ownBlock) (hb : A ≤ B) (hA : A ≤ W.heap.size) : Below A w W' :=
  h.grown hg hA fun k hk => Nat.le_trans hb (own_far ho k hk)
/-- The turn of a block of deferred calls leaves what is owned. -/
theorem own_putD {W : World} {D B : Nat} {o o' : Obj} {e : TypeId} {size n : Nat} {v : Value} {xs : List Value} (h : W.ownsRow B e size v n xs) (hK : W.heap[D]? = some o) (ho : o.isCells = false := by rfl) : (W.putObj D o').ownsRow B e size v n xs := by
  refine World.ownsRow.kept h (grownBy_putObj' W D o') ?_
  rcases h.2 with ⟨he, -⟩ | ⟨g, cap, cur, he, hb, hgg, -⟩
  · rw [he]; exact .inl rfl
  · rw [he]
    refine .inr fun hgD => ?_
    simp only [Value.ownBlock, Option.some.injEq] at hgD
    subst hgD
    rw [hgg] at hK
    cases hK
    cases ho
end Go.Proofs.Ytaeenkjbmlgcmaa

namespace Go.Proofs.Ytaeenkjbmlgcmaa
open Go.RowKit Go.Shelf
set_option linter.unusedVariables false
attribute [local go_sem] Oper.semAt_some
attribute [local go_sem ↓] loadRow loadGrid loadLawn loadMirror storeRow storeGrid storeLawn allocRow allocGrid allocLawn buildZero buildSides loadRow' loadGrid' loadLawn' loadMirror' storeRow' storeGrid' storeLawn' allocRow' allocGrid' allocLawn' buildZero' buildSides'

/-- Those of some cells of which p is so. -/
def filtB {W H : Nat} (p : Nat → Nat → Bool) (pre : List (Fin W × Fin H)) : List (Fin W × Fin H) := pre.filter fun c => p c.2 c.1
theorem filtB_hit {W H : Nat} {p : Nat → Nat → Bool} {pre : List (Fin W × Fin H)} {c : Fin W × Fin H} (h : p c.2 c.1 = true) : filtB p (pre ++ [c]) = filtB p pre ++ [c] := by simp [filtB, h]
theorem filtB_miss {W H : Nat} {p : Nat → Nat → Bool} {pre : List (Fin W × Fin H)} {c : Fin W × Fin H} (h : p c.2 c.1 = false) : filtB p (pre ++ [c]) = filtB p pre := by simp [filtB, h]
theorem filtB_le {W H : Nat} (p : Nat → Nat → Bool) (pre : List (Fin W × Fin H)) : (filtB p pre).length ≤ pre.length := List.length_filter_le _ _

def sideB (A B : Lawn) : Bool := A.wide == B.wide && A.high == B.high
/-- The code of DifferIn. -/
def differC (A B : Lawn) : Int := if validB A && validB B then (if sideB A B then 0 else 4) else 1
def differP (A B : Lawn) (y x : Nat) : Bool := A.kind y x != B.kind y x
def differL (A B : Lawn) : List (Fin A.wide.toNat × Fin A.high.toNat) := if differC A B = 0 then filtB (differP A B) (allC A.wide.toNat A.high.toNat) else []

/-- The list that a loop over the cells has gathered, in its variable at block s. -/
def Gathers (s B : Nat) (l : List Value) (n : Nat) (W : World) : Prop := ∃ v, Holds W s #[v] ∧ W.ownsRow B 37 2 v n l
theorem gathers_own {β : Type} (s B : Nat) (l : β → List Value) (n : β → Nat) : Own (fun (b : β) w => Gathers s B (l b) (n b) w) := by
  rintro b W W' row ⟨v, h1, h2⟩ hg hr
  exact ⟨v, h1.grown hg hr, own_of_own (B := B) (e := 37) (size := 2) (v := fun _ : Unit => v) (n := fun _ => n b) (xs := fun _ => l b) () W W' row h2 hg hr⟩


theorem side_nats {L : Lawn} (hv : validB L = true) : ∃ W H : Nat, (W ≤ 10 ∧ H ≤ 10) ∧ (1 ≤ W ∧ 1 ≤ H) ∧ L.wide.toNat = W ∧ L.high.toNat = H ∧ L.wide = W ∧ L.high = H := by
  obtain ⟨h1, h2, -⟩ := validB_true hv
  exact ⟨L.wide.toNat, L.high.toNat, by omega, by omega, rfl, rfl, by omega, by omega⟩

end Go.Proofs.Ytaeenkjbmlgcmaa
