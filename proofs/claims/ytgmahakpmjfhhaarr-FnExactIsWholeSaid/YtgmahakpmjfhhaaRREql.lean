/- What '==' says of two grids, and of two lawns. -/
import Derived.Test.YtgmahakpmjfhhaaRREq
import Derived.ChangeKeysEq
namespace Go.Proofs.YtgmahakpmjfhhaaRR
open Go.RowKit

def rowEq (n : Nat) (f g : Nat → Int) : Bool := (List.range n).all fun i => f i == g i
def gridEq (g h : Nat → Nat → Int) : Bool := (List.range 10).all fun k => rowEq 10 (g k) (h k)
def lawnEq (A B : Lawn) : Bool := A.wide == B.wide && (A.high == B.high && gridEq A.kind B.kind)
theorem gridEq_true {g h : Nat → Nat → Int} (e : gridEq g h = true) : ∀ y x, y < 10 → x < 10 → g y x = h y x := by
  intro y x hy hx
  simp only [gridEq, rowEq, List.all_eq_true, List.mem_range, beq_iff_eq] at e
  exact e y hy x hx
theorem gridEq_of {g h : Nat → Nat → Int} (e : ∀ y x, y < 10 → x < 10 → g y x = h y x) : gridEq g h = true := by
  simp only [gridEq, rowEq, List.all_eq_true, List.mem_range, beq_iff_eq]
  exact fun y hy x hx => e y x hy hx

section
variable {P : Program} (w : World)
theorem run_part_one {e : TypeId} {k : IntKind} (he : P.underlying e = some (.int k)) (cs : Array Value) (off : Nat) (v : Value) (h : cs[off]? = some v) : (part e cs off).run P w = .ok v w := by
  have hagg : (isAgg e).run P w = .ok false w := by
    unfold isAgg
    rw [Sem.run_bind, run_underlying he w]
    rfl
  simp [part, Sem.run_bind, hagg, h]
theorem run_part_wide {e n : Nat} (he : wideB P e n = true) (cs : Array Value) (off : Nat) : (part e cs off).run P w = .ok (.agg (cs.extract off (off + n))) w := by
  obtain ⟨⟨i, hi, hs⟩, ha⟩ := wide_of he
  simp [part, Sem.run_bind, ha, sizeOf, typeInfo, hi, hs]
theorem eqItems_row (d : Nat) {e : TypeId} (he : P.underlying e = some (.int .u8)) (n : Nat) (f g : Nat → Int) : ∀ (is : List Nat), (∀ i ∈ is, i < n) →
    (Op.eqItems (d + 1) e 1 (rowOf n f) (rowOf n g) is).run P w = .ok (is.all fun i => f i == g i) w
  | [], _ => by simp [Op.eqItems]
  | i :: is, h => by
    have hi := h i (by simp)
    have ih := eqItems_row d he n f g is (fun j hj => h j (by simp [hj]))
    simp only [Op.eqItems, Sem.run_bind, Nat.mul_one, run_part_one w he _ _ _ (rowOf_get n f i hi), run_part_one w he _ _ _ (rowOf_get n g i hi), Result.andThen_ok, run_equalIn_int w d e .u8 .u8 (f i) (g i) he]
    cases hq : (f i == g i)
    · simp [hq]
    · simp [hq, ih]
theorem equal_row (d : Nat) {t e : TypeId} (ht : P.underlying t = some (.array 10 e)) (he : P.underlying e = some (.int .u8)) (hc : P.cellsOf e = 1) (f g : Nat → Int) :
    (Op.equalIn (d + 2) t (.agg (rowOf 10 f)) (.agg (rowOf 10 g))).run P w = .ok (rowEq 10 f g) w := by
  obtain ⟨i, hi⟩ := info_of_underlying he
  rw [show d + 2 = (d + 1) + 1 from rfl, run_equalIn_array w (d + 1) _ _ ht hi, hc]
  exact eqItems_row w d he 10 f g _ (fun i hi => by simpa using hi)
theorem eqItems_grid (d : Nat) {t e : TypeId} (hw : wideB P t 10 = true) (ht : P.underlying t = some (.array 10 e)) (he : P.underlying e = some (.int .u8)) (hc : P.cellsOf e = 1) (g h : Nat → Nat → Int) : ∀ (is : List Nat), (∀ i ∈ is, i < 10) →
    (Op.eqItems (d + 2) t 10 (gridOf g) (gridOf h) is).run P w = .ok (is.all fun i => rowEq 10 (g i) (h i)) w
  | [], _ => by simp [Op.eqItems]
  | i :: is, hh => by
    have hi := hh i (by simp)
    have ih := eqItems_grid d hw ht he hc g h is (fun j hj => hh j (by simp [hj]))
    simp only [Op.eqItems, Sem.run_bind, run_part_wide w hw, gridOf_row _ i hi, Result.andThen_ok, equal_row w d ht he hc]
    cases hq : rowEq 10 (g i) (h i)
    · simp [hq]
    · simp [hq, ih]
theorem equal_grid (d : Nat) {s t e : TypeId} (hs : P.underlying s = some (.array 10 t)) (cs : P.cellsOf t = 10) (hw : wideB P t 10 = true) (ht : P.underlying t = some (.array 10 e)) (he : P.underlying e = some (.int .u8)) (hc : P.cellsOf e = 1) (g h : Nat → Nat → Int) :
    (Op.equalIn (d + 3) s (.agg (gridOf g)) (.agg (gridOf h))).run P w = .ok (gridEq g h) w := by
  obtain ⟨⟨i, hi, _⟩, _⟩ := wide_of hw
  rw [show d + 3 = (d + 2) + 1 from rfl, run_equalIn_array w (d + 2) _ _ hs hi, cs]
  exact eqItems_grid w d hw ht he hc g h _ (fun i hi => by simpa using hi)
end

/-- '==' of two values of several cells, so that the walk takes it in one step. -/
def opEql (P : Program) (ty : TypeId) (x y : Operand) (u v : Value) (w : World) : Result Next := Sem.run P (do let r ← (do eqGuard .eql ty x y u v; binOp .eql ty u v); pure (Next.value r)) w
theorem eqlGrid (ρ : Operand → Value) (dst : Option Tmp) (x y : Operand) (t : TypeId) (pos : String) (aft : Array Edge) (g : Option (Nat × Bool)) (w : World) :
    (execOp ρ ⟨dst, .binOp .eql 26 x y 26, t, pos, aft, g⟩).run Try.prog w = opEql Try.prog 26 x y (ρ x) (ρ y) w := rfl
theorem eqlLawn (ρ : Operand → Value) (dst : Option Tmp) (x y : Operand) (t : TypeId) (pos : String) (aft : Array Edge) (g : Option (Nat × Bool)) (w : World) :
    (execOp ρ ⟨dst, .binOp .eql 28 x y 28, t, pos, aft, g⟩).run Try.prog w = opEql Try.prog 28 x y (ρ x) (ρ y) w := rfl

theorem eqlGrid' (ρ : Operand → Value) (dst : Option Tmp) (x y : Operand) (t : TypeId) (pos : String) (aft : Array Edge) (g : Option (Nat × Bool)) (w : World) (q : Option Nat) :
    (Oper.semAt q ρ ⟨dst, .binOp .eql 26 x y 26, t, pos, aft, g⟩).run Try.prog w = opEql Try.prog 26 x y (ρ x) (ρ y) w := by
  have h : Oper.semAt q ρ ⟨dst, .binOp .eql 26 x y 26, t, pos, aft, g⟩ = execOp ρ ⟨dst, .binOp .eql 26 x y 26, t, pos, aft, g⟩ := by cases q <;> rfl
  rw [h, eqlGrid]
theorem eqlLawn' (ρ : Operand → Value) (dst : Option Tmp) (x y : Operand) (t : TypeId) (pos : String) (aft : Array Edge) (g : Option (Nat × Bool)) (w : World) (q : Option Nat) :
    (Oper.semAt q ρ ⟨dst, .binOp .eql 28 x y 28, t, pos, aft, g⟩).run Try.prog w = opEql Try.prog 28 x y (ρ x) (ρ y) w := by
  have h : Oper.semAt q ρ ⟨dst, .binOp .eql 28 x y 28, t, pos, aft, g⟩ = execOp ρ ⟨dst, .binOp .eql 28 x y 28, t, pos, aft, g⟩ := by cases q <;> rfl
  rw [h, eqlLawn]
theorem cellsU8 : Try.prog.cellsOf 5 = 1 := by kernel_rfl
theorem cellsRow : Try.prog.cellsOf 25 = 10 := by kernel_rfl
theorem guardGrid : Try.prog.eqGuardType Try.prog.depth 26 = false := by kernel_rfl
theorem guardLawn : Try.prog.eqGuardType Try.prog.depth 28 = false := by kernel_rfl
theorem heldLawn : Try.prog.stoodInHeld 28 = false := by kernel_rfl

@[go_sem] theorem eqlGrid_at (x y : Operand) (g h : Nat → Nat → Int) (w : World) : opEql Try.prog 26 x y (.agg (gridOf g)) (.agg (gridOf h)) w = .ok (.value (.bool (gridEq g h))) w := by
  have he := equal_grid (P := Try.prog) w 9997 Try.underlying26 cellsRow wideRow Try.underlying25 Try.underlying5 cellsU8 g h
  simp only [opEql, Sem.run_bind, run_eqGuard_agg (P := Try.prog) w .eql _ x y _ _ guardGrid, Result.andThen_ok, run_eql_struct (P := Try.prog) w]
  rw [show (10000 : Nat) = 9997 + 3 from rfl, he]
  rfl

theorem equal_lawn_of {P : Program} {t : TypeId} {fs : Array Field} {f0 f1 f2 : Field} (ht : P.underlying t = some (.struct fs)) (hfs : fs.toList = [f0, f1, f2]) (hheld : P.stoodInHeld t = false)
    (n0 : f0.name ≠ "_") (n1 : f1.name ≠ "_") (n2 : f2.name ≠ "_") (t0 : P.underlying f0.type = some (.int .i8)) (t1 : P.underlying f1.type = some (.int .i8)) (o0 : f0.offset = 0) (o1 : f1.offset = 1) (o2 : f2.offset = 2)
    (hw2 : wideB P f2.type 100 = true) {r e : TypeId} (hs : P.underlying f2.type = some (.array 10 r)) (cs : P.cellsOf r = 10) (hw : wideB P r 10 = true) (hr : P.underlying r = some (.array 10 e)) (he : P.underlying e = some (.int .u8)) (hc : P.cellsOf e = 1)
    (d : Nat) (A B : Lawn) (w : World) : (Op.equalIn (d + 4) t (.agg A.cells) (.agg B.cells)).run P w = .ok (lawnEq A B) w := by
  have hf : P.fieldsOf t = fs := by simp [Program.fieldsOf, ht]
  rw [show d + 4 = (d + 3) + 1 from rfl, run_equalIn_struct w (d + 3) t _ _ (by rw [hf]; exact ht) hheld, hf, hfs]
  have p0 : ∀ L : Lawn, (part f0.type L.cells f0.offset).run P w = .ok (.int .i8 L.wide) w := fun L => run_part_one w t0 _ _ _ (by rw [o0]; exact Lawn.cells_0 L)
  have p1 : ∀ L : Lawn, (part f1.type L.cells f1.offset).run P w = .ok (.int .i8 L.high) w := fun L => run_part_one w t1 _ _ _ (by rw [o1]; exact Lawn.cells_1 L)
  have p2 : ∀ L : Lawn, (part f2.type L.cells f2.offset).run P w = .ok (.agg (gridOf L.kind)) w := fun L => by rw [run_part_wide w hw2, o2, Lawn.cells_grid]
  have e0 : (Op.equalIn (d + 3) f0.type (.int .i8 A.wide) (.int .i8 B.wide)).run P w = _ := run_equalIn_int w (d + 2) f0.type .i8 .i8 A.wide B.wide t0
  have e1 : (Op.equalIn (d + 3) f1.type (.int .i8 A.high) (.int .i8 B.high)).run P w = _ := run_equalIn_int w (d + 2) f1.type .i8 .i8 A.high B.high t1
  have e2 := equal_grid (P := P) w d hs cs hw hr he hc A.kind B.kind
  unfold lawnEq
  cases h0 : (A.wide == B.wide)
  · simp [Op.eqFields, n0, p0, e0, h0]
  · cases h1 : (A.high == B.high)
    · simp [Op.eqFields, n0, n1, p0, e0, h0, p1, e1, h1]
    · cases h2 : gridEq A.kind B.kind <;> simp [Op.eqFields, n0, n1, n2, p0, e0, h0, p1, e1, h1, p2, e2, h2]

@[go_sem] theorem eqlLawn_at (x y : Operand) (A B : Lawn) (w : World) : opEql Try.prog 28 x y (.agg A.cells) (.agg B.cells) w = .ok (.value (.bool (lawnEq A B))) w := by
  have he := equal_lawn_of (P := Try.prog) Try.underlying28 rfl heldLawn (by decide) (by decide) (by decide) Try.underlying24 Try.underlying24 rfl rfl rfl wideGrid Try.underlying26 cellsRow wideRow Try.underlying25 Try.underlying5 cellsU8 9996 A B w
  simp only [opEql, Sem.run_bind, run_eqGuard_agg (P := Try.prog) w .eql _ x y _ _ guardLawn, Result.andThen_ok, run_eql_struct (P := Try.prog) w]
  rw [show (10000 : Nat) = 9996 + 4 from rfl, he]
  rfl
end Go.Proofs.YtgmahakpmjfhhaaRR
