/- Cells and lawns as keys of maps. -/
import Derived.Test.YtgmahakpmjfhhaaRRMaps
import Derived.Test.YtgmahakpmjfhhaaRREql
import Derived.DeepKeys3
namespace Go.Proofs.YtgmahakpmjfhhaaRR
open Go.RowKit
set_option linter.unusedVariables false

section
variable {P : Program}
theorem check_int {t : TypeId} {q k : IntKind} (ht : P.underlying t = some (.int q)) (e : Bool) (d : Nat) (a : Int) (w : World) : (Instr.checkKey e (d + 1) t (.int k a)).run P w = .ok () w := by
  unfold Instr.checkKey
  rw [Sem.run_bind, run_underlying ht w, Result.andThen_ok]
  rfl
theorem check_array {t el : TypeId} {n : Nat} {i : TypeInfo} (ht : P.underlying t = some (.array n el)) (hi : P.info? el = some i) (e : Bool) (d : Nat) (cs : Array Value) (w : World)
    (h : ∀ j, j < n → ∃ v, (part el cs (j * P.cellsOf el)).run P w = .ok v w ∧ (Instr.checkKey e d el v).run P w = .ok () w) : (Instr.checkKey e (d + 1) t (.agg cs)).run P w = .ok () w := by
  rw [Instr.checkKey]
  simp only [Sem.run_bind, run_underlying ht, Result.andThen_ok]
  simp only [Std.Legacy.Range.forIn_eq_forIn_range', Std.Legacy.Range.size, Nat.sub_zero, Nat.add_one_sub_one, Nat.div_one]
  have each : ∀ j ∈ List.range' 0 n, j < n := fun j hj => by
    simp only [List.mem_range'] at hj; omega
  generalize List.range' 0 n = is at each
  induction is with
  | nil => simp
  | cons j is ih =>
    obtain ⟨v, p1, p2⟩ := h j (each j (by simp))
    simp only [List.forIn_cons, Sem.run_bind, run_sizeOf w hi, Result.andThen_ok, p1, p2, Sem.run_pure]
    exact ih (fun y hy => each y (by simp [hy]))
theorem check_struct {t : TypeId} {fs : Array Field} (ht : P.underlying t = some (.struct fs)) (e : Bool) (d : Nat) (cs : Array Value) (w : World)
    (h : ∀ f ∈ fs.toList, f.name ≠ "_" ∧ ∃ v, (part f.type cs f.offset).run P w = .ok v w ∧ (Instr.checkKey e d f.type v).run P w = .ok () w) : (Instr.checkKey e (d + 1) t (.agg cs)).run P w = .ok () w := by
  rw [Instr.checkKey]
  simp only [Sem.run_bind, run_underlying ht, Result.andThen_ok]
  rw [← Array.forIn_toList]
  generalize fs.toList = L at h
  induction L with
  | nil => simp
  | cons f L ih =>
    obtain ⟨hn, v, p1, p2⟩ := h f (by simp)
    simp only [List.forIn_cons, Sem.run_bind, hn, ne_eq, not_false_eq_true, if_true, Result.andThen_ok, p1, p2, Sem.run_pure]
    exact ih (fun y hy => h y (by simp [hy]))

theorem equal_cell_of {t : TypeId} {fs : Array Field} {f0 f1 : Field} (ht : P.underlying t = some (.struct fs)) (hfs : fs.toList = [f0, f1]) (hheld : P.stoodInHeld t = false)
    (n0 : f0.name ≠ "_") (n1 : f1.name ≠ "_") (t0 : P.underlying f0.type = some (.int .i8)) (t1 : P.underlying f1.type = some (.int .i8)) (o0 : f0.offset = 0) (o1 : f1.offset = 1)
    (d : Nat) (a b : Int × Int) (w : World) : (Op.equalIn (d + 2) t (cellV a.1 a.2) (cellV b.1 b.2)).run P w = .ok (decide (a = b)) w := by
  have hf : P.fieldsOf t = fs := by simp [Program.fieldsOf, ht]
  unfold cellV
  rw [show d + 2 = (d + 1) + 1 from rfl, run_equalIn_struct w (d + 1) t _ _ (by rw [hf]; exact ht) hheld, hf, hfs]
  have p0 : ∀ c : Int × Int, (part f0.type #[.int .i8 c.1, .int .i8 c.2] f0.offset).run P w = .ok (.int .i8 c.1) w := fun c => run_part_one w t0 _ _ _ (by rw [o0]; rfl)
  have p1 : ∀ c : Int × Int, (part f1.type #[.int .i8 c.1, .int .i8 c.2] f1.offset).run P w = .ok (.int .i8 c.2) w := fun c => run_part_one w t1 _ _ _ (by rw [o1]; rfl)
  have e0 : (Op.equalIn (d + 1) f0.type (.int .i8 a.1) (.int .i8 b.1)).run P w = _ := run_equalIn_int w d f0.type .i8 .i8 a.1 b.1 t0
  have e1 : (Op.equalIn (d + 1) f1.type (.int .i8 a.2) (.int .i8 b.2)).run P w = _ := run_equalIn_int w d f1.type .i8 .i8 a.2 b.2 t1
  have hd : decide (a = b) = ((a.1 == b.1) && (a.2 == b.2)) := by
    rw [Bool.eq_iff_iff]; simp [Prod.ext_iff]
  rw [hd]
  cases h0 : (a.1 == b.1)
  · simp [Op.eqFields, n0, p0, e0, h0]
  · cases h1 : (a.2 == b.2) <;> simp [Op.eqFields, n0, n1, p0, e0, h0, p1, e1, h1]
end

theorem heldCell : Try.prog.stoodInHeld 35 = false := by kernel_rfl
/-- Cells are keys. -/
def cellK (c : Int × Int) : Value := cellV c.1 c.2
theorem cellKey : KeyOk Try.prog 35 cellK := by
  refine ⟨⟨_, Try.underlying35, by simp, by simp, by simp⟩, fun e x w => ?_, fun x y w => ?_, fun x => ?_⟩
  · refine check_struct Try.underlying35 e 9999 _ w fun f hf => ?_
    simp only [List.mem_cons, List.not_mem_nil, or_false] at hf
    rcases hf with rfl | rfl
    · exact ⟨by decide, .int .i8 x.1, run_part_one w Try.underlying24 _ _ _ rfl, check_int Try.underlying24 e 9998 _ w⟩
    · exact ⟨by decide, .int .i8 x.2, run_part_one w Try.underlying24 _ _ _ rfl, check_int Try.underlying24 e 9998 _ w⟩
  · have := equal_cell_of (P := Try.prog) Try.underlying35 rfl heldCell (by decide) (by decide) Try.underlying24 Try.underlying24 rfl rfl 9998 x y w
    exact this
  · simp [cellK, cellV, Instr.sameBits]

theorem lawnEq_refl (A : Lawn) : lawnEq A A = true := by
  have : gridEq A.kind A.kind = true := gridEq_of fun _ _ _ _ => rfl
  simp [lawnEq, this]
theorem lawnEq_comm (A B : Lawn) : lawnEq A B = lawnEq B A := by
  have h : ∀ A B, lawnEq A B = true → lawnEq B A = true := fun A B h => by
    simp only [lawnEq, Bool.and_eq_true, beq_iff_eq] at h ⊢
    obtain ⟨h1, h2, h3⟩ := h
    exact ⟨h1.symm, h2.symm, gridEq_of fun y x hy hx => (gridEq_true h3 y x hy hx).symm⟩
  rw [Bool.eq_iff_iff]
  exact ⟨h A B, h B A⟩
theorem lawnEq_cells {A B : Lawn} (h : lawnEq A B = true) : A.cells = B.cells := by
  simp only [lawnEq, Bool.and_eq_true, beq_iff_eq] at h
  obtain ⟨h1, h2, h3⟩ := h
  unfold Lawn.cells
  rw [h1, h2, gridOf_ext fun y x hy hx => gridEq_true h3 y x hy hx]
theorem check_lawn (A : Lawn) (e : Bool) (w : World) : (Instr.checkKey e 10000 28 (.agg A.cells)).run Try.prog w = .ok () w := by
  obtain ⟨iu, hiu⟩ := info_of_underlying Try.underlying5
  obtain ⟨ir, hir⟩ := info_of_underlying Try.underlying25
  have row : ∀ (f : Nat → Int) (d : Nat), (Instr.checkKey e (d + 2) 25 (.agg (rowOf 10 f))).run Try.prog w = .ok () w := fun f d => by
    refine check_array Try.underlying25 hiu e (d + 1) _ w fun j hj => ⟨.int .u8 (f j), ?_, check_int Try.underlying5 e d _ w⟩
    rw [cellsU8, Nat.mul_one]
    exact run_part_one w Try.underlying5 _ _ _ (rowOf_get 10 f j hj)
  have grid : ∀ (g : Nat → Nat → Int) (d : Nat), (Instr.checkKey e (d + 3) 26 (.agg (gridOf g))).run Try.prog w = .ok () w := fun g d => by
    refine check_array Try.underlying26 hir e (d + 2) _ w fun j hj => ⟨.agg (rowOf 10 (g j)), ?_, row (g j) d⟩
    rw [cellsRow, run_part_wide w wideRow, gridOf_row _ j hj]
  refine check_struct Try.underlying28 e 9999 _ w fun f hf => ?_
  simp only [List.mem_cons, List.not_mem_nil, or_false] at hf
  rcases hf with rfl | rfl | rfl
  · exact ⟨by decide, .int .i8 A.wide, run_part_one w Try.underlying24 _ _ _ (Lawn.cells_0 A), check_int Try.underlying24 e 9998 _ w⟩
  · exact ⟨by decide, .int .i8 A.high, run_part_one w Try.underlying24 _ _ _ (Lawn.cells_1 A), check_int Try.underlying24 e 9998 _ w⟩
  · refine ⟨by decide, .agg (gridOf A.kind), ?_, grid A.kind 9996⟩
    rw [run_part_wide w wideGrid]
    rw [show (2 : Nat) + 100 = 102 from rfl, Lawn.cells_grid]
theorem equal_lawn (A B : Lawn) (w : World) : (Op.equal 28 (.agg A.cells) (.agg B.cells)).run Try.prog w = .ok (lawnEq A B) w :=
  equal_lawn_of (P := Try.prog) Try.underlying28 rfl heldLawn (by decide) (by decide) (by decide) Try.underlying24 Try.underlying24 rfl rfl rfl wideGrid Try.underlying26 cellsRow wideRow Try.underlying25 Try.underlying5 cellsU8 9996 A B w
theorem bits_ints : ∀ (l : List Value), (∀ v ∈ l, v.oneCell' = true → ∃ k a, v = .int k a) → (∀ v ∈ l, ∃ k a, v = Value.int k a) → ((l.zip l).all fun (x, y) => Instr.sameBits 9999 x y) = true
  | [], _, _ => rfl
  | v :: l, h0, h => by
    obtain ⟨k, a, rfl⟩ := h v (by simp)
    have ih := bits_ints l (fun v hv => h0 v (by simp [hv])) (fun v hv => h v (by simp [hv]))
    simp only [List.zip_cons_cons, List.all_cons, Bool.and_eq_true]
    exact ⟨by simp [Instr.sameBits], ih⟩
theorem bits_lawn (A : Lawn) : Instr.sameBits 10000 (.agg A.cells) (.agg A.cells) = true := by
  have hi : ∀ v ∈ A.cells.toList, ∃ k a, v = Value.int k a := by
    intro v hv
    simp only [Lawn.cells, Array.toList_append, List.cons_append, List.nil_append, List.mem_cons] at hv
    rcases hv with rfl | rfl | hv
    · exact ⟨_, _, rfl⟩
    · exact ⟨_, _, rfl⟩
    · simp only [gridOf, rowOf, List.mem_map, List.mem_range] at hv
      obtain ⟨j, _, rfl⟩ := hv
      exact ⟨_, _, rfl⟩
  have := bits_ints A.cells.toList (fun v hv _ => hi v hv) hi
  show (A.cells.size == A.cells.size && _) = true
  simp only [beq_self_eq_true, Bool.true_and]
  exact this
/-- Two lawns are keys. -/
def twoK (A B : Lawn) (b : Bool) : Value := .agg (if b then B else A).cells
theorem twoKey {A B : Lawn} (h : lawnEq A B = false) : KeyOk Try.prog 28 (twoK A B) := by
  refine ⟨⟨_, Try.underlying28, by simp, by simp, by simp⟩, fun e x w => check_lawn _ e w, fun x y w => ?_, fun x => bits_lawn _⟩
  unfold twoK
  rw [equal_lawn]
  cases x <;> cases y
  · simp [lawnEq_refl]
  · simp [h]
  · simp [lawnEq_comm B A, h]
  · simp [lawnEq_refl]
def oneK (A : Lawn) (_ : Unit) : Value := .agg A.cells
theorem oneKey (A : Lawn) : KeyOk Try.prog 28 (oneK A) := by
  refine ⟨⟨_, Try.underlying28, by simp, by simp, by simp⟩, fun e x w => check_lawn _ e w, fun x y w => ?_, fun x => bits_lawn _⟩
  unfold oneK
  rw [equal_lawn, lawnEq_refl]
  simp
end Go.Proofs.YtgmahakpmjfhhaaRR
