/- What '==' says of two values of sides. -/
import Derived.Test.YteaajkkhbflmdaaDoorSd5
namespace Go.Proofs.YteaajkkhbflmdaaDoor
open Go.RowKit
set_option linter.unusedVariables false

def sdEq (f g : Sd) : Bool := (List.range 5).all fun i => f i == g i
theorem sdEq_refl (f : Sd) : sdEq f f = true := by simp [sdEq]
theorem eqItems_sd {P : Program} (w : World) (d : Nat) {e : TypeId} (he : P.underlying e = some (.int .i64)) (f g : Sd) : ∀ (is : List Nat), (∀ i ∈ is, i < 5) →
    (Op.eqItems (d + 1) e 1 (sdV f) (sdV g) is).run P w = .ok (is.all fun i => f i == g i) w
  | [], _ => by simp [Op.eqItems]
  | i :: is, h => by
    have hi := h i (by simp)
    have ih := eqItems_sd w d he f g is (fun j hj => h j (by simp [hj]))
    simp only [Op.eqItems, Sem.run_bind, Nat.mul_one, run_part_one w he _ _ _ (sdV_get f i hi), run_part_one w he _ _ _ (sdV_get g i hi), Result.andThen_ok, run_equalIn_int w d e .i64 .i64 (f i) (g i) he]
    cases hq : (f i == g i)
    · simp [hq]
    · simp [hq, ih]
theorem equal_sd {P : Program} (w : World) (d : Nat) {t e : TypeId} (ht : P.underlying t = some (.array 5 e)) (he : P.underlying e = some (.int .i64)) (hc : P.cellsOf e = 1) (f g : Sd) :
    (Op.equalIn (d + 2) t (.agg (sdV f)) (.agg (sdV g))).run P w = .ok (sdEq f g) w := by
  obtain ⟨i, hi⟩ := info_of_underlying he
  rw [show d + 2 = (d + 1) + 1 from rfl, run_equalIn_array w (d + 1) _ _ ht hi, hc]
  exact eqItems_sd w d he f g _ (fun i hi => by simpa using hi)
theorem eqlSd (ρ : Operand → Value) (dst : Option Tmp) (x y : Operand) (t : TypeId) (pos : String) (aft : Array Edge) (g : Option (Nat × Bool)) (w : World) :
    (execOp ρ ⟨dst, .binOp .eql 168 x y 168, t, pos, aft, g⟩).run Tryd.prog w = opEql Tryd.prog 168 x y (ρ x) (ρ y) w := rfl
theorem cellsI64 : Tryd.prog.cellsOf 2 = 1 := by kernel_rfl
theorem guardSd : Tryd.prog.eqGuardType Tryd.prog.depth 168 = false := by kernel_rfl
@[go_sem] theorem eqlSd_at (x y : Operand) (f g : Sd) (w : World) : opEql Tryd.prog 168 x y (.agg (sdV f)) (.agg (sdV g)) w = .ok (.value (.bool (sdEq f g))) w := by
  have he := equal_sd (P := Tryd.prog) w 9998 Tryd.underlying168 Tryd.underlying2 cellsI64 f g
  simp only [opEql, Sem.run_bind, run_eqGuard_agg (P := Tryd.prog) w .eql _ x y _ _ guardSd, Result.andThen_ok, run_eql_struct (P := Tryd.prog) w]
  rw [show (10000 : Nat) = 9998 + 2 from rfl, he]
  rfl
/-- Grass at all of four sides. -/
def sdInner : Sd := fun j => match j with | 0 => 4 | _ => 0
theorem buildInner (ρ : Operand → Value) (dst : Option Tmp) (x : Operand) (t : TypeId) (pos : String) (aft : Array Edge) (g : Option (Nat × Bool)) (w : World) :
    (execOp ρ ⟨dst, .build 168 #[(0, x)], t, pos, aft, g⟩).run Tryd.prog w = opBuild Tryd.prog 168 #[(0, ρ x)] w := by kernel_rfl
@[go_sem] theorem buildInner_at (w : World) : opBuild Tryd.prog 168 #[(0, .int .i64 4)] w = .ok (.value (.agg (sdV sdInner))) w := opBuild_of (by kernel_rfl) w
theorem inner_is {L : Lawn} (hv : validB L = true) (c : Pt) : sdEq (sidesL L c) sdInner = innerB L c := by
  have h := sidesL_all hv c
  have b := sidesL_bound L c
  have b0 := b 0
  have b1 := b 1
  have b2 := b 2
  have b3 := b 3
  have b4 := b 4
  unfold sdAll at h
  unfold sdEq innerB
  rw [Bool.eq_iff_iff]
  simp only [List.all_eq_true, List.mem_range, beq_iff_eq, decide_eq_true_eq]
  constructor
  · intro hh; exact hh 0 (by omega)
  · intro hh i hi
    have : i = 0 ∨ i = 1 ∨ i = 2 ∨ i = 3 ∨ i = 4 := by omega
    rcases this with rfl | rfl | rfl | rfl | rfl <;> simp only [sdInner] <;> omega
end Go.Proofs.YteaajkkhbflmdaaDoor
