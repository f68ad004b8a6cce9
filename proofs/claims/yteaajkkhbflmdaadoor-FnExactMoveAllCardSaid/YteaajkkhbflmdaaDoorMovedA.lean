/- A haul of the program, whatever it is. -/
import Derived.Test.YteaajkkhbflmdaaDoorMovedR
namespace Go.Proofs.YteaajkkhbflmdaaDoor
open Go.RowKit Go.Shelf
set_option linter.unusedVariables false

/-- The error that a haul meets, as a value. -/
def errV (a0 a1 a2 a3 : Addr) : Option Nat → Value
  | none => .nilIface
  | some 0 => .iface 137 (.pointer (some a0))
  | some 1 => .iface 137 (.pointer (some a1))
  | some 2 => .iface 137 (.pointer (some a2))
  | some _ => .iface 137 (.pointer (some a3))
/-- The levels that are answered beside it. -/
def hlR (L : Lawn) (g : Nat → Nat → Int) (fx fy tx ty n : Int) : Nat → Nat → Int := fun y x => if hlE L g fx fy tx ty n = none then hlG g fx fy tx ty n y x else 0
theorem hlR_bad {L : Lawn} {g : Nat → Nat → Int} {fx fy tx ty n : Int} {k : Nat} (h : hlE L g fx fy tx ty n = some k) : hlR L g fx fy tx ty n = fun _ _ => 0 := by
  funext y x
  simp [hlR, h]

theorem moved_any (L : Lawn) (hL : L.Fits) (g : Nat → Nat → Int) (hv : levB L g = true) (fx fy tx ty n : Int) {a0 a1 a2 a3 a4 : Addr} (w : World) (hE : ErrsIn w a0 a1 a2 a3 a4) :
    Calls Tryd.prog 36 #[.agg (levV g), .agg L.cells, .agg #[.int .i8 fx, .int .i8 fy, .int .i8 tx, .int .i8 ty, .int .i8 n]] w fun e w' => e = .returned (.tuple #[.agg (levV (hlR L g fx fy tx ty n)), errV a0 a1 a2 a3 (hlE L g fx fy tx ty n)]) ∧ Below w.heap.size w w' := by
  have hV := (levB_true hv).1
  obtain ⟨b1, b2, -⟩ := validB_true hV
  cases hf : isB L fx fy with
  | false =>
    have e : hlE L g fx fy tx ty n = some 0 := by simp [hlE, hlOut, hf]
    rw [hlR_bad e, e]
    exact moved_out1 L hL hV g fx fy tx ty n w hE hf
  | true =>
    cases ht : isB L tx ty with
    | false =>
      have e : hlE L g fx fy tx ty n = some 0 := by simp [hlE, hlOut, ht]
      rw [hlR_bad e, e]
      exact moved_out2 L hL hV g fx fy tx ty n w hE hf ht
    | true =>
      by_cases hn : n < 1
      · have e : hlE L g fx fy tx ty n = some 0 := by simp [hlE, hlOut, hn]
        rw [hlR_bad e, e]
        exact moved_out3 L hL hV g fx fy tx ty n w hE hf ht hn
      by_cases hm : 18 < n
      · have e : hlE L g fx fy tx ty n = some 0 := by simp [hlE, hlOut, hm]
        rw [hlR_bad e, e]
        exact moved_out4 L hL hV g fx fy tx ty n w hE hf ht hn hm
      have ho : hlOut L fx fy tx ty n = false := by simp [hlOut, hf, ht]; omega
      cases ha : grassB L fx fy with
      | false =>
        have e : hlE L g fx fy tx ty n = some 1 := by simp [hlE, ho, hlBare, ha]
        rw [hlR_bad e, e]
        exact moved_bare1 L hL hV g fx fy tx ty n w hE hf ht hn hm ha
      | true =>
        cases hb : grassB L tx ty with
        | false =>
          have e : hlE L g fx fy tx ty n = some 1 := by simp [hlE, ho, hlBare, hb]
          rw [hlR_bad e, e]
          exact moved_bare2 L hL hV g fx fy tx ty n w hE hf ht hn hm ha hb
        | true =>
          have hr : hlBare L fx fy tx ty = false := by simp [hlBare, ha, hb]
          by_cases hs : fx = tx ∧ fy = ty
          · obtain ⟨rfl, rfl⟩ := hs
            have e : hlE L g fx fy fx fy n = some 2 := by simp [hlE, ho, hr]
            rw [hlR_bad e, e]
            exact moved_same L hL hV g fx fy n w hE hf hn hm ha
          · have i1 := isB_in hf
            have i2 := isB_in ht
            obtain ⟨x1, rfl⟩ : ∃ k : Nat, fx = k := ⟨fx.toNat, by omega⟩
            obtain ⟨y1, rfl⟩ : ∃ k : Nat, fy = k := ⟨fy.toNat, by omega⟩
            obtain ⟨x2, rfl⟩ : ∃ k : Nat, tx = k := ⟨tx.toNat, by omega⟩
            obtain ⟨y2, rfl⟩ : ∃ k : Nat, ty = k := ⟨ty.toNat, by omega⟩
            have hne : ¬(y2 = y1 ∧ x2 = x1) := by omega
            have hG : upd (upd g y1 x1 (g y1 x1 - n)) y2 x2 (g y2 x2 + n) = hlG g x1 y1 x2 y2 n := by
              unfold hlG
              simp only [Int.toNat_natCast]
              congr 1
              unfold upd
              rw [if_neg hne]
            obtain ⟨d, hd⟩ : ∃ d, levB L (hlG g x1 y1 x2 y2 n) = d := ⟨_, rfl⟩
            have e : hlE L g x1 y1 x2 y2 n = if d then none else some 3 := by simp only [hlE, ho, hr, hs, hd]; simp
            have eG : hlR L g x1 y1 x2 y2 n = fun y x => if d then hlG g x1 y1 x2 y2 n y x else 0 := by
              funext y x
              unfold hlR
              rw [e]
              cases d <;> simp
            have eV : errV a0 a1 a2 a3 (hlE L g x1 y1 x2 y2 n) = if d then .nilIface else .iface 137 (.pointer (some a3)) := by
              rw [e]
              cases d <;> rfl
            rw [eG, eV]
            by_cases hx : x1 = x2
            · subst hx
              exact moved_runx L hL g hv x1 y1 y2 n w hE (by omega) (by omega) (by omega) ha hb (by omega) (by omega) (by omega) _ hG d hd
            · exact moved_run L hL g hv x1 y1 x2 y2 n w hE (by omega) (by omega) (by omega) (by omega) ha hb (by omega) (by omega) hx _ hG d hd
end Go.Proofs.YteaajkkhbflmdaaDoor
