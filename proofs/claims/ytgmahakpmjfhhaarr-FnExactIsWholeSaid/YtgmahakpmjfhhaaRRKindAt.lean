/- KindAt, of the program and of the model. -/
import Derived.Test.YtgmahakpmjfhhaaRRAt
namespace Go.Proofs.YtgmahakpmjfhhaaRR
open Go.RowKit
attribute [local go_sem ↓] loadRow loadGrid loadLawn loadMirror storeRow storeGrid storeLawn allocRow allocGrid allocLawn buildZero buildSides

/-- What KindAt answers. -/
def kindAtV (L : Lawn) (x y : Int) : Value := if told (validB L) (isB L x y) = 0 then .tuple #[.int .i64 (L.kind y.toNat x.toNat), .int .i64 0] else .tuple #[.int .i64 0, .int .i64 (told (validB L) (isB L x y))]
/-- A cell of a valid lawn. -/
theorem cell_nat {L : Lawn} {x y : Int} (hv : validB L = true) (hf : isB L x y = true) : ∃ i j : Nat, i < 10 ∧ j < 10 ∧ x = i ∧ y = j := by
  obtain ⟨h1, h2, -⟩ := validB_true hv
  simp only [isB, Bool.and_eq_true] at hf
  have a := inB_true hf.1
  have b := inB_true hf.2
  exact ⟨x.toNat, y.toNat, by omega, by omega, by omega, by omega⟩


set_option maxRecDepth 100000 in
set_option maxHeartbeats 1000000 in
theorem implKindAt_any (L : Lawn) (hL : L.Fits) (x y : Int) (w : World) :
    Calls Try.prog 34 #[.agg L.cells, .agg #[.int .i8 x, .int .i8 y]] w fun e w' => e = .returned (kindAtV L x y) ∧ Below w.heap.size w w' := by
  have HL := Lib.hid hL
  clear hL
  obtain ⟨v, hv⟩ : ∃ v, validB L = v := ⟨_, rfl⟩
  obtain ⟨f, hf⟩ : ∃ f, isB L x y = f := ⟨_, rfl⟩
  have HV := Lib.hid hv
  have HF := Lib.hid hf
  have HK := Lib.hid (show kindAtV L x y = if told v f = 0 then .tuple #[.int .i64 (L.kind y.toNat x.toNat), .int .i64 0] else .tuple #[.int .i64 0, .int .i64 (told v f)] by simp only [kindAtV, hv, hf])
  clear hv hf
  go_enter Try.func34, Try.ntmps34
  go_wp2_with fail
  have g0 : Holds (((w.alloc (.cells L.cells 28)).alloc (.cells #[.int .i8 x, .int .i8 y] 35)).alloc (.cells #[.int .i8 x, .int .i8 y] 35)) w.heap.size L.cells := ((Holds.new _ _ _).alloc _).alloc _
  have c0 : Holds (((w.alloc (.cells L.cells 28)).alloc (.cells #[.int .i8 x, .int .i8 y] 35)).alloc (.cells #[.int .i8 x, .int .i8 y] 35)) (w.heap.size + 1) #[.int .i8 x, .int .i8 y] := (Holds.new' _ _ _ _ (by simp)).alloc _
  have s0 : Holds (((w.alloc (.cells L.cells 28)).alloc (.cells #[.int .i8 x, .int .i8 y] 35)).alloc (.cells #[.int .i8 x, .int .i8 y] 35)) (w.heap.size + 1 + 1) #[.int .i8 x, .int .i8 y] := Holds.new' _ _ _ _ (by simp)
  have hb : Below w.heap.size w (((w.alloc (.cells L.cells 28)).alloc (.cells #[.int .i8 x, .int .i8 y] 35)).alloc (.cells #[.int .i8 x, .int .i8 y] 35)) := (((Below.refl w.heap.size w).alloc (Nat.le_refl _) _).alloc (by simp) _).alloc (by simp; omega) _
  refine (check_any L HL.out x y _ _ s0).mono ?_
  rw [HV.out, HF.out]
  rintro e w1 ⟨rfl, hb1⟩
  have g1 := g0.below hb1 g0.lt
  have c1 := c0.below hb1 c0.lt
  have hb3 := hb.trans (hb1.mono (by simp; omega))
  obtain ⟨-, -, c1', -, -⟩ := c1.facts
  obtain ⟨r1, f1, -, -, l1⟩ := g1.facts
  clear hb hb1 g0 c0 s0
  cases v <;> cases f
  case true.true =>
    obtain ⟨i, j, hi, hj, rfl, rfl⟩ := cell_nat HV.out HF.out
    have k0 := HL.out.k0 j i hj hi
    have k1 := HL.out.k1 j i hj hi
    have hwr : IntKind.i64.wrap (L.kind j i) = L.kind j i := IntWalk.i64_in _ (by omega)
    simp only [told, if_true]
    go_wp2_with fail
    refine (kind_any L i j hi hj _).mono ?_
    rintro e w3 ⟨rfl, hb4⟩
    go_wp2_with fail
    go_ret2
    exact ⟨by rw [HK.out]; rfl, hb3.trans (hb4.mono hb3.size)⟩
  all_goals
    simp only [told, if_true, Bool.false_eq_true, if_false]
    go_wp2_with fail
    go_ret2
    exact ⟨by rw [HK.out]; rfl, hb3⟩

end Go.Proofs.YtgmahakpmjfhhaaRR
