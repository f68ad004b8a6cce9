/- StepsFrom, of the program, at every input. -/
import Derived.Test.YtgmahakpmjfhhaaRRIStepsFrom
namespace Go.Proofs.YtgmahakpmjfhhaaRR
open Go.RowKit
set_option linter.unusedVariables false
attribute [local go_sem ↓] loadRow loadGrid loadLawn loadMirror storeRow storeGrid storeLawn allocRow allocGrid allocLawn buildZero buildSides

/-- What StepsFrom answers. -/
def stepsC (L : Lawn) (x y : Int) : Int := if validB L then (if isB L x y then (if openB L x y then 0 else 4) else 2) else 1
def stepsN (L : Lawn) (x y : Int) : Nat := if stepsC L x y = 0 then (allC L.wide.toNat L.high.toNat).length else 0
def stepsL (L : Lawn) (x y : Int) : List Value := if stepsC L x y = 0 then stepsV (found (openP L) (x, y) 100) (allC L.wide.toNat L.high.toNat) else []
theorem openB_in {L : Lawn} {x y : Int} (h : openB L x y = true) : isB L x y = true := by simp only [openB, Bool.and_eq_true] at h; exact h.1

set_option maxRecDepth 100000 in
set_option maxHeartbeats 1000000 in
theorem implStepsFrom_any (L : Lawn) (hL : L.Fits) (x y : Int) (w : World) :
    Calls Try.prog 72 #[.agg L.cells, .agg #[.int .i8 x, .int .i8 y]] w fun e w' => (∃ v, e = .returned (.tuple #[v, .int .i64 (stepsC L x y)]) ∧ w'.ownsRow w.heap.size 2 1 v (stepsN L x y) (stepsL L x y)) ∧ Below w.heap.size w w' := by
  obtain ⟨v, hv⟩ : ∃ v, validB L = v := ⟨_, rfl⟩
  obtain ⟨f, hf⟩ : ∃ f, isB L x y = f := ⟨_, rfl⟩
  obtain ⟨o, ho⟩ : ∃ o, openB L x y = o := ⟨_, rfl⟩
  have hc : ∃ c, stepsC L x y = c := ⟨_, rfl⟩
  obtain ⟨c, hc⟩ := hc
  have h0 : c ≠ 0 → stepsN L x y = 0 ∧ stepsL L x y = [] := fun h => by
    constructor
    · unfold stepsN; rw [hc, if_neg h]
    · unfold stepsL; rw [hc, if_neg h]
  have hC := hc
  unfold stepsC at hc
  rw [hv, hf, ho] at hc
  cases v <;> cases f <;> cases o
  case true.true.true =>
    obtain ⟨h1, h2, -⟩ := validB_true hv
    simp only [if_true] at hc
    subst hc
    have e1 : stepsN L x y = (allC L.wide.toNat L.high.toNat).length := by unfold stepsN; rw [hC, if_pos rfl]
    have e2 : stepsL L x y = stepsV (found (openP L) (x, y) 100) (allC L.wide.toNat L.high.toNat) := by unfold stepsL; rw [hC, if_pos rfl]
    rw [hC, e1, e2]
    exact steps_loop L.wide.toNat L.high.toNat (by omega) (by omega) L (by omega) (by omega) hL hv x y hf ho w
  case true.true.false =>
    simp only [if_true, Bool.false_eq_true, if_false] at hc
    subst hc
    obtain ⟨e1, e2⟩ := h0 (by decide)
    rw [hC, e1, e2]
    have HCK := Lib.hid (show ∀ (g : Nat) (w : World), Holds w g #[.int .i8 x, .int .i8 y] → Calls Try.prog 108 #[.agg L.cells, .slice (some ⟨g, 0, none⟩) 1 1] w fun e w' => e = .returned (.int .i64 0) ∧ Below w.heap.size w w' from fun g w h => by
      have := check_any L hL x y g w h
      simpa [told, hv, hf] using this)
    have HOP := Lib.hid (show ∀ w, Calls Try.prog 144 #[.agg L.cells, .agg #[.int .i8 x, .int .i8 y]] w fun e w' => e = .returned (.bool false) ∧ Below w.heap.size w w' from fun w => ho ▸ isOpen_any L hv hL x y w)
    clear hC h0 e1 e2 hv hf ho hL
    go_enter Try.func72, Try.ntmps72
    go_wp2_with fail
    have g0 : Holds (((w.alloc (.cells L.cells 28)).alloc (.cells #[.int .i8 x, .int .i8 y] 35)).alloc (.cells #[.int .i8 x, .int .i8 y] 35)) w.heap.size L.cells := ((Holds.new _ _ _).alloc _).alloc _
    have c0 : Holds (((w.alloc (.cells L.cells 28)).alloc (.cells #[.int .i8 x, .int .i8 y] 35)).alloc (.cells #[.int .i8 x, .int .i8 y] 35)) (w.heap.size + 1) #[.int .i8 x, .int .i8 y] := (Holds.new' _ _ _ _ (by simp)).alloc _
    have s0 : Holds (((w.alloc (.cells L.cells 28)).alloc (.cells #[.int .i8 x, .int .i8 y] 35)).alloc (.cells #[.int .i8 x, .int .i8 y] 35)) (w.heap.size + 1 + 1) #[.int .i8 x, .int .i8 y] := Holds.new' _ _ _ _ (by simp)
    have hb : Below w.heap.size w (((w.alloc (.cells L.cells 28)).alloc (.cells #[.int .i8 x, .int .i8 y] 35)).alloc (.cells #[.int .i8 x, .int .i8 y] 35)) := (((Below.refl w.heap.size w).alloc (Nat.le_refl _) _).alloc (by simp) _).alloc (by simp; omega) _
    refine (HCK.out _ _ s0).mono ?_
    rintro e w1 ⟨rfl, hb1⟩
    have g1 := g0.below hb1 g0.lt
    have c1 := c0.below hb1 c0.lt
    have jB := below_onto hb hb1
    clear g0 c0 s0 hb hb1
    obtain ⟨r1, -, -, -, l1⟩ := g1.facts
    obtain ⟨-, -, d1, -, -⟩ := c1.facts
    go_wp2_with fail
    refine (HOP.out _).mono ?_
    rintro e w2 ⟨rfl, hb1⟩
    have jB2 := below_onto jB hb1
    clear g1 c1 jB hb1 r1 d1
    go_wp2_with fail
    go_ret2
    exact ⟨⟨_, rfl, World.ownsRow_nil _ _ _ _⟩, jB2⟩
  all_goals
    simp only [if_true, Bool.false_eq_true, if_false] at hc
    subst hc
    obtain ⟨e1, e2⟩ := h0 (by decide)
    rw [hC, e1, e2]
    have HCK := Lib.hid (show ∀ (g : Nat) (w : World), Holds w g #[.int .i8 x, .int .i8 y] → Calls Try.prog 108 #[.agg L.cells, .slice (some ⟨g, 0, none⟩) 1 1] w fun e w' => e = .returned (.int .i64 (told (validB L) (isB L x y))) ∧ Below w.heap.size w w' from fun g w h => check_any L hL x y g w h)
    rw [hv, hf] at HCK
    simp only [told, if_true, Bool.false_eq_true, if_false] at HCK
    clear hC h0 e1 e2 hv hf ho hL
    go_enter Try.func72, Try.ntmps72
    go_wp2_with fail
    have s0 : Holds (((w.alloc (.cells L.cells 28)).alloc (.cells #[.int .i8 x, .int .i8 y] 35)).alloc (.cells #[.int .i8 x, .int .i8 y] 35)) (w.heap.size + 1 + 1) #[.int .i8 x, .int .i8 y] := Holds.new' _ _ _ _ (by simp)
    have hb : Below w.heap.size w (((w.alloc (.cells L.cells 28)).alloc (.cells #[.int .i8 x, .int .i8 y] 35)).alloc (.cells #[.int .i8 x, .int .i8 y] 35)) := (((Below.refl w.heap.size w).alloc (Nat.le_refl _) _).alloc (by simp) _).alloc (by simp; omega) _
    refine (HCK.out _ _ s0).mono ?_
    rintro e w1 ⟨rfl, hb1⟩
    have jB := below_onto hb hb1
    clear s0 hb hb1
    go_wp2_with fail
    go_ret2
    exact ⟨⟨_, rfl, World.ownsRow_nil _ _ _ _⟩, jB⟩
end Go.Proofs.YtgmahakpmjfhhaaRR
