/- IsWhole. -/
import Derived.Test.YtgmahakpmjfhhaaRRByAny
namespace Go.Proofs.YtgmahakpmjfhhaaRR
open Go.RowKit
set_option linter.unusedVariables false
attribute [local go_sem ↓] loadRow loadGrid loadLawn loadMirror storeRow storeGrid storeLawn allocRow allocGrid allocLawn buildZero buildSides

def wholeB (L : Lawn) (x y : Int) (s : ByteArray) (n : Nat) : Bool := alongC L x y s n == 0 && ((byL L x y s n false).length : Int) == 0

set_option maxRecDepth 100000 in
set_option maxHeartbeats 1000000 in
theorem implWhole_any (L : Lawn) (hL : L.Fits) (x y : Int) (s : ByteArray) (hs : s.size ≤ maxLen) (n : Nat) (hn : Goes L x y s n) (w : World) :
    Calls Try.prog 61 #[.agg L.cells, .agg #[.int .i8 x, .int .i8 y], .string s] w fun e w' => e = .returned (.tuple #[.bool (wholeB L x y s n), .int .i64 (alongC L x y s n)]) ∧ Below w.heap.size w w' := by
  have HT := Lib.hid (fun w => implLeftBy_any L hL x y s hs n hn w)
  have HB := Lib.hid (show wholeB L x y s n = (alongC L x y s n == 0 && ((byL L x y s n false).length : Int) == 0) from rfl)
  obtain ⟨c, hc⟩ : ∃ c, alongC L x y s n = c := ⟨_, rfl⟩
  obtain ⟨k, hk⟩ : ∃ k, (byL L x y s n false).length = k := ⟨_, rfl⟩
  rw [hc, hk] at HT HB
  rw [hc]
  clear hc hn hs hL hk
  obtain ⟨g0, c0, hb0⟩ := cell_new w L x y
  obtain ⟨-, -, d0, -, -⟩ := c0.facts
  by_cases h0 : c = 0
  · subst h0
    go_enter Try.func61, Try.ntmps61
    go_wp2_with fail
    refine (HT.out _).mono ?_
    rintro e w1 ⟨⟨v, rfl, ho⟩, hb2⟩
    obtain ⟨av, cv, rfl⟩ := own_slice ho
    have hb3 := below_onto hb0 hb2
    clear g0 c0 d0 hb0 hb2 ho
    go_wp2_with fail
    go_ret2
    exact ⟨by rw [HB.out]; rfl, hb3⟩
  · have hb1 : (c == 0) = false := by simpa using h0
    have HB2 := Lib.hid (show wholeB L x y s n = false by rw [HB.out, hb1]; rfl)
    go_enter Try.func61, Try.ntmps61
    go_wp2_with fail
    refine (HT.out _).mono ?_
    rintro e w1 ⟨⟨v, rfl, ho⟩, hb2⟩
    have hb3 := below_onto hb0 hb2
    clear g0 c0 d0 hb0 hb2 ho
    go_wp2_with fail
    go_ret2
    exact ⟨by rw [HB2.out]; rfl, hb3⟩

set_option maxRecDepth 100000 in
set_option maxHeartbeats 1000000 in
theorem specWhole_any (L : Lawn) (hL : L.Fits) (x y : Int) (x0 : -128 ≤ x) (x1 : x ≤ 127) (y0 : -128 ≤ y) (y1 : y ≤ 127) (s : ByteArray) (hs : s.size ≤ maxLen) (n : Nat) (hn : Goes L x y s n) (w : World) :
    Calls Try.prog 84 #[.agg L.cells, .agg #[.int .i8 x, .int .i8 y], .string s] w fun e w' => e = .returned (.tuple #[.bool (wholeB L x y s n), .int .i64 (alongC L x y s n)]) ∧ Below w.heap.size w w' := by
  have HG := Lib.hid (fun (w' : World) (h : Holds w' w.heap.size L.cells) => l02Gone_any L hL w.heap.size x y x0 x1 y0 y1 s hs n hn w' h)
  by_cases h0 : alongC L x y s n = 0
  · have e1 : byL L x y s n false = filtB (mownB L (cellsK (x, y) s.data.toList (s.size + 1)) false) (allC L.wide.toNat L.high.toNat) := by unfold byL; rw [if_pos h0]
    obtain ⟨hV, hI, hwz, hgo⟩ := alongC_zero h0
    have hwle := wayC_le hwz
    obtain ⟨h1, h2, -⟩ := validB_true hV
    have hall : ∀ c ∈ cellsK (x, y) s.data.toList (s.size + 1), openP L c = true := fun c hc => by
      simp only [cellsK, List.mem_map, List.mem_range] at hc
      obtain ⟨j, hj, rfl⟩ := hc
      exact hn.all j (by omega)
    have hcl : (cellsK (x, y) s.data.toList (s.size + 1)).length = s.size + 1 := by simp [cellsK]
    have HM := Lib.hid (fun (g cap : Nat) (w' : World) (h : Holds w' w.heap.size L.cells) (B : Nat) ho => l02Mown_any L.wide.toNat L.high.toNat (by omega) (by omega) (by omega) (by omega) L hL (by omega) (by omega) hV w.heap.size g cap (s.size + 1) _ hcl (by omega) hall false B w' h ho)
    have HA := Lib.hid (show alongM L x y s n = s.size + 1 ∧ alongX L x y s n = flatP (cellsK (x, y) s.data.toList (s.size + 1)) by unfold alongM alongX; rw [if_pos h0, if_pos h0]; exact ⟨rfl, rfl⟩)
    have HB := Lib.hid (show wholeB L x y s n = (((filtB (mownB L (cellsK (x, y) s.data.toList (s.size + 1)) false) (allC L.wide.toNat L.high.toNat)).length : Int) == 0) by unfold wholeB; rw [h0, e1]; rfl)
    rw [h0] at HG ⊢
    clear e1 hI hwz hgo h1 h2 hall hcl hn hs hL hV h0
    obtain ⟨g0, c0, hb⟩ := cell_new w L x y
    obtain ⟨-, -, d0, -, -⟩ := c0.facts
    go_enter Try.func84, Try.ntmps84
    go_wp2_with fail
    refine (HG.out _ g0).mono ?_
    rintro e w3 ⟨⟨vc, rfl, hoc⟩, hb1⟩
    rw [HA.out.1, HA.out.2] at hoc
    have g3 := g0.below hb1 g0.lt
    have jB3 := below_onto hb hb1
    clear g0 c0 d0 hb hb1
    obtain ⟨gc, cc, rfl, -, -⟩ := own_form hoc (by omega)
    go_wp2_with fail
    refine (HM.out gc cc _ g3 _ hoc).mono ?_
    rintro e w4 ⟨⟨v, rfl, ho⟩, hb1⟩
    obtain ⟨av, cv, rfl⟩ := own_slice ho
    have jB4 := below_onto jB3 hb1
    clear g3 jB3 hb1 ho hoc
    go_wp2_with fail
    go_ret2
    exact ⟨by rw [HB.out]; rfl, jB4⟩
  · have HB := Lib.hid (show wholeB L x y s n = false by unfold wholeB; simp [h0])
    obtain ⟨c, hc⟩ : ∃ c, alongC L x y s n = c := ⟨_, rfl⟩
    rw [hc] at HG h0 ⊢
    have hb1 : (c != 0) = true := by simpa [bne] using h0
    clear hc hn hs hL h0
    obtain ⟨g0, c0, hb0⟩ := cell_new w L x y
    obtain ⟨-, -, d0, -, -⟩ := c0.facts
    go_enter Try.func84, Try.ntmps84
    go_wp2_with fail
    refine (HG.out _ g0).mono ?_
    rintro e w1 ⟨⟨v, rfl, -⟩, hb2⟩
    have hb3 := below_onto hb0 hb2
    clear g0 c0 d0 hb0 hb2
    go_wp2_with fail
    go_ret2
    exact ⟨by rw [HB.out]; rfl, hb3⟩
end Go.Proofs.YtgmahakpmjfhhaaRR
