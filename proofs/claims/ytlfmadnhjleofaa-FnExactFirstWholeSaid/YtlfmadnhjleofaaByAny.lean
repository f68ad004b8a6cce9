/- MownBy and LeftBy: every code. -/
import Derived.Test.YtlfmadnhjleofaaSMownBy
namespace Go.Proofs.Ytlfmadnhjleofaa
open Go.RowKit
set_option linter.unusedVariables false
attribute [local go_sem ↓] loadRow loadGrid loadLawn loadMirror storeRow storeGrid storeLawn allocRow allocGrid allocLawn buildZero buildSides

theorem own_none0 {w1 w2 : World} {B : Nat} {b : Nat} {e : TypeId} {size : Nat} (h : w2 = w1.alloc (.cells #[] e)) (hb : b = w1.heap.size) (hB : B ≤ w1.heap.size) : w2.ownsRow B e size (.slice (some ⟨b, 0, none⟩) 0 0) 0 [] := by
  subst h; subst hb
  exact ownsRow_low (World.ownsRow_made w1 #[] 0 (Nat.le_refl _) (by simp [maxLen]) (by simp)) hB
def byL (L : Lawn) (x y : Int) (s : ByteArray) (n : Nat) (mown : Bool) : List (Fin L.wide.toNat × Fin L.high.toNat) := if alongC L x y s n = 0 then filtB (mownB L (cellsK (x, y) s.data.toList (s.size + 1)) mown) (allC L.wide.toNat L.high.toNat) else []

set_option maxRecDepth 100000 in
set_option maxHeartbeats 1000000 in
theorem grassAlong_any (L : Lawn) (hL : L.Fits) (x y : Int) (s : ByteArray) (hs : s.size ≤ maxLen) (n : Nat) (hn : Goes L x y s n) (mown : Bool) (w : World) :
    Calls Try.prog 108 #[.agg L.cells, .agg #[.int .i8 x, .int .i8 y], .string s, .bool mown] w fun e w' => (∃ v, e = .returned (.tuple #[v, .int .i64 (alongC L x y s n)]) ∧ w'.ownsRow w.heap.size 35 2 v (byL L x y s n mown).length (flatV (byL L x y s n mown))) ∧ Below w.heap.size w w' := by
  by_cases h0 : alongC L x y s n = 0
  · have e1 : byL L x y s n mown = filtB (mownB L (cellsK (x, y) s.data.toList (s.size + 1)) mown) (allC L.wide.toNat L.high.toNat) := by unfold byL; rw [if_pos h0]
    obtain ⟨h1, h2, -⟩ := validB_true (alongC_zero h0).1
    rw [e1, h0]
    exact grass_loop L.wide.toNat L.high.toNat (by omega) (by omega) L (by omega) (by omega) hL x y s hs n hn h0 mown w
  · have e1 : byL L x y s n mown = [] := by unfold byL; rw [if_neg h0]
    rw [e1]
    have HT := Lib.hid (show ∀ w, Calls Try.prog 110 #[.agg L.cells, .agg #[.int .i8 x, .int .i8 y], .string s] w fun e w' => e = .returned (.tuple #[.map none, .int .i64 (alongC L x y s n)]) ∧ Below w.heap.size w w' from fun w =>
      (times_any L hL x y s hs n hn w).mono (by
        rintro e w' ⟨⟨v, rfl, h1, -⟩, h3⟩
        exact ⟨by rw [h1 h0], h3⟩))
    obtain ⟨c, hc⟩ : ∃ c, alongC L x y s n = c := ⟨_, rfl⟩
    rw [hc] at HT h0 ⊢
    have hb1 : (c != 0) = true := by simpa [bne] using h0
    clear hc e1 hn hs hL h0
    have g0 : Holds (((w.alloc (.cells L.cells 28)).alloc (.cells #[.int .i8 x, .int .i8 y] 35)).alloc (.cells #[.bool mown] 4)) w.heap.size L.cells := ((Holds.new _ _ _).alloc _).alloc _
    have c0 : Holds (((w.alloc (.cells L.cells 28)).alloc (.cells #[.int .i8 x, .int .i8 y] 35)).alloc (.cells #[.bool mown] 4)) (w.heap.size + 1) #[.int .i8 x, .int .i8 y] := (Holds.new' _ _ _ _ (by simp)).alloc _
    have hb0 : Below w.heap.size w (((w.alloc (.cells L.cells 28)).alloc (.cells #[.int .i8 x, .int .i8 y] 35)).alloc (.cells #[.bool mown] 4)) := (((Below.refl _ _).alloc (Nat.le_refl _) _).alloc (by simp) _).alloc (by simp; omega) _
    obtain ⟨-, -, d0, -, -⟩ := c0.facts
    go_enter Try.func108, Try.ntmps108
    go_wp2_with fail
    refine (HT.out _).mono ?_
    rintro e w1 ⟨rfl, hb2⟩
    have hb3 := below_onto hb0 hb2
    clear g0 c0 d0 hb0 hb2
    go_wp2_with fail
    go_ret2
    exact ⟨⟨_, rfl, World.ownsRow_nil _ _ _ _⟩, hb3.alloc hb3.size _⟩

set_option maxRecDepth 100000 in
set_option maxHeartbeats 1000000 in
theorem implMownBy_any (L : Lawn) (hL : L.Fits) (x y : Int) (s : ByteArray) (hs : s.size ≤ maxLen) (n : Nat) (hn : Goes L x y s n) (w : World) :
    Calls Try.prog 32 #[.agg L.cells, .agg #[.int .i8 x, .int .i8 y], .string s] w fun e w' => (∃ v, e = .returned (.tuple #[v, .int .i64 (alongC L x y s n)]) ∧ w'.ownsRow w.heap.size 35 2 v (byL L x y s n true).length (flatV (byL L x y s n true))) ∧ Below w.heap.size w w' := by
  have HT := Lib.hid (fun w => grassAlong_any L hL x y s hs n hn true w)
  obtain ⟨c, hc⟩ : ∃ c, alongC L x y s n = c := ⟨_, rfl⟩
  rw [hc] at HT ⊢
  clear hc hn hs hL
  obtain ⟨g0, c0, hb0⟩ := cell_new w L x y
  obtain ⟨-, -, d0, -, -⟩ := c0.facts
  go_enter Try.func32, Try.ntmps32
  go_wp2_with fail
  refine (HT.out _).mono ?_
  rintro e w1 ⟨⟨v, rfl, ho⟩, hb2⟩
  have HO := Lib.hid (ownsRow_low ho hb0.size)
  have hb3 := below_onto hb0 hb2
  clear g0 c0 d0 hb0 hb2 ho
  go_wp2_with fail
  go_ret2
  exact ⟨⟨_, rfl, HO.out⟩, hb3⟩

set_option maxRecDepth 100000 in
set_option maxHeartbeats 1000000 in
theorem implLeftBy_any (L : Lawn) (hL : L.Fits) (x y : Int) (s : ByteArray) (hs : s.size ≤ maxLen) (n : Nat) (hn : Goes L x y s n) (w : World) :
    Calls Try.prog 34 #[.agg L.cells, .agg #[.int .i8 x, .int .i8 y], .string s] w fun e w' => (∃ v, e = .returned (.tuple #[v, .int .i64 (alongC L x y s n)]) ∧ w'.ownsRow w.heap.size 35 2 v (byL L x y s n false).length (flatV (byL L x y s n false))) ∧ Below w.heap.size w w' := by
  have HT := Lib.hid (fun w => grassAlong_any L hL x y s hs n hn false w)
  obtain ⟨c, hc⟩ : ∃ c, alongC L x y s n = c := ⟨_, rfl⟩
  rw [hc] at HT ⊢
  clear hc hn hs hL
  obtain ⟨g0, c0, hb0⟩ := cell_new w L x y
  obtain ⟨-, -, d0, -, -⟩ := c0.facts
  go_enter Try.func34, Try.ntmps34
  go_wp2_with fail
  refine (HT.out _).mono ?_
  rintro e w1 ⟨⟨v, rfl, ho⟩, hb2⟩
  have HO := Lib.hid (ownsRow_low ho hb0.size)
  have hb3 := below_onto hb0 hb2
  clear g0 c0 d0 hb0 hb2 ho
  go_wp2_with fail
  go_ret2
  exact ⟨⟨_, rfl, HO.out⟩, hb3⟩

set_option maxRecDepth 100000 in
set_option maxHeartbeats 1000000 in
theorem specMownBy_any (L : Lawn) (hL : L.Fits) (x y : Int) (x0 : -128 ≤ x) (x1 : x ≤ 127) (y0 : -128 ≤ y) (y1 : y ≤ 127) (s : ByteArray) (hs : s.size ≤ maxLen) (n : Nat) (hn : Goes L x y s n) (w : World) :
    Calls Try.prog 33 #[.agg L.cells, .agg #[.int .i8 x, .int .i8 y], .string s] w fun e w' => (∃ v, e = .returned (.tuple #[v, .int .i64 (alongC L x y s n)]) ∧ w'.ownsRow w.heap.size 35 2 v (byL L x y s n true).length (flatV (byL L x y s n true))) ∧ Below w.heap.size w w' := by
  have HG := Lib.hid (fun (w' : World) (h : Holds w' w.heap.size L.cells) => l02Gone_any L hL w.heap.size x y x0 x1 y0 y1 s hs n hn w' h)
  by_cases h0 : alongC L x y s n = 0
  · have e1 : byL L x y s n true = filtB (mownB L (cellsK (x, y) s.data.toList (s.size + 1)) true) (allC L.wide.toNat L.high.toNat) := by unfold byL; rw [if_pos h0]
    obtain ⟨hV, hI, hwz, hgo⟩ := alongC_zero h0
    have hwle := wayC_le hwz
    obtain ⟨h1, h2, -⟩ := validB_true hV
    have hall : ∀ c ∈ cellsK (x, y) s.data.toList (s.size + 1), openP L c = true := fun c hc => by
      simp only [cellsK, List.mem_map, List.mem_range] at hc
      obtain ⟨j, hj, rfl⟩ := hc
      exact hn.all j (by omega)
    have hcl : (cellsK (x, y) s.data.toList (s.size + 1)).length = s.size + 1 := by simp [cellsK]
    have HM := Lib.hid (fun (g cap : Nat) (w' : World) (h : Holds w' w.heap.size L.cells) (B : Nat) ho => l02Mown_any L.wide.toNat L.high.toNat (by omega) (by omega) (by omega) (by omega) L hL (by omega) (by omega) hV w.heap.size g cap (s.size + 1) _ hcl (by omega) hall true B w' h ho)
    have HA := Lib.hid (show alongM L x y s n = s.size + 1 ∧ alongX L x y s n = flatP (cellsK (x, y) s.data.toList (s.size + 1)) by unfold alongM alongX; rw [if_pos h0, if_pos h0]; exact ⟨rfl, rfl⟩)
    rw [e1]
    rw [h0] at HG ⊢
    clear e1 hI hwz hgo h1 h2 hall hcl hn hs hL hV h0
    obtain ⟨g0, c0, hb⟩ := cell_new w L x y
    obtain ⟨-, -, d0, -, -⟩ := c0.facts
    go_enter Try.func33, Try.ntmps33
    go_wp2_with fail
    refine (HG.out _ g0).mono ?_
    rintro e w3 ⟨⟨vc, rfl, hoc⟩, hb1⟩
    rw [HA.out.1, HA.out.2] at hoc
    have g3 := g0.below hb1 g0.lt
    have jB3 := below_onto hb hb1
    clear g0 c0 d0 hb hb1
    obtain ⟨gc, cc, rfl, -, -⟩ := own_form hoc (by omega)
    go_wp2_with fail
    refine (HM.out gc cc _ g3 _ hoc).mono ?_
    rintro e w4 ⟨⟨v, rfl, ho⟩, hb1⟩
    have HO := Lib.hid (ownsRow_low ho jB3.size)
    have jB4 := below_onto jB3 hb1
    clear g3 jB3 hb1 ho hoc
    go_wp2_with fail
    go_ret2
    exact ⟨⟨_, rfl, HO.out⟩, jB4⟩
  · have e1 : byL L x y s n true = [] := by unfold byL; rw [if_neg h0]
    rw [e1]
    obtain ⟨c, hc⟩ : ∃ c, alongC L x y s n = c := ⟨_, rfl⟩
    rw [hc] at HG h0 ⊢
    have hb1 : (c != 0) = true := by simpa [bne] using h0
    clear hc e1 hn hs hL h0
    obtain ⟨g0, c0, hb0⟩ := cell_new w L x y
    obtain ⟨-, -, d0, -, -⟩ := c0.facts
    go_enter Try.func33, Try.ntmps33
    go_wp2_with fail
    refine (HG.out _ g0).mono ?_
    rintro e w1 ⟨⟨v, rfl, -⟩, hb2⟩
    have hb3 := below_onto hb0 hb2
    clear g0 c0 d0 hb0 hb2
    go_wp2_with fail
    go_ret2
    exact ⟨⟨_, rfl, own_none0 rfl rfl hb3.size⟩, hb3.alloc hb3.size _⟩

set_option maxRecDepth 100000 in
set_option maxHeartbeats 1000000 in
theorem specLeftBy_any (L : Lawn) (hL : L.Fits) (x y : Int) (x0 : -128 ≤ x) (x1 : x ≤ 127) (y0 : -128 ≤ y) (y1 : y ≤ 127) (s : ByteArray) (hs : s.size ≤ maxLen) (n : Nat) (hn : Goes L x y s n) (w : World) :
    Calls Try.prog 35 #[.agg L.cells, .agg #[.int .i8 x, .int .i8 y], .string s] w fun e w' => (∃ v, e = .returned (.tuple #[v, .int .i64 (alongC L x y s n)]) ∧ w'.ownsRow w.heap.size 35 2 v (byL L x y s n false).length (flatV (byL L x y s n false))) ∧ Below w.heap.size w w' := by
  have HG := Lib.hid (fun (w' : World) (h : Holds w' w.heap.size L.cells) => l02Gone_any L hL w.heap.size x y x0 x1 y0 y1 s hs n hn w' h)
  by_cases h0 : alongC L x y s n = 0
  · have e1 : byL L x y s n false = filtB (mownB L (cellsK (x, y) s.data.toList (s.size + 1)) false) (allC L.wide.toNat L.high.toNat) := by unfold byL; rw [if_pos h0]
    obtain ⟨hV, hI, hwz, hgo⟩ := alongC_zero h0
    have hwle := wayC_le hwz
    obtain ⟨h1, h2, -⟩ := validB_true hV
    have hall : ∀ c ∈ cellsK (x, y) s.data.toList (s.size + 1), openP L c = true := fun c hc => by
      simp only [cellsK, List.mem_map, List.mem_range] at hc
      obtain ⟨j, hj, rfl⟩ := hc
      exact hn.all j (by omega)
    have hcl : (cellsK (x, y) s.data.toList (s.size + 1)).length = s.size + 1 := by simp [cellsK]
    have HM := Lib.hid (fun (g cap : Nat) (w' : World) (h : Holds w' w.heap.size L.cells) (B : Nat) ho => l02Mown_any L.wide.toNat L.high.toNat (by omega) (by omega) (by omega) (by omega) L hL (by omega) (by omega) hV w.heap.size g cap (s.size + 1) _ hcl (by omega) hall false B w' h ho)
    have HA := Lib.hid (show alongM L x y s n = s.size + 1 ∧ alongX L x y s n = flatP (cellsK (x, y) s.data.toList (s.size + 1)) by unfold alongM alongX; rw [if_pos h0, if_pos h0]; exact ⟨rfl, rfl⟩)
    rw [e1]
    rw [h0] at HG ⊢
    clear e1 hI hwz hgo h1 h2 hall hcl hn hs hL hV h0
    obtain ⟨g0, c0, hb⟩ := cell_new w L x y
    obtain ⟨-, -, d0, -, -⟩ := c0.facts
    go_enter Try.func35, Try.ntmps35
    go_wp2_with fail
    refine (HG.out _ g0).mono ?_
    rintro e w3 ⟨⟨vc, rfl, hoc⟩, hb1⟩
    rw [HA.out.1, HA.out.2] at hoc
    have g3 := g0.below hb1 g0.lt
    have jB3 := below_onto hb hb1
    clear g0 c0 d0 hb hb1
    obtain ⟨gc, cc, rfl, -, -⟩ := own_form hoc (by omega)
    go_wp2_with fail
    refine (HM.out gc cc _ g3 _ hoc).mono ?_
    rintro e w4 ⟨⟨v, rfl, ho⟩, hb1⟩
    have HO := Lib.hid (ownsRow_low ho jB3.size)
    have jB4 := below_onto jB3 hb1
    clear g3 jB3 hb1 ho hoc
    go_wp2_with fail
    go_ret2
    exact ⟨⟨_, rfl, HO.out⟩, jB4⟩
  · have e1 : byL L x y s n false = [] := by unfold byL; rw [if_neg h0]
    rw [e1]
    obtain ⟨c, hc⟩ : ∃ c, alongC L x y s n = c := ⟨_, rfl⟩
    rw [hc] at HG h0 ⊢
    have hb1 : (c != 0) = true := by simpa [bne] using h0
    clear hc e1 hn hs hL h0
    obtain ⟨g0, c0, hb0⟩ := cell_new w L x y
    obtain ⟨-, -, d0, -, -⟩ := c0.facts
    go_enter Try.func35, Try.ntmps35
    go_wp2_with fail
    refine (HG.out _ g0).mono ?_
    rintro e w1 ⟨⟨v, rfl, -⟩, hb2⟩
    have hb3 := below_onto hb0 hb2
    clear g0 c0 d0 hb0 hb2
    go_wp2_with fail
    go_ret2
    exact ⟨⟨_, rfl, own_none0 rfl rfl hb3.size⟩, hb3.alloc hb3.size _⟩
end Go.Proofs.Ytlfmadnhjleofaa
