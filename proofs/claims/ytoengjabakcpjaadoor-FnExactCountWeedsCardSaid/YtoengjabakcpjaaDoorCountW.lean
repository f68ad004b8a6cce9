/- CountWeeds, of the program and of the model. -/
import Derived.Test.YtoengjabakcpjaaDoorCheckW
import Derived.Test.YtoengjabakcpjaaDoorSWeed
namespace Go.Proofs.YtoengjabakcpjaaDoor
open Go.RowKit
set_option linter.unusedVariables false
set_option linter.unusedSimpArgs false
attribute [local go_sem ↓] loadRow loadGrid loadLawn loadMirror storeRow storeGrid storeLawn allocRow allocGrid allocLawn buildZero buildSides loadWd storeWd allocWd buildZWd eqlWd

def cntWZ (L : Lawn) (s : Nat → Nat → Bool) : Int := if weedB L s then (cntR s 10 : Nat) else 0

set_option maxRecDepth 100000 in
set_option maxHeartbeats 1000000 in
theorem implCountW_any (L : Lawn) (hL : L.Fits) (s : Nat → Nat → Bool) (w : World) :
    Calls Tryd.prog 17 #[.agg L.cells, .agg (bV 10 s)] w fun e w' => e = .returned (.tuple #[.int .i64 (cntWZ L s), .int .i64 (told (weedB L s) true)]) ∧ Below w.heap.size w w' := by
  have HC := Lib.hid (checkWeeds_nil L hL s)
  have HT := Lib.hid (show told (weedB L s) true = if weedB L s then 0 else 1 from rfl)
  have HZ := Lib.hid (show cntWZ L s = if weedB L s then ((cntR s 10 : Nat) : Int) else 0 from rfl)
  generalize weedB L s = v at HC HT HZ ⊢
  have g1 := Holds.new' (w.alloc (.cells L.cells 31)) (bV 10 s) 33 (w.heap.size + 1) (by simp)
  have hb0 := ((Below.refl w.heap.size w).alloc (Nat.le_refl _) (.cells L.cells 31)).alloc (by simp) (.cells (bV 10 s) 33)
  clear hL
  go_enter Tryd.func17, Tryd.ntmps17
  go_wp2_with fail
  refine (HC.out _).mono ?_
  rintro e w1 ⟨⟨u, rfl, hu⟩, hb1⟩
  have g2 := g1.below hb1 g1.lt
  have hb2 := below_onto hb0 hb1
  clear hb0 hb1 g1 HC
  rcases hu with ⟨rfl, hc⟩ | ⟨hc, t, a, rfl, hr⟩
  · obtain ⟨r2, -, -, -, -⟩ := g2.facts
    have HV := Lib.hid (show v = true by rw [HT.out] at hc; cases v <;> simp_all)
    clear hc
    go_wp2_with fail
    refine (wdCount_any s _).mono ?_
    rintro e w2 ⟨rfl, hb3⟩
    go_wp2_with fail
    go_ret2
    exact ⟨by rw [HZ.out, HT.out, HV.out]; rfl, below_onto hb2 hb3⟩
  · have HR := Lib.hid hr
    have HV := Lib.hid (show v = false by rw [HT.out] at hc; cases v <;> simp_all)
    clear hc hr
    go_wp2_with fail
    refine (HR.out _).mono ?_
    rintro e w2 ⟨rfl, hb3⟩
    go_wp2_with fail
    go_ret2
    exact ⟨by rw [HZ.out, HT.out, HV.out]; rfl, below_onto hb2 hb3⟩

set_option maxRecDepth 100000 in
set_option maxHeartbeats 1000000 in
theorem specCountW_any (L : Lawn) (hL : L.Fits) (s : Nat → Nat → Bool) (w : World) :
    Calls Tryd.prog 14 #[.agg L.cells, .agg (bV 10 s)] w fun e w' => e = .returned (.tuple #[.int .i64 (cntWZ L s), .int .i64 (told (weedB L s) true)]) ∧ Below w.heap.size w w' := by
  have g0 := (Holds.new w L.cells 31).alloc (.cells (bV 10 s) 33)
  have g1 := Holds.new' (w.alloc (.cells L.cells 31)) (bV 10 s) 33 (w.heap.size + 1) (by simp)
  have hb0 := ((Below.refl w.heap.size w).alloc (Nat.le_refl _) (.cells L.cells 31)).alloc (by simp) (.cells (bV 10 s) 33)
  have HO := Lib.hid (l07Asked_any L hL s _ _ true _ g0 g1)
  have HT := Lib.hid (show told (weedB L s) true = if weedB L s then 0 else 1 from rfl)
  have HZ := Lib.hid (show cntWZ L s = if weedB L s then ((cntR s 10 : Nat) : Int) else 0 from rfl)
  generalize weedB L s = v at HO HT HZ ⊢
  clear hL g0
  go_enter Tryd.func14, Tryd.ntmps14
  go_wp2_with fail
  refine HO.out.mono ?_
  rintro e w1 ⟨rfl, hb1⟩
  have g2 := g1.below hb1 g1.lt
  have hb2 := below_onto hb0 hb1
  clear hb0 hb1 g1 HO
  cases v
  · have e1 : told false true = 1 := rfl
    go_wp2_with fail
    go_ret2
    exact ⟨by rw [HZ.out]; rfl, hb2⟩
  · have e1 : told true true = 0 := rfl
    go_wp2_with fail
    refine (l07Count_any s _ _ g2).mono ?_
    rintro e w2 ⟨rfl, hw2⟩
    rw [hw2]
    go_wp2_with fail
    go_ret2
    exact ⟨by rw [HZ.out]; rfl, hb2⟩
end Go.Proofs.YtoengjabakcpjaaDoor
