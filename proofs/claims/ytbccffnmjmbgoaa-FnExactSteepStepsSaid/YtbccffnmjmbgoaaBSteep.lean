/- SteepSteps, where nothing is counted: the program and the model. -/
import Derived.Test.YtbccffnmjmbgoaaSteep
namespace Go.Proofs.Ytbccffnmjmbgoaa
open Go.RowKit
set_option linter.unusedVariables false
set_option linter.unusedSimpArgs false
attribute [local go_sem ↓] loadRow loadGrid loadLawn loadMirror storeRow storeGrid storeLawn allocRow allocGrid allocLawn buildZero buildSides loadR8 loadL8 loadLv storeR8 storeLv allocR8 allocLv buildZLv

set_option maxRecDepth 100000 in
set_option maxHeartbeats 1000000 in
theorem implSteep_lev (L : Lawn) (hL : L.Fits) (g : Nat → Nat → Int) (hv : levB L g = false) (z : Int) (w : World) :
    Calls Try.prog 26 #[.agg L.cells, .agg (levV g), .int .i64 z] w fun e w' => e = .returned (.tuple #[.int .i64 0, .int .i64 1]) ∧ Below w.heap.size w w' := by
  have HV := Lib.hid (implLevels_any L hL g)
  rw [hv] at HV
  clear hv hL
  obtain ⟨W0, hW0⟩ : ∃ W0, ((w.alloc (.cells L.cells 30)).alloc (.cells (levV g) 32)).alloc (.cells #[.int .i64 z] 2) = W0 := ⟨_, rfl⟩
  have g0 : Holds W0 w.heap.size L.cells := by rw [← hW0]; exact ((Holds.new _ _ _).alloc _).alloc _
  have g1 : Holds W0 (w.heap.size + 1) (levV g) := by rw [← hW0]; exact (Holds.new' _ _ _ _ (by simp)).alloc _
  have hb0 : Below w.heap.size w W0 := by rw [← hW0]; exact (((Below.refl w.heap.size w).alloc (Nat.le_refl _) _).alloc (by simp) _).alloc (by simp; omega) _
  obtain ⟨r0, -, -, -, -⟩ := g0.facts
  obtain ⟨r1, -, -, -, -⟩ := g1.facts
  go_enter Try.func26, Try.ntmps26
  go_wp2_with fail
  clear hW0 r0 r1
  refine (HV.out _).mono ?_
  rintro e w1 ⟨rfl, hb1⟩
  have hb2 := below_onto hb0 hb1
  clear hb0 hb1 g0 g1 HV
  go_wp2_with fail
  go_ret2
  exact ⟨rfl, hb2⟩

set_option maxRecDepth 100000 in
set_option maxHeartbeats 1000000 in
theorem implSteep_far (L : Lawn) (hL : L.Fits) (g : Nat → Nat → Int) (hv : levB L g = true) (z : Int) (hz : upZ z 18 = false) (w : World) :
    Calls Try.prog 26 #[.agg L.cells, .agg (levV g), .int .i64 z] w fun e w' => e = .returned (.tuple #[.int .i64 0, .int .i64 2]) ∧ Below w.heap.size w w' := by
  have HV := Lib.hid (implLevels_any L hL g)
  rw [hv] at HV
  have HU := Lib.hid (upTo64_is z 18 false hz)
  clear hv hL hz
  obtain ⟨W0, hW0⟩ : ∃ W0, ((w.alloc (.cells L.cells 30)).alloc (.cells (levV g) 32)).alloc (.cells #[.int .i64 z] 2) = W0 := ⟨_, rfl⟩
  have g0 : Holds W0 w.heap.size L.cells := by rw [← hW0]; exact ((Holds.new _ _ _).alloc _).alloc _
  have g1 : Holds W0 (w.heap.size + 1) (levV g) := by rw [← hW0]; exact (Holds.new' _ _ _ _ (by simp)).alloc _
  have g2 : Holds W0 (w.heap.size + 1 + 1) #[.int .i64 z] := by rw [← hW0]; exact Holds.new' _ _ _ _ (by simp)
  have hb0 : Below w.heap.size w W0 := by rw [← hW0]; exact (((Below.refl w.heap.size w).alloc (Nat.le_refl _) _).alloc (by simp) _).alloc (by simp; omega) _
  obtain ⟨r0, -, -, -, -⟩ := g0.facts
  obtain ⟨r1, -, -, -, -⟩ := g1.facts
  go_enter Try.func26, Try.ntmps26
  go_wp2_with fail
  clear hW0 r0 r1
  refine (HV.out _).mono ?_
  rintro e w1 ⟨rfl, hb1⟩
  have hb2 := below_onto hb0 hb1
  have j2 := g2.below hb1 g2.lt
  obtain ⟨-, -, c2, -, l2⟩ := j2.facts
  clear hb0 hb1 g0 g1 g2 HV
  go_wp2_with (go_at_call 57; refine (HU.out _).mono ?_; rintro e w2 ⟨rfl, hw2⟩; rw [hw2]; clear hw2)
  go_ret2
  exact ⟨rfl, hb2⟩

set_option maxRecDepth 100000 in
set_option maxHeartbeats 1000000 in
theorem specSteep_bad (L : Lawn) (hL : L.Fits) (g : Nat → Nat → Int) (hg : LevFits g) (z : Int) (m : Int) (hm : told (levB L g) (upZ z 18) = m) (hm0 : m ≠ 0) (w : World) :
    Calls Try.prog 25 #[.agg L.cells, .agg (levV g), .int .i64 z] w fun e w' => e = .returned (.tuple #[.int .i64 0, .int .i64 m]) ∧ Below w.heap.size w w' := by
  obtain ⟨W0, hW0⟩ : ∃ W0, (w.alloc (.cells L.cells 30)).alloc (.cells (levV g) 32) = W0 := ⟨_, rfl⟩
  have g0 : Holds W0 w.heap.size L.cells := by rw [← hW0]; exact (Holds.new _ _ _).alloc _
  have g1 : Holds W0 (w.heap.size + 1) (levV g) := by rw [← hW0]; exact Holds.new' _ _ _ _ (by simp)
  have hb0 : Below w.heap.size w W0 := by rw [← hW0]; exact ((Below.refl w.heap.size w).alloc (Nat.le_refl _) _).alloc (by simp) _
  obtain ⟨d, hd⟩ : ∃ d, upZ z 18 = d := ⟨_, rfl⟩
  have HU := Lib.hid (fun w => in_q z 0 18 w)
  rw [← upZ_in, hd] at HU
  have HV := Lib.hid (l06Asked_any L hL g hg _ _ d _ g0 g1)
  rw [hd] at hm
  rw [hm] at HV
  have hmd : ((m : Int) != 0) = true := by simp [hm0]
  clear hm hL hg hd hm0
  go_enter Try.func25, Try.ntmps25
  go_wp2_with (go_at_call 54; refine (HU.out _).mono ?_; rintro e w2 ⟨rfl, hw2⟩; rw [hw2]; clear hw2)
  clear hW0
  refine HV.out.mono ?_
  rintro e w1 ⟨rfl, hb1⟩
  have hb2 := below_onto hb0 hb1
  clear hb0 hb1 g0 g1 HV
  go_wp2_with fail
  go_ret2
  exact ⟨rfl, hb2⟩
end Go.Proofs.Ytbccffnmjmbgoaa
