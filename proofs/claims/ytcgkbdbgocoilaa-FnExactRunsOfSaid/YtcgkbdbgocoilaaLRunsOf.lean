/- The law on RunsOf. -/
import Derived.Test.YtcgkbdbgocoilaaSRuns
import Derived.Test.YtcgkbdbgocoilaaEqRunS
import Derived.Test.YtcgkbdbgocoilaaMarkRunS
import Derived.Test.YtcgkbdbgocoilaaGrowK
import Derived.Test.YtcgkbdbgocoilaaAt
namespace Go.Proofs.Ytcgkbdbgocoilaa
open Go.RowKit
set_option linter.unusedVariables false
attribute [local go_sem ↓] loadRow loadGrid loadLawn loadMirror storeRow storeGrid storeLawn allocRow allocGrid allocLawn buildZero buildSides

set_option maxRecDepth 100000 in
set_option maxHeartbeats 2000000 in
theorem exactRunsOf_walk (A : Lawn)   (across : Bool) (m : Int) (n : Nat) (xs : List Value) (hn1 : n ≤ 1000000) (hx : ∀ j, j < n * 3 → ∃ z, xs[j]? = some (.int .i8 z))
    (HI : ∀ w : World, Calls Try.prog 36 #[.agg A.cells, .bool across] w fun e w' => (∃ v, e = .returned (.tuple #[v, .int .i64 m]) ∧ w'.ownsRow w.heap.size 61 3 v n xs) ∧ Below w.heap.size w w')
    (HS : ∀ w : World, Calls Try.prog 35 #[.agg A.cells, .bool across] w fun e w' => (∃ v, e = .returned (.tuple #[v, .int .i64 m]) ∧ w'.ownsRow w.heap.size 61 3 v n xs) ∧ Below w.heap.size w w') (w : World) :
    Calls Try.prog 7 #[.agg A.cells, .bool across] w fun e w' => e = .returned (.bool true) ∧ Below w.heap.size w w' := by
  have HI' := Lib.hid HI
  have HS' := Lib.hid HS
  have HX := Lib.hid hx
  clear HI HS hx
  go_enter Try.func7, Try.ntmps7
  go_wp2_with fail
  have g0 : Holds (w.alloc (.cells A.cells 26)) (w.heap.size) A.cells := Holds.new w A.cells 26
  have hb : Below w.heap.size w (w.alloc (.cells A.cells 26)) := (Below.refl w.heap.size w).alloc (Nat.le_refl _) (.cells A.cells 26)
  obtain ⟨W, hW⟩ : ∃ W, (w.alloc (.cells A.cells 26)) = W := ⟨_, rfl⟩
  rw [hW] at g0 hb ⊢
  clear hW
  refine (toLawn_any _ _).mono ?_
  rintro e w2a ⟨rfl, hb1⟩
  go_wp2_with fail
  refine (HS'.out _).mono ?_
  rintro e w2 ⟨⟨vs, rfl, os⟩, hb2⟩
  have hb3 := below_onto hb1 hb2
  have hsz := hb1.size
  obtain ⟨Bvs, hBvs⟩ : ∃ B, w2a.heap.size = B := ⟨_, rfl⟩
  rw [hBvs] at os hsz
  clear hb1 hb2
  have hb4 := below_onto hb hb3
  have g0 := g0.below hb3 g0.lt
  have OS := Lib.hid os
  clear hb hb3 os hsz hBvs
  obtain ⟨r0, -⟩ := g0.facts
  go_wp2_with fail
  refine (toLawn_any _ _).mono ?_
  rintro e w4a ⟨rfl, hb1⟩
  go_wp2_with fail
  refine (HI'.out _).mono ?_
  rintro e w4 ⟨⟨vg, rfl, og⟩, hb2⟩
  have hb3 := below_onto hb1 hb2
  have hsz := hb1.size
  obtain ⟨Bvg, hBvg⟩ : ∃ B, w4a.heap.size = B := ⟨_, rfl⟩
  rw [hBvg] at og hsz
  clear hb1 hb2 r0
  have hb5 := below_onto hb4 hb3
  have OS2 := Lib.hid (own_below OS.out hb3)
  have hap := own_apart OS.out hsz og
  have hlow : w.heap.size < Bvg := by have := g0.lt; omega
  have g0 := g0.below hb3 g0.lt
  have OG := Lib.hid og
  clear hb4 hb3 og OS hsz hBvg
  go_wp2_with fail
  refine (eqRunS_same n xs hn1 HX.out _ _ _ _ _ OG.out OS2.out).mono ?_
  rintro e w5 ⟨rfl, hb3⟩
  have OS3 := Lib.hid (own_below OS2.out hb3)
  have OG3 := Lib.hid (own_below OG.out hb3)
  have hb6 := below_onto hb5 hb3
  have g0 := g0.below hb3 g0.lt
  clear hb5 hb3 OS2 OG
  go_wp2_with fail
  obtain ⟨M, hM⟩ : ∃ M, 1 + 3 * n = M := ⟨_, rfl⟩
  refine (markRunS_one Bvg n M _ _ _ hn1 hM OG3.out).mono ?_
  rintro e w6 ⟨rfl, om, hgr⟩
  have OS4 := Lib.hid (OS3.out.kept hgr hap)
  have OM := Lib.hid om
  have g0 := held_grown g0 OG3.out hgr (by omega)
  have hb7 := below_marked hb6 OG3.out hgr (by omega) (by have := hb6.size; omega)
  have d1 : decide ((M : Int) < 0) = false := by simp
  clear hb6 om hgr hap OS3 OG3
  go_wp2_with fail
  refine (heldRunS_one Bvg n M _ _ hn1 hM OM.out).mono ?_
  rintro e w7 ⟨rfl, hb3⟩
  have OS5 := Lib.hid (own_below OS4.out hb3)
  have OM2 := Lib.hid (own_below OM.out hb3)
  have hb8 := below_onto hb7 hb3
  have g0 := g0.below hb3 g0.lt
  clear hb7 hb3 OS4 OM
  obtain ⟨r0, -⟩ := g0.facts
  go_wp2_with fail
  refine (toLawn_any _ _).mono ?_
  rintro e w9a ⟨rfl, hb1⟩
  go_wp2_with fail
  refine (HI'.out _).mono ?_
  rintro e w9 ⟨⟨vh, rfl, oh⟩, hb2⟩
  have hb3 := below_onto hb1 hb2
  have hsz := hb1.size
  obtain ⟨Bvh, hBvh⟩ : ∃ B, w9a.heap.size = B := ⟨_, rfl⟩
  rw [hBvh] at oh hsz
  clear hb1 hb2 r0
  have hb9 := below_onto hb8 hb3
  have OS6 := Lib.hid (own_below OS5.out hb3)
  have OM3 := Lib.hid (own_below OM2.out hb3)
  have OH := Lib.hid oh
  clear hb8 hb3 g0 oh OS5 OM2 hsz hBvh
  go_wp2_with fail
  refine (eqRunS_same n xs hn1 HX.out _ _ _ _ _ OH.out OS6.out).mono ?_
  rintro e w10 ⟨rfl, hb1⟩
  have OM4 := Lib.hid (own_below OM3.out hb1)
  have hb10 := below_onto hb9 hb1
  clear hb9 hb1 OS6 OM3 OH
  go_wp2_with fail
  refine (heldRunS_one Bvg n M _ _ hn1 hM OM4.out).mono ?_
  rintro e w11 ⟨rfl, hb1⟩
  have hb11 := below_onto hb10 hb1
  clear hb10 hb1 OM4
  go_wp2_with fail
  go_ret
  exact ⟨rfl, hb11⟩

theorem exactRunsOf (A : Lawn) (hA : A.Fits) (across : Bool) (w : World) :
    Calls Try.prog 7 #[.agg A.cells, .bool across] w fun e w' => e = .returned (.bool true) ∧ Below w.heap.size w w' :=
  exactRunsOf_walk A across (validC A) (runsC A across).length (runsV A across (runsC A across)) (by have := runsC_le A across; omega) (runsV_ints A across _ _ rfl) (implRuns_any A hA across) (specRuns_any A hA across) w

end Go.Proofs.Ytcgkbdbgocoilaa
