/- The law on InnerOf. -/
import Derived.Test.YthpfejbigdjhlaaBorder
import Derived.Test.YthpfejbigdjhlaaEqCellS
import Derived.Test.YthpfejbigdjhlaaMarkCellS
import Derived.Test.YthpfejbigdjhlaaZD
import Derived.Test.YthpfejbigdjhlaaZC
namespace Go.Proofs.Ythpfejbigdjhlaa
open Go.RowKit
set_option linter.unusedVariables false
attribute [local go_sem ↓] loadRow loadGrid loadLawn loadMirror storeRow storeGrid storeLawn allocRow allocGrid allocLawn buildZero buildSides

set_option maxRecDepth 100000 in
set_option maxHeartbeats 2000000 in
theorem exactInnerOf_walk (A : Lawn)    (m : Int) (n : Nat) (xs : List Value) (hn1 : n ≤ 1000000) (hx : ∀ j, j < n * 2 → ∃ z, xs[j]? = some (.int .i8 z))
    (HI : ∀ w : World, Calls Try.prog 39 #[.agg A.cells] w fun e w' => (∃ v, e = .returned (.tuple #[v, .int .i64 m]) ∧ w'.ownsRow w.heap.size 40 2 v n xs) ∧ Below w.heap.size w w')
    (HS : ∀ w : World, Calls Try.prog 38 #[.agg A.cells] w fun e w' => (∃ v, e = .returned (.tuple #[v, .int .i64 m]) ∧ w'.ownsRow w.heap.size 40 2 v n xs) ∧ Below w.heap.size w w') (w : World) :
    Calls Try.prog 11 #[.agg A.cells] w fun e w' => e = .returned (.bool true) ∧ Below w.heap.size w w' := by
  have HI' := Lib.hid HI
  have HS' := Lib.hid HS
  have HX := Lib.hid hx
  clear HI HS hx
  go_enter Try.func11, Try.ntmps11
  go_wp2_with fail
  have g0 : Holds (w.alloc (.cells A.cells 26)) (w.heap.size) A.cells := Holds.new w A.cells 26
  have hb : Below w.heap.size w (w.alloc (.cells A.cells 26)) := (Below.refl w.heap.size w).alloc (Nat.le_refl _) (.cells A.cells 26)
  obtain ⟨W, hW⟩ : ∃ W, (w.alloc (.cells A.cells 26)) = W := ⟨_, rfl⟩
  rw [hW] at g0 hb ⊢
  clear hW
  refine (toLawn_any _ _).mono ?_
  rintro e w2a ⟨rfl, hb1⟩
  go_wp2_with fail
  refine (HS'.out _).mono ?_
  rintro e w2 ⟨⟨vs, rfl, os⟩, hb2⟩
  have hb3 := below_onto hb1 hb2
  have hsz := hb1.size
  obtain ⟨Bvs, hBvs⟩ : ∃ B, w2a.heap.size = B := ⟨_, rfl⟩
  rw [hBvs] at os hsz
  clear hb1 hb2
  have hb4 := below_onto hb hb3
  have g0 := g0.below hb3 g0.lt
  have OS := Lib.hid os
  clear hb hb3 os hsz hBvs
  obtain ⟨r0, -⟩ := g0.facts
  go_wp2_with fail
  refine (toLawn_any _ _).mono ?_
  rintro e w4a ⟨rfl, hb1⟩
  go_wp2_with fail
  refine (HI'.out _).mono ?_
  rintro e w4 ⟨⟨vg, rfl, og⟩, hb2⟩
  have hb3 := below_onto hb1 hb2
  have hsz := hb1.size
  obtain ⟨Bvg, hBvg⟩ : ∃ B, w4a.heap.size = B := ⟨_, rfl⟩
  rw [hBvg] at og hsz
  clear hb1 hb2 r0
  have hb5 := below_onto hb4 hb3
  have OS2 := Lib.hid (own_below OS.out hb3)
  have hap := own_apart OS.out hsz og
  have hlow : w.heap.size < Bvg := by have := g0.lt; omega
  have g0 := g0.below hb3 g0.lt
  have OG := Lib.hid og
  clear hb4 hb3 og OS hsz hBvg
  go_wp2_with fail
  refine (eqCellS_same n xs (by omega) HX.out _ _ _ _ _ OG.out OS2.out).mono ?_
  rintro e w5 ⟨rfl, hb3⟩
  have OS3 := Lib.hid (own_below OS2.out hb3)
  have OG3 := Lib.hid (own_below OG.out hb3)
  have hb6 := below_onto hb5 hb3
  have g0 := g0.below hb3 g0.lt
  clear hb5 hb3 OS2 OG
  go_wp2_with fail
  obtain ⟨M, hM⟩ : ∃ M, 1 + 2 * n = M := ⟨_, rfl⟩
  refine (markCellS_one Bvg n M _ _ _ (by omega) hM OG3.out).mono ?_
  rintro e w6 ⟨rfl, om, hgr⟩
  have OS4 := Lib.hid (OS3.out.kept hgr hap)
  have OM := Lib.hid om
  have g0 := held_grown g0 OG3.out hgr (by omega)
  have hb7 := below_marked hb6 OG3.out hgr (by omega) (by have := hb6.size; omega)
  have d1 : decide ((M : Int) < 0) = false := by simp
  clear hb6 om hgr hap OS3 OG3
  go_wp2_with fail
  refine (heldCellS_one Bvg n M _ _ (by omega) hM OM.out).mono ?_
  rintro e w7 ⟨rfl, hb3⟩
  have OS5 := Lib.hid (own_below OS4.out hb3)
  have OM2 := Lib.hid (own_below OM.out hb3)
  have hb8 := below_onto hb7 hb3
  have g0 := g0.below hb3 g0.lt
  clear hb7 hb3 OS4 OM
  obtain ⟨r0, -⟩ := g0.facts
  go_wp2_with fail
  refine (toLawn_any _ _).mono ?_
  rintro e w9a ⟨rfl, hb1⟩
  go_wp2_with fail
  refine (HI'.out _).mono ?_
  rintro e w9 ⟨⟨vh, rfl, oh⟩, hb2⟩
  have hb3 := below_onto hb1 hb2
  have hsz := hb1.size
  obtain ⟨Bvh, hBvh⟩ : ∃ B, w9a.heap.size = B := ⟨_, rfl⟩
  rw [hBvh] at oh hsz
  clear hb1 hb2 r0
  have hb9 := below_onto hb8 hb3
  have OS6 := Lib.hid (own_below OS5.out hb3)
  have OM3 := Lib.hid (own_below OM2.out hb3)
  have OH := Lib.hid oh
  clear hb8 hb3 g0 oh OS5 OM2 hsz hBvh
  go_wp2_with fail
  refine (eqCellS_same n xs (by omega) HX.out _ _ _ _ _ OH.out OS6.out).mono ?_
  rintro e w10 ⟨rfl, hb1⟩
  have OM4 := Lib.hid (own_below OM3.out hb1)
  have hb10 := below_onto hb9 hb1
  clear hb9 hb1 OS6 OM3 OH
  go_wp2_with fail
  refine (heldCellS_one Bvg n M _ _ (by omega) hM OM4.out).mono ?_
  rintro e w11 ⟨rfl, hb1⟩
  have hb11 := below_onto hb10 hb1
  clear hb10 hb1 OM4
  go_wp2_with fail
  go_ret
  exact ⟨rfl, hb11⟩

theorem exactInnerOf (A : Lawn) (hA : A.Fits) (w : World) :
    Calls Try.prog 11 #[.agg A.cells] w fun e w' => e = .returned (.bool true) ∧ Below w.heap.size w w' :=
  exactInnerOf_walk A (validC A) (insideL A true).length (flatV (insideL A true)) (by
    unfold insideL
    have h1 := cellsL_le A 0
    have h2 := List.length_filter_le (keepI A true) (cellsL A 0)
    omega) (flatV_ints _ _ rfl) (implInner_any A hA) (specInnerOf_any A hA) w

end Go.Proofs.Ythpfejbigdjhlaa
