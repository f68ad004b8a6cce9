/- The law on CellsOf. -/
import Derived.Test.YtcgkbdbgocoilaaSCells
import Derived.Test.YtcgkbdbgocoilaaEqCellS
import Derived.Test.YtcgkbdbgocoilaaMarkCellS
namespace Go.Proofs.Ytcgkbdbgocoilaa
open Go.RowKit
set_option linter.unusedVariables false
attribute [local go_sem ↓] loadRow loadGrid loadLawn loadMirror storeRow storeGrid storeLawn allocRow allocGrid allocLawn buildZero buildSides

theorem flatV_ints {W H : Nat} (l : List (Fin W × Fin H)) (n : Nat) (hn : l.length = n) : ∀ j, j < n * 2 → ∃ z, (flatV l)[j]? = some (.int .i8 z) := by
  intro j hj
  obtain ⟨c, hc⟩ : ∃ c, l[j / 2]? = some c := ⟨_, List.getElem?_eq_getElem (by omega)⟩
  obtain ⟨h1, h2⟩ := flatV_get _ _ _ hc
  rcases Nat.mod_two_eq_zero_or_one j with h | h
  · exact ⟨_, by rw [show j = j / 2 * 2 by omega]; exact h1⟩
  · exact ⟨_, by rw [show j = j / 2 * 2 + 1 by omega]; exact h2⟩

set_option maxRecDepth 100000 in
set_option maxHeartbeats 1000000 in
theorem exactCellsOf (A : Lawn) (hA : A.Fits) (k : Int) (w : World) :
    Calls Try.prog 3 #[.agg A.cells, .int .i64 k] w fun e w' => e = .returned (.bool true) ∧ Below w.heap.size w w' := by
  obtain ⟨m, hm⟩ : ∃ m, told (validB A) (inB k 0 3) = m := ⟨_, rfl⟩
  obtain ⟨n, hn⟩ : ∃ n, (cellsL A k).length = n := ⟨_, rfl⟩
  obtain ⟨xs, hxs⟩ : ∃ xs, flatV (cellsL A k) = xs := ⟨_, rfl⟩
  have HI := implCells_any A hA k
  have HS := specCells_any A hA k
  have hn1 : n ≤ 1000000 := by have := cellsL_le A k; omega
  have hx := flatV_ints (cellsL A k) n hn
  rw [hm, hn, hxs] at HI HS
  rw [hxs] at hx
  have HI' := Lib.hid HI
  have HS' := Lib.hid HS
  have HX := Lib.hid hx
  clear HI HS hx hm hn hxs hA
  go_enter Try.func3, Try.ntmps3
  go_wp2_with fail
  have g0 : Holds (w.alloc (.cells A.cells 26)) w.heap.size A.cells := (Holds.new _ _ _)
  have hb : Below w.heap.size w (w.alloc (.cells A.cells 26)) := (Below.refl _ _).alloc (Nat.le_refl _) _
  obtain ⟨W, hW⟩ : ∃ W, w.alloc (.cells A.cells 26) = W := ⟨_, rfl⟩
  rw [hW] at g0 hb ⊢
  clear hW
  refine (toLawn_any _ _).mono ?_
  rintro e w1 ⟨rfl, hb1⟩
  go_wp2_with fail
  refine (HS'.out _).mono ?_
  rintro e w2 ⟨⟨vs, rfl, os⟩, hb2⟩
  have hb3 := below_onto hb1 hb2
  have hb4 := below_onto hb hb3
  have g1 := g0.below hb3 g0.lt
  have OS := Lib.hid os
  clear hb hb1 hb2 hb3 g0 os
  obtain ⟨r1, -⟩ := g1.facts
  go_wp2_with fail
  refine (toLawn_any _ _).mono ?_
  rintro e w3 ⟨rfl, hb1⟩
  go_wp2_with fail
  refine (HI'.out _).mono ?_
  rintro e w4 ⟨⟨vg, rfl, og⟩, hb2⟩
  have hb3 := below_onto hb1 hb2
  have hb5 := below_onto hb4 hb3
  have g2 := g1.below hb3 g1.lt
  have OS2 := Lib.hid (own_below OS.out hb3)
  have OG := Lib.hid og
  have hap := own_apart OS.out (Nat.le_trans hb1.size (Nat.le_refl _)) og
  have hlow : w.heap.size < w3.heap.size := Nat.lt_of_lt_of_le g1.lt hb1.size
  clear hb4 hb1 hb2 hb3 g1 r1 og OS
  obtain ⟨B, hB⟩ : ∃ B, w3.heap.size = B := ⟨_, rfl⟩
  rw [hB] at OG hlow
  go_wp2_with fail
  refine (eqCellS_same n xs hn1 HX.out _ _ _ _ _ OG.out OS2.out).mono ?_
  rintro e w5 ⟨rfl, hb1⟩
  have OS3 := Lib.hid (own_below OS2.out hb1)
  have OG3 := Lib.hid (own_below OG.out hb1)
  have hb6 := below_onto hb5 hb1
  have g3 := g2.below hb1 g2.lt
  clear hb5 hb1 g2 OS2 OG
  go_wp2_with fail
  obtain ⟨M, hM⟩ : ∃ M, 1 + 2 * n = M := ⟨_, rfl⟩
  refine (markCellS_one B n M _ _ _ hn1 hM OG3.out).mono ?_
  rintro e w6 ⟨rfl, om, hgr⟩
  have OS4 := Lib.hid (OS3.out.kept hgr hap)
  have OM := Lib.hid om
  have g4 := held_grown g3 OG3.out hgr (by omega)
  have hb7 := below_marked hb6 OG3.out hgr (by omega) (by have := hb6.size; omega)
  have d1 : decide ((M : Int) < 0) = false := by simp
  clear hb6 om hgr hap g3 OS3 OG3
  go_wp2_with fail
  refine (heldCellS_one B n M _ _ hn1 hM OM.out).mono ?_
  rintro e w7 ⟨rfl, hb1⟩
  have OS5 := Lib.hid (own_below OS4.out hb1)
  have OM2 := Lib.hid (own_below OM.out hb1)
  have hb8 := below_onto hb7 hb1
  have g5 := g4.below hb1 g4.lt
  clear hb7 hb1 g4 OS4 OM
  obtain ⟨r1, -⟩ := g5.facts
  go_wp2_with fail
  refine (toLawn_any _ _).mono ?_
  rintro e w8 ⟨rfl, hb1⟩
  go_wp2_with fail
  refine (HI'.out _).mono ?_
  rintro e w9 ⟨⟨vh, rfl, oh⟩, hb2⟩
  have hb3 := below_onto hb1 hb2
  have hb9 := below_onto hb8 hb3
  have OS6 := Lib.hid (own_below OS5.out hb3)
  have OM3 := Lib.hid (own_below OM2.out hb3)
  have OH := Lib.hid oh
  clear hb8 hb1 hb2 hb3 g5 r1 oh OS5 OM2
  go_wp2_with fail
  refine (eqCellS_same n xs hn1 HX.out _ _ _ _ _ OH.out OS6.out).mono ?_
  rintro e w10 ⟨rfl, hb1⟩
  have OM4 := Lib.hid (own_below OM3.out hb1)
  have hb10 := below_onto hb9 hb1
  clear hb9 hb1 OS6 OM3 OH
  go_wp2_with fail
  refine (heldCellS_one B n M _ _ hn1 hM OM4.out).mono ?_
  rintro e w11 ⟨rfl, hb1⟩
  have hb11 := below_onto hb10 hb1
  clear hb10 hb1 OM4
  go_wp2_with fail
  go_ret
  exact ⟨rfl, hb11⟩
end Go.Proofs.Ytcgkbdbgocoilaa
