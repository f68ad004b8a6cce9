/- BestTrap, of the model, where it is refused and where there is no grass. -/
import Derived.Test.YtabemgplddfemaaGreatDoorSTrap
namespace Go.Proofs.YtabemgplddfemaaGreatDoor
open Go.RowKit Go.Shelf
set_option linter.unusedVariables false
set_option linter.unusedSimpArgs false
attribute [local go_sem ↓] loadRow loadGrid loadLawn loadMirror storeRow storeGrid storeLawn allocRow allocGrid allocLawn buildZero buildSides loadR8 loadL8 loadLv storeR8 storeLv allocR8 allocLv buildZLv storeCl loadG64 storeG64 allocG64 buildG64 loadGT storeGT allocGT buildGT

set_option maxRecDepth 100000 in
set_option maxHeartbeats 4000000 in
theorem strap_bad (L : Lawn) (hL : L.Fits) (g : Nat → Nat → Int) (hg : LevFits g) (n c : Int) (hc : told (levB L g) (upZ n 60) = c) (hne : c ≠ 0) (w : World) :
    Calls Tryz.prog 5 #[.agg L.cells, .agg (levV g), .int .i64 n] w fun e w' => e = .returned (cellNN3 ((0, 0), 0, c)) ∧ Below w.heap.size w w' := by
  obtain ⟨s, hs⟩ : ∃ s, w.heap.size = s := ⟨_, rfl⟩
  have HNI := Lib.hid (fun w => l06Nights_any n w)
  have HAK := Lib.hid (show ∀ (w : World), Holds w s L.cells → Holds w (s + 1) (levV g) → Calls Tryz.prog 13 #[.pointer (some ⟨s, 0, none⟩), .pointer (some ⟨s + 1, 0, none⟩), .bool (upZ n 60)] w fun e w' => e = .returned (.int .i64 c) ∧ Below w.heap.size w w' from fun w h h' => by
    have h := l06Asked_any L hL g hg s (s + 1) (upZ n 60) w h h'
    rwa [hc] at h)
  have hcz : (c != 0) = true := by simpa [bne] using hne
  obtain ⟨u, hu⟩ : ∃ u, upZ n 60 = u := ⟨_, rfl⟩
  rw [hu] at HNI HAK
  clear hL hg hu hc
  obtain ⟨W0, hW0⟩ : ∃ W0, ((w.alloc (.cells L.cells 33)).alloc (.cells (levV g) 35)).alloc (.cells #[.int .i8 0, .int .i8 0] 30) = W0 := ⟨_, rfl⟩
  have g0 : Holds W0 s L.cells := by rw [← hW0]; exact ((Holds.new' _ _ _ _ hs.symm).alloc _).alloc _
  have g1 : Holds W0 (s + 1) (levV g) := by rw [← hW0]; exact (Holds.new' _ _ _ _ (by simp <;> omega)).alloc _
  have g2 : Holds W0 (s + 1 + 1) #[.int .i8 0, .int .i8 0] := by rw [← hW0]; exact Holds.new' _ _ _ _ (by simp <;> omega)
  have hb : Below s w W0 := by rw [← hW0]; exact (((Below.refl s w).alloc (by omega) _).alloc (by simp; omega) _).alloc (by simp; omega) _
  rw [hs]
  go_enter Tryz.func5, Tryz.ntmps5
  go_wp2_with fail
  try rw [hW0]
  clear hW0
  refine (HNI.out _).mono ?_
  rintro e w1 ⟨rfl, hw1⟩
  rw [hw1]
  clear hw1
  go_wp2_with fail
  refine (HAK.out _ g0 g1).mono ?_
  rintro e w2 ⟨rfl, hb1⟩
  have hb2 : Below s w w2 := hb.trans (hb1.mono (by have := hb.size; omega))
  have m2 := g2.below hb1 g2.lt
  have HJ := Lib.hid m2
  have HB2 := Lib.hid hb2
  obtain ⟨r9, f9, -, -, l9⟩ := m2.facts
  clear g0 g1 g2 hb hb1 HNI HAK m2 hb2
  go_wp2_with fail
  exact bodyPost_ret (results_cell_nn rfl (by kernel_rfl) _ rfl rfl rfl (HJ.out.setRow _) rfl) rfl ⟨rfl, below_setRow' HB2.out (by omega) _⟩

set_option maxRecDepth 100000 in
set_option maxHeartbeats 4000000 in
theorem strap_none (L : Lawn) (hL : L.Fits) (g : Nat → Nat → Int) (hg : LevFits g) (hv : levB L g = true) (N : Nat) (hN : N ≤ 60) (Wn Hn : Nat) (hW : Wn ≤ 10) (hH : Hn ≤ 10) (hW1 : 1 ≤ Wn) (hH1 : 1 ≤ Hn) (hLw : L.wide = Wn) (hLh : L.high = Hn) (hS0 : ofKind L Wn Hn 0 = []) (w : World) :
    Calls Tryz.prog 5 #[.agg L.cells, .agg (levV g), .int .i64 N] w fun e w' => e = .returned (cellNN3 ((0, 0), 0, 6)) ∧ Below w.heap.size w w' := by
  obtain ⟨s, hs⟩ : ∃ s, w.heap.size = s := ⟨_, rfl⟩
  have hup : upZ (N : Int) 60 = true := by unfold upZ; simp; omega
  have HNI := Lib.hid (show ∀ w, Calls Tryz.prog 14 #[.int .i64 N] w fun e w' => e = .returned (.bool true) ∧ w' = w from fun w => hup ▸ l06Nights_any N w)
  have HAK := Lib.hid (show ∀ (w : World), Holds w s L.cells → Holds w (s + 1) (levV g) → Calls Tryz.prog 13 #[.pointer (some ⟨s, 0, none⟩), .pointer (some ⟨s + 1, 0, none⟩), .bool true] w fun e w' => e = .returned (.int .i64 0) ∧ Below w.heap.size w w' from fun w h h' => by
    have h := l06Asked_any L hL g hg s (s + 1) true w h h'
    rw [hv] at h
    exact h)
  have hce := fun (w : World) (h : Holds w s L.cells) => l01Cells_any Wn Hn hW hH hW1 hH1 L hL hLw hLh 0 s w h
  rw [hS0] at hce
  have HCE := Lib.hid hce
  clear hce hL hg hv hup hW hH hW1 hH1 hLw hLh hS0
  obtain ⟨W0, hW0⟩ : ∃ W0, ((w.alloc (.cells L.cells 33)).alloc (.cells (levV g) 35)).alloc (.cells #[.int .i8 0, .int .i8 0] 30) = W0 := ⟨_, rfl⟩
  have g0 : Holds W0 s L.cells := by rw [← hW0]; exact ((Holds.new' _ _ _ _ hs.symm).alloc _).alloc _
  have g1 : Holds W0 (s + 1) (levV g) := by rw [← hW0]; exact (Holds.new' _ _ _ _ (by simp <;> omega)).alloc _
  have g2 : Holds W0 (s + 1 + 1) #[.int .i8 0, .int .i8 0] := by rw [← hW0]; exact Holds.new' _ _ _ _ (by simp <;> omega)
  have hb : Below s w W0 := by rw [← hW0]; exact (((Below.refl s w).alloc (by omega) _).alloc (by simp; omega) _).alloc (by simp; omega) _
  rw [hs]
  go_enter Tryz.func5, Tryz.ntmps5
  go_wp2_with fail
  try rw [hW0]
  clear hW0
  refine (HNI.out _).mono ?_
  rintro e w1 ⟨rfl, hw1⟩
  rw [hw1]
  clear hw1
  go_wp2_with fail
  refine (HAK.out _ g0 g1).mono ?_
  rintro e w2 ⟨rfl, hb1⟩
  have hb2 : Below s w w2 := hb.trans (hb1.mono (by have := hb.size; omega))
  have m0 := g0.below hb1 g0.lt
  have m2 := g2.below hb1 g2.lt
  clear g0 g1 g2 hb hb1 HNI HAK
  go_wp2_with fail
  refine (HCE.out _ m0).mono ?_
  rintro e w3 ⟨v, rfl, ho, hb4⟩
  obtain ⟨aS, cS, rfl⟩ := own_slice ho
  have hb5 : Below s w w3 := hb2.trans (hb4.mono (by have := hb2.size; omega))
  have j2 := m2.below hb4 m2.lt
  have HJ := Lib.hid j2
  have HB2 := Lib.hid hb5
  obtain ⟨r9, f9, -, -, l9⟩ := j2.facts
  clear m0 m2 hb2 hb4 ho HCE j2 hb5
  go_wp2_with fail
  exact bodyPost_ret (results_cell_nn rfl (by kernel_rfl) _ rfl rfl rfl (HJ.out.setRow _) rfl) rfl ⟨rfl, below_setRow' HB2.out (by omega) _⟩
end Go.Proofs.YtabemgplddfemaaGreatDoor
