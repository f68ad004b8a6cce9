/- MoveSoil, of the program and of the model. -/
import Derived.Test.YteaajkkhbflmdaaDoorIMvAll
import Derived.Test.YteaajkkhbflmdaaDoorSMvAll
namespace Go.Proofs.YteaajkkhbflmdaaDoor
open Go.RowKit Go.Shelf
set_option linter.unusedVariables false
set_option linter.unusedSimpArgs false
attribute [local go_sem ↓] loadRow loadGrid loadLawn loadMirror storeRow storeGrid storeLawn allocRow allocGrid allocLawn buildZero buildSides loadR8 loadL8 loadLv storeR8 storeLv allocR8 allocLv buildZLv

theorem own_haul (W : World) (x0 x1 x2 x3 x4 : Int) (s : Nat) (hs : W.heap.size = s) : (W.alloc (.cells #[.int .i8 x0, .int .i8 x1, .int .i8 x2, .int .i8 x3, .int .i8 x4] 41)).ownsRow s 41 5 (.slice (some ⟨s, 0, none⟩) 1 1) 1 (hlV [(x0, x1, x2, x3, x4)]) :=
  ⟨rfl, .inr ⟨s, 1, #[.int .i8 x0, .int .i8 x1, .int .i8 x2, .int .i8 x3, .int .i8 x4], rfl, Nat.le_refl _, by subst hs; exact heap_alloc_new W _, Nat.le_refl _, by simp [maxLen], rfl, rfl⟩⟩

set_option maxRecDepth 100000 in
set_option maxHeartbeats 2000000 in
theorem implMvSoil_any (L : Lawn) (hL : L.Fits) (g : Nat → Nat → Int) (hg : LevFits g) (x0 x1 x2 x3 x4 : Int) {a0 a1 a2 a3 a4 : Addr} (w : World) (hE : ErrsIn w a0 a1 a2 a3 a4) :
    Calls Tryd.prog 12 #[.agg L.cells, .agg (levV g), .agg #[.int .i8 x0, .int .i8 x1, .int .i8 x2, .int .i8 x3, .int .i8 x4]] w fun e w' => e = .returned (.tuple #[.agg (levV (mvAG L g [(x0, x1, x2, x3, x4)])), .int .i64 (mvAC L g [(x0, x1, x2, x3, x4)])]) ∧ Below w.heap.size w w' := by
  have HM := Lib.hid (show ∀ (w' : World) (B : Nat) (v : Value), ErrsIn w' a0 a1 a2 a3 a4 → w'.ownsRow B 41 5 v 1 (hlV [(x0, x1, x2, x3, x4)]) → Calls Tryd.prog 17 #[.agg L.cells, .agg (levV g), v] w' fun e w'' => e = .returned (.tuple #[.agg (levV (mvAG L g [(x0, x1, x2, x3, x4)])), .int .i64 (mvAC L g [(x0, x1, x2, x3, x4)])]) ∧ Below w'.heap.size w' w'' from fun w' B v h1 h2 => implMvAll_any L hL g hg B 1 v [(x0, x1, x2, x3, x4)] rfl (by omega) w' h1 h2)
  obtain ⟨s, hs⟩ : ∃ s, w.heap.size = s := ⟨_, rfl⟩
  obtain ⟨R, hR⟩ : ∃ R, mvAG L g [(x0, x1, x2, x3, x4)] = R := ⟨_, rfl⟩
  obtain ⟨z, hz⟩ : ∃ z, mvAC L g [(x0, x1, x2, x3, x4)] = z := ⟨_, rfl⟩
  rw [hR, hz] at HM ⊢
  clear hR hz hL hg
  obtain ⟨W0, hW0⟩ : ∃ W0, (((w.alloc (.cells L.cells 36)).alloc (.cells (levV g) 33)).alloc (.cells #[.int .i8 x0, .int .i8 x1, .int .i8 x2, .int .i8 x3, .int .i8 x4] 41)).alloc (.cells (levV fun _ _ => 0) 33) = W0 := ⟨_, rfl⟩
  have g0 : Holds W0 s L.cells := by rw [← hW0]; exact (((Holds.new' _ _ _ _ hs.symm).alloc _).alloc _).alloc _
  have g1 : Holds W0 (s + 1) (levV g) := by rw [← hW0]; exact ((Holds.new' _ _ _ _ (by simp; omega)).alloc _).alloc _
  have g2 : Holds W0 (s + 1 + 1) #[.int .i8 x0, .int .i8 x1, .int .i8 x2, .int .i8 x3, .int .i8 x4] := by rw [← hW0]; exact (Holds.new' _ _ _ _ (by simp; omega)).alloc _
  have g3 : Holds W0 (s + 1 + 1 + 1) (levV fun _ _ => 0) := by rw [← hW0]; exact Holds.new' _ _ _ _ (by simp; omega)
  have hb : Below s w W0 := by rw [← hW0]; exact ((((Below.refl s w).alloc (by omega) _).alloc (by simp; omega) _).alloc (by simp; omega) _).alloc (by simp; omega) _
  have hE0 : ErrsIn W0 a0 a1 a2 a3 a4 := hE.below (hs.symm ▸ hb)
  have HE := Lib.hid hE0
  rw [hs]
  obtain ⟨r0, -, -, -, l0⟩ := g0.facts
  obtain ⟨r1, -, -, -, l1⟩ := g1.facts
  obtain ⟨-, -, c2, -, l2⟩ := g2.facts
  have c20 := (c2 0).trans (show _ = some (.int .i8 x0) from rfl)
  have c21 := (c2 1).trans (show _ = some (.int .i8 x1) from rfl)
  have c22 := (c2 2).trans (show _ = some (.int .i8 x2) from rfl)
  have c23 := (c2 3).trans (show _ = some (.int .i8 x3) from rfl)
  have c24 := (c2 4).trans (show _ = some (.int .i8 x4) from rfl)
  clear c2 hE hE0
  go_enter Tryd.func12, Tryd.ntmps12
  go_wp2_with fail
  refine (HM.out _ _ _ (HE.out.below ((Below.refl _ _).alloc (Nat.le_refl _) _)) (own_haul W0 x0 x1 x2 x3 x4 _ rfl)).mono ?_
  rintro e w1 ⟨rfl, hb1⟩
  have hb2 : Below W0.heap.size W0 w1 := below_onto ((Below.refl _ _).alloc (Nat.le_refl _) _) hb1
  have k3 := g3.below hb2 g3.lt
  have hb3 : Below s w w1 := hb.trans (hb2.mono (by have := g0.lt; omega))
  obtain ⟨r2, f2, -, z2, l2'⟩ := k3.facts
  clear hb1 hb2 hb g0 g1 g2 g3 r0 l0 r1 l1 c20 c21 c22 c23 c24 l2 hW0
  go_wp2_with fail
  exact bodyPost_ret (results_cell_tmp_holds rfl wideLv _ rfl (k3.setRow (levV R)) (by simp)) rfl ⟨rfl, below_setRow' hb3 (by omega) _⟩

set_option maxRecDepth 100000 in
set_option maxHeartbeats 2000000 in
theorem specMvSoil_any (L : Lawn) (hL : L.Fits) (g : Nat → Nat → Int) (hg : LevFits g) (x0 x1 x2 x3 x4 : Int) (hF : HlFits (x0, x1, x2, x3, x4)) (w : World) :
    Calls Tryd.prog 8 #[.agg L.cells, .agg (levV g), .agg #[.int .i8 x0, .int .i8 x1, .int .i8 x2, .int .i8 x3, .int .i8 x4]] w fun e w' => e = .returned (.tuple #[.agg (levV (mvAG L g [(x0, x1, x2, x3, x4)])), .int .i64 (mvAC L g [(x0, x1, x2, x3, x4)])]) ∧ Below w.heap.size w w' := by
  have HM := Lib.hid (show ∀ (w' : World) (B : Nat) (v : Value), w'.ownsRow B 41 5 v 1 (hlV [(x0, x1, x2, x3, x4)]) → Calls Tryd.prog 15 #[.agg L.cells, .agg (levV g), v] w' fun e w'' => e = .returned (.tuple #[.agg (levV (mvAG L g [(x0, x1, x2, x3, x4)])), .int .i64 (mvAC L g [(x0, x1, x2, x3, x4)])]) ∧ Below w'.heap.size w' w'' from fun w' B v h2 => specMvAll_any L hL g hg B 1 v [(x0, x1, x2, x3, x4)] rfl (by simpa using hF) (by omega) w' h2)
  obtain ⟨s, hs⟩ : ∃ s, w.heap.size = s := ⟨_, rfl⟩
  obtain ⟨R, hR⟩ : ∃ R, mvAG L g [(x0, x1, x2, x3, x4)] = R := ⟨_, rfl⟩
  obtain ⟨z, hz⟩ : ∃ z, mvAC L g [(x0, x1, x2, x3, x4)] = z := ⟨_, rfl⟩
  rw [hR, hz] at HM ⊢
  clear hR hz hL hg hF
  obtain ⟨W0, hW0⟩ : ∃ W0, (((w.alloc (.cells L.cells 36)).alloc (.cells (levV g) 33)).alloc (.cells #[.int .i8 x0, .int .i8 x1, .int .i8 x2, .int .i8 x3, .int .i8 x4] 41)).alloc (.cells (levV fun _ _ => 0) 33) = W0 := ⟨_, rfl⟩
  have g0 : Holds W0 s L.cells := by rw [← hW0]; exact (((Holds.new' _ _ _ _ hs.symm).alloc _).alloc _).alloc _
  have g1 : Holds W0 (s + 1) (levV g) := by rw [← hW0]; exact ((Holds.new' _ _ _ _ (by simp; omega)).alloc _).alloc _
  have g2 : Holds W0 (s + 1 + 1) #[.int .i8 x0, .int .i8 x1, .int .i8 x2, .int .i8 x3, .int .i8 x4] := by rw [← hW0]; exact (Holds.new' _ _ _ _ (by simp; omega)).alloc _
  have g3 : Holds W0 (s + 1 + 1 + 1) (levV fun _ _ => 0) := by rw [← hW0]; exact Holds.new' _ _ _ _ (by simp; omega)
  have hb : Below s w W0 := by rw [← hW0]; exact ((((Below.refl s w).alloc (by omega) _).alloc (by simp; omega) _).alloc (by simp; omega) _).alloc (by simp; omega) _
  rw [hs]
  obtain ⟨r0, -, -, -, l0⟩ := g0.facts
  obtain ⟨r1, -, -, -, l1⟩ := g1.facts
  obtain ⟨-, -, c2, -, l2⟩ := g2.facts
  have c20 := (c2 0).trans (show _ = some (.int .i8 x0) from rfl)
  have c21 := (c2 1).trans (show _ = some (.int .i8 x1) from rfl)
  have c22 := (c2 2).trans (show _ = some (.int .i8 x2) from rfl)
  have c23 := (c2 3).trans (show _ = some (.int .i8 x3) from rfl)
  have c24 := (c2 4).trans (show _ = some (.int .i8 x4) from rfl)
  clear c2
  go_enter Tryd.func8, Tryd.ntmps8
  go_wp2_with fail
  refine (HM.out _ _ _ (own_haul W0 x0 x1 x2 x3 x4 _ rfl)).mono ?_
  rintro e w1 ⟨rfl, hb1⟩
  have hb2 : Below W0.heap.size W0 w1 := below_onto ((Below.refl _ _).alloc (Nat.le_refl _) _) hb1
  have k3 := g3.below hb2 g3.lt
  have hb3 : Below s w w1 := hb.trans (hb2.mono (by have := g0.lt; omega))
  obtain ⟨r2, f2, -, z2, l2'⟩ := k3.facts
  clear hb1 hb2 hb g0 g1 g2 g3 r0 l0 r1 l1 c20 c21 c22 c23 c24 l2 hW0
  go_wp2_with fail
  exact bodyPost_ret (results_cell_tmp_holds rfl wideLv _ rfl (k3.setRow (levV R)) (by simp)) rfl ⟨rfl, below_setRow' hb3 (by omega) _⟩
end Go.Proofs.YteaajkkhbflmdaaDoor
