/- A night, of the program: levels and mole. -/
import Derived.Test.YteaajkkhbflmdaaDoorMoleN
import Derived.Test.YteaajkkhbflmdaaDoorZH
namespace Go.Proofs.YteaajkkhbflmdaaDoor
open Go.RowKit Go.Shelf
set_option linter.unusedVariables false
set_option linter.unusedSimpArgs false
attribute [local go_sem ↓] loadRow loadGrid loadLawn loadMirror storeRow storeGrid storeLawn allocRow allocGrid allocLawn buildZero buildSides loadR8 loadL8 loadLv storeR8 storeLv allocR8 allocLv buildZLv

theorem results_cells2 {P : Program} {fn : Func} {p u : Tmp} {t1 t2 : TypeId} {n m : Nat} (h : fn.results = #[.cell p t1, .cell u t2]) (hw1 : wideB P t1 n = true) (hw2 : wideB P t2 m = true) (tmps : Array Value) {w : World} {g k : Nat} {cs ds : Array Value}
    (hp : tmps.getD p undef = .pointer (some ⟨g, 0, none⟩)) (hu : tmps.getD u undef = .pointer (some ⟨k, 0, none⟩)) (hg : Holds w g cs) (hn : cs.size = n) (hk : Holds w k ds) (hm : ds.size = m) : (results fn tmps).run P w = .ok (.tuple #[.agg cs, .agg ds]) w := by
  have hp' : tmps[p]?.getD undef = .pointer (some ⟨g, 0, none⟩) := by simpa using hp
  have hu' : tmps[u]?.getD undef = .pointer (some ⟨k, 0, none⟩) := by simpa using hu
  simp [results, h, hp', hu', asAddr, (wide_of hw1).loadVar hg hn, (wide_of hw2).loadVar hk hm]
theorem wideMole : wideB Tryd.prog 86 4 = true := by kernel_rfl
theorem moleV_size (q bf : Q10) : (moleV q bf).size = 4 := rfl

set_option maxRecDepth 100000 in
set_option maxHeartbeats 4000000 in
theorem night_any (L : Lawn) (hL : L.Fits) (g : Nat → Nat → Int) (hv : levB L g = true) (q bf : Q10) (w : World) :
    Calls Tryd.prog 42 #[.agg L.cells, .agg (levV g), .agg (moleV q bf)] w fun e w' => e = .returned (.tuple #[.agg (levV (nightG g (nextQ L g q bf))), .agg (moleV (nextQ L g q bf) q)]) ∧ Below w.heap.size w w' := by
  have HNX := Lib.hid (fun w => next_any L hL (levB_true hv).1 g q bf w)
  obtain ⟨n, hn⟩ : ∃ n, nextQ L g q bf = n := ⟨_, rfl⟩
  rw [hn] at HNX ⊢
  have hgr := lev_range hv n.2.val n.1.val n.2.isLt n.1.isLt
  obtain ⟨G, hG⟩ : ∃ G, g n.2.val n.1.val = G := ⟨_, rfl⟩
  rw [hG] at hgr
  obtain ⟨M, hM⟩ : ∃ M, min (G + 1) 9 = M := ⟨_, rfl⟩
  have HNG := Lib.hid (show nightG g n = upd g n.2.val n.1.val M by unfold nightG; rw [hG, hM])
  have hw1 : IntKind.i8.wrap (G + 1) = G + 1 := IntWalk.i8_in _ (by omega)
  have hmm : (if (9 : Int) < G + 1 then 9 else G + 1) = M := by rw [← hM]; split <;> omega
  obtain ⟨x, hx⟩ : ∃ x : Nat, n.1.val = x := ⟨_, rfl⟩
  obtain ⟨y, hy⟩ : ∃ y : Nat, n.2.val = y := ⟨_, rfl⟩
  have hx10 : x < 10 := by have := n.1.isLt; omega
  have hy10 : y < 10 := by have := n.2.isLt; omega
  have HXY := Lib.hid (And.intro hx hy)
  rw [hx, hy] at hG HNG
  clear hL hv hn hM
  obtain ⟨s, hs⟩ : ∃ s, w.heap.size = s := ⟨_, rfl⟩
  obtain ⟨W0, hW0⟩ : ∃ W0, ((((w.alloc (.cells L.cells 36)).alloc (.cells (levV g) 33)).alloc (.cells (moleV q bf) 86)).alloc (.cells (levV fun _ _ => 0) 33)).alloc (.cells #[.int .i8 0, .int .i8 0, .int .i8 0, .int .i8 0] 86) = W0 := ⟨_, rfl⟩
  have g0 : Holds W0 s L.cells := by rw [← hW0]; exact ((((Holds.new' _ _ _ _ hs.symm).alloc _).alloc _).alloc _).alloc _
  have g1 : Holds W0 (s + 1) (levV g) := by rw [← hW0]; exact (((Holds.new' _ _ _ _ (by simp; omega)).alloc _).alloc _).alloc _
  have g2 : Holds W0 (s + 1 + 1) (moleV q bf) := by rw [← hW0]; exact ((Holds.new' _ _ _ _ (by simp; omega)).alloc _).alloc _
  have g3 : Holds W0 (s + 1 + 1 + 1) (levV fun _ _ => 0) := by rw [← hW0]; exact (Holds.new' _ _ _ _ (by simp; omega)).alloc _
  have g4 : Holds W0 (s + 1 + 1 + 1 + 1) #[.int .i8 0, .int .i8 0, .int .i8 0, .int .i8 0] := by rw [← hW0]; exact Holds.new' _ _ _ _ (by simp; omega)
  have hb : Below s w W0 := by rw [← hW0]; exact (((((Below.refl s w).alloc (by omega) _).alloc (by simp; omega) _).alloc (by simp; omega) _).alloc (by simp; omega) _).alloc (by simp; omega) _
  rw [hs]
  obtain ⟨r0, -, -, -, l0⟩ := g0.facts
  obtain ⟨r1, -, -, -, l1⟩ := g1.facts
  have e0 := (g2.cell 0).trans (show _ = some (.int .i8 q.1.val) from rfl)
  have e1 := (g2.cell 1).trans (show _ = some (.int .i8 q.2.val) from rfl)
  have e2 := (g2.cell 2).trans (show _ = some (.int .i8 bf.1.val) from rfl)
  have e3 := (g2.cell 3).trans (show _ = some (.int .i8 bf.2.val) from rfl)
  have l2 := g2.lt
  go_enter Tryd.func42, Tryd.ntmps42
  go_wp2_with fail
  clear hW0 r0 l0 r1 l1 e0 e1 e2 e3 l2
  refine (HNX.out _).mono ?_
  rintro e w1 ⟨rfl, hb1⟩
  have k1 := g1.below hb1 g1.lt
  have k2 := g2.below hb1 g2.lt
  have k3 := g3.below hb1 g3.lt
  have k4 := g4.below hb1 g4.lt
  have hb2 : Below s w w1 := hb.trans (hb1.mono (by have := g0.lt; omega))
  obtain ⟨-, -, c2, z2, l2⟩ := k2.facts
  have c20 := (c2 0).trans (show _ = some (.int .i8 q.1.val) from rfl)
  have c21 := (c2 1).trans (show _ = some (.int .i8 q.2.val) from rfl)
  have c22 := (c2 2).trans (show _ = some (.int .i8 bf.1.val) from rfl)
  have c23 := (c2 3).trans (show _ = some (.int .i8 bf.2.val) from rfl)
  have z20 := z2 0
  have z21 := z2 1
  have z22 := z2 2
  have z23 := z2 3
  clear g0 g1 g2 g3 g4 hb hb1 c2 z2
  simp only [moleV]
  rw [HXY.out.1, HXY.out.2]
  go_wp2_with fail
  obtain ⟨W2, hW2⟩ : ∃ W2, (((w1.setCell ⟨s + 1 + 1, 0, none⟩ (.int .i8 x)).setCell ⟨s + 1 + 1, 1, none⟩ (.int .i8 y)).setCell ⟨s + 1 + 1, 2, none⟩ (.int .i8 q.1.val)).setCell ⟨s + 1 + 1, 3, none⟩ (.int .i8 q.2.val) = W2 := ⟨_, rfl⟩
  have o1 : ∀ {b : Nat} {cs : Array Value}, Holds w1 b cs → b ≠ s + 1 + 1 → Holds W2 b cs := fun h hne => by rw [← hW2]; exact (((h.setCell_other _ _ (by dsimp only; omega)).setCell_other _ _ (by dsimp only; omega)).setCell_other _ _ (by dsimp only; omega)).setCell_other _ _ (by dsimp only; omega)
  have m1 := o1 k1 (by omega)
  have m3 := o1 k3 (by omega)
  have m4 := o1 k4 (by omega)
  have m2 : Holds W2 (s + 1 + 1) #[.int .i8 x, .int .i8 y, .int .i8 q.1.val, .int .i8 q.2.val] := by rw [← hW2]; exact (((k2.setCell 0 _).setCell 1 _).setCell 2 _).setCell 3 _
  have hb3 : Below s w W2 := by rw [← hW2]; exact (((hb2.setCell (p := ⟨s + 1 + 1, 0, none⟩) (by dsimp only; omega) _).setCell (p := ⟨s + 1 + 1, 1, none⟩) (by dsimp only; omega) _).setCell (p := ⟨s + 1 + 1, 2, none⟩) (by dsimp only; omega) _).setCell (p := ⟨s + 1 + 1, 3, none⟩) (by dsimp only; omega) _
  try rw [hW2]
  clear hW2 o1 k1 k2 k3 k4 hb2 c20 c21 c22 c23 z20 z21 z22 z23 l2
  obtain ⟨-, -, c1, z1, l1⟩ := m1.facts
  have c1v := (c1 (y * 10 + x)).trans (by rw [levV_get g y x hy10 hx10, hG] : _ = some (.int .i8 G))
  have z1v := z1 (y * 10 + x)
  have c20 := (m2.cell 0).trans (show _ = some (.int .i8 x) from rfl)
  have c21 := (m2.cell 1).trans (show _ = some (.int .i8 y) from rfl)
  have l2 := m2.lt
  clear c1 z1
  go_region
  obtain ⟨W3, hW3⟩ : ∃ W3, (W2.setCell ⟨s + 1, y * 10 + x, none⟩ (.int .i8 M)).drew = W3 := ⟨_, rfl⟩
  have o2 : ∀ {b : Nat} {cs : Array Value}, Holds W2 b cs → b ≠ s + 1 → Holds W3 b cs := fun {b cs} h hne => by
    have h2 := h.setCell_other ⟨s + 1, y * 10 + x, none⟩ (.int .i8 M) (by dsimp only; omega)
    rw [← hW3]
    exact h2.below (Below.refl _ _).drew h2.lt
  have u1 : Holds W3 (s + 1) (levV (nightG g n)) := by
    rw [← hW3, HNG.out, ← levV_set _ _ _ _ hy10 hx10]
    exact (m1.setCell (y * 10 + x) (.int .i8 M)).below (Below.refl _ _).drew (m1.setCell (y * 10 + x) (.int .i8 M)).lt
  have u2 := o2 m2 (by omega)
  have u3 := o2 m3 (by omega)
  have u4 := o2 m4 (by omega)
  have hb4 : Below s w W3 := by rw [← hW3]; exact (hb3.setCell (p := ⟨s + 1, y * 10 + x, none⟩) (by dsimp only; omega) _).drew
  rw [hW3]
  clear hW3 o2 m1 m2 m3 m4 hb3 c1v z1v c20 c21 l2 l1
  obtain ⟨r1, -, -, -, l1⟩ := u1.facts
  have c20 := (u2.cell 0).trans (show _ = some (.int .i8 x) from rfl)
  have c21 := (u2.cell 1).trans (show _ = some (.int .i8 y) from rfl)
  have c22 := (u2.cell 2).trans (show _ = some (.int .i8 q.1.val) from rfl)
  have c23 := (u2.cell 3).trans (show _ = some (.int .i8 q.2.val) from rfl)
  have l2 := u2.lt
  obtain ⟨r3, f3, -, -, l3⟩ := u3.facts
  obtain ⟨-, -, c4, z4, l4⟩ := u4.facts
  have c40 := (c4 0).trans (show _ = some (.int .i8 0) from rfl)
  have c41 := (c4 1).trans (show _ = some (.int .i8 0) from rfl)
  have c42 := (c4 2).trans (show _ = some (.int .i8 0) from rfl)
  have c43 := (c4 3).trans (show _ = some (.int .i8 0) from rfl)
  have z40 := z4 0
  have z41 := z4 1
  have z42 := z4 2
  have z43 := z4 3
  clear c4 z4
  go_wp2_with fail
  go_region
  have F := u3.setRow (levV (nightG g n))
  have F2 := (((F.setCell_other ⟨s + 1 + 1 + 1 + 1, 0, none⟩ (.int .i8 x) (by dsimp only; omega)).setCell_other ⟨s + 1 + 1 + 1 + 1, 1, none⟩ (.int .i8 y) (by dsimp only; omega)).setCell_other ⟨s + 1 + 1 + 1 + 1, 2, none⟩ (.int .i8 q.1.val) (by dsimp only; omega)).setCell_other ⟨s + 1 + 1 + 1 + 1, 3, none⟩ (.int .i8 q.2.val) (by dsimp only; omega)
  have M0 := ((Only.refl [s + 1 + 1 + 1] W3).setRow (g := s + 1 + 1 + 1) (.inl (by simp)) (levV (nightG g n))).holds u4 (by simp)
  have M2 := (((M0.setCell 0 (.int .i8 x)).setCell 1 (.int .i8 y)).setCell 2 (.int .i8 q.1.val)).setCell 3 (.int .i8 q.2.val)
  have hb5 := ((((below_setRow' hb4 (g := s + 1 + 1 + 1) (by omega) (levV (nightG g n))).setCell (p := ⟨s + 1 + 1 + 1 + 1, 0, none⟩) (by dsimp only; omega) (.int .i8 x)).setCell (p := ⟨s + 1 + 1 + 1 + 1, 1, none⟩) (by dsimp only; omega) (.int .i8 y)).setCell (p := ⟨s + 1 + 1 + 1 + 1, 2, none⟩) (by dsimp only; omega) (.int .i8 q.1.val)).setCell (p := ⟨s + 1 + 1 + 1 + 1, 3, none⟩) (by dsimp only; omega) (.int .i8 q.2.val)
  have F3 := F2.below (Below.refl _ _).drew F2.lt
  have M3 := M2.below (Below.refl _ _).drew M2.lt
  have hb6 := hb5.drew
  have HFM := Lib.hid (And.intro F3 (And.intro M3 hb6))
  clear F F2 M0 M2 hb5 F3 M3 hb6
  all_goals go_wp2_with fail
  all_goals exact bodyPost_ret (results_cells2 rfl wideLv wideMole _ rfl rfl HFM.out.1 (by simp) HFM.out.2.1 rfl) rfl ⟨by unfold moleV; rw [HXY.out.1, HXY.out.2]; rfl, HFM.out.2.2⟩
end Go.Proofs.YteaajkkhbflmdaaDoor
