/- GiveUp and PlantAt, of the model. -/
import Derived.Test.YthpfejbigdjhlaaGiveUp
import Derived.Test.YthpfejbigdjhlaaSSides
import Derived.Test.YthpfejbigdjhlaaZD
namespace Go.Proofs.Ythpfejbigdjhlaa
open Go.RowKit
set_option linter.unusedVariables false
set_option linter.unusedSimpArgs false
attribute [local go_sem ↓] loadRow loadGrid loadLawn loadMirror storeRow storeGrid storeLawn allocRow allocGrid allocLawn buildZero buildSides loadSd storeSd allocSd buildSd

set_option maxRecDepth 100000 in
set_option maxHeartbeats 2000000 in
theorem l05With_any (L : Lawn) (i j : Nat) (hi : i < 10) (hj : j < 10) (k : Int) (w : World) :
    Calls Try.prog 74 #[.agg L.cells, .agg #[.int .i8 i, .int .i8 j], .int .u8 k] w fun e w' => e = .returned (.agg (L.put j i k).cells) ∧ Below w.heap.size w w' := by
  have hx0 : (0 : Int) ≤ i := by omega
  have hx1 : (i : Int) < 10 := by omega
  have hy0 : (0 : Int) ≤ j := by omega
  have hy1 : (j : Int) < 10 := by omega
  obtain ⟨W0, hW0⟩ : ∃ W0, ((w.alloc (.cells L.cells 31)).alloc (.cells #[.int .i8 i, .int .i8 j] 40)).alloc (.cells (Lawn.cells ⟨0, 0, fun _ _ => 0⟩) 31) = W0 := ⟨_, rfl⟩
  have g1 : Holds W0 w.heap.size L.cells := by rw [← hW0]; exact ((Holds.new _ _ _).alloc _).alloc _
  have c1 : Holds W0 (w.heap.size + 1) #[.int .i8 i, .int .i8 j] := by rw [← hW0]; exact (Holds.new' _ _ _ _ (by simp)).alloc _
  have z1 : Holds W0 (w.heap.size + 1 + 1) (Lawn.cells ⟨0, 0, fun _ _ => 0⟩) := by rw [← hW0]; exact Holds.new' _ _ _ _ (by simp)
  have hb3 : Below w.heap.size w W0 := by rw [← hW0]; exact (((Below.refl w.heap.size w).alloc (Nat.le_refl _) _).alloc (by simp) _).alloc (by simp; omega) _
  go_enter Try.func74, Try.ntmps74
  go_wp2_with fail
  clear hW0
  have s0 := c1.later.2
  refine wp_region_grow 8 (by kernel_rfl) (by kernel_rfl) ?_
  simp only [List.take_succ_cons, List.take_zero, List.drop_succ_cons, List.drop_zero]
  iterate 8
    apply wpGrow_plain rfl
    · intro w' hw' K hK
      have s1 := s0 _ hw'
      go_wp2_with fail
      exact hK _ _ rfl hw'
    simp only [Act.put, List.setIfInBounds_toArray, List.set_cons_succ, List.set_cons_zero]
  refine wpGrow_nil ?_
  intro W2 hW2
  have hb2 := below_onto hb3 hW2
  have g2 := g1.below hW2 g1.lt
  have z2 := z1.below hW2 z1.lt
  clear hW2 g1 c1 z1 s0 hb3
  have g3 := g2.setCell (2 + j * 10 + i) (.int .u8 k)
  rw [Lawn.cells_put L j i hj hi k] at g3
  have z3 := z2.setCell_other ⟨w.heap.size, 2 + j * 10 + i, none⟩ (.int .u8 k) (by simp; omega)
  have l1 := g2.lt
  have l3 := z2.lt
  have f1 := g2.free (2 + j * 10 + i)
  have ch : W2.cell? ⟨w.heap.size, 2 + j * 10 + i, none⟩ = some (.int .u8 (L.kind j i)) := by rw [g2.cell, Lawn.cells_get L j i hj hi]
  obtain ⟨r3, f3, -, -, -⟩ := g3.facts
  obtain ⟨r4, f4, -, -, -⟩ := z3.facts
  go_wp2_with fail
  exact bodyPost_ret (results_cell_holds (n := 102) rfl wideLawn _ rfl (z3.setRow _) (by simp)) rfl ⟨rfl, below_setRow' (hb2.setCell (by simp) _) (by omega) _⟩

/-- What the model has found up to now: the edge; the cell. -/
def leastO {W H : Nat} (L : Lawn) (k : Int) (o : Option (Fin W × Fin H)) : Int := match o with
  | none => -1
  | some c => edgeC L k c
def cellO {W H : Nat} (o : Option (Fin W × Fin H)) : Array Value := match o with
  | none => #[.int .i8 0, .int .i8 0]
  | some c => #[.int .i8 c.1.val, .int .i8 c.2.val]

theorem own_setRowO {W : World} {B n ga cap : Nat} {e : TypeId} {size : Nat} {xs : List Value} (h : W.ownsRow B e size (.slice (some ⟨ga, 0, none⟩) n cap) n xs) (g : Nat) (cs : Array Value) (hg : ga ≠ g) : (W.setRow g cs).ownsRow B e size (.slice (some ⟨ga, 0, none⟩) n cap) n xs := by
  refine ⟨h.1, ?_⟩
  rcases h.2 with h2 | ⟨b, cap', cur, hv, hbg, hb, r⟩
  · exact .inl h2
  · have : b = ga := by simp at hv; exact hv.1.symm
    exact .inr ⟨b, cap', cur, hv, hbg, (setRow_other W g b cs (by omega)).trans hb, r⟩

set_option maxRecDepth 100000 in
set_option maxHeartbeats 4000000 in
theorem specGiveUp_good (L : Lawn) (hL : L.Fits) (hv : validB L = true) (w : World) :
    Calls Try.prog 46 #[.agg L.cells] w fun e w' => e = .returned (changeV (changeA L 1 0 false)) ∧ Below w.heap.size w w' := by
  have HI := Lib.hid (fun (b : Nat) (w : World) (h : Holds w b L.cells) => l01Ok_any L hL b w h)
  rw [hv] at HI
  obtain ⟨h1, h2, -⟩ := validB_true hv
  have HCE := Lib.hid (fun (g : Nat) (w : World) (h : Holds w g L.cells) => l01Cells_any L.wide.toNat L.high.toNat (by omega) (by omega) (by omega) (by omega) L hL (by omega) (by omega) 1 g w h)
  have hcl : (cellsL L 1).length ≤ 100 := cellsL_le L 1
  have hce : cellsL L 1 = ofKind L L.wide.toNat L.high.toNat 1 := by unfold cellsL; rw [hv]; rfl
  have HW := Lib.hid (fun (c : Fin L.wide.toNat × Fin L.high.toNat) (w : World) => l05With_any L c.1.val c.2.val (by have := c.1.isLt; omega) (by have := c.2.isLt; omega) 0 w)
  have HE := Lib.hid (fun (c : Fin L.wide.toNat × Fin L.high.toNat) (g : Nat) (w : World) (h : Holds w g (L.put c.2.val c.1.val 0).cells) => specEdge_any (L.put c.2.val c.1.val 0) (put_fits hL _ _ (by omega)) (put_valid hv (isB_fin (by omega) (by omega) c) (by decide)) g w h)
  have HA := Lib.hid (show changeA L 1 0 false = (match changeO L 1 0 false with
      | none => (0, 0, 0, 6)
      | some c => ((c.1.val : Int), (c.2.val : Int), edgeC L 0 c, 0)) by unfold changeA; rw [hv]; rfl)
  have HO : Hid (changeO L 1 0 false = bestOf false (edgeC L 0) (cellsL L 1) (cellsL L 1).length) := Lib.hid rfl
  rw [← hce] at HCE
  obtain ⟨l, hl⟩ : ∃ l, cellsL L 1 = l := ⟨_, rfl⟩
  rw [hl] at HCE hcl HO
  obtain ⟨n, hn⟩ : ∃ n, l.length = n := ⟨_, rfl⟩
  rw [hn] at hcl HO
  have HN := Lib.hid hn
  clear hv hL h1 h2 hce hl hn
  obtain ⟨W0, hW0⟩ : ∃ W0, (w.alloc (.cells L.cells 31)).alloc (.cells #[.int .i8 0, .int .i8 0] 40) = W0 := ⟨_, rfl⟩
  have g0 : Holds W0 w.heap.size L.cells := by rw [← hW0]; exact (Holds.new _ _ _).alloc _
  have g1 : Holds W0 (w.heap.size + 1) #[.int .i8 0, .int .i8 0] := by rw [← hW0]; exact Holds.new' _ _ _ _ (by simp)
  have hb0 : Below w.heap.size w W0 := by rw [← hW0]; exact ((Below.refl w.heap.size w).alloc (Nat.le_refl _) _).alloc (by simp) _
  go_enter Try.func46, Try.ntmps46
  go_wp2_with fail
  clear hW0
  refine (HI.out _ _ g0).mono ?_
  rintro e w1 ⟨rfl, hb1⟩
  have k0 := g0.below hb1 g0.lt
  have k1 := g1.below hb1 g1.lt
  have hb2 := below_onto hb0 hb1
  clear g0 g1 hb0 hb1
  have n0 := k0.alloc (.cells #[.int .i8 0, .int .i8 0] 40)
  have n1 := k1.alloc (.cells #[.int .i8 0, .int .i8 0] 40)
  have n2 := Holds.new w1 #[.int .i8 0, .int .i8 0] 40
  have hb3 := hb2.alloc hb2.size (.cells #[.int .i8 0, .int .i8 0] 40)
  have hsw : w.heap.size + 1 < w1.heap.size := k1.lt
  obtain ⟨W3, hW3⟩ : ∃ W3, w1.alloc (.cells #[.int .i8 0, .int .i8 0] 40) = W3 := ⟨_, rfl⟩
  obtain ⟨m, hm⟩ : ∃ m, w1.heap.size = m := ⟨_, rfl⟩
  rw [hW3] at n0 n1 n2 hb3
  rw [hm] at n2 hsw
  clear k0 k1 hb2
  have hl3 := n2.lt
  have v0 := (n0.setCell_other ⟨m, 0, none⟩ (.int .i8 0) (by dsimp only; omega)).setCell_other ⟨m, 1, none⟩ (.int .i8 0) (by dsimp only; omega)
  have v1 := (n1.setCell_other ⟨m, 0, none⟩ (.int .i8 0) (by dsimp only; omega)).setCell_other ⟨m, 1, none⟩ (.int .i8 0) (by dsimp only; omega)
  have v2 := (n2.setCell 0 (.int .i8 0)).setCell 1 (.int .i8 0)
  have hb3 := (hb3.setCell (p := ⟨m, 0, none⟩) (by dsimp only; omega) (.int .i8 0)).setCell (p := ⟨m, 1, none⟩) (by dsimp only; omega) (.int .i8 0)
  have v2 : Holds _ m #[.int .i8 0, .int .i8 0] := v2
  obtain ⟨-, -, d2, f2, l2⟩ := n2.facts
  go_wp2_with fail
  clear hW3 hm d2 f2 l2 n0 n1 n2
  have n0 := v0
  have n1 := v1
  have n2 := v2
  clear v0 v1 v2
  refine (HCE.out _ _ n0).mono ?_
  rintro e w4 ⟨vA, rfl, hA, hb4⟩
  have k0 := n0.below hb4 n0.lt
  have k1 := n1.below hb4 n1.lt
  have k2 := n2.below hb4 n2.lt
  have hb5 := below_onto hb3 hb4
  have hl2 := n2.lt
  rw [HN.out] at hA
  obtain ⟨aA, cA, rfl⟩ := own_slice hA
  have HAO := Lib.hid (ownsRow_low (A := m + 1) hA (by omega))
  clear n0 n1 n2 hb3 hb4 hA hl2
  obtain ⟨s, hs⟩ : ∃ s, w.heap.size = s := ⟨_, rfl⟩
  rw [hs] at k0 k1 hb5 hsw ⊢
  have HS := Lib.hid hs
  clear hs
  go_wp2_with fail
  go_loopw [6, 8] (fun z q wr => ∃ i : Nat, i ≤ n ∧ q = .int .i64 i ∧ z = .int .i64 (leastO L 0 (bestOf false (edgeC L 0) l i)) ∧ Holds wr s L.cells ∧ Holds wr (s + 1) #[.int .i8 0, .int .i8 0] ∧ Holds wr m (cellO (bestOf false (edgeC L 0) l i)) ∧ wr.ownsRow (m + 1) 40 2 (.slice aA n cA) n (flatV l) ∧ Below s w wr) (fun _ q _ => n - (intOf q).toNat)
  case atStart => exact ⟨0, by omega, rfl, rfl, k0, k1, k2, HAO.out, hb5⟩
  case round =>
    obtain ⟨i, hi, rfl, rfl, j0, j1, j2, ho, hb⟩ := hrel
    have HAW := Lib.hid ho
    have hsz := j2.lt
    clear k0 k1 k2 HAO hb5 ho
    by_cases hlt : i < n
    · have hd : decide ((i : Int) < (n : Int)) = true := by simp; omega
      obtain ⟨c, hc⟩ : ∃ c, l[i]? = some c := ⟨_, List.getElem?_eq_getElem (by rw [HN.out]; exact hlt)⟩
      have HCC := Lib.hid hc
      have HSU := Lib.hid (bestOf_succ false (edgeC L 0) hc)
      have HWc := Lib.hid (HW.out c)
      have HEc := Lib.hid (HE.out c)
      have hec := edgeC_bound L 0 c
      have HEE : Hid (edgeZ (sidesOfL (L.put c.2.val c.1.val 0)) = edgeC L 0 c) := Lib.hid rfl
      rw [HEE.out] at HEc
      obtain ⟨M, hM⟩ : ∃ M, L.put c.2.val c.1.val 0 = M := ⟨_, rfl⟩
      rw [hM] at HWc HEc
      obtain ⟨ga, cap, he, hBg, hgw⟩ := own_form HAW.out (by omega)
      simp only [Value.slice.injEq, true_and] at he
      obtain ⟨rfl, rfl⟩ := he
      obtain ⟨fa, fb⟩ := flatV_get _ _ _ hc
      have HFA := Lib.hid (show ∀ w', Below wr.heap.size wr w' → w'.cell? ⟨ga, i * 2, none⟩ = some (.int .i8 c.1.val) ∧ w'.cell? ⟨ga, i * 2 + 1, none⟩ = some (.int .i8 c.2.val) from fun w' hw' => ⟨own_cell (own_below HAW.out hw') _ _ fa, own_cell (own_below HAW.out hw') _ _ fb⟩)
      clear hM hc fa fb HEE
      obtain ⟨r0, -⟩ := j0.later
      go_wp2_with fail
      refine wp_region_make 6 rfl rfl (by kernel_rfl) (by kernel_rfl) (by kernel_rfl) ?_
      simp only [List.take_succ_cons, List.take_zero, List.drop_succ_cons, List.drop_zero]
      iterate 6
        apply wpGrowB_plain rfl
        · intro w' hw' K hK
          obtain ⟨e1, e2⟩ := HFA.out _ hw'
          have e0 := r0 _ hw'
          go_wp2_with (go_at_call 74; refine (HWc.out _).mono ?_; rintro e w5 ⟨rfl, hb6⟩)
          first | exact hK _ _ rfl (Below.refl _ _) | exact hK _ _ rfl hb6
        simp only [Act.put, List.setIfInBounds_toArray, List.set_cons_succ, List.set_cons_zero]
      refine wpGrowB_nil ⟨fun g => .pointer (some ⟨g, 0, none⟩), .cells (Lawn.cells ⟨0, 0, fun _ _ => 0⟩) 31, fun w1 hw1 K hK => ?_, ?_⟩
      · go_wp2_with fail
        exact hK _ _ rfl rfl
      intro p W5 hp hW5 hobj
      have z5 : Holds W5 p (Lawn.cells ⟨0, 0, fun _ _ => 0⟩) := ⟨_, hobj⟩
      have y0 := j0.below hW5 j0.lt
      have y1 := j1.below hW5 j1.lt
      have y2 := j2.below hW5 j2.lt
      have HAY := Lib.hid (own_below HAW.out hW5)
      have hb6 := hb.trans (hW5.mono (by omega))
      clear j0 j1 j2 hb hW5 hobj HAW r0
      simp only [Act.put, List.setIfInBounds_toArray, List.set_cons_succ, List.set_cons_zero]
      obtain ⟨rp, fp, -, -, lp⟩ := z5.facts
      have x5 := z5.setRow M.cells
      have x0 := y0.setRow_other M.cells (k := p) (by omega)
      have x1 := y1.setRow_other M.cells (k := p) (by omega)
      have x2 := y2.setRow_other M.cells (k := p) (by omega)
      have HAX := Lib.hid (own_setRowO HAY.out p M.cells (by omega))
      have hb7 := below_setRow' hb6 (g := p) (by omega) M.cells
      obtain ⟨W6, hW6⟩ : ∃ W6, W5.setRow p M.cells = W6 := ⟨_, rfl⟩
      rw [hW6] at x5 x0 x1 x2 HAX hb7
      clear y0 y1 y2 hb6 HAY z5
      go_wp2_with fail
      clear hW6 rp fp lp
      refine (HEc.out _ _ x5).mono ?_
      rintro e w7 ⟨rfl, hb8⟩
      have y0 := x0.below hb8 x0.lt
      have y1 := x1.below hb8 x1.lt
      have y2 := x2.below hb8 x2.lt
      have HAY := Lib.hid (own_below HAX.out hb8)
      have hb9 := hb7.trans (hb8.mono (by have := x0.lt; have := x2.lt; omega))
      have hlt7 := own_lt HAY.out
      clear x5 x0 x1 x2 hb7 hb8 HAX
      obtain ⟨e1, e2⟩ := (show w7.cell? ⟨ga, i * 2, none⟩ = some (.int .i8 c.1.val) ∧ w7.cell? ⟨ga, i * 2 + 1, none⟩ = some (.int .i8 c.2.val) from by
        obtain ⟨fa, fb⟩ := flatV_get l i c HCC.out
        exact ⟨own_cell HAY.out _ _ fa, own_cell HAY.out _ _ fb⟩)
      cases hbi : bestOf false (edgeC L 0) l i
      case none =>
        have HBI := Lib.hid hbi
        rw [hbi] at y2 HSU
        have y2 : Holds w7 m #[.int .i8 0, .int .i8 0] := y2
        obtain ⟨-, -, d2, f2, l2⟩ := y2.facts
        have HSV := Lib.hid (show bestOf false (edgeC L 0) l (i + 1) = some c from HSU.out)
        have q2 := (y2.setCell 0 (.int .i8 c.1.val)).setCell 1 (.int .i8 c.2.val)
        have hz : leastO L 0 (none : Option (Fin L.wide.toNat × Fin L.high.toNat)) = -1 := rfl
        clear hbi
        rw [hz]
        go_wp2_with fail
        go_roundw
        case rel => exact ⟨i + 1, by omega, by go_num, by rw [HSV.out]; rfl, (y0.setCell_other _ _ (by dsimp only; omega)).setCell_other _ _ (by dsimp only; omega), (y1.setCell_other _ _ (by dsimp only; omega)).setCell_other _ _ (by dsimp only; omega), by rw [HSV.out]; exact q2, own_setAt2 (own_setAt2 HAY.out m 0 _ (by omega)) m 1 _ (by omega), (hb9.setCell (p := ⟨m, 0, none⟩) (by dsimp only; omega) _).setCell (p := ⟨m, 1, none⟩) (by dsimp only; omega) _⟩
        case measure => simp [intOf]; omega
      case some d =>
        have HBI := Lib.hid hbi
        rw [hbi] at y2 HSU
        have y2 : Holds w7 m #[.int .i8 d.1.val, .int .i8 d.2.val] := y2
        obtain ⟨-, -, d2, f2, l2⟩ := y2.facts
        have hed := edgeC_bound L 0 d
        have hneg : decide (edgeC L 0 d < 0) = false := by simp; omega
        have q2 := (y2.setCell 0 (.int .i8 c.1.val)).setCell 1 (.int .i8 c.2.val)
        have hz : leastO L 0 (some d) = edgeC L 0 d := rfl
        obtain ⟨r, hr⟩ : ∃ r, decide (edgeC L 0 c < edgeC L 0 d) = r := ⟨_, rfl⟩
        have HR := Lib.hid (show ltB false (edgeC L 0 c) (edgeC L 0 d) = r from hr)
        clear hbi
        rw [hz]
        cases r
        · have HSV := Lib.hid (show bestOf false (edgeC L 0) l (i + 1) = some d by rw [HSU.out]; simp only [pickO]; rw [HR.out]; rfl)
          go_wp2_with fail
          go_roundw
          case rel => exact ⟨i + 1, by omega, by go_num, by rw [HSV.out]; rfl, y0, y1, by rw [HSV.out]; exact y2, HAY.out, hb9⟩
          case measure => simp [intOf]; omega
        · have HSV := Lib.hid (show bestOf false (edgeC L 0) l (i + 1) = some c by rw [HSU.out]; simp only [pickO]; rw [HR.out]; rfl)
          go_wp2_with fail
          go_roundw
          case rel => exact ⟨i + 1, by omega, by go_num, by rw [HSV.out]; rfl, (y0.setCell_other _ _ (by dsimp only; omega)).setCell_other _ _ (by dsimp only; omega), (y1.setCell_other _ _ (by dsimp only; omega)).setCell_other _ _ (by dsimp only; omega), by rw [HSV.out]; exact q2, own_setAt2 (own_setAt2 HAY.out m 0 _ (by omega)) m 1 _ (by omega), (hb9.setCell (p := ⟨m, 0, none⟩) (by dsimp only; omega) _).setCell (p := ⟨m, 1, none⟩) (by dsimp only; omega) _⟩
          case measure => simp [intOf]; omega
    · have hd : decide ((i : Int) < (n : Int)) = false := by simp; omega
      have hin : i = n := by omega
      have HA2 := HA.out
      rw [HO.out, ← hin] at HA2
      have h1b := j1.lt
      cases hbi : bestOf false (edgeC L 0) l i
      case none =>
        rw [hbi] at j2 HA2
        have HE2 := Lib.hid (show changeA L 1 0 false = (0, 0, 0, 6) from HA2)
        have hz : leastO L 0 (none : Option (Fin L.wide.toNat × Fin L.high.toNat)) = -1 := rfl
        obtain ⟨-, -, d1, f1, l1⟩ := j1.facts
        have q1 := (j1.setCell 0 (.int .i8 0)).setCell 1 (.int .i8 0)
        have hb9 := (hb.setCell (p := ⟨s + 1, 0, none⟩) (by dsimp only; omega) (.int .i8 0)).setCell (p := ⟨s + 1, 1, none⟩) (by dsimp only; omega) (.int .i8 0)
        have HQ := Lib.hid q1
        have HB := Lib.hid hb9
        clear hbi HA2 j0 j2 hin HAW q1 hb9 hb HCE HI HW HE HO HA
        rw [hz]
        go_wp2_with fail
        refine bodyPost_ret (results_cell_tmp2_holds rfl (by kernel_rfl) _ rfl HQ.out rfl) rfl ⟨by rw [HE2.out]; rfl, by rw [HS.out]; exact HB.out⟩
      case some d =>
        rw [hbi] at j2 HA2
        have HE2 := Lib.hid (show changeA L 1 0 false = ((d.1.val : Int), (d.2.val : Int), edgeC L 0 d, 0) from HA2)
        have hz : leastO L 0 (some d) = edgeC L 0 d := rfl
        have hed := edgeC_bound L 0 d
        have hneg : decide (edgeC L 0 d < 0) = false := by simp; omega
        have j2 : Holds wr m #[.int .i8 d.1.val, .int .i8 d.2.val] := j2
        obtain ⟨-, -, d1, f1, l1⟩ := j1.facts
        have c20 : wr.cell? ⟨m, 0, none⟩ = some (.int .i8 d.1.val) := by rw [j2.cell]; rfl
        have c21 : wr.cell? ⟨m, 1, none⟩ = some (.int .i8 d.2.val) := by rw [j2.cell]; rfl
        have q1 := (j1.setCell 0 (.int .i8 d.1.val)).setCell 1 (.int .i8 d.2.val)
        have hb9 := (hb.setCell (p := ⟨s + 1, 0, none⟩) (by dsimp only; omega) (.int .i8 d.1.val)).setCell (p := ⟨s + 1, 1, none⟩) (by dsimp only; omega) (.int .i8 d.2.val)
        have HQ := Lib.hid q1
        have HB := Lib.hid hb9
        clear hbi HA2 j0 hin HAW q1 hb9 hb HCE HI HW HE HO HA
        rw [hz]
        go_wp2_with fail
        refine bodyPost_ret (results_cell_tmp2_holds rfl (by kernel_rfl) _ rfl HQ.out rfl) rfl ⟨by rw [HE2.out]; rfl, by rw [HS.out]; exact HB.out⟩

set_option maxRecDepth 100000 in
set_option maxHeartbeats 4000000 in
theorem specPlantAt_good (L : Lawn) (hL : L.Fits) (hv : validB L = true) (w : World) :
    Calls Try.prog 49 #[.agg L.cells] w fun e w' => e = .returned (changeV (changeA L 0 1 true)) ∧ Below w.heap.size w w' := by
  have HI := Lib.hid (fun (b : Nat) (w : World) (h : Holds w b L.cells) => l01Ok_any L hL b w h)
  rw [hv] at HI
  obtain ⟨h1, h2, -⟩ := validB_true hv
  have HCE := Lib.hid (fun (g : Nat) (w : World) (h : Holds w g L.cells) => l01Cells_any L.wide.toNat L.high.toNat (by omega) (by omega) (by omega) (by omega) L hL (by omega) (by omega) 0 g w h)
  have hcl : (cellsL L 0).length ≤ 100 := cellsL_le L 0
  have hce : cellsL L 0 = ofKind L L.wide.toNat L.high.toNat 0 := by unfold cellsL; rw [hv]; rfl
  have HW := Lib.hid (fun (c : Fin L.wide.toNat × Fin L.high.toNat) (w : World) => l05With_any L c.1.val c.2.val (by have := c.1.isLt; omega) (by have := c.2.isLt; omega) 1 w)
  have HE := Lib.hid (fun (c : Fin L.wide.toNat × Fin L.high.toNat) (g : Nat) (w : World) (h : Holds w g (L.put c.2.val c.1.val 1).cells) => specEdge_any (L.put c.2.val c.1.val 1) (put_fits hL _ _ (by omega)) (put_valid hv (isB_fin (by omega) (by omega) c) (by decide)) g w h)
  have HA := Lib.hid (show changeA L 0 1 true = (match changeO L 0 1 true with
      | none => (0, 0, 0, 6)
      | some c => ((c.1.val : Int), (c.2.val : Int), edgeC L 1 c, 0)) by unfold changeA; rw [hv]; rfl)
  have HO : Hid (changeO L 0 1 true = bestOf true (edgeC L 1) (cellsL L 0) (cellsL L 0).length) := Lib.hid rfl
  rw [← hce] at HCE
  obtain ⟨l, hl⟩ : ∃ l, cellsL L 0 = l := ⟨_, rfl⟩
  rw [hl] at HCE hcl HO
  obtain ⟨n, hn⟩ : ∃ n, l.length = n := ⟨_, rfl⟩
  rw [hn] at hcl HO
  have HN := Lib.hid hn
  clear hv hL h1 h2 hce hl hn
  obtain ⟨W0, hW0⟩ : ∃ W0, (w.alloc (.cells L.cells 31)).alloc (.cells #[.int .i8 0, .int .i8 0] 40) = W0 := ⟨_, rfl⟩
  have g0 : Holds W0 w.heap.size L.cells := by rw [← hW0]; exact (Holds.new _ _ _).alloc _
  have g1 : Holds W0 (w.heap.size + 1) #[.int .i8 0, .int .i8 0] := by rw [← hW0]; exact Holds.new' _ _ _ _ (by simp)
  have hb0 : Below w.heap.size w W0 := by rw [← hW0]; exact ((Below.refl w.heap.size w).alloc (Nat.le_refl _) _).alloc (by simp) _
  go_enter Try.func49, Try.ntmps49
  go_wp2_with fail
  clear hW0
  refine (HI.out _ _ g0).mono ?_
  rintro e w1 ⟨rfl, hb1⟩
  have k0 := g0.below hb1 g0.lt
  have k1 := g1.below hb1 g1.lt
  have hb2 := below_onto hb0 hb1
  clear g0 g1 hb0 hb1
  have n0 := k0.alloc (.cells #[.int .i8 0, .int .i8 0] 40)
  have n1 := k1.alloc (.cells #[.int .i8 0, .int .i8 0] 40)
  have n2 := Holds.new w1 #[.int .i8 0, .int .i8 0] 40
  have hb3 := hb2.alloc hb2.size (.cells #[.int .i8 0, .int .i8 0] 40)
  have hsw : w.heap.size + 1 < w1.heap.size := k1.lt
  obtain ⟨W3, hW3⟩ : ∃ W3, w1.alloc (.cells #[.int .i8 0, .int .i8 0] 40) = W3 := ⟨_, rfl⟩
  obtain ⟨m, hm⟩ : ∃ m, w1.heap.size = m := ⟨_, rfl⟩
  rw [hW3] at n0 n1 n2 hb3
  rw [hm] at n2 hsw
  clear k0 k1 hb2
  have hl3 := n2.lt
  have v0 := (n0.setCell_other ⟨m, 0, none⟩ (.int .i8 0) (by dsimp only; omega)).setCell_other ⟨m, 1, none⟩ (.int .i8 0) (by dsimp only; omega)
  have v1 := (n1.setCell_other ⟨m, 0, none⟩ (.int .i8 0) (by dsimp only; omega)).setCell_other ⟨m, 1, none⟩ (.int .i8 0) (by dsimp only; omega)
  have v2 := (n2.setCell 0 (.int .i8 0)).setCell 1 (.int .i8 0)
  have hb3 := (hb3.setCell (p := ⟨m, 0, none⟩) (by dsimp only; omega) (.int .i8 0)).setCell (p := ⟨m, 1, none⟩) (by dsimp only; omega) (.int .i8 0)
  have v2 : Holds _ m #[.int .i8 0, .int .i8 0] := v2
  obtain ⟨-, -, d2, f2, l2⟩ := n2.facts
  go_wp2_with fail
  clear hW3 hm d2 f2 l2 n0 n1 n2
  have n0 := v0
  have n1 := v1
  have n2 := v2
  clear v0 v1 v2
  refine (HCE.out _ _ n0).mono ?_
  rintro e w4 ⟨vA, rfl, hA, hb4⟩
  have k0 := n0.below hb4 n0.lt
  have k1 := n1.below hb4 n1.lt
  have k2 := n2.below hb4 n2.lt
  have hb5 := below_onto hb3 hb4
  have hl2 := n2.lt
  rw [HN.out] at hA
  obtain ⟨aA, cA, rfl⟩ := own_slice hA
  have HAO := Lib.hid (ownsRow_low (A := m + 1) hA (by omega))
  clear n0 n1 n2 hb3 hb4 hA hl2
  obtain ⟨s, hs⟩ : ∃ s, w.heap.size = s := ⟨_, rfl⟩
  rw [hs] at k0 k1 hb5 hsw ⊢
  have HS := Lib.hid hs
  clear hs
  go_wp2_with fail
  go_loopw [6, 8] (fun z q wr => ∃ i : Nat, i ≤ n ∧ q = .int .i64 i ∧ z = .int .i64 (leastO L 1 (bestOf true (edgeC L 1) l i)) ∧ Holds wr s L.cells ∧ Holds wr (s + 1) #[.int .i8 0, .int .i8 0] ∧ Holds wr m (cellO (bestOf true (edgeC L 1) l i)) ∧ wr.ownsRow (m + 1) 40 2 (.slice aA n cA) n (flatV l) ∧ Below s w wr) (fun _ q _ => n - (intOf q).toNat)
  case atStart => exact ⟨0, by omega, rfl, rfl, k0, k1, k2, HAO.out, hb5⟩
  case round =>
    obtain ⟨i, hi, rfl, rfl, j0, j1, j2, ho, hb⟩ := hrel
    have HAW := Lib.hid ho
    have hsz := j2.lt
    clear k0 k1 k2 HAO hb5 ho
    by_cases hlt : i < n
    · have hd : decide ((i : Int) < (n : Int)) = true := by simp; omega
      obtain ⟨c, hc⟩ : ∃ c, l[i]? = some c := ⟨_, List.getElem?_eq_getElem (by rw [HN.out]; exact hlt)⟩
      have HCC := Lib.hid hc
      have HSU := Lib.hid (bestOf_succ true (edgeC L 1) hc)
      have HWc := Lib.hid (HW.out c)
      have HEc := Lib.hid (HE.out c)
      have hec := edgeC_bound L 1 c
      have HEE : Hid (edgeZ (sidesOfL (L.put c.2.val c.1.val 1)) = edgeC L 1 c) := Lib.hid rfl
      rw [HEE.out] at HEc
      obtain ⟨M, hM⟩ : ∃ M, L.put c.2.val c.1.val 1 = M := ⟨_, rfl⟩
      rw [hM] at HWc HEc
      obtain ⟨ga, cap, he, hBg, hgw⟩ := own_form HAW.out (by omega)
      simp only [Value.slice.injEq, true_and] at he
      obtain ⟨rfl, rfl⟩ := he
      obtain ⟨fa, fb⟩ := flatV_get _ _ _ hc
      have HFA := Lib.hid (show ∀ w', Below wr.heap.size wr w' → w'.cell? ⟨ga, i * 2, none⟩ = some (.int .i8 c.1.val) ∧ w'.cell? ⟨ga, i * 2 + 1, none⟩ = some (.int .i8 c.2.val) from fun w' hw' => ⟨own_cell (own_below HAW.out hw') _ _ fa, own_cell (own_below HAW.out hw') _ _ fb⟩)
      clear hM hc fa fb HEE
      obtain ⟨r0, -⟩ := j0.later
      go_wp2_with fail
      refine wp_region_make 6 rfl rfl (by kernel_rfl) (by kernel_rfl) (by kernel_rfl) ?_
      simp only [List.take_succ_cons, List.take_zero, List.drop_succ_cons, List.drop_zero]
      iterate 6
        apply wpGrowB_plain rfl
        · intro w' hw' K hK
          obtain ⟨e1, e2⟩ := HFA.out _ hw'
          have e0 := r0 _ hw'
          go_wp2_with (go_at_call 74; refine (HWc.out _).mono ?_; rintro e w5 ⟨rfl, hb6⟩)
          first | exact hK _ _ rfl (Below.refl _ _) | exact hK _ _ rfl hb6
        simp only [Act.put, List.setIfInBounds_toArray, List.set_cons_succ, List.set_cons_zero]
      refine wpGrowB_nil ⟨fun g => .pointer (some ⟨g, 0, none⟩), .cells (Lawn.cells ⟨0, 0, fun _ _ => 0⟩) 31, fun w1 hw1 K hK => ?_, ?_⟩
      · go_wp2_with fail
        exact hK _ _ rfl rfl
      intro p W5 hp hW5 hobj
      have z5 : Holds W5 p (Lawn.cells ⟨0, 0, fun _ _ => 0⟩) := ⟨_, hobj⟩
      have y0 := j0.below hW5 j0.lt
      have y1 := j1.below hW5 j1.lt
      have y2 := j2.below hW5 j2.lt
      have HAY := Lib.hid (own_below HAW.out hW5)
      have hb6 := hb.trans (hW5.mono (by omega))
      clear j0 j1 j2 hb hW5 hobj HAW r0
      simp only [Act.put, List.setIfInBounds_toArray, List.set_cons_succ, List.set_cons_zero]
      obtain ⟨rp, fp, -, -, lp⟩ := z5.facts
      have x5 := z5.setRow M.cells
      have x0 := y0.setRow_other M.cells (k := p) (by omega)
      have x1 := y1.setRow_other M.cells (k := p) (by omega)
      have x2 := y2.setRow_other M.cells (k := p) (by omega)
      have HAX := Lib.hid (own_setRowO HAY.out p M.cells (by omega))
      have hb7 := below_setRow' hb6 (g := p) (by omega) M.cells
      obtain ⟨W6, hW6⟩ : ∃ W6, W5.setRow p M.cells = W6 := ⟨_, rfl⟩
      rw [hW6] at x5 x0 x1 x2 HAX hb7
      clear y0 y1 y2 hb6 HAY z5
      go_wp2_with fail
      clear hW6 rp fp lp
      refine (HEc.out _ _ x5).mono ?_
      rintro e w7 ⟨rfl, hb8⟩
      have y0 := x0.below hb8 x0.lt
      have y1 := x1.below hb8 x1.lt
      have y2 := x2.below hb8 x2.lt
      have HAY := Lib.hid (own_below HAX.out hb8)
      have hb9 := hb7.trans (hb8.mono (by have := x0.lt; have := x2.lt; omega))
      have hlt7 := own_lt HAY.out
      clear x5 x0 x1 x2 hb7 hb8 HAX
      obtain ⟨e1, e2⟩ := (show w7.cell? ⟨ga, i * 2, none⟩ = some (.int .i8 c.1.val) ∧ w7.cell? ⟨ga, i * 2 + 1, none⟩ = some (.int .i8 c.2.val) from by
        obtain ⟨fa, fb⟩ := flatV_get l i c HCC.out
        exact ⟨own_cell HAY.out _ _ fa, own_cell HAY.out _ _ fb⟩)
      cases hbi : bestOf true (edgeC L 1) l i
      case none =>
        have HBI := Lib.hid hbi
        rw [hbi] at y2 HSU
        have y2 : Holds w7 m #[.int .i8 0, .int .i8 0] := y2
        obtain ⟨-, -, d2, f2, l2⟩ := y2.facts
        have HSV := Lib.hid (show bestOf true (edgeC L 1) l (i + 1) = some c from HSU.out)
        have q2 := (y2.setCell 0 (.int .i8 c.1.val)).setCell 1 (.int .i8 c.2.val)
        have hz : leastO L 1 (none : Option (Fin L.wide.toNat × Fin L.high.toNat)) = -1 := rfl
        have hpl : decide (-1 < edgeC L 1 c) = true := by simp; omega
        clear hbi
        rw [hz]
        go_wp2_with fail
        go_roundw
        case rel => exact ⟨i + 1, by omega, by go_num, by rw [HSV.out]; rfl, (y0.setCell_other _ _ (by dsimp only; omega)).setCell_other _ _ (by dsimp only; omega), (y1.setCell_other _ _ (by dsimp only; omega)).setCell_other _ _ (by dsimp only; omega), by rw [HSV.out]; exact q2, own_setAt2 (own_setAt2 HAY.out m 0 _ (by omega)) m 1 _ (by omega), (hb9.setCell (p := ⟨m, 0, none⟩) (by dsimp only; omega) _).setCell (p := ⟨m, 1, none⟩) (by dsimp only; omega) _⟩
        case measure => simp [intOf]; omega
      case some d =>
        have HBI := Lib.hid hbi
        rw [hbi] at y2 HSU
        have y2 : Holds w7 m #[.int .i8 d.1.val, .int .i8 d.2.val] := y2
        obtain ⟨-, -, d2, f2, l2⟩ := y2.facts
        have hed := edgeC_bound L 1 d
        have hneg : decide (edgeC L 1 d < 0) = false := by simp; omega
        have q2 := (y2.setCell 0 (.int .i8 c.1.val)).setCell 1 (.int .i8 c.2.val)
        have hz : leastO L 1 (some d) = edgeC L 1 d := rfl
        obtain ⟨r, hr⟩ : ∃ r, decide (edgeC L 1 d < edgeC L 1 c) = r := ⟨_, rfl⟩
        have HR := Lib.hid (show ltB true (edgeC L 1 c) (edgeC L 1 d) = r from hr)
        clear hbi
        rw [hz]
        cases r
        · have HSV := Lib.hid (show bestOf true (edgeC L 1) l (i + 1) = some d by rw [HSU.out]; simp only [pickO]; rw [HR.out]; rfl)
          go_wp2_with fail
          go_roundw
          case rel => exact ⟨i + 1, by omega, by go_num, by rw [HSV.out]; rfl, y0, y1, by rw [HSV.out]; exact y2, HAY.out, hb9⟩
          case measure => simp [intOf]; omega
        · have HSV := Lib.hid (show bestOf true (edgeC L 1) l (i + 1) = some c by rw [HSU.out]; simp only [pickO]; rw [HR.out]; rfl)
          go_wp2_with fail
          go_roundw
          case rel => exact ⟨i + 1, by omega, by go_num, by rw [HSV.out]; rfl, (y0.setCell_other _ _ (by dsimp only; omega)).setCell_other _ _ (by dsimp only; omega), (y1.setCell_other _ _ (by dsimp only; omega)).setCell_other _ _ (by dsimp only; omega), by rw [HSV.out]; exact q2, own_setAt2 (own_setAt2 HAY.out m 0 _ (by omega)) m 1 _ (by omega), (hb9.setCell (p := ⟨m, 0, none⟩) (by dsimp only; omega) _).setCell (p := ⟨m, 1, none⟩) (by dsimp only; omega) _⟩
          case measure => simp [intOf]; omega
    · have hd : decide ((i : Int) < (n : Int)) = false := by simp; omega
      have hin : i = n := by omega
      have HA2 := HA.out
      rw [HO.out, ← hin] at HA2
      have h1b := j1.lt
      cases hbi : bestOf true (edgeC L 1) l i
      case none =>
        rw [hbi] at j2 HA2
        have HE2 := Lib.hid (show changeA L 0 1 true = (0, 0, 0, 6) from HA2)
        have hz : leastO L 1 (none : Option (Fin L.wide.toNat × Fin L.high.toNat)) = -1 := rfl
        obtain ⟨-, -, d1, f1, l1⟩ := j1.facts
        have q1 := (j1.setCell 0 (.int .i8 0)).setCell 1 (.int .i8 0)
        have hb9 := (hb.setCell (p := ⟨s + 1, 0, none⟩) (by dsimp only; omega) (.int .i8 0)).setCell (p := ⟨s + 1, 1, none⟩) (by dsimp only; omega) (.int .i8 0)
        have HQ := Lib.hid q1
        have HB := Lib.hid hb9
        clear hbi HA2 j0 j2 hin HAW q1 hb9 hb HCE HI HW HE HO HA
        rw [hz]
        go_wp2_with fail
        refine bodyPost_ret (results_cell_tmp2_holds rfl (by kernel_rfl) _ rfl HQ.out rfl) rfl ⟨by rw [HE2.out]; rfl, by rw [HS.out]; exact HB.out⟩
      case some d =>
        rw [hbi] at j2 HA2
        have HE2 := Lib.hid (show changeA L 0 1 true = ((d.1.val : Int), (d.2.val : Int), edgeC L 1 d, 0) from HA2)
        have hz : leastO L 1 (some d) = edgeC L 1 d := rfl
        have hed := edgeC_bound L 1 d
        have hneg : decide (edgeC L 1 d < 0) = false := by simp; omega
        have j2 : Holds wr m #[.int .i8 d.1.val, .int .i8 d.2.val] := j2
        obtain ⟨-, -, d1, f1, l1⟩ := j1.facts
        have c20 : wr.cell? ⟨m, 0, none⟩ = some (.int .i8 d.1.val) := by rw [j2.cell]; rfl
        have c21 : wr.cell? ⟨m, 1, none⟩ = some (.int .i8 d.2.val) := by rw [j2.cell]; rfl
        have q1 := (j1.setCell 0 (.int .i8 d.1.val)).setCell 1 (.int .i8 d.2.val)
        have hb9 := (hb.setCell (p := ⟨s + 1, 0, none⟩) (by dsimp only; omega) (.int .i8 d.1.val)).setCell (p := ⟨s + 1, 1, none⟩) (by dsimp only; omega) (.int .i8 d.2.val)
        have HQ := Lib.hid q1
        have HB := Lib.hid hb9
        clear hbi HA2 j0 hin HAW q1 hb9 hb HCE HI HW HE HO HA
        rw [hz]
        go_wp2_with fail
        refine bodyPost_ret (results_cell_tmp2_holds rfl (by kernel_rfl) _ rfl HQ.out rfl) rfl ⟨by rw [HE2.out]; rfl, by rw [HS.out]; exact HB.out⟩

set_option maxRecDepth 100000 in
set_option maxHeartbeats 4000000 in
theorem specGiveUp_bad (L : Lawn) (hL : L.Fits) (hv : validB L = false) (w : World) :
    Calls Try.prog 46 #[.agg L.cells] w fun e w' => e = .returned (changeV (changeA L 1 0 false)) ∧ Below w.heap.size w w' := by
  have HI := Lib.hid (fun (b : Nat) (w : World) (h : Holds w b L.cells) => l01Ok_any L hL b w h)
  rw [hv] at HI
  have HA := Lib.hid (show changeA L 1 0 false = (0, 0, 0, 1) by unfold changeA; rw [hv]; rfl)
  clear hv hL
  obtain ⟨W0, hW0⟩ : ∃ W0, (w.alloc (.cells L.cells 31)).alloc (.cells #[.int .i8 0, .int .i8 0] 40) = W0 := ⟨_, rfl⟩
  have g0 : Holds W0 w.heap.size L.cells := by rw [← hW0]; exact (Holds.new _ _ _).alloc _
  have g1 : Holds W0 (w.heap.size + 1) #[.int .i8 0, .int .i8 0] := by rw [← hW0]; exact Holds.new' _ _ _ _ (by simp)
  have hb0 : Below w.heap.size w W0 := by rw [← hW0]; exact ((Below.refl w.heap.size w).alloc (Nat.le_refl _) _).alloc (by simp) _
  go_enter Try.func46, Try.ntmps46
  go_wp2_with fail
  clear hW0
  refine (HI.out _ _ g0).mono ?_
  rintro e w1 ⟨rfl, hb1⟩
  have k1 := g1.below hb1 g1.lt
  have hb2 := below_onto hb0 hb1
  clear g0 g1 hb0 hb1
  obtain ⟨-, -, d1, f1, l1⟩ := k1.facts
  have q1 := (k1.setCell 0 (.int .i8 0)).setCell 1 (.int .i8 0)
  have hb9 := (hb2.setCell (p := ⟨w.heap.size + 1, 0, none⟩) (by dsimp only; omega) (.int .i8 0)).setCell (p := ⟨w.heap.size + 1, 1, none⟩) (by dsimp only; omega) (.int .i8 0)
  have HQ := Lib.hid q1
  have HB := Lib.hid hb9
  clear k1 hb2 q1 hb9 HI
  go_wp2_with fail
  refine bodyPost_ret (results_cell_tmp2_holds rfl (by kernel_rfl) _ rfl HQ.out rfl) rfl ⟨by rw [HA.out]; rfl, HB.out⟩
theorem specGiveUp_any (L : Lawn) (hL : L.Fits) (w : World) :
    Calls Try.prog 46 #[.agg L.cells] w fun e w' => e = .returned (changeV (changeA L 1 0 false)) ∧ Below w.heap.size w w' := by
  cases hv : validB L
  · exact specGiveUp_bad L hL hv w
  · exact specGiveUp_good L hL hv w

set_option maxRecDepth 100000 in
set_option maxHeartbeats 4000000 in
theorem specPlantAt_bad (L : Lawn) (hL : L.Fits) (hv : validB L = false) (w : World) :
    Calls Try.prog 49 #[.agg L.cells] w fun e w' => e = .returned (changeV (changeA L 0 1 true)) ∧ Below w.heap.size w w' := by
  have HI := Lib.hid (fun (b : Nat) (w : World) (h : Holds w b L.cells) => l01Ok_any L hL b w h)
  rw [hv] at HI
  have HA := Lib.hid (show changeA L 0 1 true = (0, 0, 0, 1) by unfold changeA; rw [hv]; rfl)
  clear hv hL
  obtain ⟨W0, hW0⟩ : ∃ W0, (w.alloc (.cells L.cells 31)).alloc (.cells #[.int .i8 0, .int .i8 0] 40) = W0 := ⟨_, rfl⟩
  have g0 : Holds W0 w.heap.size L.cells := by rw [← hW0]; exact (Holds.new _ _ _).alloc _
  have g1 : Holds W0 (w.heap.size + 1) #[.int .i8 0, .int .i8 0] := by rw [← hW0]; exact Holds.new' _ _ _ _ (by simp)
  have hb0 : Below w.heap.size w W0 := by rw [← hW0]; exact ((Below.refl w.heap.size w).alloc (Nat.le_refl _) _).alloc (by simp) _
  go_enter Try.func49, Try.ntmps49
  go_wp2_with fail
  clear hW0
  refine (HI.out _ _ g0).mono ?_
  rintro e w1 ⟨rfl, hb1⟩
  have k1 := g1.below hb1 g1.lt
  have hb2 := below_onto hb0 hb1
  clear g0 g1 hb0 hb1
  obtain ⟨-, -, d1, f1, l1⟩ := k1.facts
  have q1 := (k1.setCell 0 (.int .i8 0)).setCell 1 (.int .i8 0)
  have hb9 := (hb2.setCell (p := ⟨w.heap.size + 1, 0, none⟩) (by dsimp only; omega) (.int .i8 0)).setCell (p := ⟨w.heap.size + 1, 1, none⟩) (by dsimp only; omega) (.int .i8 0)
  have HQ := Lib.hid q1
  have HB := Lib.hid hb9
  clear k1 hb2 q1 hb9 HI
  go_wp2_with fail
  refine bodyPost_ret (results_cell_tmp2_holds rfl (by kernel_rfl) _ rfl HQ.out rfl) rfl ⟨by rw [HA.out]; rfl, HB.out⟩
theorem specPlantAt_any (L : Lawn) (hL : L.Fits) (w : World) :
    Calls Try.prog 49 #[.agg L.cells] w fun e w' => e = .returned (changeV (changeA L 0 1 true)) ∧ Below w.heap.size w w' := by
  cases hv : validB L
  · exact specPlantAt_bad L hL hv w
  · exact specPlantAt_good L hL hv w
end Go.Proofs.Ythpfejbigdjhlaa
