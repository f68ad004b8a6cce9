/- TurnLawn, of the program and of the model. -/
import Derived.Test.YtcgkbdbgocoilaaOnly
import Derived.Test.YtcgkbdbgocoilaaDraw
namespace Go.Proofs.Ytcgkbdbgocoilaa
open Go.RowKit Go.Shelf
set_option linter.unusedVariables false
attribute [local go_sem] Oper.semAt_some
attribute [local go_sem ↓] loadRow loadGrid loadLawn loadMirror storeRow storeGrid storeLawn allocRow allocGrid allocLawn buildZero buildSides loadRow' loadGrid' loadLawn' loadMirror' storeRow' storeGrid' storeLawn' allocRow' allocGrid' allocLawn' buildZero' buildSides'

/-- Where a cell goes. -/
def turnLawnTo (W H : Nat) (c : Fin W × Fin H) : Nat × Nat := (c.1, H - 1 - c.2)
theorem turnLawnTo_lt {W H : Nat} (hW : W ≤ 10) (hH : H ≤ 10) (c : Fin W × Fin H) : (turnLawnTo W H c).1 < 10 ∧ (turnLawnTo W H c).2 < 10 := by
  have := c.1.isLt; have := c.2.isLt
  simp only [turnLawnTo]; omega

set_option maxRecDepth 100000 in
set_option maxHeartbeats 2000000 in
theorem turnLawn_loop (Wn Hn : Nat) (hW : Wn ≤ 10) (hH : Hn ≤ 10) (kd : Nat → Nat → Int) (hL : Lawn.Fits ⟨(Wn : Int), (Hn : Int), kd⟩) (hV : validB ⟨(Wn : Int), (Hn : Int), kd⟩ = true) (w : World) :
    Calls Try.prog 51 #[.agg (Lawn.cells ⟨(Wn : Int), (Hn : Int), kd⟩)] w fun e w' => e = .returned (.tuple #[.agg (Lawn.cells ⟨(Hn : Int), (Wn : Int), drawn (turnLawnTo Wn Hn) kd (allC Wn Hn)⟩), .int .i64 0]) ∧ Below w.heap.size w w' := by
  obtain ⟨L, hLe⟩ : ∃ L : Lawn, (⟨(Wn : Int), (Hn : Int), kd⟩ : Lawn) = L := ⟨_, rfl⟩
  rw [hLe] at hL hV ⊢
  have HI' := Lib.hid (show ∀ w : World, Calls Try.prog 65 #[.agg L.cells] w fun e w' => e = .returned (.bool true) ∧ Below w.heap.size w w' from fun w => hV ▸ implValid_any L hL w)
  have HK := Lib.hid (show ∀ (x y : Nat) (hx : x < 10) (hy : y < 10) (w : World), Calls Try.prog 68 #[.agg L.cells, .agg #[.int .i8 x, .int .i8 y]] w fun e w' => e = .returned (.int .u8 (kd y x)) ∧ Below w.heap.size w w' from fun x y hx hy w => by
    have := kind_any L x y hx hy w; rw [← hLe] at this ⊢; exact this)
  have HL := Lib.hid hLe
  have h0 : L.cells[0]? = some (.int .i8 Wn) := by rw [← hLe, Lawn.cells_0]
  have h1 : L.cells[1]? = some (.int .i8 Hn) := by rw [← hLe, Lawn.cells_1]
  have H0 := Lib.hid h0
  have H1 := Lib.hid h1
  clear hLe hV hL h0 h1
  refine (callsIn_wide (n := 9)).1 ?_
  refine callsIn_of_wp_marks Try.func51 rfl trivial ?_ rfl
  simp only [Try.ntmps51, List.size_toArray, List.length_cons, List.length_nil, Nat.reduceAdd, Nat.reduceSub, Array.replicate_succ, Array.replicate_zero, List.push_toArray, List.append_toArray, List.nil_append, List.cons_append]
  gi_wp2_with fail
  have g0 := (Holds.new w L.cells 30).alloc (.cells (Lawn.cells ⟨0, 0, fun _ _ => 0⟩) 30)
  have g1 := Holds.new' (w.alloc (.cells L.cells 30)) (Lawn.cells ⟨0, 0, fun _ _ => 0⟩) 30 (w.heap.size + 1) (by simp)
  have hb0 := ((Below.refl w.heap.size w).alloc (Nat.le_refl _) (.cells L.cells 30)).alloc (by simp) (.cells (Lawn.cells ⟨0, 0, fun _ _ => 0⟩) 30)
  refine ⟨trivial, (callsIn_wide.2 (HI'.out _)).mono ?_⟩
  rintro e w1 ⟨rfl, hb1⟩
  have j0 := g0.below hb1 g0.lt
  have j1 := g1.below hb1 g1.lt
  have jB := below_onto hb0 hb1
  clear g0 g1 hb0 hb1
  obtain ⟨r0, -, -, -, l0⟩ := j0.facts
  have e0 := (j0.cell 0).trans H0.out
  have e1 := (j0.cell 1).trans H1.out
  obtain ⟨-, -, -, -, l1⟩ := j1.facts
  gi_wp2_with (refine ⟨trivial, ?_⟩; gi_at_call 67; refine (each_in Fence.wide _ trivial rfl _ _).mono ?_; rintro e w2 ⟨rfl, rfl⟩)
  obtain ⟨s, hs⟩ : ∃ s, w1.heap.size = s := ⟨_, rfl⟩
  obtain ⟨W0, hW0⟩ : ∃ W0, (w1.alloc (.cells (Lawn.cells ⟨(Hn : Int), (Wn : Int), fun _ _ => 0⟩) 30)).alloc (.cells L.cells 30) = W0 := ⟨_, rfl⟩
  have g0 : Holds W0 w.heap.size L.cells := by rw [← hW0]; exact (j0.alloc _).alloc _
  have g1 : Holds W0 (w.heap.size + 1) (Lawn.cells ⟨0, 0, fun _ _ => 0⟩) := by rw [← hW0]; exact (j1.alloc _).alloc _
  have g2 : Holds W0 s (Lawn.cells ⟨(Hn : Int), (Wn : Int), fun _ _ => 0⟩) := by rw [← hW0]; exact (Holds.new' _ _ _ _ hs.symm).alloc _
  have g3 : Holds W0 (s + 1) L.cells := by rw [← hW0]; exact Holds.new' _ _ _ _ (by simp; omega)
  have hB0 : Below w.heap.size w W0 := by rw [← hW0]; exact (jB.alloc jB.size _).alloc (by simp; omega) _
  have hsz : W0.heap.size = s + 2 := by rw [← hW0]; simp; omega
  rw [hs] at l0 l1 ⊢
  rw [hW0]
  have hz1 : s + 2 ≤ W0.heap.size := by omega
  have hz2 : W0.heap.size ≤ s + 2 := by omega
  clear hW0 hs j0 j1 jB r0 e0 e1 hsz
  refine each_range (by omega) (p := 17) (q := 5) [s] Wn Hn hW hH kd rfl (by rw [HL.out]; exact g3)
    (fun pre W => Holds W s (Lawn.cells ⟨(Hn : Int), (Wn : Int), drawn (turnLawnTo Wn Hn) kd pre⟩)) (fun c pre W => False)
    (Own.from (holds_own _ (fun pre => Lawn.cells ⟨(Hn : Int), (Wn : Int), drawn (turnLawnTo Wn Hn) kd pre⟩)) _) (fun c => fun _ _ _ _ h _ _ => h.elim) g2 ?assign ?body ?done ?stop
  case assign =>
    intro l x y W K hK
    simp only [cellV]
    gi_wp2
    exact hK
  case body =>
    rintro l pre x Bx W hl hr hO i2 hBx bX hlt
    have hx := x.1.isLt
    have hy := x.2.isLt
    have hto := turnLawnTo_lt hW hH x
    have hsn := Lib.hid (drawn_snoc (turnLawnTo Wn Hn) kd pre x)
    obtain ⟨⟨xj, hxj⟩, ⟨xk, hxk⟩⟩ := x
    simp only [turnLawnTo] at hto hsn
    dsimp only at *
    simp only [cellV, List.setIfInBounds_toArray, List.set_cons_succ, List.set_cons_zero]
    have i0 := hO.holds g0 (by simp; omega)
    have hO2 := Lib.hid hO
    clear hr hlt hl hO
    obtain ⟨r0, c0⟩ := i0.later
    have C0 := Lib.hid c0
    clear c0
    obtain ⟨rx, cx⟩ := bX.later
    have hj0 : (0 : Int) ≤ xj := by omega
    have hj1 : (xj : Int) < 10 := by omega
    have hk0 : (0 : Int) ≤ xk := by omega
    have hk1 : (xk : Int) < 10 := by omega
    have hW1 : (Wn : Int) ≤ 10 := by omega
    have hH1 : (Hn : Int) ≤ 10 := by omega
    have hW2 : (xj : Int) < Wn := by omega
    have hH2 : (xk : Int) < Hn := by omega
    gi_wp2_with fail
    refine wpIn_region_grow 14 (by kernel_rfl) rfl (by rintro ⟨_, _, h⟩; exact h) (by kernel_rfl) ?_
    simp only [List.take_succ_cons, List.take_zero, List.drop_succ_cons, List.drop_zero]
    iterate 14
      apply wpGrow_plain rfl
      · intro w' hw' K hK
        have cx' := cx _ hw'
        have e0 := (C0.out _ hw' 0).trans H0.out
        have e1 := (C0.out _ hw' 1).trans H1.out
        go_wp2_with (go_at_call 68; refine (HK.out xj xk (by omega) (by omega) _).mono ?_; rintro e w2 ⟨rfl, hb2⟩)
        first | exact hK _ _ rfl hw' | exact hK _ _ rfl (below_onto hw' hb2)
      simp only [Act.put, List.setIfInBounds_toArray, List.set_cons_succ, List.set_cons_zero]
    refine wpGrow_nil ?_
    intro W2 hW2
    have q2 := i2.below hW2 i2.lt
    have qO : Only [s] W0 W2 := hO2.out.onto hW2
    have qK : KeepsOthers W W2 := keeps_below hW2
    obtain ⟨-, -, c2, z2, l2⟩ := q2.facts
    have e2 := (c2 (2 + xj * 10 + (Hn - 1 - xk))).trans (Lawn.cells_get _ _ _ hto.1 hto.2)
    clear r0 rx cx c2 hW2 i0 i2 bX C0
    go_wp2_with fail
    refine eachDone (b := s + 1) (by omega) (by simp) hO2.out (qK.trans (KeepsOthers.setCell _ _ _)) (qO.setCell (a := ⟨s, 2 + xj * 10 + (Hn - 1 - xk), none⟩) (.inl (by simp)) _) ?_
    rw [hsn.out, ← Lawn.set_at ⟨_, _, _⟩ _ _ _ hto.1 hto.2]
    exact q2.setCell _ _
  case done =>
    rintro D W hD hO i2 hK
    have hB2 : Below w.heap.size w W := hB0.trans (hO.toBelow (by simp; omega) (by omega))
    have i1 := hO.holds g1 (by simp; omega)
    obtain ⟨R, hR⟩ : ∃ R : Lawn, (⟨(Hn : Int), (Wn : Int), drawn (turnLawnTo Wn Hn) kd (allC Wn Hn)⟩ : Lawn) = R := ⟨_, rfl⟩
    rw [hR] at i2
    have HR := Lib.hid hR
    obtain ⟨r2, f2, c2, z2, l2⟩ := i2.facts
    obtain ⟨r1, f1, c1, z1, l1⟩ := i1.facts
    clear g0 g1 g2 g3 hR H0 H1 HK HL HI' c2 c1
    gi_wp2
    have q1 := i1.setRow R.cells
    have hK' : (W.setRow (w.heap.size + 1) R.cells).heap[D]? = some (.deferred (some [])) := (setRow_other W _ D _ (by omega)).trans hK
    have hB3 := below_setRow' hB2 (g := w.heap.size + 1) (by omega) R.cells
    refine ⟨by simp, .inl ⟨_, _, rfl, run_takeDeferred hK', ?_⟩⟩
    refine ⟨_, results_cell_tmp_holds rfl wideLawn _ rfl (q1.grown (grownBy_putObj' _ D _) (fun r e => by cases e; exact ⟨_, hK', rfl⟩)) (by simp), by rw [HR.out]; rfl, hB3.trans (belowK_b (w := w) (Nat.le_refl _) _ D _ _ (by omega) hK' rfl rfl)⟩
  case stop =>
    rintro D c pre W hD _ h hK
    exact h.elim

/-- What TurnLawn answers. -/
def turnLawnR (L : Lawn) : Lawn := if validB L then ⟨L.high, L.wide, drawn (turnLawnTo L.wide.toNat L.high.toNat) L.kind (allC L.wide.toNat L.high.toNat)⟩ else ⟨0, 0, fun _ _ => 0⟩
def turnLawnM (L : Lawn) : Int := if validB L then 0 else 1
theorem turnLawn_lit {L : Lawn} (hv : validB L = true) : (⟨((L.wide.toNat : Nat) : Int), ((L.high.toNat : Nat) : Int), L.kind⟩ : Lawn) = L := by
  obtain ⟨h1, h2, -⟩ := validB_true hv
  cases L; simp at *; omega

set_option maxRecDepth 100000 in
set_option maxHeartbeats 1000000 in
theorem implTurnLawn_any (L : Lawn) (hL : L.Fits) (w : World) :
    Calls Try.prog 51 #[.agg L.cells] w fun e w' => e = .returned (.tuple #[.agg (turnLawnR L).cells, .int .i64 (turnLawnM L)]) ∧ Below w.heap.size w w' := by
  cases hv : validB L
  case true =>
    obtain ⟨h1, h2, -⟩ := validB_true hv
    have e1 : turnLawnM L = 0 := by simp [turnLawnM, hv]
    have e2 : turnLawnR L = ⟨((L.high.toNat : Nat) : Int), ((L.wide.toNat : Nat) : Int), drawn (turnLawnTo L.wide.toNat L.high.toNat) L.kind (allC L.wide.toNat L.high.toNat)⟩ := by
      simp only [turnLawnR, hv, if_true, Lawn.mk.injEq, and_true]; omega
    rw [e1, e2]
    have := turnLawn_loop L.wide.toNat L.high.toNat (by omega) (by omega) L.kind (by rw [turnLawn_lit hv]; exact hL) (by rw [turnLawn_lit hv]; exact hv) w
    rw [turnLawn_lit hv] at this
    exact this
  case false =>
    have e1 : turnLawnM L = 1 := by simp [turnLawnM, hv]
    have e2 : turnLawnR L = ⟨0, 0, fun _ _ => 0⟩ := by simp [turnLawnR, hv]
    rw [e1, e2]
    have HI' := Lib.hid (show ∀ w : World, Calls Try.prog 65 #[.agg L.cells] w fun e w' => e = .returned (.bool false) ∧ Below w.heap.size w w' from fun w => hv ▸ implValid_any L hL w)
    clear e1 e2 hv hL
    go_enter Try.func51, Try.ntmps51
    go_wp2_with fail
    have g1 := Holds.new' (w.alloc (.cells L.cells 30)) (Lawn.cells ⟨0, 0, fun _ _ => 0⟩) 30 (w.heap.size + 1) (by simp)
    have hb0 := ((Below.refl w.heap.size w).alloc (Nat.le_refl _) (.cells L.cells 30)).alloc (by simp) (.cells (Lawn.cells ⟨0, 0, fun _ _ => 0⟩) 30)
    refine (HI'.out _).mono ?_
    rintro e w1 ⟨rfl, hb1⟩
    have j1 := g1.below hb1 g1.lt
    have jB := below_onto hb0 hb1
    clear g1 hb0 hb1
    obtain ⟨r1, f1, -, -, l1⟩ := j1.facts
    go_wp2_with fail
    have q1 := j1.setRow (Lawn.cells ⟨0, 0, fun _ _ => 0⟩)
    exact bodyPost_ret (results_cell_tmp_holds rfl wideLawn _ rfl q1 (by simp)) rfl ⟨rfl, below_setRow' jB (by omega) _⟩

set_option maxRecDepth 100000 in
set_option maxHeartbeats 1000000 in
theorem sturnLawn_loop (Wn Hn : Nat) (hW : Wn ≤ 10) (hH : Hn ≤ 10) (kd : Nat → Nat → Int) (hL : Lawn.Fits ⟨(Wn : Int), (Hn : Int), kd⟩) (hV : validB ⟨(Wn : Int), (Hn : Int), kd⟩ = true) (w : World) :
    Calls Try.prog 50 #[.agg (Lawn.cells ⟨(Wn : Int), (Hn : Int), kd⟩)] w fun e w' => e = .returned (.tuple #[.agg (Lawn.cells ⟨(Hn : Int), (Wn : Int), drawn (turnLawnTo Wn Hn) kd (allC Wn Hn)⟩), .int .i64 0]) ∧ Below w.heap.size w w' := by
  obtain ⟨L, hLe⟩ : ∃ L : Lawn, (⟨(Wn : Int), (Hn : Int), kd⟩ : Lawn) = L := ⟨_, rfl⟩
  rw [hLe] at hL hV ⊢
  have HV := Lib.hid hV
  have HFt := Lib.hid hL
  have h0 : L.cells[0]? = some (.int .i8 Wn) := by rw [← hLe, Lawn.cells_0]
  have h1 : L.cells[1]? = some (.int .i8 Hn) := by rw [← hLe, Lawn.cells_1]
  have hg : ∀ y x : Nat, y < 10 → x < 10 → L.cells[2 + y * 10 + x]? = some (.int .u8 (kd y x)) := fun y x hy hx => by rw [← hLe, Lawn.cells_get _ _ _ hy hx]
  have H0 := Lib.hid h0
  have H1 := Lib.hid h1
  have HG := Lib.hid hg
  clear hLe hV hL h0 h1 hg
  go_enter Try.func50, Try.ntmps50
  go_wp2_with fail
  have g0 := (Holds.new w L.cells 30).alloc (.cells (Lawn.cells ⟨0, 0, fun _ _ => 0⟩) 30)
  have g1 := Holds.new' (w.alloc (.cells L.cells 30)) (Lawn.cells ⟨0, 0, fun _ _ => 0⟩) 30 (w.heap.size + 1) (by simp)
  have hb0 := ((Below.refl w.heap.size w).alloc (Nat.le_refl _) (.cells L.cells 30)).alloc (by simp) (.cells (Lawn.cells ⟨0, 0, fun _ _ => 0⟩) 30)
  refine (l01Ok_any L HFt.out _ _ g0).mono ?_
  rw [HV.out]
  rintro e w1 ⟨rfl, hb1⟩
  have j0 := g0.below hb1 g0.lt
  have j1 := g1.below hb1 g1.lt
  have jB := below_onto hb0 hb1
  clear g0 g1 hb0 hb1
  obtain ⟨-, -, -, -, l0⟩ := j0.facts
  obtain ⟨-, -, -, -, l1⟩ := j1.facts
  have e0 := (j0.cell 0).trans H0.out
  have e1 := (j0.cell 1).trans H1.out
  go_wp2_with fail
  obtain ⟨s, hs⟩ : ∃ s, w1.heap.size = s := ⟨_, rfl⟩
  obtain ⟨W0, hW0⟩ : ∃ W0, w1.alloc (.cells (Lawn.cells ⟨(Hn : Int), (Wn : Int), fun _ _ => 0⟩) 30) = W0 := ⟨_, rfl⟩
  have g0 : Holds W0 w.heap.size L.cells := by rw [← hW0]; exact j0.alloc _
  have g1 : Holds W0 (w.heap.size + 1) (Lawn.cells ⟨0, 0, fun _ _ => 0⟩) := by rw [← hW0]; exact j1.alloc _
  have g2 : Holds W0 s (Lawn.cells ⟨(Hn : Int), (Wn : Int), fun _ _ => 0⟩) := by rw [← hW0]; exact Holds.new' _ _ _ _ hs.symm
  have hB0 : Below w.heap.size w W0 := by rw [← hW0]; exact jB.alloc jB.size _
  have hsz : s < W0.heap.size := by rw [← hW0]; simp; omega
  rw [hs] at l0 l1 ⊢
  rw [hW0]
  clear hW0 hs j0 j1 jB e0 e1
  have hcell : ∀ W, Only [s] W0 W → W.cell? ⟨w.heap.size, 0, none⟩ = some (.int .i8 Wn) ∧ W.cell? ⟨w.heap.size, 1, none⟩ = some (.int .i8 Hn) := fun W hO => by
    have := hO.holds g0 (by simp; omega)
    exact ⟨(this.cell 0).trans H0.out, (this.cell 1).trans H1.out⟩
  have HC := Lib.hid hcell
  have G0 := Lib.hid g0
  clear hcell g0
  go_loopw [5, 6] (fun y _ wr => ∃ k : Nat, k ≤ Hn ∧ y = .int .i8 k ∧ Only [s] W0 wr ∧ Holds wr s (Lawn.cells ⟨(Hn : Int), (Wn : Int), drawn (turnLawnTo Wn Hn) kd ((allC Wn Hn).take (k * Wn))⟩)) (fun y _ _ => Hn - (intOf y).toNat)
  case atStart => exact ⟨0, by omega, rfl, Only.refl _ _, by simpa [drawn_nil] using g2⟩
  case round =>
    obtain ⟨k, hk, rfl, hO, hD⟩ := hrel
    obtain ⟨e0, e1⟩ := HC.out _ hO
    have HD := Lib.hid hD
    clear hD g2
    by_cases hlt : k < Hn
    · have hd : decide ((k : Int) < (Hn : Int)) = true := by simp; omega
      go_wp2_with fail
      clear e0 e1
      go_loopw [6] (fun x wi => ∃ j : Nat, j ≤ Wn ∧ x = .int .i8 j ∧ Only [s] W0 wi ∧ Holds wi s (Lawn.cells ⟨(Hn : Int), (Wn : Int), drawn (turnLawnTo Wn Hn) kd ((allC Wn Hn).take (k * Wn + j))⟩)) (fun x _ => Wn - (intOf x).toNat)
      case atStart => exact ⟨0, by omega, rfl, hO, HD.out⟩
      case round =>
        obtain ⟨j, hj, rfl, hOi, hDi⟩ := hrel
        obtain ⟨e0, e1⟩ := HC.out _ hOi
        by_cases hjt : j < Wn
        · have hdj : decide ((j : Int) < (Wn : Int)) = true := by simp; omega
          have ht : (allC Wn Hn).take (k * Wn + (j + 1)) = (allC Wn Hn).take (k * Wn + j) ++ [(⟨j, hjt⟩, ⟨k, hlt⟩)] := by rw [← Nat.add_assoc, allC_take Wn Hn k j hjt hlt]
          have hto := turnLawnTo_lt hW hH (⟨⟨j, hjt⟩, ⟨k, hlt⟩⟩ : Fin Wn × Fin Hn)
          have hsn := Lib.hid (drawn_snoc (turnLawnTo Wn Hn) kd ((allC Wn Hn).take (k * Wn + j)) (⟨j, hjt⟩, ⟨k, hlt⟩))
          rw [← ht] at hsn
          simp only [turnLawnTo] at hto hsn
          have hj0 : (0 : Int) ≤ j := by omega
          have hj1 : (j : Int) < 10 := by omega
          have hk0 : (0 : Int) ≤ k := by omega
          have hk1 : (k : Int) < 10 := by omega
          have hW1 : (Wn : Int) ≤ 10 := by omega
          have hH1 : (Hn : Int) ≤ 10 := by omega
          have hW2 : (j : Int) < Wn := by omega
          have hH2 : (k : Int) < Hn := by omega
          have eg := ((hOi.holds G0.out (by simp; omega)).cell (2 + k * 10 + j)).trans (HG.out k j (by omega) (by omega))
          have lg := (hOi.holds G0.out (by simp; omega)).lt
          have EG := Lib.hid (show ∀ w', Below wr.heap.size wr w' → w'.cell? ⟨w.heap.size, 2 + k * 10 + j, none⟩ = some (.int .u8 (kd k j)) ∧ w'.cell? ⟨w.heap.size, 0, none⟩ = some (.int .i8 Wn) ∧ w'.cell? ⟨w.heap.size, 1, none⟩ = some (.int .i8 Hn) from fun w' hw' =>
            ⟨(hw'.cell (p := ⟨w.heap.size, 2 + k * 10 + j, none⟩) lg).trans eg, (hw'.cell (p := ⟨w.heap.size, 0, none⟩) lg).trans e0, (hw'.cell (p := ⟨w.heap.size, 1, none⟩) lg).trans e1⟩)
          clear ht eg lg
          go_wp2_with fail
          clear e0 e1
          refine wp_region_grow 15 (by kernel_rfl) (by kernel_rfl) ?_
          simp only [List.take_succ_cons, List.take_zero, List.drop_succ_cons, List.drop_zero]
          iterate 15
            apply wpGrow_plain rfl
            · intro w' hw' K hK
              obtain ⟨eg, e0, e1⟩ := EG.out _ hw'
              go_wp2_with fail
              first | exact hK _ _ rfl hw'
            simp only [Act.put, List.setIfInBounds_toArray, List.set_cons_succ, List.set_cons_zero]
          refine wpGrow_nil ?_
          intro W2 hWW
          have q2 := hDi.below hWW hDi.lt
          have qO : Only [s] W0 W2 := hOi.onto hWW
          obtain ⟨-, -, c2, z2, l2⟩ := q2.facts
          have e2 := (c2 (2 + j * 10 + (Hn - 1 - k))).trans (Lawn.cells_get _ _ _ hto.1 hto.2)
          clear c2 hWW EG
          go_wp2_with fail
          go_roundw
          case rel =>
            refine ⟨j + 1, by omega, by go_num, qO.setCell (a := ⟨s, 2 + j * 10 + (Hn - 1 - k), none⟩) (.inl (by simp)) _, ?_⟩
            rw [hsn.out, ← Lawn.set_at ⟨_, _, _⟩ _ _ _ hto.1 hto.2]
            exact q2.setCell _ _
          case measure => simp [intOf]; omega
        · have hdj : decide ((j : Int) < (Wn : Int)) = false := by simp; omega
          go_wp2_with fail
          go_roundw
          case rel => exact ⟨k + 1, by omega, by go_num, hOi, by rw [Nat.add_mul, Nat.one_mul]; rw [show j = Wn by omega] at hDi; exact hDi⟩
          case measure => simp [intOf]; omega
    · have hd : decide ((k : Int) < (Hn : Int)) = false := by simp; omega
      have i1 := hO.holds g1 (by simp; omega)
      have hD := HD.out
      rw [List.take_of_length_le (by rw [allC_length, show k = Hn by omega]; omega)] at hD
      obtain ⟨R, hR⟩ : ∃ R : Lawn, (⟨(Hn : Int), (Wn : Int), drawn (turnLawnTo Wn Hn) kd (allC Wn Hn)⟩ : Lawn) = R := ⟨_, rfl⟩
      rw [hR] at hD
      have HR := Lib.hid hR
      have hB2 : Below w.heap.size w wr := hB0.trans (hO.toBelow (by simp; omega) (by omega))
      obtain ⟨r2, f2, c2, z2, l2⟩ := hD.facts
      obtain ⟨r1, f1, c1, z1, l1⟩ := i1.facts
      clear c1 c2 hR
      go_wp2_with fail
      have q1 := i1.setRow R.cells
      exact bodyPost_ret (results_cell_tmp_holds rfl wideLawn _ rfl q1 (by simp)) rfl ⟨by rw [HR.out]; rfl, below_setRow' hB2 (by omega) _⟩

set_option maxRecDepth 100000 in
set_option maxHeartbeats 1000000 in
theorem specTurnLawn_any (L : Lawn) (hL : L.Fits) (w : World) :
    Calls Try.prog 50 #[.agg L.cells] w fun e w' => e = .returned (.tuple #[.agg (turnLawnR L).cells, .int .i64 (turnLawnM L)]) ∧ Below w.heap.size w w' := by
  cases hv : validB L
  case true =>
    obtain ⟨h1, h2, -⟩ := validB_true hv
    have e1 : turnLawnM L = 0 := by simp [turnLawnM, hv]
    have e2 : turnLawnR L = ⟨((L.high.toNat : Nat) : Int), ((L.wide.toNat : Nat) : Int), drawn (turnLawnTo L.wide.toNat L.high.toNat) L.kind (allC L.wide.toNat L.high.toNat)⟩ := by
      simp only [turnLawnR, hv, if_true, Lawn.mk.injEq, and_true]; omega
    rw [e1, e2]
    have := sturnLawn_loop L.wide.toNat L.high.toNat (by omega) (by omega) L.kind (by rw [turnLawn_lit hv]; exact hL) (by rw [turnLawn_lit hv]; exact hv) w
    rw [turnLawn_lit hv] at this
    exact this
  case false =>
    have e1 : turnLawnM L = 1 := by simp [turnLawnM, hv]
    have e2 : turnLawnR L = ⟨0, 0, fun _ _ => 0⟩ := by simp [turnLawnR, hv]
    rw [e1, e2]
    have HV := Lib.hid hv
    have HF := Lib.hid hL
    clear e1 e2 hv hL
    go_enter Try.func50, Try.ntmps50
    go_wp2_with fail
    have g0 := (Holds.new w L.cells 30).alloc (.cells (Lawn.cells ⟨0, 0, fun _ _ => 0⟩) 30)
    have g1 := Holds.new' (w.alloc (.cells L.cells 30)) (Lawn.cells ⟨0, 0, fun _ _ => 0⟩) 30 (w.heap.size + 1) (by simp)
    have hb0 := ((Below.refl w.heap.size w).alloc (Nat.le_refl _) (.cells L.cells 30)).alloc (by simp) (.cells (Lawn.cells ⟨0, 0, fun _ _ => 0⟩) 30)
    refine (l01Ok_any L HF.out _ _ g0).mono ?_
    rw [HV.out]
    rintro e w1 ⟨rfl, hb1⟩
    have j1 := g1.below hb1 g1.lt
    have jB := below_onto hb0 hb1
    clear g0 g1 hb0 hb1
    obtain ⟨r1, f1, -, -, l1⟩ := j1.facts
    go_wp2_with fail
    have q1 := j1.setRow (Lawn.cells ⟨0, 0, fun _ _ => 0⟩)
    exact bodyPost_ret (results_cell_tmp_holds rfl wideLawn _ rfl q1 (by simp)) rfl ⟨rfl, below_setRow' jB (by omega) _⟩
end Go.Proofs.Ytcgkbdbgocoilaa
