/- RoundOff, of the program. -/
import Derived.Test.YtmoldkdidhnahaaIRound
namespace Go.Proofs.Ytmoldkdidhnahaa
open Go.RowKit
set_option linter.unusedVariables false
set_option linter.unusedSimpArgs false
attribute [local go_sem ↓] loadRow loadGrid loadLawn loadMirror storeRow storeGrid storeLawn allocRow allocGrid allocLawn buildZero buildSides

theorem results_cell_tmp2r {P : Program} {fn : Func} {p u v : Tmp} {ty : TypeId} {n : Nat} (h : fn.results = #[.cell p ty, .tmp u, .tmp v]) (hw : wideB P ty n = true) (tmps : Array Value) {w : World} {g : Nat} {cs : Array Value}
    (hp : tmps.getD p undef = .pointer (some ⟨g, 0, none⟩)) (hg : Holds w g cs) (hn : cs.size = n) : (results fn tmps).run P w = .ok (.tuple #[.agg cs, tmps.getD u undef, tmps.getD v undef]) w := by
  have hp' : tmps[p]?.getD undef = .pointer (some ⟨g, 0, none⟩) := by simpa using hp
  simp [results, h, hp', asAddr, (wide_of hw).loadVar hg hn]

/-- The cell at the k-th time; whether there is one. -/
def rX (W H : Nat) (L : Lawn) (k : Nat) : Int := match firstR (rn W H L k) W H with | none => 0 | some c => c.1.val
def rY (W H : Nat) (L : Lawn) (k : Nat) : Int := match firstR (rn W H L k) W H with | none => 0 | some c => c.2.val
def rB (W H : Nat) (L : Lawn) (k : Nat) : Bool := (firstR (rn W H L k) W H).isSome
theorem rXY (W H : Nat) (L : Lawn) (k : Nat) : cellF (firstR (rn W H L k) W H) = #[.int .i8 (rX W H L k), .int .i8 (rY W H L k)] := by
  unfold rX rY
  cases firstR (rn W H L k) W H <;> rfl
theorem r_yes {W H : Nat} (hW : W ≤ 10) (hH : H ≤ 10) {L : Lawn} {k : Nat} (h : firstR (rn W H L k) W H ≠ none) : ∃ i j : Nat, i < 10 ∧ j < 10 ∧ rX W H L k = i ∧ rY W H L k = j ∧ rB W H L k = true ∧ (rn W H L k).put j i 0 = rn W H L (k + 1) := by
  obtain ⟨c, hc⟩ := Option.ne_none_iff_exists'.1 h
  refine ⟨c.1.val, c.2.val, by have := c.1.isLt; omega, by have := c.2.isLt; omega, by simp only [rX, hc], by simp only [rY, hc], by simp only [rB, hc]; rfl, (rn_succ hc).symm⟩

set_option maxRecDepth 100000 in
set_option maxHeartbeats 4000000 in
theorem implRound_good (L : Lawn) (hL : L.Fits) (hv : validB L = true) (n : Nat) (hn : n ≤ 100) (h0 : firstR (rn L.wide.toNat L.high.toNat L n) L.wide.toNat L.high.toNat = none) (h1 : ∀ j, j < n → firstR (rn L.wide.toNat L.high.toNat L j) L.wide.toNat L.high.toNat ≠ none) (w : World) :
    Calls Try.prog 14 #[.agg L.cells] w fun e w' => e = .returned (.tuple #[.agg (rn L.wide.toNat L.high.toNat L n).cells, .int .i64 n, .int .i64 0]) ∧ Below w.heap.size w w' := by
  have HI := Lib.hid (fun (w : World) => implValid_any L hL w)
  rw [hv] at HI
  obtain ⟨h2, h3, -⟩ := validB_true hv
  have HFB0 := Lib.hid (fun (k : Nat) (w : World) => firstBed_loop L.wide.toNat L.high.toNat (by omega) (by omega) (rn L.wide.toNat L.high.toNat L k) (by rw [(rn_wide _ _ _ k).1]; omega) (by rw [(rn_wide _ _ _ k).2]; omega) (rn_valid hv (by omega) (by omega) k) w)
  have hw10 : L.wide.toNat ≤ 10 := by omega
  have hh10 : L.high.toNat ≤ 10 := by omega
  obtain ⟨Wn, hWn⟩ : ∃ Wn, L.wide.toNat = Wn := ⟨_, rfl⟩
  obtain ⟨Hn, hHn⟩ : ∃ Hn, L.high.toNat = Hn := ⟨_, rfl⟩
  rw [hWn, hHn] at HFB0 h0 h1
  have HFB : Hid (∀ (k : Nat) (w : World), Calls Try.prog 52 #[.agg (rn Wn Hn L k).cells] w fun e w' => e = .returned (.tuple #[.agg #[.int .i8 (rX Wn Hn L k), .int .i8 (rY Wn Hn L k)], .bool (rB Wn Hn L k)]) ∧ Below w.heap.size w w') := Lib.hid (fun k w => by rw [← rXY]; exact HFB0.out k w)
  clear HFB0
  rw [hWn] at hw10
  rw [hHn] at hh10
  rw [hWn, hHn]
  have HN : Hid (rB Wn Hn L n = false) := Lib.hid (by unfold rB; rw [h0]; rfl)
  have HY := Lib.hid (fun k (hk : k < n) => r_yes hw10 hh10 (h1 k hk))
  have HR0 : Hid (rn Wn Hn L 0 = L) := Lib.hid rfl
  clear hv hL h2 h3 h0 h1 hWn hHn
  have g0 := (Holds.new w L.cells 27).alloc (.cells (Lawn.cells ⟨0, 0, fun _ _ => 0⟩) 27)
  have g1 := Holds.new' (w.alloc (.cells L.cells 27)) (Lawn.cells ⟨0, 0, fun _ _ => 0⟩) 27 (w.heap.size + 1) (by simp)
  have hb0 := ((Below.refl w.heap.size w).alloc (Nat.le_refl _) (.cells L.cells 27)).alloc (by simp) (.cells (Lawn.cells ⟨0, 0, fun _ _ => 0⟩) 27)
  go_enter Try.func14, Try.ntmps14
  go_wp2_with fail
  refine (HI.out _).mono ?_
  rintro e w1 ⟨rfl, hb1⟩
  have k0 := g0.below hb1 g0.lt
  have k1 := g1.below hb1 g1.lt
  have hb2 := below_onto hb0 hb1
  clear g0 g1 hb0 hb1
  obtain ⟨r0, -, -, -, -⟩ := k0.facts
  go_wp2_with fail
  refine (HFB.out 0 _).mono ?_
  rintro e w2 ⟨rfl, hb1⟩
  have g0 := k0.below hb1 k0.lt
  have g1 := k1.below hb1 k1.lt
  have hb3 := below_onto hb2 hb1
  clear k0 k1 hb2 hb1 r0
  rw [← HR0.out] at g0
  obtain ⟨s, hs⟩ : ∃ s, w.heap.size = s := ⟨_, rfl⟩
  rw [hs] at g0 g1 hb3 ⊢
  have HS := Lib.hid hs
  clear hs
  have m0 := Holds.new w2 #[.int .i8 (rX Wn Hn L 0), .int .i8 (rY Wn Hn L 0)] 37
  have hw2 := g1.lt
  go_wp2_with fail
  have k0 := g0.alloc (.cells #[.int .i8 (rX Wn Hn L 0), .int .i8 (rY Wn Hn L 0)] 37)
  have k1 := g1.alloc (.cells #[.int .i8 (rX Wn Hn L 0), .int .i8 (rY Wn Hn L 0)] 37)
  have hb4 := hb3.alloc (by omega) (.cells #[.int .i8 (rX Wn Hn L 0), .int .i8 (rY Wn Hn L 0)] 37)
  go_loopw [5, 6, 7] (fun c p b wr => ∃ k m : Nat, k ≤ n ∧ s + 1 < m ∧ c = .int .i64 k ∧ p = .pointer (some ⟨m, 0, none⟩) ∧ b = .bool (rB Wn Hn L k) ∧ Holds wr s (rn Wn Hn L k).cells ∧ Holds wr (s + 1) (Lawn.cells ⟨0, 0, fun _ _ => 0⟩) ∧ Holds wr m #[.int .i8 (rX Wn Hn L k), .int .i8 (rY Wn Hn L k)] ∧ Below s w wr) (fun c _ _ _ => n - (intOf c).toNat)
  case atStart => exact ⟨0, _, by omega, hw2, rfl, rfl, rfl, k0, k1, m0, hb4⟩
  case round =>
    obtain ⟨k, m, hk, hm, rfl, rfl, rfl, j0, j1, j2, hb⟩ := hrel
    clear k0 k1 m0 hb4 g0 g1 hb3 hw2
    by_cases hlt : k < n
    · obtain ⟨i, j, hi, hj, hX, hY, hB, hput⟩ := HY.out k hlt
      have hx0 : (0 : Int) ≤ i := by omega
      have hx1 : (i : Int) < 10 := by omega
      have hy0 : (0 : Int) ≤ j := by omega
      have hy1 : (j : Int) < 10 := by omega
      have HPUT := Lib.hid hput
      rw [hX, hY] at j2
      rw [hB]
      clear hX hY hB hput
      have s0 := j2.later.2
      go_wp2_with fail
      refine wp_region_grow 7 (by kernel_rfl) (by kernel_rfl) ?_
      simp only [List.take_succ_cons, List.take_zero, List.drop_succ_cons, List.drop_zero]
      iterate 7
        apply wpGrow_plain rfl
        · intro w' hw' K hK
          have s1 := s0 _ hw'
          go_wp2_with fail
          exact hK _ _ rfl hw'
        simp only [Act.put, List.setIfInBounds_toArray, List.set_cons_succ, List.set_cons_zero]
      refine wpGrow_nil ?_
      intro W2 hW2
      have hb2 := hb.trans (hW2.mono (by have := j0.lt; omega))
      have q0 := j0.below hW2 j0.lt
      have q1 := j1.below hW2 j1.lt
      have q2 := j2.below hW2 j2.lt
      clear hW2 j0 j1 j2 s0 hb
      have v0 := q0.setCell (2 + j * 10 + i) (.int .u8 0)
      rw [Lawn.cells_put (rn Wn Hn L k) j i hj hi 0, HPUT.out] at v0
      have v1 := q1.setCell_other ⟨s, 2 + j * 10 + i, none⟩ (.int .u8 0) (by dsimp only; omega)
      have v2 := q2.setCell_other ⟨s, 2 + j * 10 + i, none⟩ (.int .u8 0) (by dsimp only; omega)
      have hb3 := hb2.setCell (p := ⟨s, 2 + j * 10 + i, none⟩) (by dsimp only; omega) (.int .u8 0)
      have l1 := q0.lt
      have l2 := q2.lt
      have f1 := q0.free (2 + j * 10 + i)
      have ch : W2.cell? ⟨s, 2 + j * 10 + i, none⟩ = some (.int .u8 ((rn Wn Hn L k).kind j i)) := by rw [q0.cell, Lawn.cells_get _ j i hj hi]
      obtain ⟨W3, hW3⟩ : ∃ W3, W2.setCell ⟨s, 2 + j * 10 + i, none⟩ (.int .u8 0) = W3 := ⟨_, rfl⟩
      rw [hW3] at v0 v1 v2 hb3
      have l3 := v2.lt
      have e0 : W3.cell? ⟨m, 0, none⟩ = some (.int .i8 i) := v2.cell 0
      have e1 : W3.cell? ⟨m, 1, none⟩ = some (.int .i8 j) := v2.cell 1
      have x0 := v0.alloc (.cells #[.int .i8 i, .int .i8 j] 37)
      have x1 := v1.alloc (.cells #[.int .i8 i, .int .i8 j] 37)
      have x2 := Holds.new W3 #[.int .i8 i, .int .i8 j] 37
      have hb4 := hb3.alloc (by omega) (.cells #[.int .i8 i, .int .i8 j] 37)
      obtain ⟨r0, -, -, -, -⟩ := x0.facts
      clear q0 q1 q2 v0 v1 v2 hb2
      go_wp2_with fail
      refine (HFB.out (k + 1) _).mono ?_
      rintro e w5 ⟨rfl, hb5⟩
      obtain ⟨m2, hm2⟩ : ∃ m2, W3.heap.size = m2 := ⟨_, rfl⟩
      rw [hm2] at x2 ⊢
      have y0 := x0.below hb5 x0.lt
      have y1 := x1.below hb5 x1.lt
      have y2 := x2.below hb5 x2.lt
      have hb6 := hb4.trans (hb5.mono (by have := x0.lt; omega))
      have hsm : s + 1 < m2 := by omega
      clear x0 x1 x2 hb4 hb5 r0 hm2 hW3 e0 e1 ch f1 l1 l2
      obtain ⟨-, -, d2, f2, l2⟩ := y2.facts
      have v0 := (y0.setCell_other ⟨m2, 0, none⟩ (.int .i8 (rX Wn Hn L (k + 1))) (by dsimp only; omega)).setCell_other ⟨m2, 1, none⟩ (.int .i8 (rY Wn Hn L (k + 1))) (by dsimp only; omega)
      have v1 := (y1.setCell_other ⟨m2, 0, none⟩ (.int .i8 (rX Wn Hn L (k + 1))) (by dsimp only; omega)).setCell_other ⟨m2, 1, none⟩ (.int .i8 (rY Wn Hn L (k + 1))) (by dsimp only; omega)
      have v2 := (y2.setCell 0 (.int .i8 (rX Wn Hn L (k + 1)))).setCell 1 (.int .i8 (rY Wn Hn L (k + 1)))
      have hb7 := (hb6.setCell (p := ⟨m2, 0, none⟩) (by dsimp only; omega) (.int .i8 (rX Wn Hn L (k + 1)))).setCell (p := ⟨m2, 1, none⟩) (by dsimp only; omega) (.int .i8 (rY Wn Hn L (k + 1)))
      clear y0 y1 y2 hb6
      go_wp2_with fail
      go_roundw
      case rel => exact ⟨k + 1, m2, by omega, hsm, by go_num, rfl, rfl, v0, v1, v2, hb7⟩
      case measure => simp [intOf]; omega
    · have hkn : k = n := by omega
      rw [hkn, HN.out]
      rw [hkn] at j0 j2
      obtain ⟨r0, -, -, -, -⟩ := j0.facts
      obtain ⟨r1, f1, -, -, l1⟩ := j1.facts
      have v1 := j1.setRow (rn Wn Hn L n).cells
      have hb7 := below_setRow' hb (g := s + 1) (by omega) (rn Wn Hn L n).cells
      have HV := Lib.hid v1
      have HB7 := Lib.hid hb7
      clear v1 hb7 j0 j1 j2 hb HFB HY HI
      go_wp2_with fail
      refine bodyPost_ret (results_cell_tmp2r (n := 102) rfl (by kernel_rfl) _ rfl HV.out (by simp)) rfl ⟨rfl, by rw [HS.out]; exact HB7.out⟩

set_option maxRecDepth 100000 in
set_option maxHeartbeats 2000000 in
theorem implRound_bad (L : Lawn) (hL : L.Fits) (hv : validB L = false) (w : World) :
    Calls Try.prog 14 #[.agg L.cells] w fun e w' => e = .returned (.tuple #[.agg (Lawn.cells ⟨0, 0, fun _ _ => 0⟩), .int .i64 0, .int .i64 1]) ∧ Below w.heap.size w w' := by
  have HI := Lib.hid (fun (w : World) => implValid_any L hL w)
  rw [hv] at HI
  clear hv hL
  have g1 := Holds.new' (w.alloc (.cells L.cells 27)) (Lawn.cells ⟨0, 0, fun _ _ => 0⟩) 27 (w.heap.size + 1) (by simp)
  have hb0 := ((Below.refl w.heap.size w).alloc (Nat.le_refl _) (.cells L.cells 27)).alloc (by simp) (.cells (Lawn.cells ⟨0, 0, fun _ _ => 0⟩) 27)
  go_enter Try.func14, Try.ntmps14
  go_wp2_with fail
  refine (HI.out _).mono ?_
  rintro e w1 ⟨rfl, hb1⟩
  have k1 := g1.below hb1 g1.lt
  have hb2 := below_onto hb0 hb1
  clear g1 hb0 hb1
  obtain ⟨r1, f1, -, -, l1⟩ := k1.facts
  have v1 := k1.setRow (Lawn.cells ⟨0, 0, fun _ _ => 0⟩)
  have hb7 := below_setRow' hb2 (g := w.heap.size + 1) (by omega) (Lawn.cells ⟨0, 0, fun _ _ => 0⟩)
  have HV := Lib.hid v1
  have HB7 := Lib.hid hb7
  clear v1 hb7 k1 hb2
  go_wp2_with fail
  refine bodyPost_ret (results_cell_tmp2r (n := 102) rfl (by kernel_rfl) _ rfl HV.out (by simp)) rfl ⟨rfl, HB7.out⟩
end Go.Proofs.Ytmoldkdidhnahaa
