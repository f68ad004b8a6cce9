/- SidesOf and EdgeLong, of both; the law on SidesOf. -/
import Derived.Test.YthpfejbigdjhlaaISides
import Derived.Test.YthpfejbigdjhlaaSSides
namespace Go.Proofs.Ythpfejbigdjhlaa
open Go.RowKit
set_option linter.unusedVariables false
attribute [local go_sem ↓] loadRow loadGrid loadLawn loadMirror storeRow storeGrid storeLawn allocRow allocGrid allocLawn buildZero buildSides loadSd storeSd allocSd buildSd

theorem sidesOfL_yes {L : Lawn} (hv : validB L = true) : ∃ Wn Hn : Nat, (Wn ≤ 10 ∧ Hn ≤ 10) ∧ (1 ≤ Wn ∧ 1 ≤ Hn) ∧ L.wide = Wn ∧ L.high = Hn ∧ sidesOfL L = allS L Wn Hn := by
  obtain ⟨Wn, Hn, h1, h2, h3, h4⟩ := valid_sides hv
  refine ⟨Wn, Hn, h1, h2, h3, h4, ?_⟩
  unfold sidesOfL
  rw [if_pos hv, h3, h4]
  rfl
theorem sidesOfL_no {L : Lawn} (hv : validB L = false) : sidesOfL L = fun _ => 0 := by unfold sidesOfL; rw [hv]; rfl
theorem sidesOfL_bound (L : Lawn) (j : Nat) : 0 ≤ sidesOfL L j ∧ sidesOfL L j ≤ 400 := by
  cases hv : validB L
  case false => rw [sidesOfL_no hv]; exact ⟨Int.le_refl 0, (by decide : (0 : Int) ≤ 400)⟩
  case true =>
    obtain ⟨Wn, Hn, ⟨h1, h1'⟩, h2, h3, h4, h5⟩ := sidesOfL_yes hv
    rw [h5]
    exact grassS_bound L Wn Hn _ (by rw [allC_length]; exact Nat.le_trans (Nat.mul_le_mul h1' h1) (by omega)) j
/-- All sides, told by the program's and by the model's function. -/
theorem allSides_any (L : Lawn) (hL : L.Fits) (hv : validB L = true) (w : World) :
    Calls Try.prog 55 #[.agg L.cells] w fun e w' => e = .returned (.agg (sdV (sidesOfL L))) ∧ Below w.heap.size w w' := by
  obtain ⟨Wn, Hn, ⟨h1, h1'⟩, h2, h3, h4, h5⟩ := sidesOfL_yes hv
  rw [h5]
  exact allSides_loop Wn Hn h1 h1' L h3 h4 hL hv w
theorem specAll_any (L : Lawn) (hL : L.Fits) (hv : validB L = true) (b : Nat) (w : World) (h : Holds w b L.cells) :
    Calls Try.prog 52 #[.pointer (some ⟨b, 0, none⟩)] w fun e w' => e = .returned (.agg (sdV (sidesOfL L))) ∧ Below w.heap.size w w' := by
  obtain ⟨Wn, Hn, ⟨h1, h1'⟩, ⟨h2, h2'⟩, h3, h4, h5⟩ := sidesOfL_yes hv
  rw [h5]
  exact l05All_any Wn Hn h1 h1' h2 h2' L hL hv h3 h4 b w h

set_option maxRecDepth 100000 in
set_option maxHeartbeats 1000000 in
theorem implSidesOf_any (L : Lawn) (hL : L.Fits) (w : World) :
    Calls Try.prog 17 #[.agg L.cells] w fun e w' => e = .returned (.tuple #[.agg (sdV (sidesOfL L)), .int .i64 (validC L)]) ∧ Below w.heap.size w w' := by
  have HI := Lib.hid (implValid_any L hL)
  cases hv : validB L
  all_goals
    have HC : Hid (validC L = _) := Lib.hid (by simp [validC, hv]; rfl)
    rw [hv] at HI
  case false =>
    have HE := Lib.hid (sidesOfL_no hv)
    clear hv hL
    go_enter Try.func17, Try.ntmps17
    go_wp2_with fail
    have g1 : Holds ((w.alloc (.cells L.cells 31)).alloc (.cells (sdV fun _ => 0) 28)) (w.heap.size + 1) (sdV fun _ => 0) := Holds.new' _ _ _ _ (by simp)
    have hb0 : Below w.heap.size w ((w.alloc (.cells L.cells 31)).alloc (.cells (sdV fun _ => 0) 28)) := ((Below.refl w.heap.size w).alloc (Nat.le_refl _) _).alloc (by simp) _
    refine (HI.out _).mono ?_
    rintro e w1 ⟨rfl, hb1⟩
    have g2 := g1.below hb1 g1.lt
    have hb2 := below_onto hb0 hb1
    obtain ⟨rr, fr, -, -, -⟩ := g2.facts
    have g3 := g2.setRow (sdV fun _ => 0)
    clear hb0 hb1 g1
    go_wp2_with fail
    exact bodyPost_ret (results_cell_tmp_holds rfl wideSd _ rfl g3 rfl) rfl ⟨by rw [HE.out, HC.out]; rfl, below_setRow hb2 _ (by omega) _⟩
  case true =>
    have HA := Lib.hid (allSides_any L hL hv)
    clear hv hL
    go_enter Try.func17, Try.ntmps17
    go_wp2_with fail
    have g0 : Holds ((w.alloc (.cells L.cells 31)).alloc (.cells (sdV fun _ => 0) 28)) w.heap.size L.cells := (Holds.new _ _ _).alloc _
    have g1 : Holds ((w.alloc (.cells L.cells 31)).alloc (.cells (sdV fun _ => 0) 28)) (w.heap.size + 1) (sdV fun _ => 0) := Holds.new' _ _ _ _ (by simp)
    have hb0 : Below w.heap.size w ((w.alloc (.cells L.cells 31)).alloc (.cells (sdV fun _ => 0) 28)) := ((Below.refl w.heap.size w).alloc (Nat.le_refl _) _).alloc (by simp) _
    refine (HI.out _).mono ?_
    rintro e w1 ⟨rfl, hb1⟩
    have g2 := g1.below hb1 g1.lt
    have k2 := g0.below hb1 g0.lt
    have hb2 := below_onto hb0 hb1
    obtain ⟨r0, -, -, -, -⟩ := k2.facts
    clear hb0 hb1 g1 g0
    go_wp2_with fail
    refine (HA.out _).mono ?_
    rintro e w2 ⟨rfl, hb1⟩
    have g3 := g2.below hb1 g2.lt
    have hb3 := below_onto hb2 hb1
    obtain ⟨rr, fr, -, -, -⟩ := g3.facts
    have g4 := g3.setRow (sdV (sidesOfL L))
    clear hb2 hb1 g2 k2 r0
    go_wp2_with fail
    exact bodyPost_ret (results_cell_tmp_holds rfl wideSd _ rfl g4 rfl) rfl ⟨by rw [HC.out]; rfl, below_setRow hb3 _ (by omega) _⟩

set_option maxRecDepth 100000 in
set_option maxHeartbeats 1000000 in
theorem specSidesOf_any (L : Lawn) (hL : L.Fits) (w : World) :
    Calls Try.prog 15 #[.agg L.cells] w fun e w' => e = .returned (.tuple #[.agg (sdV (sidesOfL L)), .int .i64 (validC L)]) ∧ Below w.heap.size w w' := by
  have HI := Lib.hid (fun (b : Nat) (w : World) (h : Holds w b L.cells) => l01Ok_any L hL b w h)
  cases hv : validB L
  all_goals
    have HC : Hid (validC L = _) := Lib.hid (by simp [validC, hv]; rfl)
    rw [hv] at HI
  case false =>
    have HE := Lib.hid (sidesOfL_no hv)
    clear hv hL
    go_enter Try.func15, Try.ntmps15
    go_wp2_with fail
    have g0 : Holds ((w.alloc (.cells L.cells 31)).alloc (.cells (sdV fun _ => 0) 28)) w.heap.size L.cells := (Holds.new _ _ _).alloc _
    have g1 : Holds ((w.alloc (.cells L.cells 31)).alloc (.cells (sdV fun _ => 0) 28)) (w.heap.size + 1) (sdV fun _ => 0) := Holds.new' _ _ _ _ (by simp)
    have hb0 : Below w.heap.size w ((w.alloc (.cells L.cells 31)).alloc (.cells (sdV fun _ => 0) 28)) := ((Below.refl w.heap.size w).alloc (Nat.le_refl _) _).alloc (by simp) _
    refine (HI.out _ _ g0).mono ?_
    rintro e w1 ⟨rfl, hb1⟩
    have g2 := g1.below hb1 g1.lt
    have hb2 := below_onto hb0 hb1
    obtain ⟨rr, fr, -, -, -⟩ := g2.facts
    have g3 := g2.setRow (sdV fun _ => 0)
    clear hb0 hb1 g1 g0
    go_wp2_with fail
    exact bodyPost_ret (results_cell_tmp_holds rfl wideSd _ rfl g3 rfl) rfl ⟨by rw [HE.out, HC.out]; rfl, below_setRow hb2 _ (by omega) _⟩
  case true =>
    have HA := Lib.hid (specAll_any L hL hv)
    clear hv hL
    go_enter Try.func15, Try.ntmps15
    go_wp2_with fail
    have g0 : Holds ((w.alloc (.cells L.cells 31)).alloc (.cells (sdV fun _ => 0) 28)) w.heap.size L.cells := (Holds.new _ _ _).alloc _
    have g1 : Holds ((w.alloc (.cells L.cells 31)).alloc (.cells (sdV fun _ => 0) 28)) (w.heap.size + 1) (sdV fun _ => 0) := Holds.new' _ _ _ _ (by simp)
    have hb0 : Below w.heap.size w ((w.alloc (.cells L.cells 31)).alloc (.cells (sdV fun _ => 0) 28)) := ((Below.refl w.heap.size w).alloc (Nat.le_refl _) _).alloc (by simp) _
    refine (HI.out _ _ g0).mono ?_
    rintro e w1 ⟨rfl, hb1⟩
    have g2 := g1.below hb1 g1.lt
    have k2 := g0.below hb1 g0.lt
    have hb2 := below_onto hb0 hb1
    clear hb0 hb1 g1 g0
    go_wp2_with fail
    refine (HA.out _ _ k2).mono ?_
    rintro e w2 ⟨rfl, hb1⟩
    have g3 := g2.below hb1 g2.lt
    have hb3 := below_onto hb2 hb1
    obtain ⟨rr, fr, -, -, -⟩ := g3.facts
    have g4 := g3.setRow (sdV (sidesOfL L))
    clear hb2 hb1 g2 k2
    go_wp2_with fail
    exact bodyPost_ret (results_cell_tmp_holds rfl wideSd _ rfl g4 rfl) rfl ⟨by rw [HC.out]; rfl, below_setRow hb3 _ (by omega) _⟩

set_option maxRecDepth 100000 in
set_option maxHeartbeats 1000000 in
theorem specEdge_any (L : Lawn) (hL : L.Fits) (hv : validB L = true) (b : Nat) (w : World) (h : Holds w b L.cells) :
    Calls Try.prog 56 #[.pointer (some ⟨b, 0, none⟩)] w fun e w' => e = .returned (.int .i64 (edgeZ (sidesOfL L))) ∧ Below w.heap.size w w' := by
  have HA := Lib.hid (specAll_any L hL hv b)
  have b1 := sidesOfL_bound L 1
  have b2 := sidesOfL_bound L 2
  have b3 := sidesOfL_bound L 3
  have b4 := sidesOfL_bound L 4
  obtain ⟨f, hf⟩ : ∃ f, sidesOfL L = f := ⟨_, rfl⟩
  rw [hf] at HA b1 b2 b3 b4 ⊢
  have e1 : IntKind.i64.wrap (f 1 + f 2) = f 1 + f 2 := IntWalk.i64_in _ (by omega)
  have e2 : IntKind.i64.wrap (f 1 + f 2 + f 3) = f 1 + f 2 + f 3 := IntWalk.i64_in _ (by omega)
  have e3 : IntKind.i64.wrap (f 1 + f 2 + f 3 + f 4) = f 1 + f 2 + f 3 + f 4 := IntWalk.i64_in _ (by omega)
  clear hf hv hL
  go_enter Try.func56, Try.ntmps56
  go_wp2_with fail
  refine (HA.out _ h).mono ?_
  rintro e w1 ⟨rfl, hb1⟩
  have g0 := Holds.new w1 (sdV f) 28
  have c1 := g0.sd 1 (by omega)
  have c2 := g0.sd 2 (by omega)
  have c3 := g0.sd 3 (by omega)
  have c4 := g0.sd 4 (by omega)
  have hb2 := hb1.alloc hb1.size (.cells (sdV f) 28)
  clear h g0 hb1
  go_wp2_with fail
  go_ret
  exact ⟨rfl, hb2⟩

set_option maxRecDepth 100000 in
set_option maxHeartbeats 1000000 in
theorem specEdgeLong_any (L : Lawn) (hL : L.Fits) (w : World) :
    Calls Try.prog 19 #[.agg L.cells] w fun e w' => e = .returned (.tuple #[.int .i64 (edgeZ (sidesOfL L)), .int .i64 (validC L)]) ∧ Below w.heap.size w w' := by
  have HI := Lib.hid (fun (b : Nat) (w : World) (h : Holds w b L.cells) => l01Ok_any L hL b w h)
  cases hv : validB L
  all_goals
    have HC : Hid (validC L = _) := Lib.hid (by simp [validC, hv]; rfl)
    rw [hv] at HI
  case false =>
    have HE := Lib.hid (show edgeZ (sidesOfL L) = 0 by rw [sidesOfL_no hv]; rfl)
    clear hv hL
    go_enter Try.func19, Try.ntmps19
    go_wp2_with fail
    refine (HI.out _ _ (Holds.new _ _ _)).mono ?_
    rintro e w1 ⟨rfl, hb1⟩
    have hb2 := below_onto ((Below.refl w.heap.size w).alloc (Nat.le_refl _) _) hb1
    clear hb1
    go_wp2_with fail
    go_ret2
    exact ⟨by rw [HE.out, HC.out]; rfl, hb2⟩
  case true =>
    have HA := Lib.hid (specEdge_any L hL hv)
    clear hv hL
    go_enter Try.func19, Try.ntmps19
    go_wp2_with fail
    have g0 := Holds.new w L.cells 31
    refine (HI.out _ _ g0).mono ?_
    rintro e w1 ⟨rfl, hb1⟩
    have hb2 := below_onto ((Below.refl w.heap.size w).alloc (Nat.le_refl _) _) hb1
    have g1 := g0.below hb1 g0.lt
    clear hb1 g0
    go_wp2_with fail
    refine (HA.out _ _ g1).mono ?_
    rintro e w2 ⟨rfl, hb1⟩
    have hb3 := below_onto hb2 hb1
    clear hb1 hb2 g1
    go_wp2_with fail
    go_ret2
    exact ⟨by rw [HC.out]; rfl, hb3⟩

set_option maxRecDepth 100000 in
set_option maxHeartbeats 1000000 in
theorem implEdgeLong_any (L : Lawn) (hL : L.Fits) (w : World) :
    Calls Try.prog 20 #[.agg L.cells] w fun e w' => e = .returned (.tuple #[.int .i64 (edgeZ (sidesOfL L)), .int .i64 (validC L)]) ∧ Below w.heap.size w w' := by
  have HI := Lib.hid (implSidesOf_any L hL)
  have HE := Lib.hid (edge_any (sidesOfL L) (fun j => by have := sidesOfL_bound L j; omega))
  clear hL
  go_enter Try.func20, Try.ntmps20
  go_wp2_with fail
  refine (HI.out _).mono ?_
  rintro e w1 ⟨rfl, hb1⟩
  have hb2 := below_onto ((Below.refl w.heap.size w).alloc (Nat.le_refl _) _) hb1
  have hb3 := hb2.alloc hb2.size (.cells (sdV (sidesOfL L)) 28)
  clear hb1 hb2
  go_wp2_with fail
  refine (HE.out _).mono ?_
  rintro e w2 ⟨rfl, hb1⟩
  have hb4 := below_onto hb3 hb1
  clear hb1 hb3
  go_wp2_with fail
  go_ret2
  exact ⟨rfl, hb4⟩

set_option maxRecDepth 100000 in
set_option maxHeartbeats 1000000 in
theorem eqSides_same (f : Sd) (w : World) :
    Calls Try.prog 18 #[.agg (sdV f), .agg (sdV f)] w fun e w' => e = .returned (.bool true) ∧ Below w.heap.size w w' := by
  go_enter Try.func18, Try.ntmps18
  go_wp2_with fail
  obtain ⟨W0, hW0⟩ : ∃ W0, (w.alloc (.cells (sdV f) 28)).alloc (.cells (sdV f) 28) = W0 := ⟨_, rfl⟩
  have g0 : Holds W0 w.heap.size (sdV f) := by rw [← hW0]; exact (Holds.new _ _ _).alloc _
  have g1 : Holds W0 (w.heap.size + 1) (sdV f) := by rw [← hW0]; exact Holds.new' _ _ _ _ (by simp)
  have hb0 : Below w.heap.size w W0 := by rw [← hW0]; exact ((Below.refl w.heap.size w).alloc (Nat.le_refl _) _).alloc (by simp) _
  rw [hW0]
  clear hW0
  go_loopw [5] (fun q wr => ∃ k : Nat, k ≤ 5 ∧ q = .int .i64 k ∧ Below W0.heap.size W0 wr) (fun q _ => 5 - (intOf q).toNat)
  case atStart => exact ⟨0, by omega, rfl, Below.refl _ _⟩
  case round =>
    obtain ⟨k, hk, rfl, hb⟩ := hrel
    by_cases hlt : k < 5
    · have hd : decide ((k : Int) < (5 : Int)) = true := by simp; omega
      have c0 := (g0.below hb g0.lt).sd k hlt
      have c1 := (g1.below hb g1.lt).sd k hlt
      go_wp2_with fail
      go_quiet (fail)
      go_wp2_with fail
      go_roundw
      case rel => exact ⟨k + 1, by omega, by go_num, below_drewN hb _⟩
      case measure => simp [intOf]; omega
    · obtain rfl : k = 5 := by omega
      have hd : decide (((5 : Nat) : Int) < (5 : Int)) = false := by decide
      go_wp2_with fail
      go_ret
      exact ⟨rfl, below_onto hb0 hb⟩

set_option maxRecDepth 100000 in
set_option maxHeartbeats 1000000 in
theorem exactSidesOf (A : Lawn) (hA : A.Fits) (w : World) :
    Calls Try.prog 3 #[.agg A.cells] w fun e w' => e = .returned (.bool true) ∧ Below w.heap.size w w' := by
  have HI := implSidesOf_any A hA
  have HS := specSidesOf_any A hA
  obtain ⟨f, hf⟩ : ∃ f, sidesOfL A = f := ⟨_, rfl⟩
  obtain ⟨m, hm⟩ : ∃ m, validC A = m := ⟨_, rfl⟩
  rw [hf, hm] at HI HS
  have HI' := Lib.hid HI
  have HS' := Lib.hid HS
  clear HI HS hf hm hA
  go_enter Try.func3, Try.ntmps3
  go_wp2_with fail
  have g0 : Holds (w.alloc (.cells A.cells 26)) w.heap.size A.cells := (Holds.new _ _ _)
  have hb : Below w.heap.size w (w.alloc (.cells A.cells 26)) := (Below.refl _ _).alloc (Nat.le_refl _) _
  obtain ⟨W, hW⟩ : ∃ W, w.alloc (.cells A.cells 26) = W := ⟨_, rfl⟩
  rw [hW] at g0 hb ⊢
  clear hW
  refine (toLawn_any _ _).mono ?_
  rintro e w1 ⟨rfl, hb1⟩
  go_wp2_with fail
  refine (HS'.out _).mono ?_
  rintro e w2 ⟨rfl, hb2⟩
  have hb3 := below_onto hb1 hb2
  have hb4 := below_onto hb hb3
  have g1 := g0.below hb3 g0.lt
  clear hb hb1 hb2 hb3 g0
  have g2 := Holds.new w2 (sdV f) 28
  have hb5 := hb4.alloc hb4.size (.cells (sdV f) 28)
  obtain ⟨r1, -, -, -, l1⟩ := g1.facts
  clear hb4 g1
  go_wp2_with fail
  refine (toLawn_any _ _).mono ?_
  rintro e w3 ⟨rfl, hb1⟩
  go_wp2_with fail
  refine (HI'.out _).mono ?_
  rintro e w4 ⟨rfl, hb2⟩
  have hb3 := below_onto hb1 hb2
  have hb6 := below_onto hb5 hb3
  have g4 := g2.below hb3 g2.lt
  have g5 := Holds.new w4 (sdV f) 28
  have g6 := g4.alloc (.cells (sdV f) 28)
  have hb7 := hb6.alloc hb6.size (.cells (sdV f) 28)
  obtain ⟨r5, -⟩ := g5.facts
  obtain ⟨r6, -⟩ := g6.facts
  clear hb1 hb2 hb3 hb5 hb6 g2 g4 r1 l1
  go_wp2_with fail
  refine (eqSides_same _ _).mono ?_
  rintro e w5 ⟨rfl, hb8⟩
  have hb9 := below_onto hb7 hb8
  clear hb7 hb8 r5 r6 g5 g6
  go_wp2_with fail
  go_ret
  exact ⟨rfl, hb9⟩
end Go.Proofs.Ythpfejbigdjhlaa
