/- SetCell, of the program and of the model. -/
import Derived.Test.YtognggcajjbfiaaKindAt
import Derived.Test.YtognggcajjbfiaaGrowA
namespace Go.Proofs.Ytognggcajjbfiaa
open Go.RowKit
attribute [local go_sem ↓] loadRow loadGrid loadLawn loadMirror storeRow storeGrid storeLawn allocRow allocGrid allocLawn buildZero buildSides

/-- A lawn with another kind at a place. -/
def Lawn.put (L : Lawn) (y x : Nat) (k : Int) : Lawn := { L with kind := fun a b => if a = y ∧ b = x then k else L.kind a b }
theorem Lawn.cells_put (L : Lawn) (y x : Nat) (hy : y < 10) (hx : x < 10) (k : Int) : L.cells.setIfInBounds (2 + y * 10 + x) (.int .u8 k) = (L.put y x k).cells := by
  apply Array.ext_getElem?
  intro j
  rw [Array.getElem?_setIfInBounds]
  match j with
  | 0 => rw [if_neg (by omega), Lawn.cells_0, Lawn.cells_0]; rfl
  | 1 => rw [if_neg (by omega), Lawn.cells_1, Lawn.cells_1]; rfl
  | j + 2 =>
    by_cases hj : j < 100
    · have h1 := Lawn.cells_get L (j / 10) (j % 10) (by omega) (by omega)
      have h2 := Lawn.cells_get (L.put y x k) (j / 10) (j % 10) (by omega) (by omega)
      rw [show 2 + j / 10 * 10 + j % 10 = j + 2 by omega] at h1 h2
      rw [h1, h2]
      simp only [Lawn.put]
      by_cases e : j = y * 10 + x
      · rw [if_pos (by omega), if_pos (by rw [Lawn.cells_size]; omega), if_pos (by omega)]
      · rw [if_neg (by omega), if_neg (by omega)]
    · rw [if_neg (by omega), Array.getElem?_eq_none (by simp; omega), Array.getElem?_eq_none (by simp; omega)]

/-- What SetCell answers. -/
def setV (L : Lawn) (x y k : Int) : Value :=
  if told (validB L) (isB L x y && inB k 0 3) = 0 then .tuple #[.agg (L.put y.toNat x.toNat k).cells, .int .i64 0] else .tuple #[.agg Lawn.zero.cells, .int .i64 (told (validB L) (isB L x y && inB k 0 3))]

set_option maxRecDepth 100000 in
set_option maxHeartbeats 1000000 in
theorem implSet_any (L : Lawn) (hL : L.Fits) (x y k : Int) (w : World) :
    Calls Try.prog 46 #[.agg L.cells, .agg #[.int .i8 x, .int .i8 y], .int .i64 k] w fun e w' => e = .returned (setV L x y k) ∧ Below w.heap.size w w' := by
  have HL := Lib.hid hL
  clear hL
  obtain ⟨v, hv⟩ : ∃ v, validB L = v := ⟨_, rfl⟩
  obtain ⟨f, hf⟩ : ∃ f, isB L x y = f := ⟨_, rfl⟩
  obtain ⟨g, hg⟩ : ∃ g, inB k 0 3 = g := ⟨_, rfl⟩
  have HV := Lib.hid hv
  have HF := Lib.hid hf
  have HG := Lib.hid hg
  have HK := Lib.hid (show setV L x y k = if told v (f && g) = 0 then .tuple #[.agg (L.put y.toNat x.toNat k).cells, .int .i64 0] else .tuple #[.agg Lawn.zero.cells, .int .i64 (told v (f && g))] by simp only [setV, hv, hf, hg])
  clear hv hf hg
  go_enter Try.func46, Try.ntmps46
  go_wp2_with fail
  have g0 := (((Holds.new w L.cells 28).alloc (.cells #[.int .i8 x, .int .i8 y] 35)).alloc (.cells (Lawn.cells ⟨0, 0, fun _ _ => 0⟩) 28)).alloc (.cells #[.int .i8 x, .int .i8 y] 35)
  have c0 := ((Holds.new' (w.alloc (.cells L.cells 28)) #[.int .i8 x, .int .i8 y] 35 (w.heap.size + 1) (by simp)).alloc (.cells (Lawn.cells ⟨0, 0, fun _ _ => 0⟩) 28)).alloc (.cells #[.int .i8 x, .int .i8 y] 35)
  have z0 := (Holds.new' ((w.alloc (.cells L.cells 28)).alloc (.cells #[.int .i8 x, .int .i8 y] 35)) (Lawn.cells ⟨0, 0, fun _ _ => 0⟩) 28 (w.heap.size + 1 + 1) (by simp)).alloc (.cells #[.int .i8 x, .int .i8 y] 35)
  have s0 := Holds.new' (((w.alloc (.cells L.cells 28)).alloc (.cells #[.int .i8 x, .int .i8 y] 35)).alloc (.cells (Lawn.cells ⟨0, 0, fun _ _ => 0⟩) 28)) #[.int .i8 x, .int .i8 y] 35 (w.heap.size + 1 + 1 + 1) (by simp)
  have hb := ((((Below.refl w.heap.size w).alloc (Nat.le_refl _) (.cells L.cells 28)).alloc (by simp) (.cells #[.int .i8 x, .int .i8 y] 35)).alloc (by simp; omega) (.cells (Lawn.cells ⟨0, 0, fun _ _ => 0⟩) 28)).alloc (by simp; omega) (.cells #[.int .i8 x, .int .i8 y] 35)
  obtain ⟨W0, hW⟩ : ∃ W0, (((w.alloc (.cells L.cells 28)).alloc (.cells #[.int .i8 x, .int .i8 y] 35)).alloc (.cells (Lawn.cells ⟨0, 0, fun _ _ => 0⟩) 28)).alloc (.cells #[.int .i8 x, .int .i8 y] 35) = W0 := ⟨_, rfl⟩
  rw [hW] at g0 c0 z0 s0 hb ⊢
  clear hW
  refine (check_any L HL.out x y _ _ s0).mono ?_
  rw [HV.out, HF.out]
  rintro e w1 ⟨rfl, hb1⟩
  have g1 := g0.below hb1 g0.lt
  have c1 := c0.below hb1 c0.lt
  have z1 := z0.below hb1 z0.lt
  have hb3 := below_onto hb hb1
  clear hb hb1 g0 c0 z0 s0 W0
  obtain ⟨-, -, c1', -, l2⟩ := c1.facts
  obtain ⟨r1, f1, -, -, l1⟩ := g1.facts
  obtain ⟨r3, f3, -, -, l3⟩ := z1.facts
  cases v <;> cases f
  case true.true =>
    cases g
    case false =>
      simp only [told, if_true]
      go_wp2_with (go_at_call 96; refine (kind_is _ _ HG.out _).mono ?_; rintro e w1 ⟨rfl, rfl⟩)
      refine bodyPost_ret (results_cell_tmp_holds rfl wideLawn _ rfl (z1.setRow _) (by simp)) rfl ⟨by rw [HK.out]; rfl, below_setRow' hb3 (by omega) _⟩
    case true =>
      obtain ⟨i, j, hi, hj, rfl, rfl⟩ := cell_nat HV.out HF.out
      obtain ⟨k0, k1⟩ := inB_true HG.out
      have hwr : IntKind.u8.wrap k = k := IntWalk.u8_in _ (by omega)
      have hx0 : (0 : Int) ≤ i := by omega
      have hx1 : (i : Int) < 10 := by omega
      have hy0 : (0 : Int) ≤ j := by omega
      have hy1 : (j : Int) < 10 := by omega
      simp only [told, if_true]
      go_wp2_with (go_at_call 96; refine (kind_is _ _ HG.out _).mono ?_; rintro e w1 ⟨rfl, rfl⟩)
      clear r1 c1' r3 f1 f3 l1 l2 l3
      have s0 := c1.later.2
      refine wp_region_grow 9 (by kernel_rfl) (by kernel_rfl) ?_
      simp only [List.take_succ_cons, List.take_zero, List.drop_succ_cons, List.drop_zero]
      iterate 9
        apply wpGrow_plain rfl
        · intro w' hw' K hK
          have s1 := s0 _ hw'
          go_wp2_with fail
          exact hK _ _ rfl hw'
        simp only [Act.put, List.setIfInBounds_toArray, List.set_cons_succ, List.set_cons_zero]
      refine wpGrow_nil ?_
      intro W2 hW2
      have hb2 := below_onto hb3 hW2
      have g2 := g1.below hW2 g1.lt
      have z2 := z1.below hW2 z1.lt
      clear hW2 g1 c1 z1 s0 hb3
      have g3 := g2.setCell (2 + j * 10 + i) (.int .u8 k)
      rw [Lawn.cells_put L j i hj hi k] at g3
      have z3 := z2.setCell_other ⟨w.heap.size, 2 + j * 10 + i, none⟩ (.int .u8 k) (by simp; omega)
      have l1 := g2.lt
      have l3 := z2.lt
      have f1 := g2.free (2 + j * 10 + i)
      have ch : W2.cell? ⟨w.heap.size, 2 + j * 10 + i, none⟩ = some (.int .u8 (L.kind j i)) := by rw [g2.cell, Lawn.cells_get L j i hj hi]
      obtain ⟨r3, f3, -, -, -⟩ := g3.facts
      obtain ⟨r4, f4, -, -, -⟩ := z3.facts
      go_wp2_with fail
      refine bodyPost_ret (results_cell_tmp_holds rfl wideLawn _ rfl (z3.setRow _) (by simp)) rfl ⟨by rw [HK.out]; rfl, below_setRow' (hb2.setCell (by simp) _) (by omega) _⟩
  all_goals
    simp only [told, if_true, Bool.false_eq_true, if_false]
    go_wp2_with fail
    refine bodyPost_ret (results_cell_tmp_holds rfl wideLawn _ rfl (z1.setRow _) (by simp)) rfl ⟨by rw [HK.out]; rfl, below_setRow' hb3 (by omega) _⟩
set_option maxRecDepth 100000 in
set_option maxHeartbeats 1000000 in
theorem specSet_any (L : Lawn) (hL : L.Fits) (x y k : Int) (x0 : -128 ≤ x) (x1 : x ≤ 127) (y0 : -128 ≤ y) (y1 : y ≤ 127) (w : World) :
    Calls Try.prog 45 #[.agg L.cells, .agg #[.int .i8 x, .int .i8 y], .int .i64 k] w fun e w' => e = .returned (setV L x y k) ∧ Below w.heap.size w w' := by
  have HL := Lib.hid hL
  clear hL
  obtain ⟨v, hv⟩ : ∃ v, validB L = v := ⟨_, rfl⟩
  obtain ⟨f, hf⟩ : ∃ f, isB L x y = f := ⟨_, rfl⟩
  obtain ⟨g, hg⟩ : ∃ g, inB k 0 3 = g := ⟨_, rfl⟩
  have HV := Lib.hid hv
  have HF := Lib.hid hf
  have HG := Lib.hid hg
  have HK := Lib.hid (show setV L x y k = if told v (f && g) = 0 then .tuple #[.agg (L.put y.toNat x.toNat k).cells, .int .i64 0] else .tuple #[.agg Lawn.zero.cells, .int .i64 (told v (f && g))] by simp only [setV, hv, hf, hg])
  clear hv hf hg
  go_enter Try.func45, Try.ntmps45
  go_wp2_with fail
  have g0 := ((Holds.new w L.cells 28).alloc (.cells #[.int .i8 x, .int .i8 y] 35)).alloc (.cells (Lawn.cells ⟨0, 0, fun _ _ => 0⟩) 28)
  have c0 := (Holds.new' (w.alloc (.cells L.cells 28)) #[.int .i8 x, .int .i8 y] 35 (w.heap.size + 1) (by simp)).alloc (.cells (Lawn.cells ⟨0, 0, fun _ _ => 0⟩) 28)
  have z0 := Holds.new' ((w.alloc (.cells L.cells 28)).alloc (.cells #[.int .i8 x, .int .i8 y] 35)) (Lawn.cells ⟨0, 0, fun _ _ => 0⟩) 28 (w.heap.size + 1 + 1) (by simp)
  have hb := (((Below.refl w.heap.size w).alloc (Nat.le_refl _) (.cells L.cells 28)).alloc (by simp) (.cells #[.int .i8 x, .int .i8 y] 35)).alloc (by simp; omega) (.cells (Lawn.cells ⟨0, 0, fun _ _ => 0⟩) 28)
  obtain ⟨W0, hW⟩ : ∃ W0, ((w.alloc (.cells L.cells 28)).alloc (.cells #[.int .i8 x, .int .i8 y] 35)).alloc (.cells (Lawn.cells ⟨0, 0, fun _ _ => 0⟩) 28) = W0 := ⟨_, rfl⟩
  rw [hW] at g0 c0 z0 hb ⊢
  clear hW
  refine (l01Is_is L HL.out w.heap.size _ _ _ g0 (by omega) (by omega) (by omega) (by omega) _ HF.out).mono ?_
  rintro e w1 ⟨rfl, hb1⟩
  have g1 := g0.below hb1 g0.lt
  have c1 := c0.below hb1 c0.lt
  have z1 := z0.below hb1 z0.lt
  have hb3 := below_onto hb hb1
  clear hb hb1 g0 c0 z0 W0
  have HT : ∀ w' : World, Below w1.heap.size w1 w' → Calls Try.prog 87 #[.pointer (some ⟨w.heap.size, 0, none⟩), .bool (f && g)] w' fun e w'' => e = .returned (.int .i64 (told v (f && g))) ∧ Below w'.heap.size w' w'' := fun w' hb => HV.out ▸ told_any L HL.out w.heap.size w' (g1.below hb g1.lt) (f && g)
  have HT' := Lib.hid HT
  clear HT
  cases f
  all_goals
    simp only [Bool.false_and, Bool.true_and] at HT' HK
    go_wp2_with (go_at_call 88; refine (l01Kind_is _ _ HG.out _).mono ?_; rintro e w1 ⟨rfl, rfl⟩)
    refine (HT'.out _ (Below.refl _ _)).mono ?_
    rintro e w2 ⟨rfl, hb1⟩
    have gg := g1.below hb1 g1.lt
    have c2 := c1.below hb1 c1.lt
    have zz := z1.below hb1 z1.lt
    have hb4 := below_onto hb3 hb1
    clear hb3 hb1 g1 c1 z1 HT'
    obtain ⟨-, -, c1', -, l2⟩ := c2.facts
    obtain ⟨r1, f1, -, -, l1⟩ := gg.facts
    obtain ⟨r3, f3, -, -, l3⟩ := zz.facts
  · cases v
    all_goals
      simp only [told, if_true, Bool.false_eq_true, if_false]
      go_wp2_with fail
      refine bodyPost_ret (results_cell_tmp_holds rfl wideLawn _ rfl (zz.setRow _) (by simp)) rfl ⟨by rw [HK.out]; rfl, below_setRow' hb4 (by omega) _⟩
  · cases v <;> cases g
    case true.true =>
      obtain ⟨i, j, hi, hj, rfl, rfl⟩ := cell_nat HV.out HF.out
      obtain ⟨k0, k1⟩ := inB_true HG.out
      have hwr : IntKind.u8.wrap k = k := IntWalk.u8_in _ (by omega)
      have hx0 : (0 : Int) ≤ i := by omega
      have hx1 : (i : Int) < 10 := by omega
      have hy0 : (0 : Int) ≤ j := by omega
      have hy1 : (j : Int) < 10 := by omega
      simp only [told, if_true]
      go_wp2_with fail
      clear r1 c1' r3 f1 f3 l1 l2 l3
      have s0 := c2.later.2
      refine wp_region_grow 9 (by kernel_rfl) (by kernel_rfl) ?_
      simp only [List.take_succ_cons, List.take_zero, List.drop_succ_cons, List.drop_zero]
      iterate 9
        apply wpGrow_plain rfl
        · intro w' hw' K hK
          have s1 := s0 _ hw'
          go_wp2_with fail
          exact hK _ _ rfl hw'
        simp only [Act.put, List.setIfInBounds_toArray, List.set_cons_succ, List.set_cons_zero]
      refine wpGrow_nil ?_
      intro W2 hW2
      have hb2 := below_onto hb4 hW2
      have g2 := gg.below hW2 gg.lt
      have z2 := zz.below hW2 zz.lt
      clear hW2 gg c2 zz s0 hb4
      have g3 := g2.setCell (2 + j * 10 + i) (.int .u8 k)
      rw [Lawn.cells_put L j i hj hi k] at g3
      have z3 := z2.setCell_other ⟨w.heap.size, 2 + j * 10 + i, none⟩ (.int .u8 k) (by simp; omega)
      have l1 := g2.lt
      have l3 := z2.lt
      have f1 := g2.free (2 + j * 10 + i)
      have ch : W2.cell? ⟨w.heap.size, 2 + j * 10 + i, none⟩ = some (.int .u8 (L.kind j i)) := by rw [g2.cell, Lawn.cells_get L j i hj hi]
      obtain ⟨r3, f3, -, -, -⟩ := g3.facts
      obtain ⟨r4, f4, -, -, -⟩ := z3.facts
      go_wp2_with fail
      refine bodyPost_ret (results_cell_tmp_holds rfl wideLawn _ rfl (z3.setRow _) (by simp)) rfl ⟨by rw [HK.out]; rfl, below_setRow' (hb2.setCell (by simp) _) (by omega) _⟩
    all_goals
      simp only [told, if_true, Bool.false_eq_true, if_false]
      go_wp2_with fail
      refine bodyPost_ret (results_cell_tmp_holds rfl wideLawn _ rfl (zz.setRow _) (by simp)) rfl ⟨by rw [HK.out]; rfl, below_setRow' hb4 (by omega) _⟩

set_option maxRecDepth 100000 in
set_option maxHeartbeats 2000000 in
/-- The law on SetCell answers true. -/
theorem exactSetCell (A : Lawn) (hA : A.Fits) (c : Int × Int) (hc : (-128 ≤ c.1 ∧ c.1 ≤ 127) ∧ -128 ≤ c.2 ∧ c.2 ≤ 127) (k : Int) (w : World) :
    Calls Try.prog 8 #[.agg A.cells, .agg #[.int .i8 c.1, .int .i8 c.2], .int .i64 k] w fun e w' => e = .returned (.bool true) ∧ Below w.heap.size w w' := by
  obtain ⟨x, y⟩ := c
  simp only at hc ⊢
  obtain ⟨R, m, hv⟩ : ∃ (R : Lawn) (m : Int), setV A x y k = .tuple #[.agg R.cells, .int .i64 m] := by unfold setV; split <;> exact ⟨_, _, rfl⟩
  have HI : ∀ w : World, Calls Try.prog 46 #[.agg A.cells, .agg #[.int .i8 x, .int .i8 y], .int .i64 k] w fun e w' => e = .returned (.tuple #[.agg R.cells, .int .i64 m]) ∧ Below w.heap.size w w' := fun w => hv ▸ implSet_any A hA x y k w
  have HS : ∀ w : World, Calls Try.prog 45 #[.agg A.cells, .agg #[.int .i8 x, .int .i8 y], .int .i64 k] w fun e w' => e = .returned (.tuple #[.agg R.cells, .int .i64 m]) ∧ Below w.heap.size w w' := fun w => hv ▸ specSet_any A hA x y k hc.1.1 hc.1.2 hc.2.1 hc.2.2 w
  clear hv hA hc
  have HI' := Lib.hid HI
  have HS' := Lib.hid HS
  clear HI HS
  go_enter Try.func8, Try.ntmps8
  go_wp2_with fail
  have g0 : Holds ((w.alloc (.cells A.cells 51)).alloc (.cells #[.int .i8 x, .int .i8 y] 60)) w.heap.size A.cells := (Holds.new _ _ _).alloc _
  have c0 : Holds ((w.alloc (.cells A.cells 51)).alloc (.cells #[.int .i8 x, .int .i8 y] 60)) (w.heap.size + 1) #[.int .i8 x, .int .i8 y] := Holds.new' _ _ _ _ (by simp)
  have hb : Below w.heap.size w ((w.alloc (.cells A.cells 51)).alloc (.cells #[.int .i8 x, .int .i8 y] 60)) := ((Below.refl _ _).alloc (Nat.le_refl _) _).alloc (by simp) _
  obtain ⟨W, hW⟩ : ∃ W, (w.alloc (.cells A.cells 51)).alloc (.cells #[.int .i8 x, .int .i8 y] 60) = W := ⟨_, rfl⟩
  rw [hW] at g0 c0 hb ⊢
  clear hW
  obtain ⟨r0, -⟩ := g0.later
  obtain ⟨-, s0⟩ := c0.later
  refine wp_region_growA 11 9 10 (Lawn.cells ⟨0, 0, fun _ _ => 0⟩) R.cells 28 [.agg A.cells, .agg A.cells, .agg #[.int .i8 x, .int .i8 y], .agg #[.int .i8 x, .int .i8 y], .int .i64 k, .tuple #[.agg R.cells, .int .i64 m], .tuple #[.agg R.cells, .int .i64 m], .agg R.cells, .int .i64 m] (by kernel_rfl) (by kernel_rfl) (by kernel_rfl) ?_
  intro p
  simp only [List.take_succ_cons, List.take_zero, List.drop_succ_cons, List.drop_zero]
  refine seqA_other (v := .agg A.cells) rfl rfl rfl rfl ?_ ?_
  · intro w' hw' K hK
    go_wp2_with fail
    exact hK _ _ rfl (Below.refl _ _)
  simp only [Act.put, List.setIfInBounds_toArray, List.set_cons_succ, List.set_cons_zero]
  refine seqA_other (v := .agg A.cells) rfl rfl rfl rfl ?_ ?_
  · intro w' hw' K hK
    go_wp2_with (go_at_call 36; refine (toLawn_any _ _).mono ?_; rintro e w1 ⟨rfl, hb1⟩)
    exact hK _ _ rfl hb1
  simp only [Act.put, List.setIfInBounds_toArray, List.set_cons_succ, List.set_cons_zero]
  refine seqA_other (v := .agg #[.int .i8 x, .int .i8 y]) rfl rfl rfl rfl ?_ ?_
  · intro w' hw' K hK
    have s1 := s0 _ hw'
    go_wp2_with fail
    exact hK _ _ rfl (Below.refl _ _)
  simp only [Act.put, List.setIfInBounds_toArray, List.set_cons_succ, List.set_cons_zero]
  refine seqA_other (v := .agg #[.int .i8 x, .int .i8 y]) rfl rfl rfl rfl ?_ ?_
  · intro w' hw' K hK
    go_wp2_with (go_at_call 44; refine (toCell_any _ _ _).mono ?_; rintro e w1 ⟨rfl, hb1⟩)
    exact hK _ _ rfl hb1
  simp only [Act.put, List.setIfInBounds_toArray, List.set_cons_succ, List.set_cons_zero]
  refine seqA_other (v := .int .i64 k) rfl rfl rfl rfl ?_ ?_
  · intro w' hw' K hK
    go_wp2_with fail
    exact hK _ _ rfl (Below.refl _ _)
  simp only [Act.put, List.setIfInBounds_toArray, List.set_cons_succ, List.set_cons_zero]
  refine seqA_other (v := .tuple #[.agg R.cells, .int .i64 m]) rfl rfl rfl rfl ?_ ?_
  · intro w' hw' K hK
    go_wp2_with (first | (go_at_call 45; refine (HS'.out _).mono ?_; rintro e w1 ⟨rfl, hb1⟩) | (go_at_call 46; refine (HI'.out _).mono ?_; rintro e w1 ⟨rfl, hb1⟩))
    exact hK _ _ rfl hb1
  simp only [Act.put, List.setIfInBounds_toArray, List.set_cons_succ, List.set_cons_zero]
  refine seqA_other (v := .tuple #[.agg R.cells, .int .i64 m]) rfl rfl rfl rfl ?_ ?_
  · intro w' hw' K hK
    go_wp2_with fail
    exact hK _ _ rfl (Below.refl _ _)
  simp only [Act.put, List.setIfInBounds_toArray, List.set_cons_succ, List.set_cons_zero]
  refine seqA_other (v := .agg R.cells) rfl rfl rfl rfl ?_ ?_
  · intro w' hw' K hK
    go_wp2_with fail
    exact hK _ _ rfl (Below.refl _ _)
  simp only [Act.put, List.setIfInBounds_toArray, List.set_cons_succ, List.set_cons_zero]
  refine seqA_other (v := .int .i64 m) rfl rfl rfl rfl ?_ ?_
  · intro w' hw' K hK
    go_wp2_with fail
    exact hK _ _ rfl (Below.refl _ _)
  simp only [Act.put, List.setIfInBounds_toArray, List.set_cons_succ, List.set_cons_zero]
  refine seqA_make rfl rfl ?_ ?_
  · rintro w' rfl K hK
    go_wp2_with fail
  simp only [Act.put, List.setIfInBounds_toArray, List.set_cons_succ, List.set_cons_zero]
  refine seqA_store rfl rfl rfl rfl ?_ ?_
  · intro w' hp hH K hK
    have rp := hH.row
    have fp := hH.isFree
    have lp := hH.lt
    go_wp2_with fail
    exact hK
  refine seqA_nil ?_
  intro W2 hp hW2 h1
  have hb2 := below_onto hb hW2
  have g2 := g0.below hW2 g0.lt
  have c2 := c0.below hW2 c0.lt
  have hp1 : w.heap.size ≤ p := Nat.le_trans hb.size hp
  clear hW2 g0 c0 r0 s0 hb hp W
  obtain ⟨q, hq⟩ : ∃ q, p = q := ⟨_, rfl⟩
  rw [hq] at h1 hp1 ⊢
  clear hq p
  obtain ⟨r0, -⟩ := g2.later
  obtain ⟨-, s0⟩ := c2.later
  go_wp2_with fail
  refine wp_region_growA 11 9 10 (Lawn.cells ⟨0, 0, fun _ _ => 0⟩) R.cells 28 [.agg A.cells, .agg A.cells, .agg #[.int .i8 x, .int .i8 y], .agg #[.int .i8 x, .int .i8 y], .int .i64 k, .tuple #[.agg R.cells, .int .i64 m], .tuple #[.agg R.cells, .int .i64 m], .agg R.cells, .int .i64 m] (by kernel_rfl) (by kernel_rfl) (by kernel_rfl) ?_
  intro p
  simp only [List.take_succ_cons, List.take_zero, List.drop_succ_cons, List.drop_zero]
  refine seqA_other (v := .agg A.cells) rfl rfl rfl rfl ?_ ?_
  · intro w' hw' K hK
    go_wp2_with fail
    exact hK _ _ rfl (Below.refl _ _)
  simp only [Act.put, List.setIfInBounds_toArray, List.set_cons_succ, List.set_cons_zero]
  refine seqA_other (v := .agg A.cells) rfl rfl rfl rfl ?_ ?_
  · intro w' hw' K hK
    go_wp2_with (go_at_call 36; refine (toLawn_any _ _).mono ?_; rintro e w1 ⟨rfl, hb1⟩)
    exact hK _ _ rfl hb1
  simp only [Act.put, List.setIfInBounds_toArray, List.set_cons_succ, List.set_cons_zero]
  refine seqA_other (v := .agg #[.int .i8 x, .int .i8 y]) rfl rfl rfl rfl ?_ ?_
  · intro w' hw' K hK
    have s1 := s0 _ hw'
    go_wp2_with fail
    exact hK _ _ rfl (Below.refl _ _)
  simp only [Act.put, List.setIfInBounds_toArray, List.set_cons_succ, List.set_cons_zero]
  refine seqA_other (v := .agg #[.int .i8 x, .int .i8 y]) rfl rfl rfl rfl ?_ ?_
  · intro w' hw' K hK
    go_wp2_with (go_at_call 44; refine (toCell_any _ _ _).mono ?_; rintro e w1 ⟨rfl, hb1⟩)
    exact hK _ _ rfl hb1
  simp only [Act.put, List.setIfInBounds_toArray, List.set_cons_succ, List.set_cons_zero]
  refine seqA_other (v := .int .i64 k) rfl rfl rfl rfl ?_ ?_
  · intro w' hw' K hK
    go_wp2_with fail
    exact hK _ _ rfl (Below.refl _ _)
  simp only [Act.put, List.setIfInBounds_toArray, List.set_cons_succ, List.set_cons_zero]
  refine seqA_other (v := .tuple #[.agg R.cells, .int .i64 m]) rfl rfl rfl rfl ?_ ?_
  · intro w' hw' K hK
    go_wp2_with (first | (go_at_call 45; refine (HS'.out _).mono ?_; rintro e w1 ⟨rfl, hb1⟩) | (go_at_call 46; refine (HI'.out _).mono ?_; rintro e w1 ⟨rfl, hb1⟩))
    exact hK _ _ rfl hb1
  simp only [Act.put, List.setIfInBounds_toArray, List.set_cons_succ, List.set_cons_zero]
  refine seqA_other (v := .tuple #[.agg R.cells, .int .i64 m]) rfl rfl rfl rfl ?_ ?_
  · intro w' hw' K hK
    go_wp2_with fail
    exact hK _ _ rfl (Below.refl _ _)
  simp only [Act.put, List.setIfInBounds_toArray, List.set_cons_succ, List.set_cons_zero]
  refine seqA_other (v := .agg R.cells) rfl rfl rfl rfl ?_ ?_
  · intro w' hw' K hK
    go_wp2_with fail
    exact hK _ _ rfl (Below.refl _ _)
  simp only [Act.put, List.setIfInBounds_toArray, List.set_cons_succ, List.set_cons_zero]
  refine seqA_other (v := .int .i64 m) rfl rfl rfl rfl ?_ ?_
  · intro w' hw' K hK
    go_wp2_with fail
    exact hK _ _ rfl (Below.refl _ _)
  simp only [Act.put, List.setIfInBounds_toArray, List.set_cons_succ, List.set_cons_zero]
  refine seqA_make rfl rfl ?_ ?_
  · rintro w' rfl K hK
    go_wp2_with fail
  simp only [Act.put, List.setIfInBounds_toArray, List.set_cons_succ, List.set_cons_zero]
  refine seqA_store rfl rfl rfl rfl ?_ ?_
  · intro w' hp hH K hK
    have rp := hH.row
    have fp := hH.isFree
    have lp := hH.lt
    go_wp2_with fail
    exact hK
  refine seqA_nil ?_
  intro W3 hp hW3 h3
  have hb3 := below_onto hb2 hW3
  have h2 := h1.below hW3 h1.lt
  clear hW3 r0 s0 g2 c2 HI' HS' hb2 h1
  obtain ⟨ra, fa, -, -, la⟩ := h2.facts
  obtain ⟨rb, fb, -, -, lb⟩ := h3.facts
  go_wp2_with fail
  refine (eqLawn_same _ _).mono ?_
  rintro e w3 ⟨rfl, hb4⟩
  go_wp2_with fail
  go_ret
  exact ⟨rfl, below_onto hb3 hb4⟩
end Go.Proofs.Ytognggcajjbfiaa
