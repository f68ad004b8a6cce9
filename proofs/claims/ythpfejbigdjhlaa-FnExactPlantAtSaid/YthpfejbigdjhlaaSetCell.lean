/- SetCell, of the program and of the model. -/
import Derived.Test.YthpfejbigdjhlaaZC
import Derived.Test.YthpfejbigdjhlaaZD
namespace Go.Proofs.Ythpfejbigdjhlaa
open Go.RowKit
attribute [local go_sem ↓] loadRow loadGrid loadLawn loadMirror storeRow storeGrid storeLawn allocRow allocGrid allocLawn buildZero buildSides

/-- A lawn with another kind at a place. -/
def Lawn.put (L : Lawn) (y x : Nat) (k : Int) : Lawn := { L with kind := fun a b => if a = y ∧ b = x then k else L.kind a b }
theorem Lawn.cells_put (L : Lawn) (y x : Nat) (hy : y < 10) (hx : x < 10) (k : Int) : L.cells.setIfInBounds (2 + y * 10 + x) (.int .u8 k) = (L.put y x k).cells := by
  apply Array.ext_getElem?
  intro j
  rw [Array.getElem?_setIfInBounds]
  match j with
  | 0 => rw [if_neg (by omega), Lawn.cells_0, Lawn.cells_0]; rfl
  | 1 => rw [if_neg (by omega), Lawn.cells_1, Lawn.cells_1]; rfl
  | j + 2 =>
    by_cases hj : j < 100
    · have h1 := Lawn.cells_get L (j / 10) (j % 10) (by omega) (by omega)
      have h2 := Lawn.cells_get (L.put y x k) (j / 10) (j % 10) (by omega) (by omega)
      rw [show 2 + j / 10 * 10 + j % 10 = j + 2 by omega] at h1 h2
      rw [h1, h2]
      simp only [Lawn.put]
      by_cases e : j = y * 10 + x
      · rw [if_pos (by omega), if_pos (by rw [Lawn.cells_size]; omega), if_pos (by omega)]
      · rw [if_neg (by omega), if_neg (by omega)]
    · rw [if_neg (by omega), Array.getElem?_eq_none (by simp; omega), Array.getElem?_eq_none (by simp; omega)]

/-- What SetCell answers. -/
def setV (L : Lawn) (x y k : Int) : Value :=
  if told (validB L) (isB L x y && inB k 0 3) = 0 then .tuple #[.agg (L.put y.toNat x.toNat k).cells, .int .i64 0] else .tuple #[.agg Lawn.zero.cells, .int .i64 (told (validB L) (isB L x y && inB k 0 3))]

set_option maxRecDepth 100000 in
set_option maxHeartbeats 1000000 in
theorem implSet_any (L : Lawn) (hL : L.Fits) (x y k : Int) (w : World) :
    Calls Try.prog 106 #[.agg L.cells, .agg #[.int .i8 x, .int .i8 y], .int .i64 k] w fun e w' => e = .returned (setV L x y k) ∧ Below w.heap.size w w' := by
  have HL := Lib.hid hL
  clear hL
  obtain ⟨v, hv⟩ : ∃ v, validB L = v := ⟨_, rfl⟩
  obtain ⟨f, hf⟩ : ∃ f, isB L x y = f := ⟨_, rfl⟩
  obtain ⟨g, hg⟩ : ∃ g, inB k 0 3 = g := ⟨_, rfl⟩
  have HV := Lib.hid hv
  have HF := Lib.hid hf
  have HG := Lib.hid hg
  have HK := Lib.hid (show setV L x y k = if told v (f && g) = 0 then .tuple #[.agg (L.put y.toNat x.toNat k).cells, .int .i64 0] else .tuple #[.agg Lawn.zero.cells, .int .i64 (told v (f && g))] by simp only [setV, hv, hf, hg])
  clear hv hf hg
  go_enter Try.func106, Try.ntmps106
  go_wp2_with fail
  have g0 := (((Holds.new w L.cells 31).alloc (.cells #[.int .i8 x, .int .i8 y] 40)).alloc (.cells (Lawn.cells ⟨0, 0, fun _ _ => 0⟩) 31)).alloc (.cells #[.int .i8 x, .int .i8 y] 40)
  have c0 := ((Holds.new' (w.alloc (.cells L.cells 31)) #[.int .i8 x, .int .i8 y] 40 (w.heap.size + 1) (by simp)).alloc (.cells (Lawn.cells ⟨0, 0, fun _ _ => 0⟩) 31)).alloc (.cells #[.int .i8 x, .int .i8 y] 40)
  have z0 := (Holds.new' ((w.alloc (.cells L.cells 31)).alloc (.cells #[.int .i8 x, .int .i8 y] 40)) (Lawn.cells ⟨0, 0, fun _ _ => 0⟩) 31 (w.heap.size + 1 + 1) (by simp)).alloc (.cells #[.int .i8 x, .int .i8 y] 40)
  have s0 := Holds.new' (((w.alloc (.cells L.cells 31)).alloc (.cells #[.int .i8 x, .int .i8 y] 40)).alloc (.cells (Lawn.cells ⟨0, 0, fun _ _ => 0⟩) 31)) #[.int .i8 x, .int .i8 y] 40 (w.heap.size + 1 + 1 + 1) (by simp)
  have hb := ((((Below.refl w.heap.size w).alloc (Nat.le_refl _) (.cells L.cells 31)).alloc (by simp) (.cells #[.int .i8 x, .int .i8 y] 40)).alloc (by simp; omega) (.cells (Lawn.cells ⟨0, 0, fun _ _ => 0⟩) 31)).alloc (by simp; omega) (.cells #[.int .i8 x, .int .i8 y] 40)
  obtain ⟨W0, hW⟩ : ∃ W0, (((w.alloc (.cells L.cells 31)).alloc (.cells #[.int .i8 x, .int .i8 y] 40)).alloc (.cells (Lawn.cells ⟨0, 0, fun _ _ => 0⟩) 31)).alloc (.cells #[.int .i8 x, .int .i8 y] 40) = W0 := ⟨_, rfl⟩
  rw [hW] at g0 c0 z0 s0 hb ⊢
  clear hW
  refine (check_any L HL.out x y _ _ s0).mono ?_
  rw [HV.out, HF.out]
  rintro e w1 ⟨rfl, hb1⟩
  have g1 := g0.below hb1 g0.lt
  have c1 := c0.below hb1 c0.lt
  have z1 := z0.below hb1 z0.lt
  have hb3 := below_onto hb hb1
  clear hb hb1 g0 c0 z0 s0 W0
  obtain ⟨-, -, c1', -, l2⟩ := c1.facts
  obtain ⟨r1, f1, -, -, l1⟩ := g1.facts
  obtain ⟨r3, f3, -, -, l3⟩ := z1.facts
  cases v <;> cases f
  case true.true =>
    cases g
    case false =>
      simp only [told, if_true]
      go_wp2_with (go_at_call 84; refine (kind_is _ _ HG.out _).mono ?_; rintro e w1 ⟨rfl, rfl⟩)
      refine bodyPost_ret (results_cell_tmp_holds rfl wideLawn _ rfl (z1.setRow _) (by simp)) rfl ⟨by rw [HK.out]; rfl, below_setRow' hb3 (by omega) _⟩
    case true =>
      obtain ⟨i, j, hi, hj, rfl, rfl⟩ := cell_nat HV.out HF.out
      obtain ⟨k0, k1⟩ := inB_true HG.out
      have hwr : IntKind.u8.wrap k = k := IntWalk.u8_in _ (by omega)
      have hx0 : (0 : Int) ≤ i := by omega
      have hx1 : (i : Int) < 10 := by omega
      have hy0 : (0 : Int) ≤ j := by omega
      have hy1 : (j : Int) < 10 := by omega
      simp only [told, if_true]
      go_wp2_with (go_at_call 84; refine (kind_is _ _ HG.out _).mono ?_; rintro e w1 ⟨rfl, rfl⟩)
      clear r1 c1' r3 f1 f3 l1 l2 l3
      have s0 := c1.later.2
      refine wp_region_grow 9 (by kernel_rfl) (by kernel_rfl) ?_
      simp only [List.take_succ_cons, List.take_zero, List.drop_succ_cons, List.drop_zero]
      iterate 9
        apply wpGrow_plain rfl
        · intro w' hw' K hK
          have s1 := s0 _ hw'
          go_wp2_with fail
          exact hK _ _ rfl hw'
        simp only [Act.put, List.setIfInBounds_toArray, List.set_cons_succ, List.set_cons_zero]
      refine wpGrow_nil ?_
      intro W2 hW2
      have hb2 := below_onto hb3 hW2
      have g2 := g1.below hW2 g1.lt
      have z2 := z1.below hW2 z1.lt
      clear hW2 g1 c1 z1 s0 hb3
      have g3 := g2.setCell (2 + j * 10 + i) (.int .u8 k)
      rw [Lawn.cells_put L j i hj hi k] at g3
      have z3 := z2.setCell_other ⟨w.heap.size, 2 + j * 10 + i, none⟩ (.int .u8 k) (by simp; omega)
      have l1 := g2.lt
      have l3 := z2.lt
      have f1 := g2.free (2 + j * 10 + i)
      have ch : W2.cell? ⟨w.heap.size, 2 + j * 10 + i, none⟩ = some (.int .u8 (L.kind j i)) := by rw [g2.cell, Lawn.cells_get L j i hj hi]
      obtain ⟨r3, f3, -, -, -⟩ := g3.facts
      obtain ⟨r4, f4, -, -, -⟩ := z3.facts
      go_wp2_with fail
      refine bodyPost_ret (results_cell_tmp_holds rfl wideLawn _ rfl (z3.setRow _) (by simp)) rfl ⟨by rw [HK.out]; rfl, below_setRow' (hb2.setCell (by simp) _) (by omega) _⟩
  all_goals
    simp only [told, if_true, Bool.false_eq_true, if_false]
    go_wp2_with fail
    refine bodyPost_ret (results_cell_tmp_holds rfl wideLawn _ rfl (z1.setRow _) (by simp)) rfl ⟨by rw [HK.out]; rfl, below_setRow' hb3 (by omega) _⟩

end Go.Proofs.Ythpfejbigdjhlaa
