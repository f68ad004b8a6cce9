/- SidesAt, of both, and the law on it. -/
import Derived.Test.YthpfejbigdjhlaaLSides
import Derived.Test.YthpfejbigdjhlaaZD
namespace Go.Proofs.Ythpfejbigdjhlaa
open Go.RowKit
set_option linter.unusedVariables false
attribute [local go_sem ↓] loadRow loadGrid loadLawn loadMirror storeRow storeGrid storeLawn allocRow allocGrid allocLawn buildZero buildSides loadSd storeSd allocSd buildSd

/-- The code of a lawn with a cell that has to be grass. -/
def grassC (L : Lawn) (x y : Int) : Int := if told (validB L) (isB L x y) = 0 then (if grassB L x y then 0 else 4) else told (validB L) (isB L x y)
def sidesAtL (L : Lawn) (x y : Int) : Sd := if grassC L x y = 0 then sidesL L (x, y) else fun _ => 0
theorem told_zero {L : Lawn} {x y : Int} (h : told (validB L) (isB L x y) = 0) : validB L = true ∧ isB L x y = true := by
  cases hv : validB L <;> cases hi : isB L x y <;> simp [told, hv, hi] at h ⊢
theorem grassC_zero {L : Lawn} {x y : Int} (h : grassC L x y = 0) : validB L = true ∧ isB L x y = true ∧ grassB L x y = true := by
  unfold grassC at h
  split at h
  · rename_i ht
    obtain ⟨h1, h2⟩ := told_zero ht
    cases hg : grassB L x y
    · rw [hg] at h; simp at h
    · exact ⟨h1, h2, rfl⟩
  · contradiction

set_option maxRecDepth 100000 in
set_option maxHeartbeats 1000000 in
theorem checkGrass_any (L : Lawn) (hL : L.Fits) (x y : Int) (w : World) :
    Calls Try.prog 60 #[.agg L.cells, .agg #[.int .i8 x, .int .i8 y]] w fun e w' => e = .returned (.int .i64 (grassC L x y)) ∧ Below w.heap.size w w' := by
  have HCK := Lib.hid (fun (g : Nat) (w : World) (h : Holds w g #[.int .i8 x, .int .i8 y]) => check_any L hL x y g w h)
  by_cases ht : told (validB L) (isB L x y) = 0
  · obtain ⟨hv, hi⟩ := told_zero ht
    rw [ht] at HCK
    have HG := Lib.hid (isGrass_any L hv hL x y)
    have HE : Hid (grassC L x y = if grassB L x y then 0 else 4) := Lib.hid (by unfold grassC; rw [if_pos ht])
    obtain ⟨g, hg⟩ : ∃ g, grassB L x y = g := ⟨_, rfl⟩
    rw [hg] at HG HE
    clear hv hi ht hL hg
    cases g
    all_goals
      go_enter Try.func60, Try.ntmps60
      go_wp2_with fail
      have g0 : Holds (((w.alloc (.cells L.cells 31)).alloc (.cells #[.int .i8 x, .int .i8 y] 40)).alloc (.cells #[.int .i8 x, .int .i8 y] 40)) w.heap.size L.cells := ((Holds.new _ _ _).alloc _).alloc _
      have c0 : Holds (((w.alloc (.cells L.cells 31)).alloc (.cells #[.int .i8 x, .int .i8 y] 40)).alloc (.cells #[.int .i8 x, .int .i8 y] 40)) (w.heap.size + 1) #[.int .i8 x, .int .i8 y] := (Holds.new' _ _ _ _ (by simp)).alloc _
      have s0 : Holds (((w.alloc (.cells L.cells 31)).alloc (.cells #[.int .i8 x, .int .i8 y] 40)).alloc (.cells #[.int .i8 x, .int .i8 y] 40)) (w.heap.size + 1 + 1) #[.int .i8 x, .int .i8 y] := Holds.new' _ _ _ _ (by simp)
      have hb : Below w.heap.size w (((w.alloc (.cells L.cells 31)).alloc (.cells #[.int .i8 x, .int .i8 y] 40)).alloc (.cells #[.int .i8 x, .int .i8 y] 40)) := (((Below.refl w.heap.size w).alloc (Nat.le_refl _) _).alloc (by simp) _).alloc (by simp; omega) _
      refine (HCK.out _ _ s0).mono ?_
      rintro e w1 ⟨rfl, hb1⟩
      have g1 := g0.below hb1 g0.lt
      have c1 := c0.below hb1 c0.lt
      have jB := below_onto hb hb1
      clear g0 c0 s0 hb hb1
      obtain ⟨r1, -, -, -, l1⟩ := g1.facts
      obtain ⟨-, -, d1, -, -⟩ := c1.facts
      go_wp2_with fail
      refine (HG.out _).mono ?_
      rintro e w2 ⟨rfl, hb1⟩
      have hb2 := below_onto jB hb1
      clear g1 c1 r1 d1 jB hb1
      go_wp2_with fail
      go_ret
      exact ⟨by rw [HE.out]; rfl, hb2⟩
  · have HE : Hid (grassC L x y = told (validB L) (isB L x y)) := Lib.hid (by unfold grassC; rw [if_neg ht])
    obtain ⟨t, hht⟩ : ∃ t, told (validB L) (isB L x y) = t := ⟨_, rfl⟩
    rw [hht] at HCK HE ht
    have hd : ((t : Int) != 0) = true := by simpa using ht
    clear hL hht ht
    go_enter Try.func60, Try.ntmps60
    go_wp2_with fail
    have s0 : Holds (((w.alloc (.cells L.cells 31)).alloc (.cells #[.int .i8 x, .int .i8 y] 40)).alloc (.cells #[.int .i8 x, .int .i8 y] 40)) (w.heap.size + 1 + 1) #[.int .i8 x, .int .i8 y] := Holds.new' _ _ _ _ (by simp)
    have hb : Below w.heap.size w (((w.alloc (.cells L.cells 31)).alloc (.cells #[.int .i8 x, .int .i8 y] 40)).alloc (.cells #[.int .i8 x, .int .i8 y] 40)) := (((Below.refl w.heap.size w).alloc (Nat.le_refl _) _).alloc (by simp) _).alloc (by simp; omega) _
    refine (HCK.out _ _ s0).mono ?_
    rintro e w1 ⟨rfl, hb1⟩
    have jB := below_onto hb hb1
    clear s0 hb hb1
    go_wp2_with fail
    go_ret
    exact ⟨by rw [HE.out]; rfl, jB⟩

set_option maxRecDepth 100000 in
set_option maxHeartbeats 1000000 in
theorem l05Grass_any (L : Lawn) (hL : L.Fits) (x y : Int) (x0 : -128 ≤ x) (x1 : x ≤ 127) (y0 : -128 ≤ y) (y1 : y ≤ 127) (b : Nat) (w : World) (h : Holds w b L.cells) :
    Calls Try.prog 58 #[.pointer (some ⟨b, 0, none⟩), .agg #[.int .i8 x, .int .i8 y]] w fun e w' => e = .returned (.int .i64 (grassC L x y)) ∧ Below w.heap.size w w' := by
  have HIS := Lib.hid (fun (w : World) (h : Holds w b L.cells) => l01Is_any L hL b x y w h x0 x1 y0 y1)
  have HTD := Lib.hid (fun (w : World) (h : Holds w b L.cells) => told_any L hL b w h (isB L x y))
  have c0 := Holds.new w #[.int .i8 x, .int .i8 y] 40
  have h0 := h.alloc (.cells #[.int .i8 x, .int .i8 y] 40)
  have hb0 := (Below.refl w.heap.size w).alloc (Nat.le_refl _) (.cells #[.int .i8 x, .int .i8 y] 40)
  clear h
  by_cases ht : told (validB L) (isB L x y) = 0
  · obtain ⟨hv, hi⟩ := told_zero ht
    rw [ht] at HTD
    obtain ⟨i, j, hi10, hj10, e1, e2⟩ := cell_nat hv hi
    have HAT := Lib.hid (fun (w : World) (h : Holds w b L.cells) => e1 ▸ e2 ▸ at_any L hL b i j hi10 hj10 w h)
    have HE : Hid (grassC L x y = if L.kind j i == 0 then 0 else 4) := Lib.hid (by
      have hgr : grassB L x y = (L.kind j i == 0) := by unfold grassB; rw [hi, Bool.true_and, e1, e2, Int.toNat_natCast, Int.toNat_natCast]
      unfold grassC; rw [if_pos ht, hgr])
    obtain ⟨f, hf⟩ : ∃ f, isB L x y = f := ⟨_, rfl⟩
    rw [hf] at HIS HTD
    obtain ⟨k, hk⟩ : ∃ k, L.kind j i = k := ⟨_, rfl⟩
    rw [hk] at HAT HE
    clear hv hi ht hL hf hk e1 e2
    by_cases hz : k = 0
    · have hz1 : ((k : Int) != 0) = false := by simp [hz]
      have HE2 : Hid (grassC L x y = 0) := Lib.hid (by rw [HE.out, hz]; rfl)
      clear hz HE
      go_enter Try.func58, Try.ntmps58
      go_wp2_with fail
      refine (HIS.out _ h0).mono ?_
      rintro e w1 ⟨rfl, hb1⟩
      have h1 := h0.below hb1 h0.lt
      have c1 := c0.below hb1 c0.lt
      have hb2 := below_onto hb0 hb1
      clear h0 c0 hb0 hb1
      go_wp2_with fail
      refine (HTD.out _ h1).mono ?_
      rintro e w2 ⟨rfl, hb1⟩
      have h2 := h1.below hb1 h1.lt
      have c2 := c1.below hb1 c1.lt
      have hb3 := below_onto hb2 hb1
      obtain ⟨-, -, d1, -, -⟩ := c2.facts
      clear h1 c1 hb2 hb1
      go_wp2_with fail
      refine (HAT.out _ h2).mono ?_
      rintro e w3 ⟨rfl, hb1⟩
      have hb4 := below_onto hb3 hb1
      clear h2 c2 hb3 hb1 d1
      go_wp2_with fail
      go_ret
      exact ⟨by rw [HE2.out]; rfl, hb4⟩
    · have hz1 : ((k : Int) != 0) = true := by simp [hz]
      have HE2 : Hid (grassC L x y = 4) := Lib.hid (by rw [HE.out]; simp [hz])
      clear hz HE
      go_enter Try.func58, Try.ntmps58
      go_wp2_with fail
      refine (HIS.out _ h0).mono ?_
      rintro e w1 ⟨rfl, hb1⟩
      have h1 := h0.below hb1 h0.lt
      have c1 := c0.below hb1 c0.lt
      have hb2 := below_onto hb0 hb1
      clear h0 c0 hb0 hb1
      go_wp2_with fail
      refine (HTD.out _ h1).mono ?_
      rintro e w2 ⟨rfl, hb1⟩
      have h2 := h1.below hb1 h1.lt
      have c2 := c1.below hb1 c1.lt
      have hb3 := below_onto hb2 hb1
      obtain ⟨-, -, d1, -, -⟩ := c2.facts
      clear h1 c1 hb2 hb1
      go_wp2_with fail
      refine (HAT.out _ h2).mono ?_
      rintro e w3 ⟨rfl, hb1⟩
      have hb4 := below_onto hb3 hb1
      clear h2 c2 hb3 hb1 d1
      go_wp2_with fail
      go_ret
      exact ⟨by rw [HE2.out]; rfl, hb4⟩
  · have HE : Hid (grassC L x y = told (validB L) (isB L x y)) := Lib.hid (by unfold grassC; rw [if_neg ht])
    obtain ⟨t, hht⟩ : ∃ t, told (validB L) (isB L x y) = t := ⟨_, rfl⟩
    rw [hht] at HTD HE ht
    have hd : ((t : Int) == 0) = false := by simpa using ht
    obtain ⟨f, hf⟩ : ∃ f, isB L x y = f := ⟨_, rfl⟩
    rw [hf] at HIS HTD
    clear hL hht ht hf
    go_enter Try.func58, Try.ntmps58
    go_wp2_with fail
    refine (HIS.out _ h0).mono ?_
    rintro e w1 ⟨rfl, hb1⟩
    have h1 := h0.below hb1 h0.lt
    have hb2 := below_onto hb0 hb1
    clear h0 c0 hb0 hb1
    go_wp2_with fail
    refine (HTD.out _ h1).mono ?_
    rintro e w2 ⟨rfl, hb1⟩
    have hb3 := below_onto hb2 hb1
    clear h1 hb2 hb1
    go_wp2_with fail
    go_ret
    exact ⟨by rw [HE.out]; rfl, hb3⟩
theorem sidesAtL_yes {L : Lawn} {x y : Int} (h : grassC L x y = 0) : sidesAtL L x y = sidesL L (x, y) := by unfold sidesAtL; rw [if_pos h]
theorem sidesAtL_no {L : Lawn} {x y : Int} (h : ¬ grassC L x y = 0) : sidesAtL L x y = fun _ => 0 := by unfold sidesAtL; rw [if_neg h]

set_option maxRecDepth 100000 in
set_option maxHeartbeats 1000000 in
theorem implSidesAt_any (L : Lawn) (hL : L.Fits) (x y : Int) (w : World) :
    Calls Try.prog 23 #[.agg L.cells, .agg #[.int .i8 x, .int .i8 y]] w fun e w' => e = .returned (.tuple #[.agg (sdV (sidesAtL L x y)), .int .i64 (grassC L x y)]) ∧ Below w.heap.size w w' := by
  have HG := Lib.hid (checkGrass_any L hL x y)
  by_cases ht : grassC L x y = 0
  · obtain ⟨hv, hi, -⟩ := grassC_zero ht
    have hxy := isB_near hv hi
    have HE := Lib.hid (sidesAtL_yes ht)
    have HS := Lib.hid (sidesAt_any L hv x y (by omega) (by omega) (by omega) (by omega))
    rw [ht] at HG ⊢
    clear hv hi hxy hL ht
    go_enter Try.func23, Try.ntmps23
    go_wp2_with fail
    obtain ⟨W0, hW0⟩ : ∃ W0, ((w.alloc (.cells L.cells 31)).alloc (.cells #[.int .i8 x, .int .i8 y] 40)).alloc (.cells (sdV fun _ => 0) 28) = W0 := ⟨_, rfl⟩
    have g0 : Holds W0 w.heap.size L.cells := by rw [← hW0]; exact ((Holds.new _ _ _).alloc _).alloc _
    have c0 : Holds W0 (w.heap.size + 1) #[.int .i8 x, .int .i8 y] := by rw [← hW0]; exact (Holds.new' _ _ _ _ (by simp)).alloc _
    have u0 : Holds W0 (w.heap.size + 1 + 1) (sdV fun _ => 0) := by rw [← hW0]; exact Holds.new' _ _ _ _ (by simp)
    have hb0 : Below w.heap.size w W0 := by rw [← hW0]; exact (((Below.refl w.heap.size w).alloc (Nat.le_refl _) _).alloc (by simp) _).alloc (by simp; omega) _
    rw [hW0]
    clear hW0
    refine (HG.out _).mono ?_
    rintro e w1 ⟨rfl, hb1⟩
    have g1 := g0.below hb1 g0.lt
    have c1 := c0.below hb1 c0.lt
    have u1 := u0.below hb1 u0.lt
    have hb2 := below_onto hb0 hb1
    obtain ⟨r1, -, -, -, -⟩ := g1.facts
    obtain ⟨-, -, d1, -, -⟩ := c1.facts
    clear g0 c0 u0 hb0 hb1
    go_wp2_with fail
    refine (HS.out _).mono ?_
    rintro e w2 ⟨rfl, hb1⟩
    have u2 := u1.below hb1 u1.lt
    have hb3 := below_onto hb2 hb1
    obtain ⟨rr, fr, -, -, -⟩ := u2.facts
    have u3 := u2.setRow (sdV (sidesL L (x, y)))
    clear g1 c1 u1 hb1 hb2 r1 d1
    go_wp2_with fail
    exact bodyPost_ret (results_cell_tmp_holds rfl wideSd _ rfl u3 rfl) rfl ⟨by rw [HE.out]; rfl, below_setRow hb3 _ (by omega) _⟩
  · have HE := Lib.hid (sidesAtL_no ht)
    obtain ⟨t, hht⟩ : ∃ t, grassC L x y = t := ⟨_, rfl⟩
    rw [hht] at HG ht ⊢
    have hd : ((t : Int) != 0) = true := by simpa using ht
    clear hL hht ht
    go_enter Try.func23, Try.ntmps23
    go_wp2_with fail
    obtain ⟨W0, hW0⟩ : ∃ W0, ((w.alloc (.cells L.cells 31)).alloc (.cells #[.int .i8 x, .int .i8 y] 40)).alloc (.cells (sdV fun _ => 0) 28) = W0 := ⟨_, rfl⟩
    have u0 : Holds W0 (w.heap.size + 1 + 1) (sdV fun _ => 0) := by rw [← hW0]; exact Holds.new' _ _ _ _ (by simp)
    have hb0 : Below w.heap.size w W0 := by rw [← hW0]; exact (((Below.refl w.heap.size w).alloc (Nat.le_refl _) _).alloc (by simp) _).alloc (by simp; omega) _
    rw [hW0]
    clear hW0
    refine (HG.out _).mono ?_
    rintro e w1 ⟨rfl, hb1⟩
    have u1 := u0.below hb1 u0.lt
    have hb2 := below_onto hb0 hb1
    obtain ⟨rr, fr, -, -, -⟩ := u1.facts
    have u3 := u1.setRow (sdV fun _ => 0)
    clear u0 hb0 hb1
    go_wp2_with fail
    exact bodyPost_ret (results_cell_tmp_holds rfl wideSd _ rfl u3 rfl) rfl ⟨by rw [HE.out]; rfl, below_setRow hb2 _ (by omega) _⟩

set_option maxRecDepth 100000 in
set_option maxHeartbeats 1000000 in
theorem specSidesAt_any (L : Lawn) (hL : L.Fits) (x y : Int) (x0 : -128 ≤ x) (x1 : x ≤ 127) (y0 : -128 ≤ y) (y1 : y ≤ 127) (w : World) :
    Calls Try.prog 21 #[.agg L.cells, .agg #[.int .i8 x, .int .i8 y]] w fun e w' => e = .returned (.tuple #[.agg (sdV (sidesAtL L x y)), .int .i64 (grassC L x y)]) ∧ Below w.heap.size w w' := by
  have HG := Lib.hid (l05Grass_any L hL x y x0 x1 y0 y1)
  by_cases ht : grassC L x y = 0
  · obtain ⟨hv, hi, -⟩ := grassC_zero ht
    have hxy := isB_near hv hi
    have HE := Lib.hid (sidesAtL_yes ht)
    have HS := Lib.hid (fun (b : Nat) (w : World) (h : Holds w b L.cells) => l05At_any L hL hv b x y (by omega) (by omega) (by omega) (by omega) w h)
    rw [ht] at HG ⊢
    clear hv hi hxy hL ht
    go_enter Try.func21, Try.ntmps21
    go_wp2_with fail
    obtain ⟨W0, hW0⟩ : ∃ W0, ((w.alloc (.cells L.cells 31)).alloc (.cells #[.int .i8 x, .int .i8 y] 40)).alloc (.cells (sdV fun _ => 0) 28) = W0 := ⟨_, rfl⟩
    have g0 : Holds W0 w.heap.size L.cells := by rw [← hW0]; exact ((Holds.new _ _ _).alloc _).alloc _
    have c0 : Holds W0 (w.heap.size + 1) #[.int .i8 x, .int .i8 y] := by rw [← hW0]; exact (Holds.new' _ _ _ _ (by simp)).alloc _
    have u0 : Holds W0 (w.heap.size + 1 + 1) (sdV fun _ => 0) := by rw [← hW0]; exact Holds.new' _ _ _ _ (by simp)
    have hb0 : Below w.heap.size w W0 := by rw [← hW0]; exact (((Below.refl w.heap.size w).alloc (Nat.le_refl _) _).alloc (by simp) _).alloc (by simp; omega) _
    rw [hW0]
    clear hW0
    refine (HG.out _ _ g0).mono ?_
    rintro e w1 ⟨rfl, hb1⟩
    have g1 := g0.below hb1 g0.lt
    have c1 := c0.below hb1 c0.lt
    have u1 := u0.below hb1 u0.lt
    have hb2 := below_onto hb0 hb1
    obtain ⟨-, -, d1, -, -⟩ := c1.facts
    clear g0 c0 u0 hb0 hb1
    go_wp2_with fail
    refine (HS.out _ _ g1).mono ?_
    rintro e w2 ⟨rfl, hb1⟩
    have u2 := u1.below hb1 u1.lt
    have hb3 := below_onto hb2 hb1
    obtain ⟨rr, fr, -, -, -⟩ := u2.facts
    have u3 := u2.setRow (sdV (sidesL L (x, y)))
    clear g1 c1 u1 hb1 hb2 d1
    go_wp2_with fail
    exact bodyPost_ret (results_cell_tmp_holds rfl wideSd _ rfl u3 rfl) rfl ⟨by rw [HE.out]; rfl, below_setRow hb3 _ (by omega) _⟩
  · have HE := Lib.hid (sidesAtL_no ht)
    obtain ⟨t, hht⟩ : ∃ t, grassC L x y = t := ⟨_, rfl⟩
    rw [hht] at HG ht ⊢
    have hd : ((t : Int) != 0) = true := by simpa using ht
    clear hL hht ht
    go_enter Try.func21, Try.ntmps21
    go_wp2_with fail
    obtain ⟨W0, hW0⟩ : ∃ W0, ((w.alloc (.cells L.cells 31)).alloc (.cells #[.int .i8 x, .int .i8 y] 40)).alloc (.cells (sdV fun _ => 0) 28) = W0 := ⟨_, rfl⟩
    have g0 : Holds W0 w.heap.size L.cells := by rw [← hW0]; exact ((Holds.new _ _ _).alloc _).alloc _
    have u0 : Holds W0 (w.heap.size + 1 + 1) (sdV fun _ => 0) := by rw [← hW0]; exact Holds.new' _ _ _ _ (by simp)
    have hb0 : Below w.heap.size w W0 := by rw [← hW0]; exact (((Below.refl w.heap.size w).alloc (Nat.le_refl _) _).alloc (by simp) _).alloc (by simp; omega) _
    rw [hW0]
    clear hW0
    refine (HG.out _ _ g0).mono ?_
    rintro e w1 ⟨rfl, hb1⟩
    have u1 := u0.below hb1 u0.lt
    have hb2 := below_onto hb0 hb1
    obtain ⟨rr, fr, -, -, -⟩ := u1.facts
    have u3 := u1.setRow (sdV fun _ => 0)
    clear u0 g0 hb0 hb1
    go_wp2_with fail
    exact bodyPost_ret (results_cell_tmp_holds rfl wideSd _ rfl u3 rfl) rfl ⟨by rw [HE.out]; rfl, below_setRow hb2 _ (by omega) _⟩

set_option maxRecDepth 100000 in
set_option maxHeartbeats 4000000 in
theorem exactSidesAt_walk (A : Lawn) (x y : Int) (f : Sd) (m : Int)
    (HI : ∀ w : World, Calls Try.prog 23 #[.agg A.cells, .agg #[.int .i8 x, .int .i8 y]] w fun e w' => e = .returned (.tuple #[.agg (sdV f), .int .i64 m]) ∧ Below w.heap.size w w')
    (HS : ∀ w : World, Calls Try.prog 21 #[.agg A.cells, .agg #[.int .i8 x, .int .i8 y]] w fun e w' => e = .returned (.tuple #[.agg (sdV f), .int .i64 m]) ∧ Below w.heap.size w w') (w : World) :
    Calls Try.prog 5 #[.agg A.cells, .agg #[.int .i8 x, .int .i8 y]] w fun e w' => e = .returned (.bool true) ∧ Below w.heap.size w w' := by
  have HI' := Lib.hid HI
  have HS' := Lib.hid HS
  clear HI HS
  go_enter Try.func5, Try.ntmps5
  go_wp2_with fail
  have g0 : Holds ((w.alloc (.cells A.cells 26)).alloc (.cells #[.int .i8 x, .int .i8 y] 38)) w.heap.size A.cells := (Holds.new _ _ _).alloc _
  have c0 : Holds ((w.alloc (.cells A.cells 26)).alloc (.cells #[.int .i8 x, .int .i8 y] 38)) (w.heap.size + 1) #[.int .i8 x, .int .i8 y] := Holds.new' _ _ _ _ (by simp)
  have hb : Below w.heap.size w ((w.alloc (.cells A.cells 26)).alloc (.cells #[.int .i8 x, .int .i8 y] 38)) := ((Below.refl _ _).alloc (Nat.le_refl _) _).alloc (by simp) _
  obtain ⟨W, hW⟩ : ∃ W, (w.alloc (.cells A.cells 26)).alloc (.cells #[.int .i8 x, .int .i8 y] 38) = W := ⟨_, rfl⟩
  rw [hW] at g0 c0 hb ⊢
  clear hW
  obtain ⟨r0, -⟩ := g0.later
  obtain ⟨-, s0⟩ := c0.later
  refine wp_region_growA 10 8 9 (sdV fun _ => 0) (sdV f) 28 [.agg A.cells, .agg A.cells, .agg #[.int .i8 x, .int .i8 y], .agg #[.int .i8 x, .int .i8 y], .tuple #[.agg (sdV f), .int .i64 m], .tuple #[.agg (sdV f), .int .i64 m], .agg (sdV f), .int .i64 m] (by kernel_rfl) (by kernel_rfl) (by kernel_rfl) ?_
  intro p
  simp only [List.take_succ_cons, List.take_zero, List.drop_succ_cons, List.drop_zero]
  refine seqA_other (v := .agg A.cells) rfl rfl rfl rfl ?_ ?_
  · intro w' hw' K hK
    go_wp2_with fail
    exact hK _ _ rfl (Below.refl _ _)
  simp only [Act.put, List.setIfInBounds_toArray, List.set_cons_succ, List.set_cons_zero]
  refine seqA_other (v := .agg A.cells) rfl rfl rfl rfl ?_ ?_
  · intro w' hw' K hK
    go_wp2_with (go_at_call 16; refine (toLawn_any _ _).mono ?_; rintro e w1 ⟨rfl, hb1⟩)
    exact hK _ _ rfl hb1
  simp only [Act.put, List.setIfInBounds_toArray, List.set_cons_succ, List.set_cons_zero]
  refine seqA_other (v := .agg #[.int .i8 x, .int .i8 y]) rfl rfl rfl rfl ?_ ?_
  · intro w' hw' K hK
    have s1 := s0 _ hw'
    go_wp2_with fail
    exact hK _ _ rfl (Below.refl _ _)
  simp only [Act.put, List.setIfInBounds_toArray, List.set_cons_succ, List.set_cons_zero]
  refine seqA_other (v := .agg #[.int .i8 x, .int .i8 y]) rfl rfl rfl rfl ?_ ?_
  · intro w' hw' K hK
    go_wp2_with (go_at_call 22; refine (toCell_any _ _ _).mono ?_; rintro e w1 ⟨rfl, hb1⟩)
    exact hK _ _ rfl hb1
  simp only [Act.put, List.setIfInBounds_toArray, List.set_cons_succ, List.set_cons_zero]
  refine seqA_other (v := .tuple #[.agg (sdV f), .int .i64 m]) rfl rfl rfl rfl ?_ ?_
  · intro w' hw' K hK
    go_wp2_with (go_at_call 21; refine (HS'.out _).mono ?_; rintro e w1 ⟨rfl, hb1⟩)
    exact hK _ _ rfl hb1
  simp only [Act.put, List.setIfInBounds_toArray, List.set_cons_succ, List.set_cons_zero]
  refine seqA_other (v := .tuple #[.agg (sdV f), .int .i64 m]) rfl rfl rfl rfl ?_ ?_
  · intro w' hw' K hK
    go_wp2_with fail
    exact hK _ _ rfl (Below.refl _ _)
  simp only [Act.put, List.setIfInBounds_toArray, List.set_cons_succ, List.set_cons_zero]
  refine seqA_other (v := .agg (sdV f)) rfl rfl rfl rfl ?_ ?_
  · intro w' hw' K hK
    go_wp2_with fail
    exact hK _ _ rfl (Below.refl _ _)
  simp only [Act.put, List.setIfInBounds_toArray, List.set_cons_succ, List.set_cons_zero]
  refine seqA_other (v := .int .i64 m) rfl rfl rfl rfl ?_ ?_
  · intro w' hw' K hK
    go_wp2_with fail
    exact hK _ _ rfl (Below.refl _ _)
  simp only [Act.put, List.setIfInBounds_toArray, List.set_cons_succ, List.set_cons_zero]
  refine seqA_make rfl rfl ?_ ?_
  · rintro w' rfl K hK
    go_wp2_with fail
  simp only [Act.put, List.setIfInBounds_toArray, List.set_cons_succ, List.set_cons_zero]
  refine seqA_store rfl rfl rfl rfl ?_ ?_
  · intro w' hp hH K hK
    have rp := hH.row
    have fp := hH.isFree
    have lp := hH.lt
    go_wp2_with fail
    exact hK
  refine seqA_nil ?_
  intro W2 hp hW2 h1
  have hb2 := below_onto hb hW2
  have g2 := g0.below hW2 g0.lt
  have c2 := c0.below hW2 c0.lt
  have hp1 : w.heap.size ≤ p := Nat.le_trans hb.size hp
  clear hW2 g0 c0 r0 s0 hb hp W
  obtain ⟨q, hq⟩ : ∃ q, p = q := ⟨_, rfl⟩
  rw [hq] at h1 hp1 ⊢
  clear hq p
  obtain ⟨r0, -⟩ := g2.later
  obtain ⟨-, s0⟩ := c2.later
  go_wp2_with fail
  refine wp_region_growA 10 8 9 (sdV fun _ => 0) (sdV f) 28 [.agg A.cells, .agg A.cells, .agg #[.int .i8 x, .int .i8 y], .agg #[.int .i8 x, .int .i8 y], .tuple #[.agg (sdV f), .int .i64 m], .tuple #[.agg (sdV f), .int .i64 m], .agg (sdV f), .int .i64 m] (by kernel_rfl) (by kernel_rfl) (by kernel_rfl) ?_
  intro p
  simp only [List.take_succ_cons, List.take_zero, List.drop_succ_cons, List.drop_zero]
  refine seqA_other (v := .agg A.cells) rfl rfl rfl rfl ?_ ?_
  · intro w' hw' K hK
    go_wp2_with fail
    exact hK _ _ rfl (Below.refl _ _)
  simp only [Act.put, List.setIfInBounds_toArray, List.set_cons_succ, List.set_cons_zero]
  refine seqA_other (v := .agg A.cells) rfl rfl rfl rfl ?_ ?_
  · intro w' hw' K hK
    go_wp2_with (go_at_call 16; refine (toLawn_any _ _).mono ?_; rintro e w1 ⟨rfl, hb1⟩)
    exact hK _ _ rfl hb1
  simp only [Act.put, List.setIfInBounds_toArray, List.set_cons_succ, List.set_cons_zero]
  refine seqA_other (v := .agg #[.int .i8 x, .int .i8 y]) rfl rfl rfl rfl ?_ ?_
  · intro w' hw' K hK
    have s1 := s0 _ hw'
    go_wp2_with fail
    exact hK _ _ rfl (Below.refl _ _)
  simp only [Act.put, List.setIfInBounds_toArray, List.set_cons_succ, List.set_cons_zero]
  refine seqA_other (v := .agg #[.int .i8 x, .int .i8 y]) rfl rfl rfl rfl ?_ ?_
  · intro w' hw' K hK
    go_wp2_with (go_at_call 22; refine (toCell_any _ _ _).mono ?_; rintro e w1 ⟨rfl, hb1⟩)
    exact hK _ _ rfl hb1
  simp only [Act.put, List.setIfInBounds_toArray, List.set_cons_succ, List.set_cons_zero]
  refine seqA_other (v := .tuple #[.agg (sdV f), .int .i64 m]) rfl rfl rfl rfl ?_ ?_
  · intro w' hw' K hK
    go_wp2_with (go_at_call 23; refine (HI'.out _).mono ?_; rintro e w1 ⟨rfl, hb1⟩)
    exact hK _ _ rfl hb1
  simp only [Act.put, List.setIfInBounds_toArray, List.set_cons_succ, List.set_cons_zero]
  refine seqA_other (v := .tuple #[.agg (sdV f), .int .i64 m]) rfl rfl rfl rfl ?_ ?_
  · intro w' hw' K hK
    go_wp2_with fail
    exact hK _ _ rfl (Below.refl _ _)
  simp only [Act.put, List.setIfInBounds_toArray, List.set_cons_succ, List.set_cons_zero]
  refine seqA_other (v := .agg (sdV f)) rfl rfl rfl rfl ?_ ?_
  · intro w' hw' K hK
    go_wp2_with fail
    exact hK _ _ rfl (Below.refl _ _)
  simp only [Act.put, List.setIfInBounds_toArray, List.set_cons_succ, List.set_cons_zero]
  refine seqA_other (v := .int .i64 m) rfl rfl rfl rfl ?_ ?_
  · intro w' hw' K hK
    go_wp2_with fail
    exact hK _ _ rfl (Below.refl _ _)
  simp only [Act.put, List.setIfInBounds_toArray, List.set_cons_succ, List.set_cons_zero]
  refine seqA_make rfl rfl ?_ ?_
  · rintro w' rfl K hK
    go_wp2_with fail
  simp only [Act.put, List.setIfInBounds_toArray, List.set_cons_succ, List.set_cons_zero]
  refine seqA_store rfl rfl rfl rfl ?_ ?_
  · intro w' hp hH K hK
    have rp := hH.row
    have fp := hH.isFree
    have lp := hH.lt
    go_wp2_with fail
    exact hK
  refine seqA_nil ?_
  intro W3 hp hW3 h3
  have hb3 := below_onto hb2 hW3
  have h2 := h1.below hW3 h1.lt
  clear hW3 r0 s0 g2 c2 HI' HS' hb2 h1
  obtain ⟨da, -, -, -, la⟩ := h2.facts
  obtain ⟨db, -, -, -, lb⟩ := h3.facts
  go_wp2_with fail
  refine (eqSides_same _ _).mono ?_
  rintro e w3 ⟨rfl, hb4⟩
  go_wp2_with fail
  go_ret
  exact ⟨rfl, below_onto hb3 hb4⟩

/-- The law on SidesAt answers true. -/
theorem exactSidesAt (A : Lawn) (hA : A.Fits) (c : Int × Int) (hc : (-128 ≤ c.1 ∧ c.1 ≤ 127) ∧ -128 ≤ c.2 ∧ c.2 ≤ 127) (w : World) :
    Calls Try.prog 5 #[.agg A.cells, .agg #[.int .i8 c.1, .int .i8 c.2]] w fun e w' => e = .returned (.bool true) ∧ Below w.heap.size w w' :=
  exactSidesAt_walk A c.1 c.2 (sidesAtL A c.1 c.2) (grassC A c.1 c.2) (implSidesAt_any A hA c.1 c.2) (specSidesAt_any A hA c.1 c.2 hc.1.1 hc.1.2 hc.2.1 hc.2.2) w
end Go.Proofs.Ythpfejbigdjhlaa
