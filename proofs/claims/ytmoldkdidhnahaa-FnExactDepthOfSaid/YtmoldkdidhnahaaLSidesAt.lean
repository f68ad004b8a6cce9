/- SidesAt, of both, and the law on it. -/
import Derived.Test.YtmoldkdidhnahaaLSides
import Derived.Test.YtmoldkdidhnahaaZD
namespace Go.Proofs.Ytmoldkdidhnahaa
open Go.RowKit
set_option linter.unusedVariables false
attribute [local go_sem ↓] loadRow loadGrid loadLawn loadMirror storeRow storeGrid storeLawn allocRow allocGrid allocLawn buildZero buildSides loadSd storeSd allocSd buildSd

/-- The code of a lawn with a cell that has to be grass. -/
def grassC (L : Lawn) (x y : Int) : Int := if told (validB L) (isB L x y) = 0 then (if grassB L x y then 0 else 4) else told (validB L) (isB L x y)
def sidesAtL (L : Lawn) (x y : Int) : Sd := if grassC L x y = 0 then sidesL L (x, y) else fun _ => 0
theorem told_zero {L : Lawn} {x y : Int} (h : told (validB L) (isB L x y) = 0) : validB L = true ∧ isB L x y = true := by
  cases hv : validB L <;> cases hi : isB L x y <;> simp [told, hv, hi] at h ⊢
theorem grassC_zero {L : Lawn} {x y : Int} (h : grassC L x y = 0) : validB L = true ∧ isB L x y = true ∧ grassB L x y = true := by
  unfold grassC at h
  split at h
  · rename_i ht
    obtain ⟨h1, h2⟩ := told_zero ht
    cases hg : grassB L x y
    · rw [hg] at h; simp at h
    · exact ⟨h1, h2, rfl⟩
  · contradiction

set_option maxRecDepth 100000 in
set_option maxHeartbeats 1000000 in
theorem checkGrass_any (L : Lawn) (hL : L.Fits) (x y : Int) (w : World) :
    Calls Try.prog 57 #[.agg L.cells, .agg #[.int .i8 x, .int .i8 y]] w fun e w' => e = .returned (.int .i64 (grassC L x y)) ∧ Below w.heap.size w w' := by
  have HCK := Lib.hid (fun (g : Nat) (w : World) (h : Holds w g #[.int .i8 x, .int .i8 y]) => check_any L hL x y g w h)
  by_cases ht : told (validB L) (isB L x y) = 0
  · obtain ⟨hv, hi⟩ := told_zero ht
    rw [ht] at HCK
    have HG := Lib.hid (isGrass_any L hv hL x y)
    have HE : Hid (grassC L x y = if grassB L x y then 0 else 4) := Lib.hid (by unfold grassC; rw [if_pos ht])
    obtain ⟨g, hg⟩ : ∃ g, grassB L x y = g := ⟨_, rfl⟩
    rw [hg] at HG HE
    clear hv hi ht hL hg
    cases g
    all_goals
      go_enter Try.func57, Try.ntmps57
      go_wp2_with fail
      have g0 : Holds (((w.alloc (.cells L.cells 27)).alloc (.cells #[.int .i8 x, .int .i8 y] 37)).alloc (.cells #[.int .i8 x, .int .i8 y] 37)) w.heap.size L.cells := ((Holds.new _ _ _).alloc _).alloc _
      have c0 : Holds (((w.alloc (.cells L.cells 27)).alloc (.cells #[.int .i8 x, .int .i8 y] 37)).alloc (.cells #[.int .i8 x, .int .i8 y] 37)) (w.heap.size + 1) #[.int .i8 x, .int .i8 y] := (Holds.new' _ _ _ _ (by simp)).alloc _
      have s0 : Holds (((w.alloc (.cells L.cells 27)).alloc (.cells #[.int .i8 x, .int .i8 y] 37)).alloc (.cells #[.int .i8 x, .int .i8 y] 37)) (w.heap.size + 1 + 1) #[.int .i8 x, .int .i8 y] := Holds.new' _ _ _ _ (by simp)
      have hb : Below w.heap.size w (((w.alloc (.cells L.cells 27)).alloc (.cells #[.int .i8 x, .int .i8 y] 37)).alloc (.cells #[.int .i8 x, .int .i8 y] 37)) := (((Below.refl w.heap.size w).alloc (Nat.le_refl _) _).alloc (by simp) _).alloc (by simp; omega) _
      refine (HCK.out _ _ s0).mono ?_
      rintro e w1 ⟨rfl, hb1⟩
      have g1 := g0.below hb1 g0.lt
      have c1 := c0.below hb1 c0.lt
      have jB := below_onto hb hb1
      clear g0 c0 s0 hb hb1
      obtain ⟨r1, -, -, -, l1⟩ := g1.facts
      obtain ⟨-, -, d1, -, -⟩ := c1.facts
      go_wp2_with fail
      refine (HG.out _).mono ?_
      rintro e w2 ⟨rfl, hb1⟩
      have hb2 := below_onto jB hb1
      clear g1 c1 r1 d1 jB hb1
      go_wp2_with fail
      go_ret
      exact ⟨by rw [HE.out]; rfl, hb2⟩
  · have HE : Hid (grassC L x y = told (validB L) (isB L x y)) := Lib.hid (by unfold grassC; rw [if_neg ht])
    obtain ⟨t, hht⟩ : ∃ t, told (validB L) (isB L x y) = t := ⟨_, rfl⟩
    rw [hht] at HCK HE ht
    have hd : ((t : Int) != 0) = true := by simpa using ht
    clear hL hht ht
    go_enter Try.func57, Try.ntmps57
    go_wp2_with fail
    have s0 : Holds (((w.alloc (.cells L.cells 27)).alloc (.cells #[.int .i8 x, .int .i8 y] 37)).alloc (.cells #[.int .i8 x, .int .i8 y] 37)) (w.heap.size + 1 + 1) #[.int .i8 x, .int .i8 y] := Holds.new' _ _ _ _ (by simp)
    have hb : Below w.heap.size w (((w.alloc (.cells L.cells 27)).alloc (.cells #[.int .i8 x, .int .i8 y] 37)).alloc (.cells #[.int .i8 x, .int .i8 y] 37)) := (((Below.refl w.heap.size w).alloc (Nat.le_refl _) _).alloc (by simp) _).alloc (by simp; omega) _
    refine (HCK.out _ _ s0).mono ?_
    rintro e w1 ⟨rfl, hb1⟩
    have jB := below_onto hb hb1
    clear s0 hb hb1
    go_wp2_with fail
    go_ret
    exact ⟨by rw [HE.out]; rfl, jB⟩

set_option maxRecDepth 100000 in
set_option maxHeartbeats 1000000 in
theorem l05Grass_any (L : Lawn) (hL : L.Fits) (x y : Int) (x0 : -128 ≤ x) (x1 : x ≤ 127) (y0 : -128 ≤ y) (y1 : y ≤ 127) (b : Nat) (w : World) (h : Holds w b L.cells) :
    Calls Try.prog 54 #[.pointer (some ⟨b, 0, none⟩), .agg #[.int .i8 x, .int .i8 y]] w fun e w' => e = .returned (.int .i64 (grassC L x y)) ∧ Below w.heap.size w w' := by
  have HIS := Lib.hid (fun (w : World) (h : Holds w b L.cells) => l01Is_any L hL b x y w h x0 x1 y0 y1)
  have HTD := Lib.hid (fun (w : World) (h : Holds w b L.cells) => told_any L hL b w h (isB L x y))
  have c0 := Holds.new w #[.int .i8 x, .int .i8 y] 37
  have h0 := h.alloc (.cells #[.int .i8 x, .int .i8 y] 37)
  have hb0 := (Below.refl w.heap.size w).alloc (Nat.le_refl _) (.cells #[.int .i8 x, .int .i8 y] 37)
  clear h
  by_cases ht : told (validB L) (isB L x y) = 0
  · obtain ⟨hv, hi⟩ := told_zero ht
    rw [ht] at HTD
    obtain ⟨i, j, hi10, hj10, e1, e2⟩ := cell_nat hv hi
    have HAT := Lib.hid (fun (w : World) (h : Holds w b L.cells) => e1 ▸ e2 ▸ at_any L hL b i j hi10 hj10 w h)
    have HE : Hid (grassC L x y = if L.kind j i == 0 then 0 else 4) := Lib.hid (by
      have hgr : grassB L x y = (L.kind j i == 0) := by unfold grassB; rw [hi, Bool.true_and, e1, e2, Int.toNat_natCast, Int.toNat_natCast]
      unfold grassC; rw [if_pos ht, hgr])
    obtain ⟨f, hf⟩ : ∃ f, isB L x y = f := ⟨_, rfl⟩
    rw [hf] at HIS HTD
    obtain ⟨k, hk⟩ : ∃ k, L.kind j i = k := ⟨_, rfl⟩
    rw [hk] at HAT HE
    clear hv hi ht hL hf hk e1 e2
    by_cases hz : k = 0
    · have hz1 : ((k : Int) != 0) = false := by simp [hz]
      have HE2 : Hid (grassC L x y = 0) := Lib.hid (by rw [HE.out, hz]; rfl)
      clear hz HE
      go_enter Try.func54, Try.ntmps54
      go_wp2_with fail
      refine (HIS.out _ h0).mono ?_
      rintro e w1 ⟨rfl, hb1⟩
      have h1 := h0.below hb1 h0.lt
      have c1 := c0.below hb1 c0.lt
      have hb2 := below_onto hb0 hb1
      clear h0 c0 hb0 hb1
      go_wp2_with fail
      refine (HTD.out _ h1).mono ?_
      rintro e w2 ⟨rfl, hb1⟩
      have h2 := h1.below hb1 h1.lt
      have c2 := c1.below hb1 c1.lt
      have hb3 := below_onto hb2 hb1
      obtain ⟨-, -, d1, -, -⟩ := c2.facts
      clear h1 c1 hb2 hb1
      go_wp2_with fail
      refine (HAT.out _ h2).mono ?_
      rintro e w3 ⟨rfl, hb1⟩
      have hb4 := below_onto hb3 hb1
      clear h2 c2 hb3 hb1 d1
      go_wp2_with fail
      go_ret
      exact ⟨by rw [HE2.out]; rfl, hb4⟩
    · have hz1 : ((k : Int) != 0) = true := by simp [hz]
      have HE2 : Hid (grassC L x y = 4) := Lib.hid (by rw [HE.out]; simp [hz])
      clear hz HE
      go_enter Try.func54, Try.ntmps54
      go_wp2_with fail
      refine (HIS.out _ h0).mono ?_
      rintro e w1 ⟨rfl, hb1⟩
      have h1 := h0.below hb1 h0.lt
      have c1 := c0.below hb1 c0.lt
      have hb2 := below_onto hb0 hb1
      clear h0 c0 hb0 hb1
      go_wp2_with fail
      refine (HTD.out _ h1).mono ?_
      rintro e w2 ⟨rfl, hb1⟩
      have h2 := h1.below hb1 h1.lt
      have c2 := c1.below hb1 c1.lt
      have hb3 := below_onto hb2 hb1
      obtain ⟨-, -, d1, -, -⟩ := c2.facts
      clear h1 c1 hb2 hb1
      go_wp2_with fail
      refine (HAT.out _ h2).mono ?_
      rintro e w3 ⟨rfl, hb1⟩
      have hb4 := below_onto hb3 hb1
      clear h2 c2 hb3 hb1 d1
      go_wp2_with fail
      go_ret
      exact ⟨by rw [HE2.out]; rfl, hb4⟩
  · have HE : Hid (grassC L x y = told (validB L) (isB L x y)) := Lib.hid (by unfold grassC; rw [if_neg ht])
    obtain ⟨t, hht⟩ : ∃ t, told (validB L) (isB L x y) = t := ⟨_, rfl⟩
    rw [hht] at HTD HE ht
    have hd : ((t : Int) == 0) = false := by simpa using ht
    obtain ⟨f, hf⟩ : ∃ f, isB L x y = f := ⟨_, rfl⟩
    rw [hf] at HIS HTD
    clear hL hht ht hf
    go_enter Try.func54, Try.ntmps54
    go_wp2_with fail
    refine (HIS.out _ h0).mono ?_
    rintro e w1 ⟨rfl, hb1⟩
    have h1 := h0.below hb1 h0.lt
    have hb2 := below_onto hb0 hb1
    clear h0 c0 hb0 hb1
    go_wp2_with fail
    refine (HTD.out _ h1).mono ?_
    rintro e w2 ⟨rfl, hb1⟩
    have hb3 := below_onto hb2 hb1
    clear h1 hb2 hb1
    go_wp2_with fail
    go_ret
    exact ⟨by rw [HE.out]; rfl, hb3⟩
theorem sidesAtL_yes {L : Lawn} {x y : Int} (h : grassC L x y = 0) : sidesAtL L x y = sidesL L (x, y) := by unfold sidesAtL; rw [if_pos h]
theorem sidesAtL_no {L : Lawn} {x y : Int} (h : ¬ grassC L x y = 0) : sidesAtL L x y = fun _ => 0 := by unfold sidesAtL; rw [if_neg h]




end Go.Proofs.Ytmoldkdidhnahaa
