/- KindAt, of the program and of the model. -/
import Derived.Test.YtognggcajjbfiaaAt
namespace Go.Proofs.Ytognggcajjbfiaa
open Go.RowKit
attribute [local go_sem ↓] loadRow loadGrid loadLawn loadMirror storeRow storeGrid storeLawn allocRow allocGrid allocLawn buildZero buildSides

/-- What KindAt answers. -/
def kindAtV (L : Lawn) (x y : Int) : Value := if told (validB L) (isB L x y) = 0 then .tuple #[.int .i64 (L.kind y.toNat x.toNat), .int .i64 0] else .tuple #[.int .i64 0, .int .i64 (told (validB L) (isB L x y))]
/-- A cell of a valid lawn. -/
theorem cell_nat {L : Lawn} {x y : Int} (hv : validB L = true) (hf : isB L x y = true) : ∃ i j : Nat, i < 10 ∧ j < 10 ∧ x = i ∧ y = j := by
  obtain ⟨h1, h2, -⟩ := validB_true hv
  simp only [isB, Bool.and_eq_true] at hf
  have a := inB_true hf.1
  have b := inB_true hf.2
  exact ⟨x.toNat, y.toNat, by omega, by omega, by omega, by omega⟩

set_option maxRecDepth 100000 in
set_option maxHeartbeats 1000000 in
theorem specKindAt_any (L : Lawn) (hL : L.Fits) (x y : Int) (x0 : -128 ≤ x) (x1 : x ≤ 127) (y0 : -128 ≤ y) (y1 : y ≤ 127) (w : World) :
    Calls Try.prog 43 #[.agg L.cells, .agg #[.int .i8 x, .int .i8 y]] w fun e w' => e = .returned (kindAtV L x y) ∧ Below w.heap.size w w' := by
  have HL := Lib.hid hL
  clear hL
  obtain ⟨v, hv⟩ : ∃ v, validB L = v := ⟨_, rfl⟩
  obtain ⟨f, hf⟩ : ∃ f, isB L x y = f := ⟨_, rfl⟩
  have HV := Lib.hid hv
  have HF := Lib.hid hf
  have HK := Lib.hid (show kindAtV L x y = if told v f = 0 then .tuple #[.int .i64 (L.kind y.toNat x.toNat), .int .i64 0] else .tuple #[.int .i64 0, .int .i64 (told v f)] by simp only [kindAtV, hv, hf])
  clear hv hf
  go_enter Try.func43, Try.ntmps43
  go_wp2_with fail
  have g0 : Holds ((w.alloc (.cells L.cells 28)).alloc (.cells #[.int .i8 x, .int .i8 y] 35)) w.heap.size L.cells := (Holds.new _ _ _).alloc _
  refine (l01Is_is L HL.out w.heap.size _ _ _ g0 (by omega) (by omega) (by omega) (by omega) _ HF.out).mono ?_
  rintro e w1 ⟨rfl, hb1⟩
  have g1 := g0.below hb1 g0.lt
  have c1 := (Holds.new' (w.alloc (.cells L.cells 28)) #[.int .i8 x, .int .i8 y] 35 (w.heap.size + 1) (by simp)).below hb1 (by simp)
  have hb := (((Below.refl w.heap.size w).alloc (Nat.le_refl _) (.cells L.cells 28)).alloc (by simp) (.cells #[.int .i8 x, .int .i8 y] 35)).trans (hb1.mono (by simp; omega))
  clear hb1 g0
  go_wp2_with fail
  refine (told_any L HL.out w.heap.size _ g1 _).mono ?_
  rw [HV.out]
  rintro e w2 ⟨rfl, hb2⟩
  have g2 := g1.below hb2 g1.lt
  have c2 := c1.below hb2 c1.lt
  have hb3 := hb.trans (hb2.mono hb.size)
  obtain ⟨-, -, c2', -, -⟩ := c2.facts
  clear hb hb2 g1 c1
  cases v <;> cases f
  case true.true =>
    obtain ⟨i, j, hi, hj, rfl, rfl⟩ := cell_nat HV.out HF.out
    simp only [told, if_true]
    go_wp2_with fail
    refine (at_any L HL.out w.heap.size i j hi hj _ g2).mono ?_
    rintro e w3 ⟨rfl, hb4⟩
    go_wp2_with fail
    go_ret2
    exact ⟨by rw [HK.out]; rfl, hb3.trans (hb4.mono hb3.size)⟩
  all_goals
    simp only [told, if_true, Bool.false_eq_true, if_false]
    go_wp2_with fail
    go_ret2
    exact ⟨by rw [HK.out]; rfl, hb3⟩

set_option maxRecDepth 100000 in
set_option maxHeartbeats 1000000 in
theorem implKindAt_any (L : Lawn) (hL : L.Fits) (x y : Int) (w : World) :
    Calls Try.prog 33 #[.agg L.cells, .agg #[.int .i8 x, .int .i8 y]] w fun e w' => e = .returned (kindAtV L x y) ∧ Below w.heap.size w w' := by
  have HL := Lib.hid hL
  clear hL
  obtain ⟨v, hv⟩ : ∃ v, validB L = v := ⟨_, rfl⟩
  obtain ⟨f, hf⟩ : ∃ f, isB L x y = f := ⟨_, rfl⟩
  have HV := Lib.hid hv
  have HF := Lib.hid hf
  have HK := Lib.hid (show kindAtV L x y = if told v f = 0 then .tuple #[.int .i64 (L.kind y.toNat x.toNat), .int .i64 0] else .tuple #[.int .i64 0, .int .i64 (told v f)] by simp only [kindAtV, hv, hf])
  clear hv hf
  go_enter Try.func33, Try.ntmps33
  go_wp2_with fail
  have g0 : Holds (((w.alloc (.cells L.cells 28)).alloc (.cells #[.int .i8 x, .int .i8 y] 35)).alloc (.cells #[.int .i8 x, .int .i8 y] 35)) w.heap.size L.cells := ((Holds.new _ _ _).alloc _).alloc _
  have c0 : Holds (((w.alloc (.cells L.cells 28)).alloc (.cells #[.int .i8 x, .int .i8 y] 35)).alloc (.cells #[.int .i8 x, .int .i8 y] 35)) (w.heap.size + 1) #[.int .i8 x, .int .i8 y] := (Holds.new' _ _ _ _ (by simp)).alloc _
  have s0 : Holds (((w.alloc (.cells L.cells 28)).alloc (.cells #[.int .i8 x, .int .i8 y] 35)).alloc (.cells #[.int .i8 x, .int .i8 y] 35)) (w.heap.size + 1 + 1) #[.int .i8 x, .int .i8 y] := Holds.new' _ _ _ _ (by simp)
  have hb : Below w.heap.size w (((w.alloc (.cells L.cells 28)).alloc (.cells #[.int .i8 x, .int .i8 y] 35)).alloc (.cells #[.int .i8 x, .int .i8 y] 35)) := (((Below.refl w.heap.size w).alloc (Nat.le_refl _) _).alloc (by simp) _).alloc (by simp; omega) _
  refine (check_any L HL.out x y _ _ s0).mono ?_
  rw [HV.out, HF.out]
  rintro e w1 ⟨rfl, hb1⟩
  have g1 := g0.below hb1 g0.lt
  have c1 := c0.below hb1 c0.lt
  have hb3 := hb.trans (hb1.mono (by simp; omega))
  obtain ⟨-, -, c1', -, -⟩ := c1.facts
  obtain ⟨r1, f1, -, -, l1⟩ := g1.facts
  clear hb hb1 g0 c0 s0
  cases v <;> cases f
  case true.true =>
    obtain ⟨i, j, hi, hj, rfl, rfl⟩ := cell_nat HV.out HF.out
    have k0 := HL.out.k0 j i hj hi
    have k1 := HL.out.k1 j i hj hi
    have hwr : IntKind.i64.wrap (L.kind j i) = L.kind j i := IntWalk.i64_in _ (by omega)
    simp only [told, if_true]
    go_wp2_with fail
    refine (kind_any L i j hi hj _).mono ?_
    rintro e w3 ⟨rfl, hb4⟩
    go_wp2_with fail
    go_ret2
    exact ⟨by rw [HK.out]; rfl, hb3.trans (hb4.mono hb3.size)⟩
  all_goals
    simp only [told, if_true, Bool.false_eq_true, if_false]
    go_wp2_with fail
    go_ret2
    exact ⟨by rw [HK.out]; rfl, hb3⟩

set_option maxRecDepth 100000 in
set_option maxHeartbeats 1000000 in
/-- The law on KindAt answers true. -/
theorem exactKindAt (A : Lawn) (hA : A.Fits) (c : Int × Int) (hc : (-128 ≤ c.1 ∧ c.1 ≤ 127) ∧ -128 ≤ c.2 ∧ c.2 ≤ 127) (w : World) :
    Calls Try.prog 7 #[.agg A.cells, .agg #[.int .i8 c.1, .int .i8 c.2]] w fun e w' => e = .returned (.bool true) ∧ Below w.heap.size w w' := by
  obtain ⟨x, y⟩ := c
  simp only at hc ⊢
  obtain ⟨n, m, hv⟩ : ∃ n m, kindAtV A x y = .tuple #[.int .i64 n, .int .i64 m] := by unfold kindAtV; split <;> exact ⟨_, _, rfl⟩
  have HI : ∀ w : World, Calls Try.prog 33 #[.agg A.cells, .agg #[.int .i8 x, .int .i8 y]] w fun e w' => e = .returned (.tuple #[.int .i64 n, .int .i64 m]) ∧ Below w.heap.size w w' := fun w => hv ▸ implKindAt_any A hA x y w
  have HS : ∀ w : World, Calls Try.prog 43 #[.agg A.cells, .agg #[.int .i8 x, .int .i8 y]] w fun e w' => e = .returned (.tuple #[.int .i64 n, .int .i64 m]) ∧ Below w.heap.size w w' := fun w => hv ▸ specKindAt_any A hA x y hc.1.1 hc.1.2 hc.2.1 hc.2.2 w
  clear hv hA hc
  have HI' := Lib.hid HI
  have HS' := Lib.hid HS
  clear HI HS
  go_enter Try.func7, Try.ntmps7
  go_wp2_with fail
  have g0 : Holds ((w.alloc (.cells A.cells 51)).alloc (.cells #[.int .i8 x, .int .i8 y] 60)) w.heap.size A.cells := (Holds.new _ _ _).alloc _
  have c0 : Holds ((w.alloc (.cells A.cells 51)).alloc (.cells #[.int .i8 x, .int .i8 y] 60)) (w.heap.size + 1) #[.int .i8 x, .int .i8 y] := Holds.new' _ _ _ _ (by simp)
  have hb : Below w.heap.size w ((w.alloc (.cells A.cells 51)).alloc (.cells #[.int .i8 x, .int .i8 y] 60)) := ((Below.refl _ _).alloc (Nat.le_refl _) _).alloc (by simp) _
  obtain ⟨W, hW⟩ : ∃ W, (w.alloc (.cells A.cells 51)).alloc (.cells #[.int .i8 x, .int .i8 y] 60) = W := ⟨_, rfl⟩
  rw [hW] at g0 c0 hb ⊢
  clear hW
  obtain ⟨r0, -⟩ := g0.later
  obtain ⟨-, s0⟩ := c0.later
  refine wp_region_grow 9 (by kernel_rfl) (by kernel_rfl) ?_
  simp only [List.take_succ_cons, List.take_zero, List.drop_succ_cons, List.drop_zero]
  iterate 9
    apply wpGrow_plain rfl
    · intro w' hw' K hK
      have s1 := s0 _ hw'
      go_wp2_with (first | (go_at_call 36; refine (toLawn_any _ _).mono ?_; rintro e w1 ⟨rfl, hb1⟩) | (go_at_call 44; refine (toCell_any _ _ _).mono ?_; rintro e w1 ⟨rfl, hb1⟩) | (go_at_call 43; refine (HS'.out _).mono ?_; rintro e w1 ⟨rfl, hb1⟩) | (go_at_call 33; refine (HI'.out _).mono ?_; rintro e w1 ⟨rfl, hb1⟩))
      first | exact hK _ _ rfl hw' | exact hK _ _ rfl (below_onto hw' hb1)
    simp only [Act.put, List.setIfInBounds_toArray, List.set_cons_succ, List.set_cons_zero]
  refine wpGrow_nil ?_
  intro W2 hW2
  have hb2 := below_onto hb hW2
  have g2 := g0.below hW2 g0.lt
  have c2 := c0.below hW2 c0.lt
  clear hW2 g0 c0 r0 s0 hb W
  obtain ⟨r0, -⟩ := g2.later
  obtain ⟨-, s0⟩ := c2.later
  go_wp2_with fail
  refine wp_region_grow 9 (by kernel_rfl) (by kernel_rfl) ?_
  simp only [List.take_succ_cons, List.take_zero, List.drop_succ_cons, List.drop_zero]
  iterate 9
    apply wpGrow_plain rfl
    · intro w' hw' K hK
      have s1 := s0 _ hw'
      go_wp2_with (first | (go_at_call 36; refine (toLawn_any _ _).mono ?_; rintro e w1 ⟨rfl, hb1⟩) | (go_at_call 44; refine (toCell_any _ _ _).mono ?_; rintro e w1 ⟨rfl, hb1⟩) | (go_at_call 43; refine (HS'.out _).mono ?_; rintro e w1 ⟨rfl, hb1⟩) | (go_at_call 33; refine (HI'.out _).mono ?_; rintro e w1 ⟨rfl, hb1⟩))
      first | exact hK _ _ rfl hw' | exact hK _ _ rfl (below_onto hw' hb1)
    simp only [Act.put, List.setIfInBounds_toArray, List.set_cons_succ, List.set_cons_zero]
  refine wpGrow_nil ?_
  intro W3 hW3
  have hb3 := below_onto hb2 hW3
  clear hW3 r0 s0 g2 c2 HI' HS'
  go_wp2_with fail
  go_ret
  exact ⟨rfl, hb3⟩
end Go.Proofs.Ytognggcajjbfiaa
