/- The law on NightOf. -/
import Derived.Test.YteaajkkhbflmdaaDoorINightF
import Derived.Test.YteaajkkhbflmdaaDoorErrs
import Derived.Test.YteaajkkhbflmdaaDoorZC
import Derived.Test.YteaajkkhbflmdaaDoorZB
namespace Go.Proofs.YteaajkkhbflmdaaDoor
open Go.RowKit
set_option linter.unusedVariables false
attribute [local go_sem ↓] loadRow loadGrid loadLawn loadMirror storeRow storeGrid storeLawn allocRow allocGrid allocLawn buildZero buildSides loadL8

set_option maxRecDepth 100000 in
set_option maxHeartbeats 2000000 in
theorem exactNightOf_walk (A : Lawn) (g : Nat → Nat → Int) (cx cy : Int) (dx dy : Int) (r0 : Int) (r1 : Int)
    {a0 a1 a2 a3 a4 : Addr}
    (HI : ∀ w : World, ErrsIn w a0 a1 a2 a3 a4 → Calls Tryd.prog 29 #[.agg A.cells, .agg (levV g), .agg #[.int .i8 cx, .int .i8 cy], .agg #[.int .i8 dx, .int .i8 dy]] w fun e w' => e = .returned (.tuple #[.int .i64 r0, .int .i64 r1]) ∧ Below w.heap.size w w')
    (HS : ∀ w : World, Calls Tryd.prog 28 #[.agg A.cells, .agg (levV g), .agg #[.int .i8 cx, .int .i8 cy], .agg #[.int .i8 dx, .int .i8 dy]] w fun e w' => e = .returned (.tuple #[.int .i64 r0, .int .i64 r1]) ∧ Below w.heap.size w w') (w : World) (hE : ErrsIn w a0 a1 a2 a3 a4) :
    Calls Tryd.prog 7 #[.agg A.cells, .agg (levV g), .agg #[.int .i8 cx, .int .i8 cy], .agg #[.int .i8 dx, .int .i8 dy]] w fun e w' => e = .returned (.bool true) ∧ Below w.heap.size w w' := by
  have HI' := Lib.hid HI
  have HS' := Lib.hid HS
  clear HI HS
  have HE0 := Lib.hid hE
  clear hE
  go_enter Tryd.func7, Tryd.ntmps7
  go_wp2_with fail
  have g0 : Holds ((((w.alloc (.cells A.cells 26)).alloc (.cells (levV g) 28)).alloc (.cells #[.int .i8 cx, .int .i8 cy] 30)).alloc (.cells #[.int .i8 dx, .int .i8 dy] 30)) (w.heap.size) A.cells := (((Holds.new w A.cells 26).alloc (.cells (levV g) 28)).alloc (.cells #[.int .i8 cx, .int .i8 cy] 30)).alloc (.cells #[.int .i8 dx, .int .i8 dy] 30)
  have g1 : Holds ((((w.alloc (.cells A.cells 26)).alloc (.cells (levV g) 28)).alloc (.cells #[.int .i8 cx, .int .i8 cy] 30)).alloc (.cells #[.int .i8 dx, .int .i8 dy] 30)) (w.heap.size + 1) (levV g) := ((Holds.new' (w.alloc (.cells A.cells 26)) (levV g) 28 (w.heap.size + 1) (by simp)).alloc (.cells #[.int .i8 cx, .int .i8 cy] 30)).alloc (.cells #[.int .i8 dx, .int .i8 dy] 30)
  have g2 : Holds ((((w.alloc (.cells A.cells 26)).alloc (.cells (levV g) 28)).alloc (.cells #[.int .i8 cx, .int .i8 cy] 30)).alloc (.cells #[.int .i8 dx, .int .i8 dy] 30)) (w.heap.size + 1 + 1) #[.int .i8 cx, .int .i8 cy] := (Holds.new' ((w.alloc (.cells A.cells 26)).alloc (.cells (levV g) 28)) #[.int .i8 cx, .int .i8 cy] 30 (w.heap.size + 1 + 1) (by simp)).alloc (.cells #[.int .i8 dx, .int .i8 dy] 30)
  have g3 : Holds ((((w.alloc (.cells A.cells 26)).alloc (.cells (levV g) 28)).alloc (.cells #[.int .i8 cx, .int .i8 cy] 30)).alloc (.cells #[.int .i8 dx, .int .i8 dy] 30)) (w.heap.size + 1 + 1 + 1) #[.int .i8 dx, .int .i8 dy] := Holds.new' (((w.alloc (.cells A.cells 26)).alloc (.cells (levV g) 28)).alloc (.cells #[.int .i8 cx, .int .i8 cy] 30)) #[.int .i8 dx, .int .i8 dy] 30 (w.heap.size + 1 + 1 + 1) (by simp)
  have hb : Below w.heap.size w ((((w.alloc (.cells A.cells 26)).alloc (.cells (levV g) 28)).alloc (.cells #[.int .i8 cx, .int .i8 cy] 30)).alloc (.cells #[.int .i8 dx, .int .i8 dy] 30)) := ((((Below.refl w.heap.size w).alloc (Nat.le_refl _) (.cells A.cells 26)).alloc (by simp <;> omega) (.cells (levV g) 28)).alloc (by simp <;> omega) (.cells #[.int .i8 cx, .int .i8 cy] 30)).alloc (by simp <;> omega) (.cells #[.int .i8 dx, .int .i8 dy] 30)
  obtain ⟨W, hW⟩ : ∃ W, ((((w.alloc (.cells A.cells 26)).alloc (.cells (levV g) 28)).alloc (.cells #[.int .i8 cx, .int .i8 cy] 30)).alloc (.cells #[.int .i8 dx, .int .i8 dy] 30)) = W := ⟨_, rfl⟩
  rw [hW] at g0 g1 g2 g3 hb ⊢
  clear hW
  obtain ⟨l0, s0⟩ := g0.later
  obtain ⟨l1, s1⟩ := g1.later
  obtain ⟨l2, s2⟩ := g2.later
  obtain ⟨l3, s3⟩ := g3.later
  refine wp_region_grow 13 (by kernel_rfl) (by kernel_rfl) ?_
  simp only [List.take_succ_cons, List.take_zero, List.drop_succ_cons, List.drop_zero]
  iterate 13
    apply wpGrow_plain rfl
    · intro w' hw' K hK
      have e2 := s2 _ hw'
      have e3 := s3 _ hw'
      go_wp2_with (first | (go_at_call 9; refine (toLawn_any _ _).mono ?_; rintro e w1 ⟨rfl, hb1⟩) | (go_at_call 20; refine (toCell_any _ _ _).mono ?_; rintro e w1 ⟨rfl, hb1⟩) | (go_at_call 10; refine (toLev_any _ _).mono ?_; rintro e w1 ⟨rfl, hb1⟩) | (go_at_call 28; refine (HS'.out _).mono ?_; rintro e w1 ⟨rfl, hb1⟩) | (go_at_call 29; refine (HI'.out _ (HE.out.below hw')).mono ?_; rintro e w1 ⟨rfl, hb1⟩))
      first | exact hK _ _ rfl hw' | exact hK _ _ rfl (below_onto hw' hb1)
    simp only [Act.put, List.setIfInBounds_toArray, List.set_cons_succ, List.set_cons_zero]
  refine wpGrow_nil ?_
  intro W1 hW
  have hb1 := below_onto hb hW
  have g0 := g0.below hW g0.lt
  have g1 := g1.below hW g1.lt
  have g2 := g2.below hW g2.lt
  have g3 := g3.below hW g3.lt
  clear hW hb l0 s0 l1 s1 l2 s2 l3 s3
  have HE := Lib.hid (HE0.out.below hb1)
  obtain ⟨l0, s0⟩ := g0.later
  obtain ⟨l1, s1⟩ := g1.later
  obtain ⟨l2, s2⟩ := g2.later
  obtain ⟨l3, s3⟩ := g3.later
  go_wp2_with fail
  refine wp_region_grow 13 (by kernel_rfl) (by kernel_rfl) ?_
  simp only [List.take_succ_cons, List.take_zero, List.drop_succ_cons, List.drop_zero]
  iterate 13
    apply wpGrow_plain rfl
    · intro w' hw' K hK
      have e2 := s2 _ hw'
      have e3 := s3 _ hw'
      go_wp2_with (first | (go_at_call 9; refine (toLawn_any _ _).mono ?_; rintro e w1 ⟨rfl, hb1⟩) | (go_at_call 20; refine (toCell_any _ _ _).mono ?_; rintro e w1 ⟨rfl, hb1⟩) | (go_at_call 10; refine (toLev_any _ _).mono ?_; rintro e w1 ⟨rfl, hb1⟩) | (go_at_call 28; refine (HS'.out _).mono ?_; rintro e w1 ⟨rfl, hb1⟩) | (go_at_call 29; refine (HI'.out _ (HE.out.below hw')).mono ?_; rintro e w1 ⟨rfl, hb1⟩))
      first | exact hK _ _ rfl hw' | exact hK _ _ rfl (below_onto hw' hb1)
    simp only [Act.put, List.setIfInBounds_toArray, List.set_cons_succ, List.set_cons_zero]
  refine wpGrow_nil ?_
  intro W2 hW
  have hb2 := below_onto hb1 hW
  have g0 := g0.below hW g0.lt
  have g1 := g1.below hW g1.lt
  have g2 := g2.below hW g2.lt
  have g3 := g3.below hW g3.lt
  clear hW hb1 l0 s0 l1 s1 l2 s2 l3 s3
  all_goals
    go_wp2_with fail
    go_ret
    exact ⟨rfl, hb2⟩

theorem chkE_none {L : Lawn} {g : Nat → Nat → Int} {fine : Bool} {cs : List Pt} (h : chkE L g fine cs = none) : levB L g = true ∧ ∀ c ∈ cs, grassP L c = true := by
  unfold chkE at h
  split at h
  · cases h
  rename_i h1
  split at h
  · cases h
  split at h
  · cases h
  rename_i h3
  refine ⟨by simpa using h1, fun c hc => ?_⟩
  have h4 : cs.any (fun c => !grassB L c.1 c.2) = false := by simpa using h3
  have := List.any_eq_false.1 h4 c hc
  simpa [grassP] using this
theorem errZ_ne (k : Nat) : errZ k ≠ 0 := by
  unfold errZ
  split
  · decide
  · split <;> decide
theorem cell_Q {L : Lawn} (hv : validB L = true) {x y : Int} (h : grassP L (x, y) = true) : ∃ q : Q10, x = (q.1.val : Int) ∧ y = (q.2.val : Int) ∧ grassP L (ptQ q) = true := by
  have h1 := ptQ_toQ (grassP_near hv (x, y) h)
  have h2 : ((toQ (x, y)).1.val : Int) = x := congrArg Prod.fst h1
  have h3 : ((toQ (x, y)).2.val : Int) = y := congrArg Prod.snd h1
  exact ⟨toQ (x, y), h2.symm, h3.symm, by rw [h1]; exact h⟩
theorem exactNightOf (A : Lawn) (hA : A.Fits) (g : Nat → Nat → Int) (hg : LevFits g) (cx cy : Int) (hc : (-128 ≤ cx ∧ cx ≤ 127) ∧ -128 ≤ cy ∧ cy ≤ 127) (dx dy : Int) (hd : (-128 ≤ dx ∧ dx ≤ 127) ∧ -128 ≤ dy ∧ dy ≤ 127) {a0 a1 a2 a3 a4 : Addr} (w : World) (hE : ErrsIn w a0 a1 a2 a3 a4) :
    Calls Tryd.prog 7 #[.agg A.cells, .agg (levV g), .agg #[.int .i8 cx, .int .i8 cy], .agg #[.int .i8 dx, .int .i8 dy]] w fun e w' => e = .returned (.bool true) ∧ Below w.heap.size w w' := by
  cases hk : chkE A g true [(cx, cy), (dx, dy)] with
  | some k =>
    exact exactNightOf_walk A g cx cy dx dy 0 (errZ k) (fun w hE => inightOf_bad A hA g cx cy dx dy k hk w hE)
      (fun w => snightOf_bad A hA g hg cx cy dx dy hc hd (errZ k) (by unfold chkC; rw [hk]) (errZ_ne k) w) w hE
  | none =>
    obtain ⟨hv, hgr⟩ := chkE_none hk
    have hV := (levB_true hv).1
    obtain ⟨q, rfl, rfl, hq⟩ := cell_Q hV (hgr (cx, cy) (by simp))
    obtain ⟨t, rfl, rfl, ht⟩ := cell_Q hV (hgr (dx, dy) (by simp))
    exact exactNightOf_walk A g _ _ _ _ _ _ (fun w hE => inightOf_good A hA g hv q t hq ht w hE)
      (fun w => snightOf_good A hA g hg hv q t hq ht w) w hE

end Go.Proofs.YteaajkkhbflmdaaDoor
