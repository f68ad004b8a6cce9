/- The law on FewestTrips. -/
import Derived.Test.YtaeenkjbmlgcmaaZY
import Derived.Test.YtaeenkjbmlgcmaaZT
import Derived.Test.YtaeenkjbmlgcmaaZR
import Derived.Test.YtaeenkjbmlgcmaaEqInt64S
import Derived.Test.YtaeenkjbmlgcmaaMarkCellS
import Derived.Test.YtaeenkjbmlgcmaaMarkInt64S
import Derived.Test.YtaeenkjbmlgcmaaSizeC
import Derived.Test.YtaeenkjbmlgcmaaStrV
import Derived.Test.YtaeenkjbmlgcmaaZC
namespace Go.Proofs.Ytaeenkjbmlgcmaa
open Go.RowKit
set_option linter.unusedVariables false
attribute [local go_sem ↓] loadRow loadGrid loadLawn loadMirror storeRow storeGrid storeLawn allocRow allocGrid allocLawn buildZero buildSides

theorem apart_sym2 {a b : Option Nat} (h : a = none ∨ a ≠ b) : b = none ∨ b ≠ a := by
  rcases h with rfl | h
  · cases b with
    | none => exact .inl rfl
    | some k => exact .inr (by simp)
  · exact .inr (Ne.symm h)
set_option maxRecDepth 100000 in
set_option maxHeartbeats 4000000 in
theorem exactFewestTrips_walk (A : Lawn) (cx cy fu : Int) (an : Nat) (aa : Value) (az : List Int) (S z : Int) (n : Nat) (xs : List Value) (hn1 : n ≤ 1000000) (hx : ∀ j, j < n * 1 → ∃ y, xs[j]? = some (.int .i64 y)) (al : az.length = an * 2) (am : an ≤ 9223372036854775807)
    (HI0 : an ≤ 1048576 → ∀ (w : World) (av : Value) (aB : Nat), w.ownsRow aB 37 2 av an (intsV .i8 az) → Calls Try.prog 41 #[.agg A.cells, .agg #[.int .i8 cx, .int .i8 cy], .int .i64 fu, av] w fun e w' => (∃ u, e = .returned (.tuple #[u, .int .i64 S, .int .i64 z]) ∧ w'.ownsRow w.heap.size 2 1 u n xs) ∧ Below w.heap.size w w')
    (HS0 : an ≤ 1048576 → ∀ (w : World) (av : Value) (aB : Nat), w.ownsRow aB 37 2 av an (intsV .i8 az) → Calls Try.prog 40 #[.agg A.cells, .agg #[.int .i8 cx, .int .i8 cy], .int .i64 fu, av] w fun e w' => (∃ u, e = .returned (.tuple #[u, .int .i64 S, .int .i64 z]) ∧ w'.ownsRow w.heap.size 2 1 u n xs) ∧ Below w.heap.size w w')
    (w : World) (ah : ArgRow .i8 2 w aa an az) :
    Calls Try.prog 10 #[.agg A.cells, .agg #[.int .i8 cx, .int .i8 cy], .int .i64 fu, aa] w fun e w' => e = .returned (.bool true) ∧ Below w.heap.size w w' := by
  have HI1 := Lib.hid HI0
  have HS1 := Lib.hid HS0
  have HX := Lib.hid hx
  clear HI0 HS0 hx
  have aH := Lib.hid ah
  obtain ⟨ap, ac, rfl⟩ := ah.slice
  clear ah
  obtain ⟨s, hs⟩ : ∃ s, w.heap.size = s := ⟨_, rfl⟩
  have HS := Lib.hid hs
  obtain ⟨W, hW⟩ : ∃ W, (w.alloc (.cells A.cells 26)).alloc (.cells #[.int .i8 cx, .int .i8 cy] 33) = W := ⟨_, rfl⟩
  have g0 : Holds W s A.cells := by rw [← hW, ← hs]; exact (Holds.new _ _ _).alloc _
  have g1 : Holds W (s + 1) #[.int .i8 cx, .int .i8 cy] := by rw [← hW, ← hs]; exact Holds.new' _ _ _ _ (by simp)
  have hb : Below s w W := by rw [← hW, ← hs]; exact ((Below.refl w.heap.size w).alloc (Nat.le_refl _) _).alloc (by simp) _
  have HG := Lib.hid (And.intro g0 (And.intro g1 hb))
  have hsW : s ≤ W.heap.size := by have := g0.lt; omega
  rw [hs]
  clear g0 g1 hb
  by_cases abig : 1048576 < an
  · go_enter Try.func10, Try.ntmps10
    go_wp2_with fail
    try rw [hW]
    refine (szCellS_big an _ _ 1048576 (by omega) (by omega) am _).mono ?_
    rintro e w' ⟨rfl, rfl⟩
    go_wp2_with fail
    go_ret
    exact ⟨rfl, HG.out.2.2⟩
  have HI := Lib.hid (HI1.out (by omega))
  have HSS := Lib.hid (HS1.out (by omega))
  clear HI1 HS1
  have ad : decide (((1048576 - an : Nat) : Int) < 0) = false := by simp
  go_enter Try.func10, Try.ntmps10
  go_wp2_with fail
  try rw [hW]
  try simp only [hs]
  clear hW hs
  refine (szCellS_any an _ _ 1048576 (by omega) _).mono ?_
  rintro e W' ⟨rfl, hWW⟩
  have hWW2 : W' = W := by first | exact hWW | exact hWW.symm
  rw [hWW2]
  clear hWW hWW2 W'
  have aHW := Lib.hid (aH.out.below HG.out.2.2 (by rw [HS.out]; exact Nat.le_refl _))
  go_wp2_with fail
  refine wp_region_growXV 14 [fun _ => .agg A.cells, fun _ => .agg A.cells, fun _ => .agg #[.int .i8 cx, .int .i8 cy], fun _ => .agg #[.int .i8 cx, .int .i8 cy], fun _ => .int .i64 fu, fun _ => .slice ap an ac, fun q => q, fun q => q, fun q => q, fun q => q, fun _ => .int .i64 S, fun _ => .int .i64 z, fun q => q, fun _ => .int .i64 S]
    [fun _ _ => True, fun _ _ => True, fun _ _ => True, fun _ _ => True, fun _ _ => True, fun _ _ => True, fun q w' => w'.ownsRow W.heap.size 37 2 q an (intsV .i8 az), fun q w' => ∃ u, q = .tuple #[u, .int .i64 S, .int .i64 z] ∧ w'.ownsRow W.heap.size 2 1 u n xs, fun q w' => ∃ u, q = .tuple #[u, .int .i64 S, .int .i64 z] ∧ w'.ownsRow W.heap.size 2 1 u n xs, fun q w' => w'.ownsRow W.heap.size 2 1 q n xs, fun _ _ => True, fun _ _ => True, fun q w' => w'.ownsRow W.heap.size 2 1 q n xs]
    [[], [], [], [], [], [], [], [6], [7], [8], [8], [8], [9]] ?_ (by kernel_rfl) (by kernel_rfl) (by kernel_rfl) ?_
  · intro j q w1 w2 h1 hb
    match j with
    | 0 => trivial
    | 1 => trivial
    | 2 => trivial
    | 3 => trivial
    | 4 => trivial
    | 5 => trivial
    | 6 => exact own_below h1 hb
    | 7 => obtain ⟨u, e, ho⟩ := h1; exact ⟨u, e, own_below ho hb⟩
    | 8 => obtain ⟨u, e, ho⟩ := h1; exact ⟨u, e, own_below ho hb⟩
    | 9 => exact own_below h1 hb
    | 10 => trivial
    | 11 => trivial
    | 12 => exact own_below h1 hb
    | 13 => trivial
    | j + 14 => exact trivial
  intro sv
  simp only [List.take_succ_cons, List.take_zero, List.drop_succ_cons, List.drop_zero]
  iterate 6
    refine seqXV_lit rfl (fun _ => rfl) (fun _ _ => trivial) ?_ ?_
    · intro w' hw' _ K hK
      have hb0 := below_onto (Below.refl W.heap.size W) hw'
      have f0 := (HG.out.1.below hb0 HG.out.1.lt).row
      have f1 := (HG.out.2.1.below hb0 HG.out.2.1.lt).cell 0
      have f2 := (HG.out.2.1.below hb0 HG.out.2.1.lt).cell 1
      simp only [List.getElem?_toArray, List.getElem?_cons_zero, List.getElem?_cons_succ] at f1 f2
      clear hb0
      go_wp2_with (first | (go_at_call 13; refine (toLawn_any _ _).mono ?_; rintro e w1 ⟨rfl, hb1⟩) | (go_at_call 16; refine (toCell_any _ _ _).mono ?_; rintro e w1 ⟨rfl, hb1⟩))
      first | exact hK _ _ rfl (Below.refl _ _) | exact hK _ _ rfl hb1
    simp only [Act.put, List.setIfInBounds_toArray, List.set_cons_succ, List.set_cons_zero]
  refine seqXV_num rfl (v := fun q => q) (fun _ => rfl) ?_ ?_
  · intro w' hw' _ K hK
    go_wp2_with fail
    refine (toCellS_any an _ az (by omega) w' (aHW.out.below (below_onto (Below.refl W.heap.size W) hw') (Nat.le_refl _))).mono ?_
    rintro e w1 ⟨⟨v, rfl, o⟩, q⟩
    exact hK _ _ _ rfl q (ownsRow_low o hw'.size)
  simp only [Act.put, List.setIfInBounds_toArray, List.set_cons_succ, List.set_cons_zero]
  refine seqXV_num rfl (v := fun q => q) (fun _ => rfl) ?_ ?_
  · intro w' hw' hd' K hK
    have h5 : w'.ownsRow W.heap.size 37 2 (sv 6) an (intsV .i8 az) := hd' 6 (by simp)
    go_wp2_with fail
    refine (HSS.out w' _ _ h5).mono ?_
    rintro e w1 ⟨⟨u, rfl, ho⟩, q⟩
    exact hK _ _ _ rfl q ⟨_, rfl, ownsRow_low ho hw'.size⟩
  simp only [Act.put, List.setIfInBounds_toArray, List.set_cons_succ, List.set_cons_zero]
  refine seqXV_num rfl (v := fun q => q) (fun _ => rfl) ?_ ?_
  · intro w' hw' hd' K hK
    have h5 := hd' 7 (by simp)
    go_wp2_with fail
    exact hK _ _ _ rfl (Below.refl _ _) h5
  simp only [Act.put, List.setIfInBounds_toArray, List.set_cons_succ, List.set_cons_zero]
  refine seqXV_num rfl (v := fun q => q) (fun _ => rfl) ?_ ?_
  · intro w' hw' hd' K hK
    obtain ⟨u', e6, ho⟩ := hd' 8 (by simp)
    rw [e6]
    go_wp2_with fail
    exact hK _ _ _ (by rw [e6]; rfl) (Below.refl _ _) ho
  simp only [Act.put, List.setIfInBounds_toArray, List.set_cons_succ, List.set_cons_zero]
  iterate 2
    refine seqXV_lit rfl (fun _ => rfl) (fun _ _ => trivial) ?_ ?_
    · intro w' hw' hd' K hK
      obtain ⟨u', e6, ho⟩ := hd' 8 (by simp)
      rw [e6]
      go_wp2_with fail
      exact hK _ _ (by rw [e6]; rfl) (Below.refl _ _)
    simp only [Act.put, List.setIfInBounds_toArray, List.set_cons_succ, List.set_cons_zero]
  refine seqXV_num rfl (v := fun q => q) (fun _ => rfl) ?_ ?_
  · intro w' hw' hd' K hK
    have h7 := hd' 9 (by simp)
    go_wp2_with fail
    exact hK _ _ _ rfl (Below.refl _ _) h7
  simp only [Act.put, List.setIfInBounds_toArray, List.set_cons_succ, List.set_cons_zero]
  refine seqXV_lit rfl (fun _ => rfl) (fun _ _ => trivial) ?_ ?_
  · intro w' hw' _ K hK
    go_wp2_with fail
    exact hK _ _ rfl (Below.refl _ _)
  simp only [Act.put, List.setIfInBounds_toArray, List.set_cons_succ, List.set_cons_zero]
  refine seqXV_nil ?_
  intro W3 hW3 hall
  have OS3 := Lib.hid (show W3.ownsRow W.heap.size 2 1 (sv 12) n xs from hall 12 (by omega))
  obtain ⟨ws, hws⟩ : ∃ ws, sv 12 = ws := ⟨_, rfl⟩
  have HB3 := Lib.hid hW3
  clear hall hW3 HSS
  rw [hws] at OS3
  try simp only [Nat.zero_add, Nat.reduceAdd]
  rw [hws]
  clear hws
  go_wp2_with fail
  refine (toCellS_any an _ az (by omega) W3 (aHW.out.below HB3.out (Nat.le_refl _))).mono ?_
  rintro e w4 ⟨⟨x2, rfl, o2⟩, q4⟩
  have hap2 := own_apart OS3.out (Nat.le_refl _) o2
  have O2 := Lib.hid (ownsRow_low o2 (show W.heap.size ≤ W3.heap.size from HB3.out.size))
  have OS4 := Lib.hid (own_below OS3.out q4)
  have HB4 := Lib.hid (below_onto HB3.out q4)
  clear q4 o2 HB3 OS3
  go_wp2_with fail
  refine wp_region_growXV 13 [fun _ => .agg A.cells, fun _ => .agg A.cells, fun _ => .agg #[.int .i8 cx, .int .i8 cy], fun _ => .agg #[.int .i8 cx, .int .i8 cy], fun _ => .int .i64 fu, fun _ => x2, fun q => q, fun q => q, fun q => q, fun _ => .int .i64 S, fun _ => .int .i64 z, fun q => q, fun _ => .int .i64 S]
    [fun _ _ => True, fun _ _ => True, fun _ _ => True, fun _ _ => True, fun _ _ => True, fun _ _ => True, fun q w' => ∃ u, q = .tuple #[u, .int .i64 S, .int .i64 z] ∧ w'.ownsRow w4.heap.size 2 1 u n xs, fun q w' => ∃ u, q = .tuple #[u, .int .i64 S, .int .i64 z] ∧ w'.ownsRow w4.heap.size 2 1 u n xs, fun q w' => w'.ownsRow w4.heap.size 2 1 q n xs, fun _ _ => True, fun _ _ => True, fun q w' => w'.ownsRow w4.heap.size 2 1 q n xs]
    [[], [], [], [], [], [], [], [6], [7], [7], [7], [8]] ?_ (by kernel_rfl) (by kernel_rfl) (by kernel_rfl) ?_
  · intro j q w1 w2 h1 hb
    match j with
    | 0 => trivial
    | 1 => trivial
    | 2 => trivial
    | 3 => trivial
    | 4 => trivial
    | 5 => trivial
    | 6 => obtain ⟨u, e, ho⟩ := h1; exact ⟨u, e, own_below ho hb⟩
    | 7 => obtain ⟨u, e, ho⟩ := h1; exact ⟨u, e, own_below ho hb⟩
    | 8 => exact own_below h1 hb
    | 9 => trivial
    | 10 => trivial
    | 11 => exact own_below h1 hb
    | 12 => trivial
    | j + 13 => exact trivial
  intro sw
  simp only [List.take_succ_cons, List.take_zero, List.drop_succ_cons, List.drop_zero]
  iterate 6
    refine seqXV_lit rfl (fun _ => rfl) (fun _ _ => trivial) ?_ ?_
    · intro w' hw' _ K hK
      have hb0 := below_onto HB4.out hw'
      have f0 := (HG.out.1.below hb0 HG.out.1.lt).row
      have f1 := (HG.out.2.1.below hb0 HG.out.2.1.lt).cell 0
      have f2 := (HG.out.2.1.below hb0 HG.out.2.1.lt).cell 1
      simp only [List.getElem?_toArray, List.getElem?_cons_zero, List.getElem?_cons_succ] at f1 f2
      clear hb0
      go_wp2_with (first | (go_at_call 13; refine (toLawn_any _ _).mono ?_; rintro e w1 ⟨rfl, hb1⟩) | (go_at_call 16; refine (toCell_any _ _ _).mono ?_; rintro e w1 ⟨rfl, hb1⟩))
      first | exact hK _ _ rfl (Below.refl _ _) | exact hK _ _ rfl hb1
    simp only [Act.put, List.setIfInBounds_toArray, List.set_cons_succ, List.set_cons_zero]
  refine seqXV_num rfl (v := fun q => q) (fun _ => rfl) ?_ ?_
  · intro w' hw' hd' K hK
    go_wp2_with fail
    refine (HI.out w' _ _ (own_below O2.out hw')).mono ?_
    rintro e w1 ⟨⟨u, rfl, ho⟩, q⟩
    exact hK _ _ _ rfl q ⟨_, rfl, ownsRow_low ho hw'.size⟩
  simp only [Act.put, List.setIfInBounds_toArray, List.set_cons_succ, List.set_cons_zero]
  refine seqXV_num rfl (v := fun q => q) (fun _ => rfl) ?_ ?_
  · intro w' hw' hd' K hK
    have h5 := hd' 6 (by simp)
    go_wp2_with fail
    exact hK _ _ _ rfl (Below.refl _ _) h5
  simp only [Act.put, List.setIfInBounds_toArray, List.set_cons_succ, List.set_cons_zero]
  refine seqXV_num rfl (v := fun q => q) (fun _ => rfl) ?_ ?_
  · intro w' hw' hd' K hK
    obtain ⟨u', e6, ho⟩ := hd' 7 (by simp)
    rw [e6]
    go_wp2_with fail
    exact hK _ _ _ (by rw [e6]; rfl) (Below.refl _ _) ho
  simp only [Act.put, List.setIfInBounds_toArray, List.set_cons_succ, List.set_cons_zero]
  iterate 2
    refine seqXV_lit rfl (fun _ => rfl) (fun _ _ => trivial) ?_ ?_
    · intro w' hw' hd' K hK
      obtain ⟨u', e6, ho⟩ := hd' 7 (by simp)
      rw [e6]
      go_wp2_with fail
      exact hK _ _ (by rw [e6]; rfl) (Below.refl _ _)
    simp only [Act.put, List.setIfInBounds_toArray, List.set_cons_succ, List.set_cons_zero]
  refine seqXV_num rfl (v := fun q => q) (fun _ => rfl) ?_ ?_
  · intro w' hw' hd' K hK
    have h7 := hd' 8 (by simp)
    go_wp2_with fail
    exact hK _ _ _ rfl (Below.refl _ _) h7
  simp only [Act.put, List.setIfInBounds_toArray, List.set_cons_succ, List.set_cons_zero]
  refine seqXV_lit rfl (fun _ => rfl) (fun _ _ => trivial) ?_ ?_
  · intro w' hw' _ K hK
    go_wp2_with fail
    exact hK _ _ rfl (Below.refl _ _)
  simp only [Act.put, List.setIfInBounds_toArray, List.set_cons_succ, List.set_cons_zero]
  refine seqXV_nil ?_
  intro W5 hW5 hall
  have hog : W5.ownsRow w4.heap.size 2 1 (sw 11) n xs := hall 11 (by omega)
  obtain ⟨vg, hvg⟩ : ∃ vg, sw 11 = vg := ⟨_, rfl⟩
  rw [hvg] at hog
  have hapg := own_apart OS4.out (Nat.le_refl _) hog
  have hapx := own_apart O2.out (Nat.le_refl _) hog
  have O25 := Lib.hid (own_below O2.out hW5)
  have OS5 := Lib.hid (own_below OS4.out hW5)
  have OG5 := Lib.hid (ownsRow_low hog (show W.heap.size ≤ w4.heap.size from HB4.out.size))
  have HB5 := Lib.hid (below_onto HB4.out hW5)
  clear hall hW5 hog HB4 OS4 O2
  try simp only [Nat.zero_add, Nat.reduceAdd]
  rw [hvg]
  clear hvg
  have hSne : (S != S) = false := by simp
  have hzne : (z != z) = false := by simp
  go_wp2_with fail
  refine (eqInt64S_same n xs (by omega) HX.out _ _ _ _ _ OG5.out OS5.out).mono ?_
  rintro e w6 ⟨rfl, q6⟩
  have O26 := Lib.hid (own_below O25.out q6)
  have OS6 := Lib.hid (own_below OS5.out q6)
  have OG6 := Lib.hid (own_below OG5.out q6)
  have HB6 := Lib.hid (below_onto HB5.out q6)
  clear q6 O25 OS5 OG5 HB5
  go_wp2_with fail
  refine (toCellS_any an _ az (by omega) w6 (aHW.out.below HB6.out (Nat.le_refl _))).mono ?_
  rintro e w7 ⟨⟨x7, rfl, o7⟩, q7⟩
  have O7 := Lib.hid o7
  have O27 := Lib.hid (own_below O26.out q7)
  have OS7 := Lib.hid (own_below OS6.out q7)
  have OG7 := Lib.hid (own_below OG6.out q7)
  have HB7 := Lib.hid (below_onto HB6.out q7)
  clear q7 o7 O26 OS6 OG6 HB6
  go_wp2_with fail
  refine (eqCellS_same an (intsV .i8 az) (by omega) (intsV_ints al) _ _ _ _ _ O27.out O7.out).mono ?_
  rintro e w8 ⟨rfl, q8⟩
  have O28 := Lib.hid (own_below O27.out q8)
  have OS8 := Lib.hid (own_below OS7.out q8)
  have OG8 := Lib.hid (own_below OG7.out q8)
  have HB8 := Lib.hid (below_onto HB7.out q8)
  clear q8 O27 O7 OS7 OG7 HB7
  go_wp2_with fail
  obtain ⟨M1, hM1⟩ : ∃ M, 1 + 2 * an = M := ⟨_, rfl⟩
  refine (markCellS_one W.heap.size an M1 _ _ _ (by omega) hM1 O28.out).mono ?_
  rintro e w9 ⟨rfl, om, hgr⟩
  have OS9 := Lib.hid (OS8.out.kept hgr hap2)
  have OG9 := Lib.hid (OG8.out.kept hgr (apart_sym2 hapx))
  have HB9 := Lib.hid (below_marked HB8.out O28.out hgr (Nat.le_refl _) HB8.out.size)
  have d1 : decide ((M1 : Int) < 0) = false := by simp
  clear om hgr hap2 hapx O28 OS8 OG8 HB8 hM1
  go_wp2_with fail
  refine (eqInt64S_same n xs (by omega) HX.out _ _ _ _ _ OG9.out OS9.out).mono ?_
  rintro e w10 ⟨rfl, q10⟩
  have OS10 := Lib.hid (own_below OS9.out q10)
  have OG10 := Lib.hid (own_below OG9.out q10)
  have HB10 := Lib.hid (below_onto HB9.out q10)
  clear q10 OS9 OG9 HB9
  go_wp2_with fail
  obtain ⟨M, hM⟩ : ∃ M, 1 + n = M := ⟨_, rfl⟩
  refine (markInt64S_one W.heap.size n M _ _ _ (by omega) hM OG10.out).mono ?_
  rintro e w11 ⟨rfl, om, hgr⟩
  have OS11 := Lib.hid (OS10.out.kept hgr hapg)
  have OM11 := Lib.hid om
  have HB11 := Lib.hid (below_marked HB10.out OG10.out hgr (Nat.le_refl _) HB10.out.size)
  have d2 : decide ((M : Int) < 0) = false := by simp
  have d3 : ((M : Int) != (M : Int)) = false := by simp
  clear om hgr hapg OS10 OG10 HB10
  go_wp2_with fail
  refine (heldInt64S_one W.heap.size n M _ _ (by omega) hM OM11.out).mono ?_
  rintro e w13 ⟨rfl, q13⟩
  have OS13 := Lib.hid (own_below OS11.out q13)
  have OM13 := Lib.hid (own_below OM11.out q13)
  have HB13 := Lib.hid (below_onto HB11.out q13)
  clear q13 OS11 OM11 HB11
  go_wp2_with fail
  refine wp_region_growXV 14 [fun _ => .agg A.cells, fun _ => .agg A.cells, fun _ => .agg #[.int .i8 cx, .int .i8 cy], fun _ => .agg #[.int .i8 cx, .int .i8 cy], fun _ => .int .i64 fu, fun _ => .slice ap an ac, fun q => q, fun q => q, fun q => q, fun q => q, fun _ => .int .i64 S, fun _ => .int .i64 z, fun q => q, fun _ => .int .i64 S]
    [fun _ _ => True, fun _ _ => True, fun _ _ => True, fun _ _ => True, fun _ _ => True, fun _ _ => True, fun q w' => w'.ownsRow w13.heap.size 37 2 q an (intsV .i8 az), fun q w' => ∃ u, q = .tuple #[u, .int .i64 S, .int .i64 z] ∧ w'.ownsRow w13.heap.size 2 1 u n xs, fun q w' => ∃ u, q = .tuple #[u, .int .i64 S, .int .i64 z] ∧ w'.ownsRow w13.heap.size 2 1 u n xs, fun q w' => w'.ownsRow w13.heap.size 2 1 q n xs, fun _ _ => True, fun _ _ => True, fun q w' => w'.ownsRow w13.heap.size 2 1 q n xs]
    [[], [], [], [], [], [], [], [6], [7], [8], [8], [8], [9]] ?_ (by kernel_rfl) (by kernel_rfl) (by kernel_rfl) ?_
  · intro j q w1 w2 h1 hb
    match j with
    | 0 => trivial
    | 1 => trivial
    | 2 => trivial
    | 3 => trivial
    | 4 => trivial
    | 5 => trivial
    | 6 => exact own_below h1 hb
    | 7 => obtain ⟨u, e, ho⟩ := h1; exact ⟨u, e, own_below ho hb⟩
    | 8 => obtain ⟨u, e, ho⟩ := h1; exact ⟨u, e, own_below ho hb⟩
    | 9 => exact own_below h1 hb
    | 10 => trivial
    | 11 => trivial
    | 12 => exact own_below h1 hb
    | 13 => trivial
    | j + 14 => exact trivial
  intro sx
  simp only [List.take_succ_cons, List.take_zero, List.drop_succ_cons, List.drop_zero]
  iterate 6
    refine seqXV_lit rfl (fun _ => rfl) (fun _ _ => trivial) ?_ ?_
    · intro w' hw' _ K hK
      have hb0 := below_onto HB13.out hw'
      have f0 := (HG.out.1.below hb0 HG.out.1.lt).row
      have f1 := (HG.out.2.1.below hb0 HG.out.2.1.lt).cell 0
      have f2 := (HG.out.2.1.below hb0 HG.out.2.1.lt).cell 1
      simp only [List.getElem?_toArray, List.getElem?_cons_zero, List.getElem?_cons_succ] at f1 f2
      clear hb0
      go_wp2_with (first | (go_at_call 13; refine (toLawn_any _ _).mono ?_; rintro e w1 ⟨rfl, hb1⟩) | (go_at_call 16; refine (toCell_any _ _ _).mono ?_; rintro e w1 ⟨rfl, hb1⟩))
      first | exact hK _ _ rfl (Below.refl _ _) | exact hK _ _ rfl hb1
    simp only [Act.put, List.setIfInBounds_toArray, List.set_cons_succ, List.set_cons_zero]
  refine seqXV_num rfl (v := fun q => q) (fun _ => rfl) ?_ ?_
  · intro w' hw' _ K hK
    go_wp2_with fail
    refine (toCellS_any an _ az (by omega) w' (aHW.out.below (below_onto HB13.out hw') (Nat.le_refl _))).mono ?_
    rintro e w1 ⟨⟨v, rfl, o⟩, q⟩
    exact hK _ _ _ rfl q (ownsRow_low o hw'.size)
  simp only [Act.put, List.setIfInBounds_toArray, List.set_cons_succ, List.set_cons_zero]
  refine seqXV_num rfl (v := fun q => q) (fun _ => rfl) ?_ ?_
  · intro w' hw' hd' K hK
    have h5 : w'.ownsRow w13.heap.size 37 2 (sx 6) an (intsV .i8 az) := hd' 6 (by simp)
    go_wp2_with fail
    refine (HI.out w' _ _ h5).mono ?_
    rintro e w1 ⟨⟨u, rfl, ho⟩, q⟩
    exact hK _ _ _ rfl q ⟨_, rfl, ownsRow_low ho hw'.size⟩
  simp only [Act.put, List.setIfInBounds_toArray, List.set_cons_succ, List.set_cons_zero]
  refine seqXV_num rfl (v := fun q => q) (fun _ => rfl) ?_ ?_
  · intro w' hw' hd' K hK
    have h5 := hd' 7 (by simp)
    go_wp2_with fail
    exact hK _ _ _ rfl (Below.refl _ _) h5
  simp only [Act.put, List.setIfInBounds_toArray, List.set_cons_succ, List.set_cons_zero]
  refine seqXV_num rfl (v := fun q => q) (fun _ => rfl) ?_ ?_
  · intro w' hw' hd' K hK
    obtain ⟨u', e6, ho⟩ := hd' 8 (by simp)
    rw [e6]
    go_wp2_with fail
    exact hK _ _ _ (by rw [e6]; rfl) (Below.refl _ _) ho
  simp only [Act.put, List.setIfInBounds_toArray, List.set_cons_succ, List.set_cons_zero]
  iterate 2
    refine seqXV_lit rfl (fun _ => rfl) (fun _ _ => trivial) ?_ ?_
    · intro w' hw' hd' K hK
      obtain ⟨u', e6, ho⟩ := hd' 8 (by simp)
      rw [e6]
      go_wp2_with fail
      exact hK _ _ (by rw [e6]; rfl) (Below.refl _ _)
    simp only [Act.put, List.setIfInBounds_toArray, List.set_cons_succ, List.set_cons_zero]
  refine seqXV_num rfl (v := fun q => q) (fun _ => rfl) ?_ ?_
  · intro w' hw' hd' K hK
    have h7 := hd' 9 (by simp)
    go_wp2_with fail
    exact hK _ _ _ rfl (Below.refl _ _) h7
  simp only [Act.put, List.setIfInBounds_toArray, List.set_cons_succ, List.set_cons_zero]
  refine seqXV_lit rfl (fun _ => rfl) (fun _ _ => trivial) ?_ ?_
  · intro w' hw' _ K hK
    go_wp2_with fail
    exact hK _ _ rfl (Below.refl _ _)
  simp only [Act.put, List.setIfInBounds_toArray, List.set_cons_succ, List.set_cons_zero]
  refine seqXV_nil ?_
  intro W14 hW14 hall
  have OH14 := Lib.hid (show W14.ownsRow w13.heap.size 2 1 (sx 12) n xs from hall 12 (by omega))
  obtain ⟨vh, hvh⟩ : ∃ vh, sx 12 = vh := ⟨_, rfl⟩
  rw [hvh] at OH14
  have OS14 := Lib.hid (own_below OS13.out hW14)
  have OM14 := Lib.hid (own_below OM13.out hW14)
  have HB14 := Lib.hid (below_onto HB13.out hW14)
  clear hall hW14 OS13 OM13 HB13 HI
  try simp only [Nat.zero_add, Nat.reduceAdd]
  rw [hvh]
  clear hvh
  go_wp2_with fail
  refine (eqInt64S_same n xs (by omega) HX.out _ _ _ _ _ OH14.out OS14.out).mono ?_
  rintro e w15 ⟨rfl, q15⟩
  have OM15 := Lib.hid (own_below OM14.out q15)
  have HB15 := Lib.hid (below_onto HB14.out q15)
  clear q15 OS14 OM14 OH14 HB14
  go_wp2_with fail
  refine (heldInt64S_one W.heap.size n M _ _ (by omega) hM OM15.out).mono ?_
  rintro e w16 ⟨rfl, q16⟩
  have HB16 := Lib.hid (below_onto HB15.out q16)
  clear q16 OM15 HB15
  go_wp2_with fail
  go_ret
  exact ⟨rfl, HG.out.2.2.trans (HB16.out.mono hsW)⟩

theorem prV_flatP (l : List (Int × Int)) : prV l = flatP l := by
  unfold prV flatP; rfl
theorem pairs_near {z : List Int} {n : Nat} (h1 : z.length = n * 2) (hr : ∀ x ∈ z, -128 ≤ x ∧ x ≤ 127) : ∀ a ∈ pairsZ z n, (-128 ≤ a.1 ∧ a.1 ≤ 127) ∧ -128 ≤ a.2 ∧ a.2 ≤ 127 := fun a ha => by
  simp only [pairsZ, List.mem_map, List.mem_range] at ha
  obtain ⟨j, hj, rfl⟩ := ha
  have e0 : z[j * 2]? = some (z.getD (j * 2) 0) := by simp [List.getElem?_eq_getElem (show j * 2 < z.length by omega)]
  have e1 : z[j * 2 + 1]? = some (z.getD (j * 2 + 1) 0) := by simp [List.getElem?_eq_getElem (show j * 2 + 1 < z.length by omega)]
  exact ⟨hr _ (List.mem_of_getElem? e0), hr _ (List.mem_of_getElem? e1)⟩
theorem fewZ_len (L : Lawn) (l : List Pt) (h : Pt) (full : Int) : (fewZ L l h full).1.length ≤ 5 := by
  unfold fewZ
  split
  · rename_i hz
    have h5 := goal_five hz
    split
    · simp
    · rename_i q hq
      rw [(allG_mem h5 (fewG_mem hq).1).1]
      exact h5
  · simp
theorem exactFewestTrips (A : Lawn) (hA : A.Fits) (c : Int × Int) (hc : (-128 ≤ c.1 ∧ c.1 ≤ 127) ∧ -128 ≤ c.2 ∧ c.2 ≤ 127) (fu : Int) (an : Nat) (aa : Value) (az : List Int) (am : an ≤ maxLen) (ar : ∀ x ∈ az, -128 ≤ x ∧ x ≤ 127) (w : World) (ah : ArgRow .i8 2 w aa an az) :
    Calls Try.prog 10 #[.agg A.cells, .agg #[.int .i8 c.1, .int .i8 c.2], .int .i64 fu, aa] w fun e w' => e = .returned (.bool true) ∧ Below w.heap.size w w' := by
  have hli : ∀ d ∈ (c.1, c.2) :: pairsZ az an, (-128 ≤ d.1 ∧ d.1 ≤ 127) ∧ -128 ≤ d.2 ∧ d.2 ≤ 127 := fun d hd => by
    rcases List.mem_cons.1 hd with rfl | hd
    · exact hc
    · exact pairs_near ah.1 ar d hd
  refine exactFewestTrips_walk A c.1 c.2 fu an aa az ((fewZ A (pairsZ az an) (c.1, c.2) fu).2.1 : Nat) (fewZ A (pairsZ az an) (c.1, c.2) fu).2.2 (fewZ A (pairsZ az an) (c.1, c.2) fu).1.length (ordV (fewZ A (pairsZ az an) (c.1, c.2) fu).1) (by have := fewZ_len A (pairsZ az an) (c.1, c.2) fu; omega) (fun j hj => ?_) ah.1 (by unfold maxLen at am; omega) ?_ ?_ w ah
  · unfold ordV
    rw [Nat.mul_one] at hj
    rw [List.getElem?_map, List.getElem?_eq_getElem hj]
    exact ⟨_, rfl⟩
  · intro h1 w av aB ha
    refine implFew_any A hA c.1 c.2 fu (pairsZ az an) an (pairsZ_length _ _) h1 av w ?_
    refine RowP.own (pairsZ_length _ _) (B := aB) (e := 37) ?_
    rw [← prV_flatP, ← pairsZ_row ah.1]
    exact ha
  · intro h1 w av aB ha
    refine specFew_any A hA c.1 c.2 fu (pairsZ az an) an (pairsZ_length _ _) h1 hli av w ?_
    refine RowP.own (pairsZ_length _ _) (B := aB) (e := 37) ?_
    rw [← prV_flatP, ← pairsZ_row ah.1]
    exact ha
end Go.Proofs.Ytaeenkjbmlgcmaa
