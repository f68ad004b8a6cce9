/- The law on CheckTrips. -/
import Derived.Test.YtaeenkjbmlgcmaaZW
import Derived.Test.YtaeenkjbmlgcmaaZR
import Derived.Test.YtaeenkjbmlgcmaaEqInt64S
import Derived.Test.YtaeenkjbmlgcmaaSizeC
import Derived.Test.YtaeenkjbmlgcmaaStrV
import Derived.Test.YtaeenkjbmlgcmaaZC
namespace Go.Proofs.Ytaeenkjbmlgcmaa
open Go.RowKit
set_option linter.unusedVariables false
attribute [local go_sem ↓] loadRow loadGrid loadLawn loadMirror storeRow storeGrid storeLawn allocRow allocGrid allocLawn buildZero buildSides

set_option maxRecDepth 100000 in
set_option maxHeartbeats 4000000 in
theorem exactCheckTrips_walk (A : Lawn) (cx cy N : Int) (an bn : Nat) (aa bb : Value) (az bz : List Int) (R : Bool) (z : Int) (al : az.length = an * 2) (am : an ≤ 9223372036854775807) (bl : bz.length = bn * 1)
    (HI0 : an ≤ 1048576 → bn ≤ 1048576 → ∀ (w : World) (av bv : Value) (aB bB : Nat), w.ownsRow aB 37 2 av an (intsV .i8 az) → w.ownsRow bB 2 1 bv bn (intsV .i64 bz) → Calls Try.prog 44 #[.agg A.cells, .agg #[.int .i8 cx, .int .i8 cy], .int .i64 N, av, bv] w fun e w' => e = .returned (.tuple #[.bool R, .int .i64 z]) ∧ Below w.heap.size w w')
    (HS0 : an ≤ 1048576 → bn ≤ 1048576 → ∀ (w : World) (av bv : Value) (aB bB : Nat), w.ownsRow aB 37 2 av an (intsV .i8 az) → w.ownsRow bB 2 1 bv bn (intsV .i64 bz) → Calls Try.prog 42 #[.agg A.cells, .agg #[.int .i8 cx, .int .i8 cy], .int .i64 N, av, bv] w fun e w' => e = .returned (.tuple #[.bool R, .int .i64 z]) ∧ Below w.heap.size w w')
    (w : World) (ah : ArgRow .i8 2 w aa an az) (bh : ArgRow .i64 1 w bb bn bz) :
    Calls Try.prog 11 #[.agg A.cells, .agg #[.int .i8 cx, .int .i8 cy], .int .i64 N, aa, bb] w fun e w' => e = .returned (.bool true) ∧ Below w.heap.size w w' := by
  have HI1 := Lib.hid HI0
  have HS1 := Lib.hid HS0
  clear HI0 HS0
  have aH := Lib.hid ah
  have bH := Lib.hid bh
  obtain ⟨ap, ac, rfl⟩ := ah.slice
  obtain ⟨bp, bc, rfl⟩ := bh.slice
  clear ah bh
  obtain ⟨s, hs⟩ : ∃ s, w.heap.size = s := ⟨_, rfl⟩
  have HS := Lib.hid hs
  obtain ⟨W, hW⟩ : ∃ W, (w.alloc (.cells A.cells 26)).alloc (.cells #[.int .i8 cx, .int .i8 cy] 33) = W := ⟨_, rfl⟩
  have g0 : Holds W s A.cells := by rw [← hW, ← hs]; exact (Holds.new _ _ _).alloc _
  have g1 : Holds W (s + 1) #[.int .i8 cx, .int .i8 cy] := by rw [← hW, ← hs]; exact Holds.new' _ _ _ _ (by simp)
  have hb : Below s w W := by rw [← hW, ← hs]; exact ((Below.refl w.heap.size w).alloc (Nat.le_refl _) _).alloc (by simp) _
  have HG := Lib.hid (And.intro g0 (And.intro g1 hb))
  rw [hs]
  clear g0 g1 hb
  by_cases bbig : 1048576 < bn
  · have hd : decide ((1048576 : Int) < (bn : Int)) = true := by simp; omega
    go_enter Try.func11, Try.ntmps11
    go_wp2_with fail
    try rw [hW]
    go_ret
    exact ⟨rfl, HG.out.2.2⟩
  have hd : decide ((1048576 : Int) < (bn : Int)) = false := by simp; omega
  by_cases abig : 1048576 < an
  · go_enter Try.func11, Try.ntmps11
    go_wp2_with fail
    try rw [hW]
    refine (szCellS_big an _ _ 1048576 (by omega) (by omega) am _).mono ?_
    rintro e w' ⟨rfl, rfl⟩
    go_wp2_with fail
    go_ret
    exact ⟨rfl, HG.out.2.2⟩
  have HI := Lib.hid (HI1.out (by omega) (by omega))
  have HSS := Lib.hid (HS1.out (by omega) (by omega))
  clear HI1 HS1
  have ad : decide (((1048576 - an : Nat) : Int) < 0) = false := by simp
  go_enter Try.func11, Try.ntmps11
  go_wp2_with fail
  try rw [hW]
  try simp only [hs]
  clear hW hs
  refine (szCellS_any an _ _ 1048576 (by omega) _).mono ?_
  rintro e W' ⟨rfl, hWW⟩
  have hWW2 : W' = W := by first | exact hWW | exact hWW.symm
  rw [hWW2]
  clear hWW hWW2 W'
  have aHW := Lib.hid (aH.out.below HG.out.2.2 (by rw [HS.out]; exact Nat.le_refl _))
  have bHW := Lib.hid (bH.out.below HG.out.2.2 (by rw [HS.out]; exact Nat.le_refl _))
  go_wp2_with fail
  refine wp_region_growXV 14 [fun _ => .agg A.cells, fun _ => .agg A.cells, fun _ => .agg #[.int .i8 cx, .int .i8 cy], fun _ => .agg #[.int .i8 cx, .int .i8 cy], fun _ => .int .i64 N, fun _ => .slice ap an ac, fun q => q, fun _ => .slice bp bn bc, fun q => q, fun _ => .tuple #[.bool R, .int .i64 z], fun _ => .tuple #[.bool R, .int .i64 z], fun _ => .bool R, fun _ => .int .i64 z, fun _ => .bool R]
    [fun _ _ => True, fun _ _ => True, fun _ _ => True, fun _ _ => True, fun _ _ => True, fun _ _ => True, fun q w' => w'.ownsRow W.heap.size 37 2 q an (intsV .i8 az), fun _ _ => True, fun q w' => w'.ownsRow W.heap.size 2 1 q bn (intsV .i64 bz)]
    [[], [], [], [], [], [], [], [], [], [6, 8]] ?_ (by kernel_rfl) (by kernel_rfl) (by kernel_rfl) ?_
  · intro j q w1 w2 h1 hb
    match j with
    | 0 => trivial
    | 1 => trivial
    | 2 => trivial
    | 3 => trivial
    | 4 => trivial
    | 5 => trivial
    | 6 => exact own_below h1 hb
    | 7 => trivial
    | 8 => exact own_below h1 hb
    | j + 9 => exact trivial
  intro sv
  simp only [List.take_succ_cons, List.take_zero, List.drop_succ_cons, List.drop_zero]
  iterate 6
    refine seqXV_lit rfl (fun _ => rfl) (fun _ _ => trivial) ?_ ?_
    · intro w' hw' _ K hK
      have f0 := (HG.out.1.below hw' HG.out.1.lt).row
      have f1 := (HG.out.2.1.below hw' HG.out.2.1.lt).cell 0
      have f2 := (HG.out.2.1.below hw' HG.out.2.1.lt).cell 1
      simp only [List.getElem?_toArray, List.getElem?_cons_zero, List.getElem?_cons_succ] at f1 f2
      go_wp2_with (first | (go_at_call 13; refine (toLawn_any _ _).mono ?_; rintro e w1 ⟨rfl, hb1⟩) | (go_at_call 16; refine (toCell_any _ _ _).mono ?_; rintro e w1 ⟨rfl, hb1⟩))
      first | exact hK _ _ rfl (Below.refl _ _) | exact hK _ _ rfl hb1
    simp only [Act.put, List.setIfInBounds_toArray, List.set_cons_succ, List.set_cons_zero]
  refine seqXV_num rfl (v := fun q => q) (fun _ => rfl) ?_ ?_
  · intro w' hw' _ K hK
    go_wp2_with fail
    refine (toCellS_any an _ az (by omega) w' (aHW.out.below hw' (Nat.le_refl _))).mono ?_
    rintro e w1 ⟨⟨v, rfl, o⟩, q⟩
    exact hK _ _ _ rfl q (ownsRow_low o hw'.size)
  simp only [Act.put, List.setIfInBounds_toArray, List.set_cons_succ, List.set_cons_zero]
  refine seqXV_lit rfl (fun _ => rfl) (fun _ _ => trivial) ?_ ?_
  · intro w' hw' _ K hK
    go_wp2_with fail
    exact hK _ _ rfl (Below.refl _ _)
  simp only [Act.put, List.setIfInBounds_toArray, List.set_cons_succ, List.set_cons_zero]
  refine seqXV_num rfl (v := fun q => q) (fun _ => rfl) ?_ ?_
  · intro w' hw' _ K hK
    go_wp2_with fail
    refine (toInt64S_any bn _ bz (by omega) w' (bHW.out.below hw' (Nat.le_refl _))).mono ?_
    rintro e w1 ⟨⟨v, rfl, o⟩, q⟩
    exact hK _ _ _ rfl q (ownsRow_low o hw'.size)
  simp only [Act.put, List.setIfInBounds_toArray, List.set_cons_succ, List.set_cons_zero]
  refine seqXV_lit rfl (fun _ => rfl) (fun _ _ => trivial) ?_ ?_
  · intro w' hw' hd' K hK
    have h6 : w'.ownsRow W.heap.size 37 2 (sv 6) an (intsV .i8 az) := hd' 6 (by simp)
    have h8 : w'.ownsRow W.heap.size 2 1 (sv 8) bn (intsV .i64 bz) := hd' 8 (by simp)
    go_wp2_with fail
    refine (HSS.out w' _ _ _ _ h6 h8).mono ?_
    rintro e w1 ⟨rfl, q⟩
    exact hK _ _ rfl q
  simp only [Act.put, List.setIfInBounds_toArray, List.set_cons_succ, List.set_cons_zero]
  iterate 4
    refine seqXV_lit rfl (fun _ => rfl) (fun _ _ => trivial) ?_ ?_
    · intro w' hw' _ K hK
      go_wp2_with fail
      exact hK _ _ rfl (Below.refl _ _)
    simp only [Act.put, List.setIfInBounds_toArray, List.set_cons_succ, List.set_cons_zero]
  refine seqXV_nil ?_
  intro W3 hW3 hall
  clear hall
  have HG3 := Lib.hid (And.intro (HG.out.1.below hW3 HG.out.1.lt) (And.intro (HG.out.2.1.below hW3 HG.out.2.1.lt) (And.intro (HG.out.2.2.trans (hW3.mono (by have := HG.out.1.lt; omega))) (And.intro (aHW.out.below hW3 (Nat.le_refl _)) (bHW.out.below hW3 (Nat.le_refl _))))))
  clear hW3 HG aHW bHW HSS
  go_wp2_with fail
  refine (toCellS_any an _ az (by omega) W3 HG3.out.2.2.2.1).mono ?_
  rintro e w4 ⟨⟨x3, rfl, o3⟩, q4⟩
  have O3 := Lib.hid o3
  have HG4 := Lib.hid (And.intro (HG3.out.1.below q4 HG3.out.1.lt) (And.intro (HG3.out.2.1.below q4 HG3.out.2.1.lt) (And.intro (HG3.out.2.2.1.trans (q4.mono (by have := HG3.out.1.lt; omega))) (And.intro (HG3.out.2.2.2.1.below q4 (Nat.le_refl _)) (HG3.out.2.2.2.2.below q4 (Nat.le_refl _))))))
  clear q4 o3 HG3
  go_wp2_with fail
  refine (toInt64S_any bn _ bz (by omega) w4 HG4.out.2.2.2.2).mono ?_
  rintro e w5 ⟨⟨x4, rfl, o4⟩, q5⟩
  have O4 := Lib.hid o4
  have O35 := Lib.hid (own_below O3.out q5)
  have HG5 := Lib.hid (And.intro (HG4.out.1.below q5 HG4.out.1.lt) (And.intro (HG4.out.2.1.below q5 HG4.out.2.1.lt) (And.intro (HG4.out.2.2.1.trans (q5.mono (by have := HG4.out.1.lt; omega))) (And.intro (HG4.out.2.2.2.1.below q5 (Nat.le_refl _)) (HG4.out.2.2.2.2.below q5 (Nat.le_refl _))))))
  clear q5 o4 HG4 O3
  go_wp2_with fail
  refine wp_region_grow 12 (by kernel_rfl) (by kernel_rfl) ?_
  simp only [List.take_succ_cons, List.take_zero, List.drop_succ_cons, List.drop_zero]
  iterate 12
    apply wpGrow_plain rfl
    · intro w' hw' K hK
      have f0 := (HG5.out.1.below hw' HG5.out.1.lt).row
      have f1 := (HG5.out.2.1.below hw' HG5.out.2.1.lt).cell 0
      have f2 := (HG5.out.2.1.below hw' HG5.out.2.1.lt).cell 1
      simp only [List.getElem?_toArray, List.getElem?_cons_zero, List.getElem?_cons_succ] at f1 f2
      go_wp2_with (first | (go_at_call 13; refine (toLawn_any _ _).mono ?_; rintro e w1 ⟨rfl, hb1⟩) | (go_at_call 16; refine (toCell_any _ _ _).mono ?_; rintro e w1 ⟨rfl, hb1⟩) | (go_at_call 44; refine (HI.out w' _ _ _ _ (own_below O35.out hw') (own_below O4.out hw')).mono ?_; rintro e w1 ⟨rfl, hb1⟩))
      first | exact hK _ _ rfl hw' | exact hK _ _ rfl (below_onto hw' hb1)
    simp only [Act.put, List.setIfInBounds_toArray, List.set_cons_succ, List.set_cons_zero]
  refine wpGrow_nil ?_
  intro W6 hW6
  have O36 := Lib.hid (own_below O35.out hW6)
  have O46 := Lib.hid (own_below O4.out hW6)
  have HG6 := Lib.hid (And.intro (HG5.out.2.2.1.trans (hW6.mono (by have := HG5.out.1.lt; omega))) (And.intro (HG5.out.2.2.2.1.below hW6 (Nat.le_refl _)) (And.intro (HG5.out.2.2.2.2.below hW6 (Nat.le_refl _)) (show s ≤ W6.heap.size by have := hW6.size; have := HG5.out.1.lt; omega))))
  clear hW6 HG5 O35 O4 HI
  have hbne : (R != R) = false := by simp
  have hzne : (z != z) = false := by simp
  go_wp2_with fail
  refine (toCellS_any an _ az (by omega) W6 HG6.out.2.1).mono ?_
  rintro e w7 ⟨⟨x7, rfl, o7⟩, q7⟩
  have O7 := Lib.hid o7
  have O37 := Lib.hid (own_below O36.out q7)
  have O47 := Lib.hid (own_below O46.out q7)
  have HG7 := Lib.hid (And.intro (HG6.out.1.trans (q7.mono HG6.out.2.2.2)) (And.intro (HG6.out.2.2.1.below q7 (Nat.le_refl _)) (show s ≤ w7.heap.size by have := q7.size; have := HG6.out.2.2.2; omega)))
  clear q7 o7 O36 O46 HG6
  go_wp2_with fail
  refine (eqCellS_same an (intsV .i8 az) (by omega) (intsV_ints al) _ _ _ _ _ O37.out O7.out).mono ?_
  rintro e w8 ⟨rfl, q8⟩
  have O48 := Lib.hid (own_below O47.out q8)
  have HG8 := Lib.hid (And.intro (HG7.out.1.trans (q8.mono HG7.out.2.2)) (And.intro (HG7.out.2.1.below q8 (Nat.le_refl _)) (show s ≤ w8.heap.size by have := q8.size; have := HG7.out.2.2; omega)))
  clear q8 O37 O7 O47 HG7
  go_wp2_with fail
  refine (toInt64S_any bn _ bz (by omega) w8 HG8.out.2.1).mono ?_
  rintro e w9 ⟨⟨x9, rfl, o9⟩, q9⟩
  have O9 := Lib.hid o9
  have O49 := Lib.hid (own_below O48.out q9)
  have HG9 := Lib.hid (And.intro (HG8.out.1.trans (q9.mono HG8.out.2.2)) (show s ≤ w9.heap.size by have := q9.size; have := HG8.out.2.2; omega))
  clear q9 o9 O48 HG8
  go_wp2_with fail
  refine (eqInt64S_same bn (intsV .i64 bz) (by omega) (intsV_ints bl) _ _ _ _ _ O49.out O9.out).mono ?_
  rintro e w10 ⟨rfl, q10⟩
  have HG10 := Lib.hid (HG9.out.1.trans (q10.mono HG9.out.2))
  clear q10
  go_wp2_with fail
  go_ret
  exact ⟨rfl, HG10.out⟩

theorem prV_flatP (l : List (Int × Int)) : prV l = flatP l := by
  unfold prV flatP; rfl
theorem pairs_near {z : List Int} {n : Nat} (h1 : z.length = n * 2) (hr : ∀ x ∈ z, -128 ≤ x ∧ x ≤ 127) : ∀ a ∈ pairsZ z n, (-128 ≤ a.1 ∧ a.1 ≤ 127) ∧ -128 ≤ a.2 ∧ a.2 ≤ 127 := fun a ha => by
  simp only [pairsZ, List.mem_map, List.mem_range] at ha
  obtain ⟨j, hj, rfl⟩ := ha
  have e0 : z[j * 2]? = some (z.getD (j * 2) 0) := by simp [List.getElem?_eq_getElem (show j * 2 < z.length by omega)]
  have e1 : z[j * 2 + 1]? = some (z.getD (j * 2 + 1) 0) := by simp [List.getElem?_eq_getElem (show j * 2 + 1 < z.length by omega)]
  exact ⟨hr _ (List.mem_of_getElem? e0), hr _ (List.mem_of_getElem? e1)⟩
theorem exactCheckTrips (A : Lawn) (hA : A.Fits) (c : Int × Int) (hc : (-128 ≤ c.1 ∧ c.1 ≤ 127) ∧ -128 ≤ c.2 ∧ c.2 ≤ 127) (N : Int) (an : Nat) (aa : Value) (az : List Int) (am : an ≤ maxLen) (ar : ∀ x ∈ az, -128 ≤ x ∧ x ≤ 127) (bn : Nat) (bb : Value) (bz : List Int) (w : World) (ah : ArgRow .i8 2 w aa an az) (bh : ArgRow .i64 1 w bb bn bz) :
    Calls Try.prog 11 #[.agg A.cells, .agg #[.int .i8 c.1, .int .i8 c.2], .int .i64 N, aa, bb] w fun e w' => e = .returned (.bool true) ∧ Below w.heap.size w w' := by
  have hli : ∀ d ∈ (c.1, c.2) :: pairsZ az an, (-128 ≤ d.1 ∧ d.1 ≤ 127) ∧ -128 ≤ d.2 ∧ d.2 ≤ 127 := fun d hd => by
    rcases List.mem_cons.1 hd with rfl | hd
    · exact hc
    · exact pairs_near ah.1 ar d hd
  have hbl : bz.length = bn := by have := bh.1; omega
  refine exactCheckTrips_walk A c.1 c.2 N an bn aa bb az bz (checkTZ A (pairsZ az an) (c.1, c.2) N bz) (goalZ A (pairsZ az an) (c.1, c.2) N) ah.1 (by unfold maxLen at am; omega) bh.1 ?_ ?_ w ah bh
  · intro h1 h2 w av bv aB bB ha hb
    refine implCheckT_any A hA c.1 c.2 N (pairsZ az an) an (pairsZ_length _ _) h1 bz bn hbl h2 av bv w ?_ ?_
    · refine RowP.own (pairsZ_length _ _) (B := aB) (e := 37) ?_
      rw [← prV_flatP, ← pairsZ_row ah.1]
      exact ha
    · exact RowN.own hbl hb
  · intro h1 h2 w av bv aB bB ha hb
    refine specCheckT_any A hA c.1 c.2 N (pairsZ az an) an (pairsZ_length _ _) h1 hli bz bn hbl h2 av bv w ?_ ?_
    · refine RowP.own (pairsZ_length _ _) (B := aB) (e := 37) ?_
      rw [← prV_flatP, ← pairsZ_row ah.1]
      exact ha
    · exact RowN.own hbl hb
end Go.Proofs.Ytaeenkjbmlgcmaa
