/- The law on MoveAll. -/
import Derived.Test.YteaajkkhbflmdaaDoorIMvAll
import Derived.Test.YteaajkkhbflmdaaDoorSMvAll
import Derived.Test.YteaajkkhbflmdaaDoorHauls
import Derived.Test.YteaajkkhbflmdaaDoorGrowXA
import Derived.Test.YteaajkkhbflmdaaDoorZD
namespace Go.Proofs.YteaajkkhbflmdaaDoor
open Go.RowKit
set_option linter.unusedVariables false
attribute [local go_sem ↓] loadRow loadGrid loadLawn loadMirror storeRow storeGrid storeLawn allocRow allocGrid allocLawn buildZero buildSides loadL8 loadLv storeLv allocLv buildZLv

set_option maxRecDepth 100000 in
set_option maxHeartbeats 4000000 in
theorem exactMoveAll_walk (A : Lawn) (s : Nat → Nat → Int) (N : Nat) (rs : List Hl) (hl : rs.length = N) (hm0 : N ≤ maxLen) (R : Nat → Nat → Int) (z0 : Int) {e0 e1 e2 e3 e4 : Addr}
    (HI : N ≤ 1048576 → ∀ (v : Value) (B : Nat) (w : World), ErrsIn w e0 e1 e2 e3 e4 → w.ownsRow B 41 5 v N (hlV rs) → Calls Tryd.prog 17 #[.agg A.cells, .agg (levV s), v] w fun e w' => e = .returned (.tuple #[.agg (levV R), .int .i64 z0]) ∧ Below w.heap.size w w')
    (HS : N ≤ 1048576 → ∀ (v : Value) (B : Nat) (w : World), w.ownsRow B 41 5 v N (hlV rs) → Calls Tryd.prog 15 #[.agg A.cells, .agg (levV s), v] w fun e w' => e = .returned (.tuple #[.agg (levV R), .int .i64 z0]) ∧ Below w.heap.size w w') (v : Value) (w : World) (hE : ErrsIn w e0 e1 e2 e3 e4) (hv : ArgHl w v N rs) :
    Calls Tryd.prog 4 #[.agg A.cells, .agg (levV s), v] w fun e w' => e = .returned (.bool true) ∧ Below w.heap.size w w' := by
  have HV := Lib.hid hv
  obtain ⟨ap, ac, ae⟩ := hv.slice
  clear hv
  subst ae
  have g0 : Holds ((w.alloc (.cells A.cells 26)).alloc (.cells (levV s) 28)) (w.heap.size) A.cells := (Holds.new w A.cells 26).alloc (.cells (levV s) 28)
  have g1 : Holds ((w.alloc (.cells A.cells 26)).alloc (.cells (levV s) 28)) (w.heap.size + 1) (levV s) := Holds.new' (w.alloc (.cells A.cells 26)) (levV s) 28 (w.heap.size + 1) (by simp)
  have hb : Below w.heap.size w ((w.alloc (.cells A.cells 26)).alloc (.cells (levV s) 28)) := ((Below.refl w.heap.size w).alloc (Nat.le_refl _) (.cells A.cells 26)).alloc (by simp <;> omega) (.cells (levV s) 28)
  obtain ⟨W, hW⟩ : ∃ W, ((w.alloc (.cells A.cells 26)).alloc (.cells (levV s) 28)) = W := ⟨_, rfl⟩
  rw [hW] at g0 g1 hb
  by_cases hbig : 1048576 < N
  · clear HI HS HV g0 g1
    go_enter Tryd.func4, Tryd.ntmps4
    go_wp2_with fail
    try rw [hW]
    clear hW
    refine (szHaulS_big N _ _ 1048576 (by omega) (by omega) (by unfold maxLen at hm0; omega) _).mono ?_
    rintro e w' ⟨rfl, rfl⟩
    go_wp2_with fail
    go_ret
    exact ⟨rfl, hb⟩
  have HI' := Lib.hid (HI (by omega))
  have HS' := Lib.hid (HS (by omega))
  have HTR := Lib.hid (fun (w' : World) (h : Below w.heap.size w w') => toHaulS_any N _ rs (by omega) w' (HV.out.below h (Nat.le_refl _)))
  clear HI HS
  go_enter Tryd.func4, Tryd.ntmps4
  go_wp2_with fail
  try rw [hW]
  clear hW
  refine (szHaulS_any N _ _ 1048576 (by omega) _).mono ?_
  rintro e w' ⟨rfl, rfl⟩
  have hdl : decide (((1048576 - N : Nat) : Int) < 0) = false := by simp
  go_wp2_with fail
  have HB := Lib.hid hb
  obtain ⟨l0, s0⟩ := g0.later
  obtain ⟨l1, s1⟩ := g1.later
  refine wp_region_growXA 12 10 11 (levV fun _ _ => 0) (levV R) 33 [fun _ => .agg A.cells, fun _ => .agg A.cells, fun _ => .agg (levV s), fun _ => .agg (levV s), fun _ => .slice ap N ac, fun q => .slice (some ⟨q, 0, none⟩) N N, fun _ => .tuple #[.agg (levV R), .int .i64 z0], fun _ => .tuple #[.agg (levV R), .int .i64 z0], fun _ => .agg (levV R), fun _ => .int .i64 z0, fun q => .pointer (some ⟨q, 0, none⟩), fun _ => undef]
    [fun _ _ => True, fun _ _ => True, fun _ _ => True, fun _ _ => True, fun _ _ => True, fun q w' => w'.ownsRow q 41 5 (.slice (some ⟨q, 0, none⟩) N N) N (hlV rs)] [[], [], [], [], [], [], [5], [6, 5], [7, 6, 5], [], [], [8, 7, 6, 5, 10]] ?hI (fun _ _ => trivial) (by kernel_rfl) (by kernel_rfl) (by kernel_rfl) (by kernel_rfl) ?_
  case hI =>
    intro j p a b h hb
    match j with
    | 0 => exact trivial
    | 1 => exact trivial
    | 2 => exact trivial
    | 3 => exact trivial
    | 4 => exact trivial
    | 5 => exact own_below h hb
    | j + 6 => exact trivial
  intro sx
  simp only [List.take_succ_cons, List.take_zero, List.drop_succ_cons, List.drop_zero]
  refine seqXA_lit rfl rfl rfl (v := .agg A.cells) (fun _ => rfl) (fun _ _ => trivial) ?_ ?_
  · intro w' hw' hd K hK
    go_wp2_with fail
    exact hK _ _ rfl (Below.refl _ _)
  simp only [Act.put, List.setIfInBounds_toArray, List.set_cons_succ, List.set_cons_zero]
  refine seqXA_lit rfl rfl rfl (v := .agg A.cells) (fun _ => rfl) (fun _ _ => trivial) ?_ ?_
  · intro w' hw' hd K hK
    go_wp2_with fail
    refine (toLawn_any _ _).mono ?_
    rintro e w1 ⟨rfl, hb1⟩
    go_wp2_with fail
    exact hK _ _ rfl hb1
  simp only [Act.put, List.setIfInBounds_toArray, List.set_cons_succ, List.set_cons_zero]
  refine seqXA_lit rfl rfl rfl (v := .agg (levV s)) (fun _ => rfl) (fun _ _ => trivial) ?_ ?_
  · intro w' hw' hd K hK
    go_wp2_with fail
    exact hK _ _ rfl (Below.refl _ _)
  simp only [Act.put, List.setIfInBounds_toArray, List.set_cons_succ, List.set_cons_zero]
  refine seqXA_lit rfl rfl rfl (v := .agg (levV s)) (fun _ => rfl) (fun _ _ => trivial) ?_ ?_
  · intro w' hw' hd K hK
    go_wp2_with fail
    refine (toLev_any _ _).mono ?_
    rintro e w1 ⟨rfl, hb1⟩
    go_wp2_with fail
    exact hK _ _ rfl hb1
  simp only [Act.put, List.setIfInBounds_toArray, List.set_cons_succ, List.set_cons_zero]
  refine seqXA_lit rfl rfl rfl (v := .slice ap N ac) (fun _ => rfl) (fun _ _ => trivial) ?_ ?_
  · intro w' hw' hd K hK
    go_wp2_with fail
    exact hK _ _ rfl (Below.refl _ _)
  simp only [Act.put, List.setIfInBounds_toArray, List.set_cons_succ, List.set_cons_zero]
  refine seqXA_num rfl rfl rfl (v := fun q => .slice (some ⟨q, 0, none⟩) N N) (fun _ => rfl) ?_ ?_
  · intro w' hw' hd K hK
    go_wp2_with fail
    refine (HTR.out _ (below_onto HB.out hw')).mono ?_
    rintro e w1 ⟨⟨rfl, ho⟩, hb1⟩
    go_wp2_with fail
    exact hK w'.heap.size _ _ rfl hb1 ho
  simp only [Act.put, List.setIfInBounds_toArray, List.set_cons_succ, List.set_cons_zero]
  refine seqXA_lit rfl rfl rfl (v := .tuple #[.agg (levV R), .int .i64 z0]) (fun _ => rfl) (fun _ _ => trivial) ?_ ?_
  · intro w' hw' hd K hK
    have ho : w'.ownsRow (sx 5) 41 5 (.slice (some ⟨sx 5, 0, none⟩) N N) N (hlV rs) := hd 5 (by simp)
    have HO := Lib.hid ho
    clear ho hd
    go_wp2_with fail
    refine (HS'.out _ _ _ HO.out).mono ?_
    rintro e w1 ⟨rfl, hb1⟩
    go_wp2_with fail
    exact hK _ _ rfl hb1
  simp only [Act.put, List.setIfInBounds_toArray, List.set_cons_succ, List.set_cons_zero]
  refine seqXA_lit rfl rfl rfl (v := .tuple #[.agg (levV R), .int .i64 z0]) (fun _ => rfl) (fun _ _ => trivial) ?_ ?_
  · intro w' hw' hd K hK
    go_wp2_with fail
    exact hK _ _ rfl (Below.refl _ _)
  simp only [Act.put, List.setIfInBounds_toArray, List.set_cons_succ, List.set_cons_zero]
  refine seqXA_lit rfl rfl rfl (v := .agg (levV R)) (fun _ => rfl) (fun _ _ => trivial) ?_ ?_
  · intro w' hw' hd K hK
    go_wp2_with fail
    exact hK _ _ rfl (Below.refl _ _)
  simp only [Act.put, List.setIfInBounds_toArray, List.set_cons_succ, List.set_cons_zero]
  refine seqXA_lit rfl rfl rfl (v := .int .i64 z0) (fun _ => rfl) (fun _ _ => trivial) ?_ ?_
  · intro w' hw' hd K hK
    go_wp2_with fail
    exact hK _ _ rfl (Below.refl _ _)
  simp only [Act.put, List.setIfInBounds_toArray, List.set_cons_succ, List.set_cons_zero]
  refine seqXA_make rfl rfl (fun _ => rfl) ?_ ?_
  · intro w' K hK
    go_wp2_with fail
    first | done | exact hK _ rfl
  simp only [Act.put, List.setIfInBounds_toArray, List.set_cons_succ, List.set_cons_zero]
  refine seqXA_store rfl rfl rfl rfl ?_ ?_
  · intro w' hp hH K hK
    have rp := hH.row
    have fp := hH.isFree
    have lp := hH.lt
    go_wp2_with fail
    exact hK
  refine seqXA_nil ?_
  intro W2 hp hW2 h2
  have hb2 := below_onto hb hW2
  have k0 := g0.below hW2 g0.lt
  have k1 := g1.below hW2 g1.lt
  obtain ⟨p, hpe⟩ : ∃ p, sx 10 = p := ⟨_, rfl⟩
  obtain ⟨y, hye⟩ : ∃ y, sx 5 = y := ⟨_, rfl⟩
  rw [hpe] at h2 hp ⊢
  rw [hye]
  have hp1 : w.heap.size ≤ p := Nat.le_trans hb.size hp
  clear hW2 g0 l0 s0 g1 l1 s1 hb hp hpe hye HB
  go_wp2_with fail
  refine (HTR.out _ hb2).mono ?_
  rintro e W3 ⟨⟨rfl, ho3⟩, hb3⟩
  have HX := Lib.hid ho3
  have j0 := k0.below hb3 k0.lt
  have j1 := k1.below hb3 k1.lt
  have j2 := h2.below hb3 h2.lt
  have hb4 := below_onto hb2 hb3
  obtain ⟨x3, hx3⟩ : ∃ x, W2.heap.size = x := ⟨_, rfl⟩
  rw [hx3] at HX ⊢
  clear hb3 k0 k1 h2 hb2 ho3 hx3
  go_wp2_with fail
  obtain ⟨l0, s0⟩ := j0.later
  obtain ⟨l1, s1⟩ := j1.later
  have HEE := Lib.hid (hE.below hb4)
  have HXB := Lib.hid (fun w' (h : Below W3.heap.size W3 w') => own_below HX.out h)
  refine wp_region_growA 11 9 10 (levV fun _ _ => 0) (levV R) 33 [.agg A.cells, .agg A.cells, .agg (levV s), .agg (levV s), .slice (some ⟨x3, 0, none⟩) N N, .tuple #[.agg (levV R), .int .i64 z0], .tuple #[.agg (levV R), .int .i64 z0], .agg (levV R), .int .i64 z0, undef, undef] (by kernel_rfl) (by kernel_rfl) (by kernel_rfl) ?_
  intro q
  simp only [List.take_succ_cons, List.take_zero, List.drop_succ_cons, List.drop_zero]
  refine seqA_other (v := .agg A.cells) rfl rfl rfl rfl ?_ ?_
  · intro w' hw' K hK
    go_wp2_with fail
    exact hK _ _ rfl (Below.refl _ _)
  simp only [Act.put, List.setIfInBounds_toArray, List.set_cons_succ, List.set_cons_zero]
  refine seqA_other (v := .agg A.cells) rfl rfl rfl rfl ?_ ?_
  · intro w' hw' K hK
    go_wp2_with fail
    refine (toLawn_any _ _).mono ?_
    rintro e w1 ⟨rfl, hb1⟩
    go_wp2_with fail
    exact hK _ _ rfl hb1
  simp only [Act.put, List.setIfInBounds_toArray, List.set_cons_succ, List.set_cons_zero]
  refine seqA_other (v := .agg (levV s)) rfl rfl rfl rfl ?_ ?_
  · intro w' hw' K hK
    go_wp2_with fail
    exact hK _ _ rfl (Below.refl _ _)
  simp only [Act.put, List.setIfInBounds_toArray, List.set_cons_succ, List.set_cons_zero]
  refine seqA_other (v := .agg (levV s)) rfl rfl rfl rfl ?_ ?_
  · intro w' hw' K hK
    go_wp2_with fail
    refine (toLev_any _ _).mono ?_
    rintro e w1 ⟨rfl, hb1⟩
    go_wp2_with fail
    exact hK _ _ rfl hb1
  simp only [Act.put, List.setIfInBounds_toArray, List.set_cons_succ, List.set_cons_zero]
  refine seqA_other (v := .slice (some ⟨x3, 0, none⟩) N N) rfl rfl rfl rfl ?_ ?_
  · intro w' hw' K hK
    go_wp2_with fail
    exact hK _ _ rfl (Below.refl _ _)
  simp only [Act.put, List.setIfInBounds_toArray, List.set_cons_succ, List.set_cons_zero]
  refine seqA_other (v := .tuple #[.agg (levV R), .int .i64 z0]) rfl rfl rfl rfl ?_ ?_
  · intro w' hw' K hK
    go_wp2_with fail
    refine (HI'.out _ _ _ (HEE.out.below hw') (HXB.out _ hw')).mono ?_
    rintro e w1 ⟨rfl, hb1⟩
    go_wp2_with fail
    exact hK _ _ rfl hb1
  simp only [Act.put, List.setIfInBounds_toArray, List.set_cons_succ, List.set_cons_zero]
  refine seqA_other (v := .tuple #[.agg (levV R), .int .i64 z0]) rfl rfl rfl rfl ?_ ?_
  · intro w' hw' K hK
    go_wp2_with fail
    exact hK _ _ rfl (Below.refl _ _)
  simp only [Act.put, List.setIfInBounds_toArray, List.set_cons_succ, List.set_cons_zero]
  refine seqA_other (v := .agg (levV R)) rfl rfl rfl rfl ?_ ?_
  · intro w' hw' K hK
    go_wp2_with fail
    exact hK _ _ rfl (Below.refl _ _)
  simp only [Act.put, List.setIfInBounds_toArray, List.set_cons_succ, List.set_cons_zero]
  refine seqA_other (v := .int .i64 z0) rfl rfl rfl rfl ?_ ?_
  · intro w' hw' K hK
    go_wp2_with fail
    exact hK _ _ rfl (Below.refl _ _)
  simp only [Act.put, List.setIfInBounds_toArray, List.set_cons_succ, List.set_cons_zero]
  refine seqA_make rfl rfl ?_ ?_
  · rintro w' rfl K hK
    go_wp2_with fail
    first | done | exact hK _ rfl
  simp only [Act.put, List.setIfInBounds_toArray, List.set_cons_succ, List.set_cons_zero]
  refine seqA_store rfl rfl rfl rfl ?_ ?_
  · intro w' hp hH K hK
    have rp := hH.row
    have fp := hH.isFree
    have lp := hH.lt
    go_wp2_with fail
    exact hK
  refine seqA_nil ?_
  intro W4 hq hW4 h3
  have hb5 := below_onto hb4 hW4
  have i2 := j2.below hW4 j2.lt
  have HX4 := Lib.hid (HXB.out _ hW4)
  clear hW4 j0 l0 s0 j1 l1 s1 hb4 hq j2 HX HXB
  obtain ⟨r2, -, -, -, l2⟩ := i2.facts
  obtain ⟨r3, -, -, -, l3⟩ := h3.facts
  go_wp2_with fail
  refine (eqLev_same _ _).mono ?_
  rintro e W5 ⟨rfl, hb6⟩
  have hb7 := below_onto hb5 hb6
  have HX5 := Lib.hid (own_below HX4.out hb6)
  clear hb6 hb5 i2 h3 r2 l2 r3 l3 HX4
  go_wp2_with fail
  refine (HTR.out _ hb7).mono ?_
  rintro e W6 ⟨⟨rfl, ho6⟩, hb8⟩
  have HY := Lib.hid ho6
  have hb9 := below_onto hb7 hb8
  have HX6 := Lib.hid (own_below HX5.out hb8)
  clear hb8 hb7 ho6 HX5
  go_wp2_with fail
  refine (eqHaulS_same N rs (by omega) hl _ _ _ _ _ HX6.out HY.out).mono ?_
  rintro e W7 ⟨rfl, hb10⟩
  have hb11 := below_onto hb9 hb10
  clear hb10 hb9
  go_wp2_with fail
  go_ret
  exact ⟨rfl, hb11⟩

theorem exactMoveAll (A : Lawn) (hA : A.Fits) (s : Nat → Nat → Int) (hs : LevFits s) (n : Nat) (v : Value) (rs : List Hl) (hm0 : n ≤ maxLen) (hr : ∀ r ∈ rs, HlIn r) {e0 e1 e2 e3 e4 : Addr} (w : World) (hE : ErrsIn w e0 e1 e2 e3 e4) (h : ArgHl w v n rs) :
    Calls Tryd.prog 4 #[.agg A.cells, .agg (levV s), v] w fun e w' => e = .returned (.bool true) ∧ Below w.heap.size w w' :=
  exactMoveAll_walk A s n rs h.1 hm0 _ _ (fun hb v B w hE ho => implMvAll_any A hA s hs B n v rs h.1 (by omega) w hE ho) (fun hb v B w ho => specMvAll_any A hA s hs B n v rs h.1 hr (by omega) w ho) v w hE h
end Go.Proofs.YteaajkkhbflmdaaDoor
