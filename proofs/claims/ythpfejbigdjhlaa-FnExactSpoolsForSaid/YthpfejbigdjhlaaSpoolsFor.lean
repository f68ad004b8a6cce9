/- SpoolsFor, of both. -/
import Derived.Test.YthpfejbigdjhlaaSpool
namespace Go.Proofs.Ythpfejbigdjhlaa
open Go.RowKit
set_option linter.unusedVariables false
set_option linter.unusedSimpArgs false
attribute [local go_sem ↓] loadRow loadGrid loadLawn loadMirror storeRow storeGrid storeLawn allocRow allocGrid allocLawn buildZero buildSides loadSd storeSd allocSd buildSd loadWr storeWr allocWr loadW5 storeW5 allocW5

theorem spoolR_form (f u : Sd) (h : Int) : ∃ a c, spoolR f u h = .tuple #[.int .i64 a, .int .i64 c] := by
  unfold spoolR
  split
  · exact ⟨_, _, rfl⟩
  · exact ⟨_, _, rfl⟩

set_option maxRecDepth 100000 in
set_option maxHeartbeats 2000000 in
theorem implSpools_good (L : Lawn) (hL : L.Fits) (u : Sd) (hf : fitB L u = true) (h : Int) (hh : lineB h = true) (w : World) :
    Calls Try.prog 32 #[.agg L.cells, .agg (wrV u), .int .i64 h] w fun e w' => e = .returned (spoolR (sidesOfL L) u h) ∧ Below w.heap.size w w' := by
  obtain ⟨hv, hw⟩ := fitB_true hf
  have HI := Lib.hid (implValid_any L hL)
  rw [hv] at HI
  have HW := Lib.hid (implWear_any u)
  rw [hw] at HW
  have HLN := Lib.hid (isLine_is h true hh)
  have HA := Lib.hid (allSides_any L hL hv)
  have HT := Lib.hid (trimSpool_any (sidesOfL L) u h (sidesOfL_bound L) (wearB_true hw).1 (lineB_true hh))
  obtain ⟨ra, rc, hr⟩ := spoolR_form (sidesOfL L) u h
  rw [hr] at HT ⊢
  clear hv hw hf hL hr hh
  go_enter Try.func32, Try.ntmps32
  go_wp2_with fail
  obtain ⟨W0, hW0⟩ : ∃ W0, (w.alloc (.cells L.cells 31)).alloc (.cells (wrV u) 45) = W0 := ⟨_, rfl⟩
  have g0 : Holds W0 w.heap.size L.cells := by rw [← hW0]; exact (Holds.new _ _ _).alloc _
  have g1 : Holds W0 (w.heap.size + 1) (wrV u) := by rw [← hW0]; exact Holds.new' _ _ _ _ (by simp)
  have hb0 : Below w.heap.size w W0 := by rw [← hW0]; exact ((Below.refl w.heap.size w).alloc (Nat.le_refl _) _).alloc (by simp) _
  rw [hW0]
  clear hW0
  refine (HI.out _).mono ?_
  rintro e w1 ⟨rfl, hb1⟩
  have k0 := g0.below hb1 g0.lt
  have k1 := g1.below hb1 g1.lt
  have hb2 := below_onto hb0 hb1
  obtain ⟨r1, -, -, -, -⟩ := k1.facts
  clear g0 g1 hb0 hb1
  go_wp2_with fail
  refine (HW.out _).mono ?_
  rintro e w2 ⟨rfl, hb1⟩
  have g0 := k0.below hb1 k0.lt
  have g1 := k1.below hb1 k1.lt
  have hb3 := below_onto hb2 hb1
  clear k0 k1 hb2 hb1 r1
  obtain ⟨l0, s0⟩ := g0.later
  obtain ⟨l1, s1⟩ := g1.later
  go_wp2_with fail
  refine (HLN.out _).mono ?_
  rintro e w3 ⟨rfl, hww⟩
  rw [hww]
  clear hww
  go_wp2_with fail
  refine wp_region_growMS 7 2 [3] (fun p w' => w2.heap.size ≤ p ∧ Holds w' p (spoolC h (0, 0))) (fun p a b h hb => ⟨h.1, h.2.below hb h.2.lt⟩) (fun p => [.int .i64 h, .agg (spoolC h (0, 0)), .pointer (some ⟨p, 0, none⟩), spoolV p, .agg L.cells, .agg (sdV (sidesOfL L)), .agg (wrV u)]) ?hv (by rfl) (by rfl) (by kernel_rfl) (by kernel_rfl) (by kernel_rfl) ?_
  case hv =>
    intro p p' j h1 h2
    match j with
    | 0 => rfl
    | 1 => rfl
    | 2 => exact absurd rfl h1
    | 3 => simp at h2
    | 4 => rfl
    | 5 => rfl
    | 6 => rfl
    | j + 7 => rfl
  intro p
  simp only [List.take_succ_cons, List.take_zero, List.drop_succ_cons, List.drop_zero]
  refine seqP_free rfl rfl rfl (v := .int .i64 h) rfl ?_ ?_
  · intro w' hw' K hK
    go_wp2_with fail
    exact hK _ _ rfl (Below.refl _ _)
  simp only [Act.put, List.setIfInBounds_toArray, List.set_cons_succ, List.set_cons_zero]
  refine seqP_free rfl rfl rfl (v := .agg (spoolC h (0, 0))) rfl ?_ ?_
  · intro w' hw' K hK
    go_wp2_with fail
    exact hK _ _ rfl (Below.refl _ _)
  simp only [Act.put, List.setIfInBounds_toArray, List.set_cons_succ, List.set_cons_zero]
  refine seqP_call rfl rfl (v := .pointer (some ⟨p, 0, none⟩)) rfl ?_ ?_
  · rintro w' hw' rfl K hK
    go_wp2_with fail
    exact hK _ _ rfl ((Below.refl _ _).alloc (Nat.le_refl _) _) ⟨hw'.size, Holds.new _ _ _⟩
  simp only [Act.put, List.setIfInBounds_toArray, List.set_cons_succ, List.set_cons_zero]
  refine seqP_dep rfl rfl rfl (v := spoolV p) rfl ?_ ?_
  · intro w' hw' hi K hK
    go_wp2_with fail
    exact hK _ _ rfl (Below.refl _ _)
  simp only [Act.put, List.setIfInBounds_toArray, List.set_cons_succ, List.set_cons_zero]
  refine seqP_free rfl rfl rfl (v := .agg L.cells) rfl ?_ ?_
  · intro w' hw' K hK
    have e0 := l0 _ hw'
    go_wp2_with fail
    exact hK _ _ rfl (Below.refl _ _)
  simp only [Act.put, List.setIfInBounds_toArray, List.set_cons_succ, List.set_cons_zero]
  refine seqP_free rfl rfl rfl (v := .agg (sdV (sidesOfL L))) rfl ?_ ?_
  · intro w' hw' K hK
    go_wp2_with fail
    refine (HA.out _).mono ?_
    rintro e w3 ⟨rfl, hb5⟩
    exact hK _ _ rfl hb5
  simp only [Act.put, List.setIfInBounds_toArray, List.set_cons_succ, List.set_cons_zero]
  refine seqP_free rfl rfl rfl (v := .agg (wrV u)) rfl ?_ ?_
  · intro w' hw' K hK
    have e1 := l1 _ hw'
    go_wp2_with fail
    exact hK _ _ rfl (Below.refl _ _)
  simp only [Act.put, List.setIfInBounds_toArray, List.set_cons_succ, List.set_cons_zero]
  refine seqP_nil ?_
  rintro W3 - hW3 ⟨hp, hP⟩
  have hb4 := below_onto hb3 hW3
  clear l0 s0 l1 s1 g0 g1 HA HI HW
  go_wp2_with fail
  refine (HT.out _ _ hP).mono ?_
  rintro e W4 ⟨rfl, hO⟩
  have hb5 : Below w.heap.size w W4 := hb4.trans (hO.toBelow (B := w.heap.size) (by simp; have := hb3.size; omega) hb4.size)
  dsimp only
  iterate 4
    apply wpGrow_plain rfl
    · intro w' hw' K hK
      go_wp2_with fail
      exact hK _ _ rfl hw'
    simp only [Act.put, List.setIfInBounds_toArray, List.set_cons_succ, List.set_cons_zero]
  refine wpGrow_nil ?_
  intro W5 hW5
  have hb6 := below_onto hb5 hW5
  go_wp2_with fail
  go_ret2
  exact ⟨rfl, hb6⟩

set_option maxRecDepth 100000 in
set_option maxHeartbeats 1000000 in
theorem implSpools_bad (L : Lawn) (hL : L.Fits) (u : Sd) (h : Int) (hf : fitB L u = false) (w : World) :
    Calls Try.prog 32 #[.agg L.cells, .agg (wrV u), .int .i64 h] w fun e w' => e = .returned (.tuple #[.int .i64 0, .int .i64 1]) ∧ Below w.heap.size w w' := by
  have HI := Lib.hid (implValid_any L hL)
  have HW := Lib.hid (implWear_any u)
  have hb0 : Below w.heap.size w ((w.alloc (.cells L.cells 31)).alloc (.cells (wrV u) 45)) := ((Below.refl w.heap.size w).alloc (Nat.le_refl _) _).alloc (by simp) _
  rcases fit_cases hf with hv | ⟨hv, hw⟩
  · rw [hv] at HI
    clear hf hv HW hL
    go_enter Try.func32, Try.ntmps32
    go_wp2_with fail
    refine (HI.out _).mono ?_
    rintro e w1 ⟨rfl, hb1⟩
    have hb2 := below_onto hb0 hb1
    clear hb0 hb1
    go_wp2_with fail
    go_ret2
    exact ⟨rfl, hb2⟩
  · rw [hv] at HI
    rw [hw] at HW
    clear hf hv hw hL
    go_enter Try.func32, Try.ntmps32
    go_wp2_with fail
    have g1 : Holds ((w.alloc (.cells L.cells 31)).alloc (.cells (wrV u) 45)) (w.heap.size + 1) (wrV u) := Holds.new' _ _ _ _ (by simp)
    refine (HI.out _).mono ?_
    rintro e w1 ⟨rfl, hb1⟩
    have hb2 := below_onto hb0 hb1
    have k1 := g1.below hb1 g1.lt
    obtain ⟨r1, -, -, -, -⟩ := k1.facts
    clear hb0 hb1 g1
    go_wp2_with fail
    refine (HW.out _).mono ?_
    rintro e w2 ⟨rfl, hb1⟩
    have hb3 := below_onto hb2 hb1
    clear hb2 hb1 r1 k1
    go_wp2_with fail
    go_ret2
    exact ⟨rfl, hb3⟩

set_option maxRecDepth 100000 in
set_option maxHeartbeats 1000000 in
theorem implSpools_line (L : Lawn) (hL : L.Fits) (u : Sd) (h : Int) (hf : fitB L u = true) (hh : lineB h = false) (w : World) :
    Calls Try.prog 32 #[.agg L.cells, .agg (wrV u), .int .i64 h] w fun e w' => e = .returned (.tuple #[.int .i64 0, .int .i64 2]) ∧ Below w.heap.size w w' := by
  obtain ⟨hv, hw⟩ := fitB_true hf
  have HI := Lib.hid (implValid_any L hL)
  rw [hv] at HI
  have HW := Lib.hid (implWear_any u)
  rw [hw] at HW
  have HLN := Lib.hid (isLine_is h false hh)
  have hb0 : Below w.heap.size w ((w.alloc (.cells L.cells 31)).alloc (.cells (wrV u) 45)) := ((Below.refl w.heap.size w).alloc (Nat.le_refl _) _).alloc (by simp) _
  clear hv hw hf hL hh
  go_enter Try.func32, Try.ntmps32
  go_wp2_with fail
  have g1 : Holds ((w.alloc (.cells L.cells 31)).alloc (.cells (wrV u) 45)) (w.heap.size + 1) (wrV u) := Holds.new' _ _ _ _ (by simp)
  refine (HI.out _).mono ?_
  rintro e w1 ⟨rfl, hb1⟩
  have hb2 := below_onto hb0 hb1
  have k1 := g1.below hb1 g1.lt
  obtain ⟨r1, -, -, -, -⟩ := k1.facts
  clear hb0 hb1 g1
  go_wp2_with fail
  refine (HW.out _).mono ?_
  rintro e w2 ⟨rfl, hb1⟩
  have hb3 := below_onto hb2 hb1
  clear hb2 hb1 r1 k1
  go_wp2_with fail
  refine (HLN.out _).mono ?_
  rintro e w3 ⟨rfl, hww⟩
  rw [hww]
  clear hww
  go_wp2_with fail
  go_ret2
  exact ⟨rfl, hb3⟩
end Go.Proofs.Ythpfejbigdjhlaa
