/- LineFor, of both. -/
import Derived.Test.YthpfejbigdjhlaaTrim
namespace Go.Proofs.Ythpfejbigdjhlaa
open Go.RowKit
set_option linter.unusedVariables false
set_option linter.unusedSimpArgs false
attribute [local go_sem ↓] loadRow loadGrid loadLawn loadMirror storeRow storeGrid storeLawn allocRow allocGrid allocLawn buildZero buildSides loadSd storeSd allocSd buildSd loadWr storeWr allocWr loadW5 storeW5 allocW5

/-- Whether a lawn and wear are valid; the code; the line that is used. -/
def fitB (L : Lawn) (u : Sd) : Bool := validB L && wearB u
def fitC (L : Lawn) (u : Sd) : Int := if fitB L u then 0 else 1
def lineL (L : Lawn) (u : Sd) : Int := if fitB L u then lineK (sidesOfL L) u 5 else 0
theorem fitB_true {L : Lawn} {u : Sd} (h : fitB L u = true) : validB L = true ∧ wearB u = true := by simpa [fitB] using h

set_option maxRecDepth 100000 in
set_option maxHeartbeats 2000000 in
theorem implLine_good (L : Lawn) (hL : L.Fits) (u : Sd) (hf : fitB L u = true) (w : World) :
    Calls Try.prog 30 #[.agg L.cells, .agg (wrV u)] w fun e w' => e = .returned (.tuple #[.int .i64 (lineK (sidesOfL L) u 5), .int .i64 0]) ∧ Below w.heap.size w w' := by
  obtain ⟨hv, hw⟩ := fitB_true hf
  have HI := Lib.hid (implValid_any L hL)
  rw [hv] at HI
  have HW := Lib.hid (implWear_any u)
  rw [hw] at HW
  have HA := Lib.hid (allSides_any L hL hv)
  have HT := Lib.hid (trimEndless_any (sidesOfL L) u (sidesOfL_bound L) (wearB_true hw).1)
  clear hv hw hf hL
  go_enter Try.func30, Try.ntmps30
  go_wp2_with fail
  obtain ⟨W0, hW0⟩ : ∃ W0, (w.alloc (.cells L.cells 31)).alloc (.cells (wrV u) 45) = W0 := ⟨_, rfl⟩
  have g0 : Holds W0 w.heap.size L.cells := by rw [← hW0]; exact (Holds.new _ _ _).alloc _
  have g1 : Holds W0 (w.heap.size + 1) (wrV u) := by rw [← hW0]; exact Holds.new' _ _ _ _ (by simp)
  have hb0 : Below w.heap.size w W0 := by rw [← hW0]; exact ((Below.refl w.heap.size w).alloc (Nat.le_refl _) _).alloc (by simp) _
  rw [hW0]
  clear hW0
  refine (HI.out _).mono ?_
  rintro e w1 ⟨rfl, hb1⟩
  have k0 := g0.below hb1 g0.lt
  have k1 := g1.below hb1 g1.lt
  have hb2 := below_onto hb0 hb1
  obtain ⟨r1, -, -, -, -⟩ := k1.facts
  clear g0 g1 hb0 hb1
  go_wp2_with fail
  refine (HW.out _).mono ?_
  rintro e w2 ⟨rfl, hb1⟩
  have g0 := k0.below hb1 k0.lt
  have g1 := k1.below hb1 k1.lt
  have hb3 := below_onto hb2 hb1
  clear k0 k1 hb2 hb1 r1
  obtain ⟨l0, s0⟩ := g0.later
  obtain ⟨l1, s1⟩ := g1.later
  go_wp2_with fail
  refine wp_region_growMS 6 1 [2] (fun p w' => w2.heap.size ≤ p ∧ Holds w' p #[.int .i64 0]) (fun p a b h hb => ⟨h.1, h.2.below hb h.2.lt⟩) (fun p => [.agg #[.int .i64 0], .pointer (some ⟨p, 0, none⟩), endlessV p, .agg L.cells, .agg (sdV (sidesOfL L)), .agg (wrV u)]) ?hv (by rfl) (by rfl) (by kernel_rfl) (by kernel_rfl) (by kernel_rfl) ?_
  case hv =>
    intro p p' j h1 h2
    match j with
    | 0 => rfl
    | 1 => exact absurd rfl h1
    | 2 => simp at h2
    | 3 => rfl
    | 4 => rfl
    | 5 => rfl
    | j + 6 => rfl
  intro p
  simp only [List.take_succ_cons, List.take_zero, List.drop_succ_cons, List.drop_zero]
  refine seqP_free rfl rfl rfl (v := .agg #[.int .i64 0]) rfl ?_ ?_
  · intro w' hw' K hK
    go_wp2_with fail
    exact hK _ _ rfl (Below.refl _ _)
  simp only [Act.put, List.setIfInBounds_toArray, List.set_cons_succ, List.set_cons_zero]
  refine seqP_call rfl rfl (v := .pointer (some ⟨p, 0, none⟩)) rfl ?_ ?_
  · rintro w' hw' rfl K hK
    go_wp2_with fail
    exact hK _ _ rfl ((Below.refl _ _).alloc (Nat.le_refl _) _) ⟨hw'.size, Holds.new _ _ _⟩
  simp only [Act.put, List.setIfInBounds_toArray, List.set_cons_succ, List.set_cons_zero]
  refine seqP_dep rfl rfl rfl (v := endlessV p) rfl ?_ ?_
  · intro w' hw' hi K hK
    go_wp2_with fail
    exact hK _ _ rfl (Below.refl _ _)
  simp only [Act.put, List.setIfInBounds_toArray, List.set_cons_succ, List.set_cons_zero]
  refine seqP_free rfl rfl rfl (v := .agg L.cells) rfl ?_ ?_
  · intro w' hw' K hK
    have e0 := l0 _ hw'
    go_wp2_with fail
    exact hK _ _ rfl (Below.refl _ _)
  simp only [Act.put, List.setIfInBounds_toArray, List.set_cons_succ, List.set_cons_zero]
  refine seqP_free rfl rfl rfl (v := .agg (sdV (sidesOfL L))) rfl ?_ ?_
  · intro w' hw' K hK
    go_wp2_with fail
    refine (HA.out _).mono ?_
    rintro e w3 ⟨rfl, hb5⟩
    exact hK _ _ rfl hb5
  simp only [Act.put, List.setIfInBounds_toArray, List.set_cons_succ, List.set_cons_zero]
  refine seqP_free rfl rfl rfl (v := .agg (wrV u)) rfl ?_ ?_
  · intro w' hw' K hK
    have e1 := l1 _ hw'
    go_wp2_with fail
    exact hK _ _ rfl (Below.refl _ _)
  simp only [Act.put, List.setIfInBounds_toArray, List.set_cons_succ, List.set_cons_zero]
  refine seqP_nil ?_
  rintro W3 - hW3 ⟨hp, hP⟩
  have hb4 := below_onto hb3 hW3
  clear l0 s0 l1 s1 g0 g1 HA HI HW
  go_wp2_with fail
  refine (HT.out _ _ hP).mono ?_
  rintro e W4 ⟨rfl, hO⟩
  have hb5 : Below w.heap.size w W4 := hb4.trans (hO.toBelow (B := w.heap.size) (by simp; have := hb3.size; omega) hb4.size)
  dsimp only
  iterate 4
    apply wpGrow_plain rfl
    · intro w' hw' K hK
      go_wp2_with fail
      exact hK _ _ rfl hw'
    simp only [Act.put, List.setIfInBounds_toArray, List.set_cons_succ, List.set_cons_zero]
  refine wpGrow_nil ?_
  intro W5 hW5
  have hb6 := below_onto hb5 hW5
  go_wp2_with fail
  go_ret2
  exact ⟨rfl, hb6⟩

theorem fit_cases {L : Lawn} {u : Sd} (h : fitB L u = false) : validB L = false ∨ validB L = true ∧ wearB u = false := by
  cases hv : validB L
  · exact .inl rfl
  · exact .inr ⟨rfl, by simpa [fitB, hv] using h⟩

set_option maxRecDepth 100000 in
set_option maxHeartbeats 1000000 in
theorem implLine_bad (L : Lawn) (hL : L.Fits) (u : Sd) (hf : fitB L u = false) (w : World) :
    Calls Try.prog 30 #[.agg L.cells, .agg (wrV u)] w fun e w' => e = .returned (.tuple #[.int .i64 0, .int .i64 1]) ∧ Below w.heap.size w w' := by
  have HI := Lib.hid (implValid_any L hL)
  have HW := Lib.hid (implWear_any u)
  rcases fit_cases hf with hv | ⟨hv, hw⟩
  · rw [hv] at HI
    clear hf hv HW hL
    go_enter Try.func30, Try.ntmps30
    go_wp2_with fail
    have hb0 : Below w.heap.size w ((w.alloc (.cells L.cells 31)).alloc (.cells (wrV u) 45)) := ((Below.refl w.heap.size w).alloc (Nat.le_refl _) _).alloc (by simp) _
    refine (HI.out _).mono ?_
    rintro e w1 ⟨rfl, hb1⟩
    have hb2 := below_onto hb0 hb1
    clear hb0 hb1
    go_wp2_with fail
    go_ret2
    exact ⟨rfl, hb2⟩
  · rw [hv] at HI
    rw [hw] at HW
    clear hf hv hw hL
    go_enter Try.func30, Try.ntmps30
    go_wp2_with fail
    have g1 : Holds ((w.alloc (.cells L.cells 31)).alloc (.cells (wrV u) 45)) (w.heap.size + 1) (wrV u) := Holds.new' _ _ _ _ (by simp)
    have hb0 : Below w.heap.size w ((w.alloc (.cells L.cells 31)).alloc (.cells (wrV u) 45)) := ((Below.refl w.heap.size w).alloc (Nat.le_refl _) _).alloc (by simp) _
    refine (HI.out _).mono ?_
    rintro e w1 ⟨rfl, hb1⟩
    have hb2 := below_onto hb0 hb1
    have k1 := g1.below hb1 g1.lt
    obtain ⟨r1, -, -, -, -⟩ := k1.facts
    clear hb0 hb1 g1
    go_wp2_with fail
    refine (HW.out _).mono ?_
    rintro e w2 ⟨rfl, hb1⟩
    have hb3 := below_onto hb2 hb1
    clear hb2 hb1 r1 k1
    go_wp2_with fail
    go_ret2
    exact ⟨rfl, hb3⟩

set_option maxRecDepth 100000 in
set_option maxHeartbeats 1000000 in
theorem specLine_bad (L : Lawn) (hL : L.Fits) (u : Sd) (hu : ∀ k, k < 5 → -128 ≤ u k ∧ u k ≤ 127) (hf : fitB L u = false) (w : World) :
    Calls Try.prog 29 #[.agg L.cells, .agg (wrV u)] w fun e w' => e = .returned (.tuple #[.int .i64 0, .int .i64 1]) ∧ Below w.heap.size w w' := by
  have HI := Lib.hid (fun (b : Nat) (w : World) (h : Holds w b L.cells) => l01Ok_any L hL b w h)
  have HW := Lib.hid (l05Wear_any u hu)
  rcases fit_cases hf with hv | ⟨hv, hw⟩
  · rw [hv] at HI
    clear hf hv HW hL hu
    go_enter Try.func29, Try.ntmps29
    go_wp2_with fail
    have g0 : Holds ((w.alloc (.cells L.cells 31)).alloc (.cells (wrV u) 45)) w.heap.size L.cells := (Holds.new _ _ _).alloc _
    have hb0 : Below w.heap.size w ((w.alloc (.cells L.cells 31)).alloc (.cells (wrV u) 45)) := ((Below.refl w.heap.size w).alloc (Nat.le_refl _) _).alloc (by simp) _
    refine (HI.out _ _ g0).mono ?_
    rintro e w1 ⟨rfl, hb1⟩
    have hb2 := below_onto hb0 hb1
    clear hb0 hb1 g0
    go_wp2_with fail
    go_ret2
    exact ⟨rfl, hb2⟩
  · rw [hv] at HI
    rw [hw] at HW
    clear hf hv hw hL hu
    go_enter Try.func29, Try.ntmps29
    go_wp2_with fail
    have g0 : Holds ((w.alloc (.cells L.cells 31)).alloc (.cells (wrV u) 45)) w.heap.size L.cells := (Holds.new _ _ _).alloc _
    have g1 : Holds ((w.alloc (.cells L.cells 31)).alloc (.cells (wrV u) 45)) (w.heap.size + 1) (wrV u) := Holds.new' _ _ _ _ (by simp)
    have hb0 : Below w.heap.size w ((w.alloc (.cells L.cells 31)).alloc (.cells (wrV u) 45)) := ((Below.refl w.heap.size w).alloc (Nat.le_refl _) _).alloc (by simp) _
    refine (HI.out _ _ g0).mono ?_
    rintro e w1 ⟨rfl, hb1⟩
    have hb2 := below_onto hb0 hb1
    have k1 := g1.below hb1 g1.lt
    clear hb0 hb1 g1 g0
    go_wp2_with fail
    refine (HW.out _ _ k1).mono ?_
    rintro e w2 ⟨rfl, hww⟩
    rw [hww]
    clear hww k1
    go_wp2_with fail
    go_ret2
    exact ⟨rfl, hb2⟩

set_option maxRecDepth 100000 in
set_option maxHeartbeats 2000000 in
theorem specLine_good (L : Lawn) (hL : L.Fits) (u : Sd) (hu : ∀ k, k < 5 → -128 ≤ u k ∧ u k ≤ 127) (hf : fitB L u = true) (w : World) :
    Calls Try.prog 29 #[.agg L.cells, .agg (wrV u)] w fun e w' => e = .returned (.tuple #[.int .i64 (lineK (sidesOfL L) u 5), .int .i64 0]) ∧ Below w.heap.size w w' := by
  obtain ⟨hv, hw⟩ := fitB_true hf
  have HI := Lib.hid (fun (b : Nat) (w : World) (h : Holds w b L.cells) => l01Ok_any L hL b w h)
  rw [hv] at HI
  have HW := Lib.hid (l05Wear_any u hu)
  rw [hw] at HW
  have HA := Lib.hid (specAll_any L hL hv)
  have HU := Lib.hid (wearB_true hw).1
  have HF := Lib.hid (sidesOfL_bound L)
  obtain ⟨f, hff⟩ : ∃ f, sidesOfL L = f := ⟨_, rfl⟩
  rw [hff] at HA HF ⊢
  clear hv hw hf hL hu hff
  go_enter Try.func29, Try.ntmps29
  go_wp2_with fail
  have g0 : Holds ((w.alloc (.cells L.cells 31)).alloc (.cells (wrV u) 45)) w.heap.size L.cells := (Holds.new _ _ _).alloc _
  have g1 : Holds ((w.alloc (.cells L.cells 31)).alloc (.cells (wrV u) 45)) (w.heap.size + 1) (wrV u) := Holds.new' _ _ _ _ (by simp)
  have hb0 : Below w.heap.size w ((w.alloc (.cells L.cells 31)).alloc (.cells (wrV u) 45)) := ((Below.refl w.heap.size w).alloc (Nat.le_refl _) _).alloc (by simp) _
  refine (HI.out _ _ g0).mono ?_
  rintro e w1 ⟨rfl, hb1⟩
  have k0 := g0.below hb1 g0.lt
  have k1 := g1.below hb1 g1.lt
  have hb2 := below_onto hb0 hb1
  clear g0 g1 hb0 hb1
  go_wp2_with fail
  refine (HW.out _ _ k1).mono ?_
  rintro e w2 ⟨rfl, hww⟩
  rw [hww]
  clear hww
  go_wp2_with fail
  refine (HA.out _ _ k0).mono ?_
  rintro e w2 ⟨rfl, hb1⟩
  have g1 := k1.below hb1 k1.lt
  have hb3 := below_onto hb2 hb1
  clear k0 k1 hb2 hb1
  have q1 := g1.alloc (.cells (sdV f) 28)
  have q2 := Holds.new w2 (sdV f) 28
  have hb4 := hb3.alloc hb3.size (.cells (sdV f) 28)
  clear g1
  go_wp2_with fail
  obtain ⟨W0, hW0⟩ : ∃ W0, w2.alloc (.cells (sdV f) 28) = W0 := ⟨_, rfl⟩
  rw [hW0] at q1 q2 hb4 ⊢
  clear hW0 hb3
  go_loopw [7, 8] (fun n q wr => ∃ k : Nat, k ≤ 5 ∧ q = .int .i64 k ∧ n = .int .i64 (lineK f u k) ∧ Below W0.heap.size W0 wr) (fun _ q _ => 5 - (intOf q).toNat)
  case atStart => exact ⟨0, by omega, rfl, rfl, Below.refl _ _⟩
  case round =>
    obtain ⟨k, hk, rfl, rfl, hb⟩ := hrel
    by_cases hlt : k < 5
    · have hd : decide ((k : Int) < (5 : Int)) = true := by simp; omega
      have c1 := (q1.below hb q1.lt).wr k hlt
      have c2 := (q2.below hb q2.lt).sd k hlt
      have l1 := (q1.below hb q1.lt).lt
      have l2 := (q2.below hb q2.lt).lt
      have bf := HF.out k
      have bu := HU.out k hlt
      have bp := prod_bound bf bu
      have bl := lineK_bound HF.out HU.out k (by omega)
      have e1 : IntKind.i64.wrap (u k) = u k := IntWalk.i64_in _ (by omega)
      have e2 : IntKind.i64.wrap (f k * u k) = f k * u k := IntWalk.i64_in _ (by omega)
      have e3 : IntKind.i64.wrap (lineK f u k + f k * u k) = lineK f u k + f k * u k := IntWalk.i64_in _ (by omega)
      go_wp2_with fail
      go_quiet (fail)
      go_wp2_with fail
      go_roundw
      case rel => exact ⟨k + 1, by omega, by go_num, rfl, below_drewN hb _⟩
      case measure => simp [intOf]; omega
    · obtain rfl : k = 5 := by omega
      have hd : decide (((5 : Nat) : Int) < (5 : Int)) = false := by decide
      go_wp2_with fail
      go_ret2
      exact ⟨rfl, below_onto hb4 hb⟩
end Go.Proofs.Ythpfejbigdjhlaa
