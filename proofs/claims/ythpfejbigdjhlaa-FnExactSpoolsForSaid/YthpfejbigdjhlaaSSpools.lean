/- SpoolsFor, of the model. -/
import Derived.Test.YthpfejbigdjhlaaSpoolsFor
namespace Go.Proofs.Ythpfejbigdjhlaa
open Go.RowKit
set_option linter.unusedVariables false
set_option linter.unusedSimpArgs false
attribute [local go_sem ↓] loadRow loadGrid loadLawn loadMirror storeRow storeGrid storeLawn allocRow allocGrid allocLawn buildZero buildSides loadSd storeSd allocSd buildSd loadWr storeWr allocWr loadW5 storeW5 allocW5

theorem spK_one {f u : Sd} {h : Int} (hu : u 0 = 0) : spK f u h 1 = (0, 0) := by
  have : ∀ c : Nat, spN h 0 c (0, 0) = (0, 0) := by
    intro c
    induction c with
    | zero => rfl
    | succ c ih => simp [spN, ih, spStep]
  simp only [spK, hu]
  exact this _

set_option maxRecDepth 100000 in
set_option maxHeartbeats 4000000 in
theorem specSpools_good (L : Lawn) (hL : L.Fits) (u : Sd) (hu : ∀ k, k < 5 → -128 ≤ u k ∧ u k ≤ 127) (hf : fitB L u = true) (h : Int) (hh : lineB h = true) (w : World) :
    Calls Try.prog 31 #[.agg L.cells, .agg (wrV u), .int .i64 h] w fun e w' => e = .returned (spoolR (sidesOfL L) u h) ∧ Below w.heap.size w w' := by
  obtain ⟨hv, hw⟩ := fitB_true hf
  have HI := Lib.hid (fun (b : Nat) (w : World) (h : Holds w b L.cells) => l01Ok_any L hL b w h)
  rw [hv] at HI
  have HW := Lib.hid (l05Wear_any u hu)
  rw [hw] at HW
  have HLN := Lib.hid (l05Line_is h true hh)
  have HA := Lib.hid (specAll_any L hL hv)
  have HU := Lib.hid (wearB_true hw).1
  have HU0 := Lib.hid (wearB_true hw).2
  have HF := Lib.hid (sidesOfL_bound L)
  have HH := Lib.hid (lineB_true hh)
  obtain ⟨f, hff⟩ : ∃ f, sidesOfL L = f := ⟨_, rfl⟩
  rw [hff] at HA HF ⊢
  clear hv hw hf hL hu hff hh
  go_enter Try.func31, Try.ntmps31
  go_wp2_with fail
  have g0 : Holds ((w.alloc (.cells L.cells 31)).alloc (.cells (wrV u) 45)) w.heap.size L.cells := (Holds.new _ _ _).alloc _
  have g1 : Holds ((w.alloc (.cells L.cells 31)).alloc (.cells (wrV u) 45)) (w.heap.size + 1) (wrV u) := Holds.new' _ _ _ _ (by simp)
  have hb0 : Below w.heap.size w ((w.alloc (.cells L.cells 31)).alloc (.cells (wrV u) 45)) := ((Below.refl w.heap.size w).alloc (Nat.le_refl _) _).alloc (by simp) _
  refine (HI.out _ _ g0).mono ?_
  rintro e w1 ⟨rfl, hb1⟩
  have k0 := g0.below hb1 g0.lt
  have k1 := g1.below hb1 g1.lt
  have hb2 := below_onto hb0 hb1
  clear g0 g1 hb0 hb1
  go_wp2_with fail
  refine (HW.out _ _ k1).mono ?_
  rintro e w2 ⟨rfl, hww⟩
  rw [hww]
  clear hww
  go_wp2_with fail
  refine (HLN.out _).mono ?_
  rintro e w3 ⟨rfl, hww⟩
  rw [hww]
  clear hww
  go_wp2_with fail
  refine (HA.out _ _ k0).mono ?_
  rintro e w2 ⟨rfl, hb1⟩
  have g1 := k1.below hb1 k1.lt
  have hb3 := below_onto hb2 hb1
  clear k0 k1 hb2 hb1
  have q1 := g1.alloc (.cells (sdV f) 28)
  have q2 := Holds.new w2 (sdV f) 28
  have hb4 := hb3.alloc hb3.size (.cells (sdV f) 28)
  clear g1
  go_wp2_with fail
  obtain ⟨W0, hW0⟩ : ∃ W0, w2.alloc (.cells (sdV f) 28) = W0 := ⟨_, rfl⟩
  rw [hW0] at q1 q2 hb4 ⊢
  have hl1 := q1.lt
  have hl2 := q2.lt
  clear hW0 hb3
  go_loopw [9] (fun q wr => ∃ k : Nat, (1 ≤ k ∧ k ≤ 5) ∧ q = .int .i64 k ∧ (∀ j, j < k → okS f u h j = true) ∧ wr = W0) (fun q _ => 5 - (intOf q).toNat)
  case atStart => exact ⟨1, by omega, rfl, fun j hj => by
    obtain rfl : j = 0 := by omega
    have := HU0.out
    have := HH.out
    simp [okS]; omega, rfl⟩
  case round =>
    obtain ⟨k, hk, rfl, hok, rfl⟩ := hrel
    have HOK := Lib.hid hok
    clear hok
    by_cases hlt : k < 5
    · have hd : decide ((k : Int) < (5 : Int)) = true := by simp; omega
      have c1 := q1.wr k hlt
      have c2 := q2.sd k hlt
      have bu := HU.out k hlt
      have e1 : IntKind.i64.wrap (u k) = u k := IntWalk.i64_in _ (by omega)
      by_cases hfk : 0 < f k
      · have hd1 : decide (0 < f k) = true := by simpa using hfk
        by_cases hhu : h < u k
        · have hd2 : decide (h < u k) = true := by simpa using hhu
          have HR := Lib.hid (show spoolR f u h = .tuple #[.int .i64 0, .int .i64 6] by unfold spoolR; rw [okAll_not hlt hfk (by omega)]; rfl)
          clear hfk hhu
          go_wp2_with fail
          go_ret2
          exact ⟨by rw [HR.out]; rfl, hb4⟩
        · have hd2 : decide (h < u k) = false := by simpa using hhu
          have HN := Lib.hid (show okS f u h k = true by simp [okS]; omega)
          clear hfk hhu
          go_wp2_with fail
          go_roundw
          case rel => exact ⟨k + 1, by omega, by go_num, fun j hj => by
            by_cases e : j = k
            · subst e; exact HN.out
            · exact HOK.out j (by omega), trivial⟩
          case measure => simp [intOf]; omega
      · have hd1 : decide (0 < f k) = false := by simpa using hfk
        have HN := Lib.hid (show okS f u h k = true by simp [okS]; omega)
        clear hfk
        go_wp2_with fail
        go_roundw
        case rel => exact ⟨k + 1, by omega, by go_num, fun j hj => by
          by_cases e : j = k
          · subst e; exact HN.out
          · exact HOK.out j (by omega), trivial⟩
        case measure => simp [intOf]; omega
    · obtain rfl : k = 5 := by omega
      have hd : decide (((5 : Nat) : Int) < (5 : Int)) = false := by decide
      have HR := Lib.hid (show spoolR f u h = .tuple #[.int .i64 (spK f u h 5).2, .int .i64 0] by unfold spoolR; rw [okAll_yes HOK.out]; rfl)
      clear hd
      go_wp2_with fail
      go_loopw [10, 11, 12] (fun n l q wk => ∃ k : Nat, (1 ≤ k ∧ k ≤ 5) ∧ q = .int .i64 k ∧ n = .int .i64 (spK f u h k).2 ∧ l = .int .i64 (spK f u h k).1 ∧ wk = wr) (fun _ _ q _ => 5 - (intOf q).toNat)
      case atStart => exact ⟨1, by omega, rfl, by rw [spK_one HU0.out], by rw [spK_one HU0.out], rfl⟩
      case round =>
        obtain ⟨k, hk, rfl, rfl, rfl, rfl⟩ := hrel
        by_cases hlt : k < 5
        · have hd : decide ((k : Int) < (5 : Int)) = true := by simp; omega
          have bk := spK_bound HF.out HU.out HH.out k (by omega) (fun j hj => HOK.out j (by omega))
          have bf := HF.out k
          have HSK := Lib.hid (show spK f u h (k + 1) = spN h (u k) (f k).toNat (spK f u h k) from rfl)
          have hokk := HOK.out k hlt
          have HOKK := Lib.hid (show 0 < f k → u k ≤ h from fun h0 => by
            simp only [okS, Bool.or_eq_true, decide_eq_true_eq] at hokk
            omega)
          obtain ⟨s0, hs0⟩ : ∃ s0, spK f u h k = s0 := ⟨_, rfl⟩
          rw [hs0] at bk HSK ⊢
          clear hs0 hokk
          go_wp2_with fail
          go_loopw [10, 11, 13] (fun n l q wj => ∃ c : Nat, (c : Int) ≤ f k ∧ q = .int .i64 c ∧ n = .int .i64 (spN h (u k) c s0).2 ∧ l = .int .i64 (spN h (u k) c s0).1 ∧ wj = wr) (fun _ _ q _ => (f k).toNat - (intOf q).toNat)
          case atStart => exact ⟨0, bf.1, rfl, rfl, rfl, rfl⟩
          case round =>
            obtain ⟨c, hc, rfl, rfl, rfl, rfl⟩ := hrel
            have c1 := q1.wr k hlt
            have c2 := q2.sd k hlt
            have bu := HU.out k hlt
            have e1 : IntKind.i64.wrap (u k) = u k := IntWalk.i64_in _ (by omega)
            by_cases hct : (c : Int) < f k
            · have hdc : decide ((c : Int) < f k) = true := by simpa using hct
              have hle := HOKK.out (by omega)
              have bn := spN_bound (c := c) ⟨bu.1, hle⟩ HH.out.2 bk.1
              have bh := HH.out
              have HST := Lib.hid (show spN h (u k) (c + 1) s0 = spStep h (u k) (spN h (u k) c s0) from rfl)
              obtain ⟨⟨l, n⟩, hln⟩ : ∃ ln, spN h (u k) c s0 = ln := ⟨_, rfl⟩
              rw [hln] at bn HST ⊢
              clear hln
              simp only at bn
              have e2 : IntKind.i64.wrap (h - u k) = h - u k := IntWalk.i64_in _ (by omega)
              have e3 : IntKind.i64.wrap (l - u k) = l - u k := IntWalk.i64_in _ (by omega)
              have e4 : IntKind.i64.wrap (n + 1) = n + 1 := IntWalk.i64_in _ (by omega)
              by_cases hlu : l < u k
              · have hdl : decide (l < u k) = true := by simpa using hlu
                have HV := Lib.hid (show spN h (u k) (c + 1) s0 = (h - u k, n + 1) by rw [HST.out]; unfold spStep; rw [if_pos hlu])
                clear hlu HST
                go_wp2_with fail
                go_roundw
                case rel => exact ⟨c + 1, by omega, by go_num, by rw [HV.out], by rw [HV.out], trivial⟩
                case measure => simp [intOf]; omega
              · have hdl : decide (l < u k) = false := by simpa using hlu
                have HV := Lib.hid (show spN h (u k) (c + 1) s0 = (l - u k, n) by rw [HST.out]; unfold spStep; rw [if_neg hlu])
                clear hlu HST
                go_wp2_with fail
                go_roundw
                case rel => exact ⟨c + 1, by omega, by go_num, by rw [HV.out], by rw [HV.out], trivial⟩
                case measure => simp [intOf]; omega
            · have hdc : decide ((c : Int) < f k) = false := by simpa using hct
              have HV := Lib.hid (show spK f u h (k + 1) = spN h (u k) c s0 by rw [HSK.out, show (f k).toNat = c by omega])
              go_wp2_with fail
              go_roundw
              case rel => exact ⟨k + 1, by omega, by go_num, by rw [HV.out], by rw [HV.out], trivial⟩
              case measure => simp [intOf]; omega
        · obtain rfl : k = 5 := by omega
          have hd : decide (((5 : Nat) : Int) < (5 : Int)) = false := by decide
          go_wp2_with fail
          go_ret2
          exact ⟨by rw [HR.out]; rfl, hb4⟩

set_option maxRecDepth 100000 in
set_option maxHeartbeats 1000000 in
theorem specSpools_bad (L : Lawn) (hL : L.Fits) (u : Sd) (hu : ∀ k, k < 5 → -128 ≤ u k ∧ u k ≤ 127) (h : Int) (hf : fitB L u = false) (w : World) :
    Calls Try.prog 31 #[.agg L.cells, .agg (wrV u), .int .i64 h] w fun e w' => e = .returned (.tuple #[.int .i64 0, .int .i64 1]) ∧ Below w.heap.size w w' := by
  have HI := Lib.hid (fun (b : Nat) (w : World) (h : Holds w b L.cells) => l01Ok_any L hL b w h)
  have HW := Lib.hid (l05Wear_any u hu)
  have g0 : Holds ((w.alloc (.cells L.cells 31)).alloc (.cells (wrV u) 45)) w.heap.size L.cells := (Holds.new _ _ _).alloc _
  have g1 : Holds ((w.alloc (.cells L.cells 31)).alloc (.cells (wrV u) 45)) (w.heap.size + 1) (wrV u) := Holds.new' _ _ _ _ (by simp)
  have hb0 : Below w.heap.size w ((w.alloc (.cells L.cells 31)).alloc (.cells (wrV u) 45)) := ((Below.refl w.heap.size w).alloc (Nat.le_refl _) _).alloc (by simp) _
  rcases fit_cases hf with hv | ⟨hv, hw⟩
  · rw [hv] at HI
    clear hf hv HW hL hu
    go_enter Try.func31, Try.ntmps31
    go_wp2_with fail
    refine (HI.out _ _ g0).mono ?_
    rintro e w1 ⟨rfl, hb1⟩
    have hb2 := below_onto hb0 hb1
    clear hb0 hb1 g0 g1
    go_wp2_with fail
    go_ret2
    exact ⟨rfl, hb2⟩
  · rw [hv] at HI
    rw [hw] at HW
    clear hf hv hw hL hu
    go_enter Try.func31, Try.ntmps31
    go_wp2_with fail
    refine (HI.out _ _ g0).mono ?_
    rintro e w1 ⟨rfl, hb1⟩
    have hb2 := below_onto hb0 hb1
    have k1 := g1.below hb1 g1.lt
    clear hb0 hb1 g1 g0
    go_wp2_with fail
    refine (HW.out _ _ k1).mono ?_
    rintro e w2 ⟨rfl, hww⟩
    rw [hww]
    clear hww k1
    go_wp2_with fail
    go_ret2
    exact ⟨rfl, hb2⟩

set_option maxRecDepth 100000 in
set_option maxHeartbeats 1000000 in
theorem specSpools_line (L : Lawn) (hL : L.Fits) (u : Sd) (hu : ∀ k, k < 5 → -128 ≤ u k ∧ u k ≤ 127) (h : Int) (hf : fitB L u = true) (hh : lineB h = false) (w : World) :
    Calls Try.prog 31 #[.agg L.cells, .agg (wrV u), .int .i64 h] w fun e w' => e = .returned (.tuple #[.int .i64 0, .int .i64 2]) ∧ Below w.heap.size w w' := by
  obtain ⟨hv, hw⟩ := fitB_true hf
  have HI := Lib.hid (fun (b : Nat) (w : World) (h : Holds w b L.cells) => l01Ok_any L hL b w h)
  rw [hv] at HI
  have HW := Lib.hid (l05Wear_any u hu)
  rw [hw] at HW
  have HLN := Lib.hid (l05Line_is h false hh)
  have g0 : Holds ((w.alloc (.cells L.cells 31)).alloc (.cells (wrV u) 45)) w.heap.size L.cells := (Holds.new _ _ _).alloc _
  have g1 : Holds ((w.alloc (.cells L.cells 31)).alloc (.cells (wrV u) 45)) (w.heap.size + 1) (wrV u) := Holds.new' _ _ _ _ (by simp)
  have hb0 : Below w.heap.size w ((w.alloc (.cells L.cells 31)).alloc (.cells (wrV u) 45)) := ((Below.refl w.heap.size w).alloc (Nat.le_refl _) _).alloc (by simp) _
  clear hv hw hf hL hh hu
  go_enter Try.func31, Try.ntmps31
  go_wp2_with fail
  refine (HI.out _ _ g0).mono ?_
  rintro e w1 ⟨rfl, hb1⟩
  have hb2 := below_onto hb0 hb1
  have k1 := g1.below hb1 g1.lt
  clear hb0 hb1 g1 g0
  go_wp2_with fail
  refine (HW.out _ _ k1).mono ?_
  rintro e w2 ⟨rfl, hww⟩
  rw [hww]
  clear hww k1
  go_wp2_with fail
  refine (HLN.out _).mono ?_
  rintro e w3 ⟨rfl, hww⟩
  rw [hww]
  clear hww
  go_wp2_with fail
  go_ret2
  exact ⟨rfl, hb2⟩
end Go.Proofs.Ythpfejbigdjhlaa
