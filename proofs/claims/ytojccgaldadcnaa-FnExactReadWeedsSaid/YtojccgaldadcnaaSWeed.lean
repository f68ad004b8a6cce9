/- Weeds, of the model: whether a cell has them or may have them, whether they are valid, how many there are, and the codes. -/
import Derived.Test.YtojccgaldadcnaaWeedP
import Derived.Test.YtojccgaldadcnaaZC
namespace Go.Proofs.Ytojccgaldadcnaa
open Go.RowKit
set_option linter.unusedVariables false
set_option linter.unusedSimpArgs false
attribute [local go_sem ↓] loadRow loadGrid loadLawn loadMirror storeRow storeGrid storeLawn allocRow allocGrid allocLawn buildZero buildSides loadWd storeWd allocWd buildZWd eqlWd

theorem mod_row (a : Nat → Bool) (n : Nat) (h : n < 16) : Int.tmod (((rowN a : Nat) : Int) / 2 ^ n) 2 = if a n then 1 else 0 := by
  rw [shr_row, Int.tmod_eq_emod_of_nonneg (Int.natCast_nonneg _)]
  have := rowN_mod2 (fun x => decide (x + n < 16) && a (x + n))
  simp only [Nat.zero_add, h, decide_true, Bool.true_and] at this
  cases ha : a n
  · rw [ha] at this; simp at this ⊢; omega
  · rw [ha] at this; simp at this ⊢; omega
theorem mod_eq (a : Nat → Bool) (n : Nat) (h : n < 16) : (Int.tmod (((rowN a : Nat) : Int) / 2 ^ n) 2 == 1) = a n := by
  rw [mod_row a n h]
  cases a n <;> rfl

set_option maxRecDepth 100000 in
set_option maxHeartbeats 1000000 in
theorem hasS_any (s : Nat → Nat → Bool) (b x y : Nat) (hx : x < 10) (hy : y < 10) (w : World) (h : Holds w b (bV 10 s)) :
    Calls Try.prog 83 #[.pointer (some ⟨b, 0, none⟩), .agg #[.int .i8 x, .int .i8 y]] w fun e w' => e = .returned (.bool (s y x)) ∧ Below w.heap.size w w' := by
  have hx0 : (0 : Int) ≤ x := by omega
  have hx1 : (x : Int) < 10 := by omega
  have hy0 : (0 : Int) ≤ y := by omega
  have hy1 : (y : Int) < 10 := by omega
  have e1 : IntKind.i64.wrap (x : Int) = x := IntWalk.i64_in _ (by omega)
  have e2 : IntKind.i64.wrap (y : Int) = y := IntWalk.i64_in _ (by omega)
  have hix : inB (x : Int) 0 9 = true := by simp [inB]; omega
  have hiy : inB (y : Int) 0 9 = true := by simp [inB]; omega
  obtain ⟨-, -, c, -, l⟩ := h.facts
  have ck := (c y).trans (bV_get 10 s y hy)
  have hm := mod_eq (s y) x (by omega)
  clear c
  go_enter Try.func83, Try.ntmps83
  go_wp2
  go_quiet ((go_at_call 110; first | exact Calls.quiet_of_same (in_yes _ _ _ _ hix) | exact Calls.quiet_of_same (in_yes _ _ _ _ hiy)))
  go_wp2
  go_ret
  exact ⟨rfl, below_drewN ((Below.refl _ _).alloc (Nat.le_refl _) _) _⟩

set_option maxRecDepth 100000 in
set_option maxHeartbeats 1000000 in
theorem soilS_any (L : Lawn) (hv : validB L = true) (hL : L.Fits) (b x y : Nat) (hx : x < 16) (hy : y < 16) (w : World) (h : Holds w b L.cells) :
    Calls Try.prog 82 #[.pointer (some ⟨b, 0, none⟩), .agg #[.int .i8 x, .int .i8 y]] w fun e w' => e = .returned (.bool (soilS L y x)) ∧ Below w.heap.size w w' := by
  have h1 := h.alloc (.cells #[.int .i8 x, .int .i8 y] 43)
  have hb0 := (Below.refl w.heap.size w).alloc (Nat.le_refl _) (.cells #[.int .i8 x, .int .i8 y] 43)
  have c0 := Holds.new w #[.int .i8 x, .int .i8 y] 43
  cases hi : isB L x y
  case false =>
    have e : soilS L y x = false := by simp [soilS, kindS, hi]
    rw [e]
    have HB := Lib.hid (l01Is_is L hL b x y _ h1 (by omega) (by omega) (by omega) (by omega) false hi)
    clear e hi hv hL h h1 c0
    go_enter Try.func82, Try.ntmps82
    go_wp2_with fail
    refine HB.out.mono ?_
    rintro e w1 ⟨rfl, hb1⟩
    have hb2 := below_onto hb0 hb1
    clear hb0 hb1
    go_wp2_with fail
    go_ret
    exact ⟨rfl, hb2⟩
  case true =>
    have HB := Lib.hid (l01Is_is L hL b x y _ h1 (by omega) (by omega) (by omega) (by omega) true hi)
    obtain ⟨hw1, hw2, -⟩ := validB_true hv
    have hin := isB_in hi
    have hx10 : x < 10 := by omega
    have hy10 : y < 10 := by omega
    have HA := Lib.hid (fun w h => at_any L hL b x y hx10 hy10 w h)
    obtain ⟨k, hk⟩ : ∃ k, L.kind y x = k := ⟨_, rfl⟩
    have HS := Lib.hid (show soilS L y x = (k == 0 || k == 1) by
      rw [soilS, kindS, hi, hk, Bool.true_and]
      cases h0 : (k == 0) <;> cases h1 : (k == 1) <;> simp only [List.contains, List.elem, h0, h1, Bool.or_self, Bool.or_true, Bool.or_false])
    rw [hk] at HA
    clear hi hv hL h hw1 hw2 hin hk
    go_enter Try.func82, Try.ntmps82
    go_wp2_with fail
    refine HB.out.mono ?_
    rintro e w1 ⟨rfl, hb1⟩
    have hb2 := below_onto hb0 hb1
    have g1 := h1.below hb1 h1.lt
    have c1 := c0.below hb1 c0.lt
    obtain ⟨-, -, cc, -, -⟩ := c1.facts
    have lc := c1.lt
    clear hb0 hb1 h1 c0
    go_wp2_with fail
    refine (HA.out _ g1).mono ?_
    rintro e w2 ⟨rfl, hb3⟩
    have hb4 := below_onto hb2 hb3
    have g2 := g1.below hb3 g1.lt
    have c2 := c1.below hb3 c1.lt
    obtain ⟨-, -, cc2, -, -⟩ := c2.facts
    clear hb2 hb3 g1 cc lc
    by_cases h0 : k = 0
    · have hk0 : (k == 0) = true := by simp [h0]
      have HS2 := Lib.hid (show soilS L y x = true by rw [HS.out, hk0]; rfl)
      clear h0
      go_wp2_with fail
      go_ret
      exact ⟨by rw [HS2.out]; rfl, hb4⟩
    · have hk0 : (k == 0) = false := by simp [h0]
      have HS2 := Lib.hid (show soilS L y x = (k == 1) by rw [HS.out, hk0]; rfl)
      clear h0
      go_wp2_with fail
      refine (HA.out _ g2).mono ?_
      rintro e w3 ⟨rfl, hb5⟩
      have hb6 := below_onto hb4 hb5
      go_wp2_with fail
      go_ret
      exact ⟨by rw [HS2.out]; rfl, hb6⟩

set_option maxRecDepth 100000 in
set_option maxHeartbeats 2000000 in
theorem l07Ok_any (L : Lawn) (hL : L.Fits) (s : Nat → Nat → Bool) (a b : Nat) (w : World) (h : Holds w a L.cells) (hh : Holds w b (bV 10 s)) :
    Calls Try.prog 38 #[.pointer (some ⟨a, 0, none⟩), .pointer (some ⟨b, 0, none⟩)] w fun e w' => e = .returned (.bool (weedB L s)) ∧ Below w.heap.size w w' := by
  cases hv : validB L
  case false =>
    have HV := Lib.hid (weedB_lawn (s := s) hv)
    have HO := Lib.hid (l01Ok_any L hL a w h)
    rw [hv] at HO
    clear hv hL h hh
    go_enter Try.func38, Try.ntmps38
    go_wp2_with fail
    refine HO.out.mono ?_
    rintro e w1 ⟨rfl, hb1⟩
    go_wp2_with fail
    go_ret
    exact ⟨by rw [HV.out]; rfl, hb1⟩
  case true =>
    have HO := Lib.hid (l01Ok_any L hL a w h)
    rw [hv] at HO
    have HH := Lib.hid h
    have HHG := Lib.hid hh
    have HSO := Lib.hid (fun (x y : Nat) (hx : x < 16) (hy : y < 16) (w : World) (h : Holds w a L.cells) => soilS_any L hv hL a x y hx hy w h)
    have HOF := Lib.hid (fun (h : weedTo L s 10 0) => weedB_end hv h)
    have HNO := Lib.hid (fun (y x : Nat) (hy : y < 10) (hx : x < 16) (h1 : s y x = true) (h2 : soilS L y x = false) => weedB_not (L := L) (s := s) hy hx h1 h2)
    clear hv hL h hh
    go_enter Try.func38, Try.ntmps38
    go_wp2_with fail
    refine HO.out.mono ?_
    rintro e w1 ⟨rfl, hb1⟩
    have HH1 := Lib.hid (HH.out.below hb1 HH.out.lt)
    have HG1 := Lib.hid (HHG.out.below hb1 HHG.out.lt)
    clear HO HH HHG
    go_wp2_with fail
    go_loopw [5, 6] (fun y _ wr => ∃ k : Nat, k ≤ 10 ∧ y = .int .i8 k ∧ Below w1.heap.size w1 wr ∧ weedTo L s k 0) (fun y _ _ => 10 - (intOf y).toNat)
    case atStart => exact ⟨0, by omega, rfl, Below.refl _ _, weedTo_zero L s⟩
    case round =>
      obtain ⟨k, hk, rfl, hb, hok⟩ := hrel
      have HOK := Lib.hid hok
      clear hok
      by_cases hlt : k < 10
      · have hd : decide ((k : Int) < 10) = true := by simp; omega
        go_wp2_with fail
        go_loopw [6] (fun x wi => ∃ j : Nat, j ≤ 16 ∧ x = .int .i8 j ∧ Below w1.heap.size w1 wi ∧ weedTo L s k j) (fun x _ => 16 - (intOf x).toNat)
        case atStart => exact ⟨0, by omega, rfl, hb, HOK.out⟩
        case round =>
          obtain ⟨j, hj, rfl, hbi, hoki⟩ := hrel
          have HOI := Lib.hid hoki
          clear hoki
          by_cases hjt : j < 16
          · have hdj : decide ((j : Int) < 16) = true := by simp; omega
            have ha := HH1.out.below hbi HH1.out.lt
            have hgi := HG1.out.below hbi HG1.out.lt
            obtain ⟨-, -, ci, -, li⟩ := hgi.facts
            have ck := (ci k).trans (bV_get 10 s k hlt)
            have hm := mod_eq (s k) j hjt
            clear ci
            cases hsk : s k j
            · rw [hsk] at hm
              have HT := Lib.hid (show s k j = true → soilS L k j = true from fun h => by rw [hsk] at h; cases h)
              clear hsk
              go_wp2_with fail
              go_roundw
              case rel => exact ⟨j + 1, by omega, by go_num, hbi, weedTo_snoc HOI.out HT.out⟩
              case measure => simp [intOf]; omega
            · rw [hsk] at hm
              have HSK := Lib.hid hsk
              have HSkj := Lib.hid (fun w h => HSO.out j k (by omega) (by omega) w h)
              obtain ⟨v, hv⟩ : ∃ v, soilS L k j = v := ⟨_, rfl⟩
              rw [hv] at HSkj
              have HVV := Lib.hid hv
              clear hsk hv
              cases v
              · go_wp2_with (go_at_call 82; refine (HSkj.out _ ha).mono ?_; rintro e w2 ⟨rfl, hb2⟩; have hb3 := below_onto hbi hb2; clear hb2)
                go_ret
                exact ⟨by rw [HNO.out k j hlt hjt HSK.out HVV.out]; rfl, below_onto hb1 hb3⟩
              · go_wp2_with (go_at_call 82; refine (HSkj.out _ ha).mono ?_; rintro e w2 ⟨rfl, hb2⟩; have hb3 := below_onto hbi hb2; clear hb2)
                go_roundw
                case rel => exact ⟨j + 1, by omega, by go_num, hb3, weedTo_snoc HOI.out fun _ => HVV.out⟩
                case measure => simp [intOf]; omega
          · obtain rfl : j = 16 := by omega
            go_wp2_with fail
            go_roundw
            case rel => exact ⟨k + 1, by omega, by go_num, hbi, weedTo_row HOI.out⟩
            case measure => simp [intOf]; omega
      · obtain rfl : k = 10 := by omega
        have HVV := Lib.hid (HOF.out HOK.out)
        go_wp2_with fail
        go_ret
        exact ⟨by rw [HVV.out]; rfl, below_onto hb1 hb⟩



/-- How many bits are set below a row's place. -/
theorem cnt_step (s : Nat → Nat → Bool) (k j : Nat) : cntR s k + cntTo (s k) (j + 1) = cntR s k + cntTo (s k) j + (if s k j then 1 else 0) := by simp only [cntTo]; omega
end Go.Proofs.Ytojccgaldadcnaa
