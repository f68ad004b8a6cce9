/- SidesText of the model, and the law. -/
import Derived.Test.YthfhpcigjnjkdaaDoorSdT
import Derived.Test.YthfhpcigjnjkdaaDoorSdIn
namespace Go.Proofs.YthfhpcigjnjkdaaDoor
open Go.RowKit
set_option linter.unusedVariables false
set_option linter.unusedSimpArgs false
attribute [local go_sem ↓] loadSd storeSd allocSd buildSd loadS5 storeS5 allocS5

theorem sidesB_bad {f : Sd} {k : Nat} (h : k < 5) (hf : sdOk (f k) = false) : sidesB f = false := by
  cases e : sidesB f with
  | false => rfl
  | true =>
    unfold sidesB at e
    rw [List.all_eq_true] at e
    have := e (f k) (List.mem_of_getElem? (sdL_get f h))
    rw [hf] at this
    cases this
theorem sidesB_good {f : Sd} (h : ∀ j, j < 5 → sdOk (f j) = true) : sidesB f = true := by
  unfold sidesB
  rw [List.all_eq_true]
  intro a ha
  obtain ⟨j, hj⟩ := List.getElem?_of_mem ha
  have hl := (List.getElem?_eq_some_iff.1 hj).1
  rw [sdL_length] at hl
  rw [sdL_get f hl] at hj
  cases hj
  exact h j hl
theorem sidesB_true {f : Sd} (h : sidesB f = true) : ∀ j, j < 5 → sdOk (f j) = true := fun j hj => by
  unfold sidesB at h
  rw [List.all_eq_true] at h
  exact h (f j) (List.mem_of_getElem? (sdL_get f hj))

set_option maxRecDepth 100000 in
set_option maxHeartbeats 1000000 in
theorem told5_any (f : Sd) (g : Nat) (w : World) (h : Holds w g (sdV f)) :
    Calls Tryd.prog 80 #[.pointer (some ⟨g, 0, none⟩)] w fun e w' => e = .returned (.bool (sidesB f)) ∧ w' = w := by
  have H := Lib.hid h
  have HBAD := Lib.hid (fun (k : Nat) hk hf => sidesB_bad (f := f) (k := k) hk hf)
  have HGOOD := Lib.hid (fun h => sidesB_good (f := f) h)
  clear h
  go_enter Tryd.func80, Tryd.ntmps80
  go_wp2_with fail
  go_loopw [3] (fun i wr => ∃ k : Nat, k ≤ 5 ∧ i = .int .i64 (k : Int) ∧ (∀ j, j < k → sdOk (f j) = true) ∧ wr = w) (fun i _ => 5 - (intOf i).toNat)
  case atStart => exact ⟨0, by omega, rfl, (fun j h => absurd h (Nat.not_lt_zero _)), rfl⟩
  case round =>
    obtain ⟨k, hk, rfl, hpre, rfl⟩ := hrel
    have HPRE := Lib.hid hpre
    clear hpre
    by_cases hlt : k < 5
    · have hd : decide ((k : Int) < 5) = true := by simp; omega
      have c0 := H.out.sd k hlt
      obtain ⟨z, hz⟩ : ∃ z, f k = z := ⟨_, rfl⟩
      have HZ := Lib.hid hz
      rw [hz] at c0
      obtain ⟨bx, hbx⟩ : ∃ b, inB z 0 400 = b := ⟨_, rfl⟩
      have HIX := Lib.hid (fun w => in_q z 0 400 w)
      rw [hbx] at HIX
      have HBX := Lib.hid hbx
      clear hbx hz
      go_wp2_with fail
      refine (HIX.out _).mono ?_
      rintro e w2 ⟨rfl, hw2⟩
      rw [hw2]
      clear hw2 HIX
      cases bx
      case false =>
        have HE := Lib.hid (HBAD.out k hlt (by rw [HZ.out]; have := HBX.out; unfold inB at this; exact this))
        go_wp2_with fail
        go_ret
        exact ⟨by rw [HE.out]; rfl, rfl⟩
      have HOKA := Lib.hid (show sdOk (f k) = true by rw [HZ.out]; have := HBX.out; unfold inB at this; exact this)
      have HPX := Lib.hid (show ∀ j, j < k + 1 → sdOk (f j) = true from fun j hj => by
        rcases Nat.lt_or_ge j k with h1 | h1
        · exact HPRE.out j h1
        · have e : j = k := by omega
          rw [e]; exact HOKA.out)
      go_wp2_with fail
      go_roundw
      case rel => exact ⟨k + 1, by omega, by go_num, HPX.out, trivial⟩
      case measure => simp [intOf]; omega
    · have hd : decide ((k : Int) < 5) = false := by simp; omega
      obtain rfl : k = 5 := by omega
      have HE := Lib.hid (HGOOD.out HPRE.out)
      go_wp2_with fail
      go_ret
      exact ⟨by rw [HE.out]; rfl, rfl⟩

set_option maxRecDepth 100000 in
set_option maxHeartbeats 2000000 in
theorem stextSd_any (f : Sd) (g : Nat) (w : World) (h : Holds w g (sdV f)) (hok : ∀ j, j < 5 → sdOk (f j) = true) :
    Calls Tryd.prog 81 #[.pointer (some ⟨g, 0, none⟩)] w fun e w' => e = .returned (.string ⟨(joinS 32 ((sdL f).map sdT)).toArray⟩) ∧ Below w.heap.size w w' := by
  have H := Lib.hid h
  have hgl := h.lt
  have HOK := Lib.hid (show ∀ j, j < 5 → 0 ≤ f j ∧ f j ≤ 400 from fun j hj => by have := hok j hj; simpa [sdOk] using this)
  have HJ := Lib.hid (show ∀ i, i < 5 → jn sdT (sdL f) (i + 1) = (if i = 0 then [] else jn sdT (sdL f) i ++ [32]) ++ sdT (f i) from fun i h => jn_succ (sdL_get f h))
  have HL := Lib.hid (jn_len (tx := sdT) (sdL f) sdT_len7)
  have HJA := Lib.hid (jn_all sdT (sdL f) (sdL_length f))
  have HDC := Lib.hid (show ∀ (x : Int), 0 ≤ x ∧ x ≤ 400 → ∀ w, Calls Tryd.prog 113 #[.int .i64 x] w fun e w' => e = .returned (.string ⟨(sdT x).toArray⟩) ∧ Below w.heap.size w w' from fun x h w => by
    have := decimal_any x.toNat (by omega) w
    rwa [show ((x.toNat : Nat) : Int) = x by omega] at this)
  clear h hok
  go_enter Tryd.func81, Tryd.ntmps81
  go_wp2_with fail
  go_loopw [3, 4] (fun s i wr => ∃ k : Nat, k ≤ 5 ∧ i = .int .i64 (k : Int) ∧ s = .string ⟨(jn sdT (sdL f) k).toArray⟩ ∧ Below w.heap.size w wr) (fun _ i _ => 5 - (intOf i).toNat)
  case atStart => exact ⟨0, by omega, rfl, rfl, Below.refl _ _⟩
  case round =>
    obtain ⟨k, hk, rfl, rfl, hb⟩ := hrel
    have hjl := HL.out k
    by_cases hlt : k < 5
    · have hd : decide ((k : Int) < 5) = true := by simp; omega
      have c0 := (H.out.below hb hgl).sd k hlt
      obtain ⟨hx0, hx1⟩ := HOK.out k hlt
      have HX := HJ.out k hlt
      obtain ⟨z, hz⟩ : ∃ z, f k = z := ⟨_, rfl⟩
      rw [hz] at c0 HX hx0 hx1
      have lx := sdT_len7 z
      have DX := HDC.out z ⟨hx0, hx1⟩
      obtain ⟨A, hA⟩ : ∃ A, sdT z = A := ⟨_, rfl⟩
      rw [hA] at HX DX lx
      have HDX := Lib.hid DX
      clear hz hA DX
      obtain ⟨J, hJ⟩ : ∃ J, jn sdT (sdL f) k = J := ⟨_, rfl⟩
      rw [hJ] at HX hjl ⊢
      clear hJ
      by_cases hk0 : k = 0
      · have hd0 : decide (0 < k) = false := by simp; omega
        rw [if_pos hk0] at HX
        have HXX := Lib.hid HX
        have HJ0 := Lib.hid (show J = [] by
          have := hjl
          rw [hk0] at this
          simpa using this)
        clear HX hk0
        go_wp2_with fail
        refine (HDX.out _).mono ?_
        rintro e w5 ⟨rfl, h5⟩
        have hb2 := hb.trans (h5.mono hb.size)
        clear h5 hb c0
        go_wp2_with fail
        go_roundw
        case rel => exact ⟨k + 1, by omega, by go_num, by
          rw [HXX.out, HJ0.out]
          exact congrArg Value.string (by apply ByteArray.ext; simp), hb2⟩
        case measure => simp [intOf]; omega
      · have hd0 : decide (0 < k) = true := by simp; omega
        rw [if_neg hk0] at HX
        have HXX := Lib.hid HX
        clear HX hk0
        go_wp2_with fail
        refine (HDX.out _).mono ?_
        rintro e w5 ⟨rfl, h5⟩
        have hb2 := hb.trans (h5.mono hb.size)
        clear h5 hb c0
        go_wp2_with fail
        go_roundw
        case rel => exact ⟨k + 1, by omega, by go_num, by
          rw [HXX.out]
          exact congrArg Value.string (by apply ByteArray.ext; simp), hb2⟩
        case measure => simp [intOf]; omega
    · have hd : decide ((k : Int) < 5) = false := by simp; omega
      obtain rfl : k = 5 := by omega
      go_wp2_with fail
      go_ret
      exact ⟨by rw [← HJA.out]; rfl, hb⟩

set_option maxRecDepth 100000 in
set_option maxHeartbeats 1000000 in
theorem specSdText_any (f : Sd) (w : World) :
    Calls Tryd.prog 35 #[.agg (sdV f)] w fun e w' => e = .returned (.string (sidesS f)) ∧ Below w.heap.size w w' := by
  have HK := Lib.hid (fun g w h => told5_any f g w h)
  obtain ⟨u, hu⟩ : ∃ u, w.heap.size = u := ⟨_, rfl⟩
  obtain ⟨W1, hW1⟩ : ∃ W1, w.alloc (.cells (sdV f) 53) = W1 := ⟨_, rfl⟩
  have g0 : Holds W1 u (sdV f) := by rw [← hW1]; exact Holds.new' _ _ _ _ hu.symm
  have hB1 : Below u w W1 := by rw [← hW1]; exact (Below.refl u w).alloc (by omega) _
  have HU := Lib.hid hu
  rw [hu]
  cases e : sidesB f with
  | true =>
    have hok := sidesB_true e
    have HS := Lib.hid (sidesS_good hok)
    have HT := Lib.hid (fun g w h => stextSd_any f g w h hok)
    rw [e] at HK
    clear e hok
    go_enter Tryd.func35, Tryd.ntmps35
    go_wp2_with fail
    try simp only [hu]
    try rw [hW1]
    refine (HK.out _ _ g0).mono ?_
    rintro e w2 ⟨rfl, hw2⟩
    rw [hw2]
    clear hw2
    go_wp2_with fail
    refine (HT.out _ _ g0).mono ?_
    rintro e w3 ⟨rfl, hb3⟩
    have hb4 := hB1.trans (hb3.mono (by have := g0.lt; omega))
    go_wp2_with fail
    go_ret
    exact ⟨by rw [HS.out]; rfl, hb4⟩
  | false =>
    have HS := Lib.hid (show sidesS f = ⟨#[]⟩ by
      unfold sidesS lineL
      rw [if_neg]
      have := e
      unfold sidesB at this
      rw [this]
      simp)
    rw [e] at HK
    clear e
    go_enter Tryd.func35, Tryd.ntmps35
    go_wp2_with fail
    try simp only [hu]
    try rw [hW1]
    refine (HK.out _ _ g0).mono ?_
    rintro e w2 ⟨rfl, hw2⟩
    rw [hw2]
    clear hw2
    go_wp2_with fail
    go_ret
    exact ⟨by rw [HS.out]; rfl, hB1⟩

set_option maxRecDepth 100000 in
set_option maxHeartbeats 1000000 in
theorem exactSidesText (f : Sd) (w : World) (hT : TabUp w) :
    Calls Tryd.prog 8 #[.agg (sdV f)] w fun e w' => e = .returned (.bool true) ∧ Below w.heap.size w w' := by
  have HI := Lib.hid (fun w h => itextSd_any f w h)
  have HS := Lib.hid (specSdText_any f)
  have HTT := Lib.hid hT
  obtain ⟨v, hv⟩ : ∃ v, sidesS f = v := ⟨_, rfl⟩
  rw [hv] at HI HS
  clear hv hT
  go_enter Tryd.func8, Tryd.ntmps8
  go_wp2_with fail
  have g0 := Holds.new w (sdV f) 51
  have hb := (Below.refl w.heap.size w).alloc (Nat.le_refl _) (.cells (sdV f) 51)
  obtain ⟨W, hW⟩ : ∃ W, w.alloc (.cells (sdV f) 51) = W := ⟨_, rfl⟩
  rw [hW] at g0 hb ⊢
  clear hW
  refine (toSides_any _ _).mono ?_
  rintro e w1 ⟨rfl, hb1⟩
  go_wp2_with fail
  refine (HS.out _).mono ?_
  rintro e w2 ⟨rfl, hb2⟩
  have hb3 := below_onto hb1 hb2
  have hb4 := below_onto hb hb3
  have g1 := g0.below hb3 g0.lt
  obtain ⟨r1, -, -, -, -⟩ := g1.facts
  clear hb hb1 hb2 hb3 g0
  go_wp2_with fail
  refine (toSides_any _ _).mono ?_
  rintro e w3 ⟨rfl, hb1⟩
  have hb5 := below_onto hb4 hb1
  go_wp2_with fail
  refine (HI.out _ (HTT.out.below hb5 (Nat.le_refl _))).mono ?_
  rintro e w4 ⟨rfl, hb2⟩
  have hb6 := below_onto hb5 hb2
  clear hb1 hb2 hb4 hb5 g1 r1
  go_wp2_with fail
  go_ret
  exact ⟨rfl, hb6⟩
end Go.Proofs.YthfhpcigjnjkdaaDoor
