/- The text of levels, of the model; and the law. -/
import Derived.Test.YthfhpcigjnjkdaaDoorLevT
import Derived.Test.YthfhpcigjnjkdaaDoorDecimal
namespace Go.Proofs.YthfhpcigjnjkdaaDoor
open Go.RowKit
set_option linter.unusedVariables false
set_option linter.unusedSimpArgs false
attribute [local go_sem ↓] loadRow loadGrid loadLawn loadMirror storeRow storeGrid storeLawn allocRow allocGrid allocLawn buildZero buildSides loadR8 loadL8 loadLv storeR8 storeLv allocR8 allocLv buildZLv

set_option maxRecDepth 100000 in
set_option maxHeartbeats 4000000 in
theorem l06Text_any (Wn Hn : Nat) (hW : Wn ≤ 10) (hH : Hn ≤ 10) (L : Lawn) (hLw : L.wide = Wn) (hLh : L.high = Hn) (g : Nat → Nat → Int) (hg : LevFits g) (a b : Nat) (w : World) (ha : Holds w a L.cells) (hb : Holds w b (levV g)) :
    Calls Tryd.prog 86 #[.pointer (some ⟨a, 0, none⟩), .pointer (some ⟨b, 0, none⟩)] w fun e w' => e = .returned (.string ⟨(levsT g Wn Hn).toArray⟩) ∧ Below w.heap.size w w' := by
  have HA := Lib.hid ha
  have HB := Lib.hid hb
  have hal := ha.lt
  have hbl := hb.lt
  have HC0 := Lib.hid (show ∀ wr, Below w.heap.size w wr → wr.cell? ⟨a, 0, none⟩ = some (.int .i8 (Wn : Int)) ∧ wr.cell? ⟨a, 1, none⟩ = some (.int .i8 (Hn : Int)) from fun wr h =>
    ⟨((ha.below h hal).cell 0).trans (by rw [Lawn.cells_0, hLw]), ((ha.below h hal).cell 1).trans (by rw [Lawn.cells_1, hLh])⟩)
  have HCK := Lib.hid (show ∀ wr, Below w.heap.size w wr → ∀ y x, y < 10 → x < 10 → wr.cell? ⟨b, y * 10 + x, none⟩ = some (.int .i8 (g y x)) from fun wr h y x hy hx =>
    ((hb.below h hbl).cell _).trans (levV_get g y x hy hx))
  have HG := Lib.hid (show ∀ y x, y < 10 → x < 10 → -128 ≤ g y x ∧ g y x ≤ 127 from hg)
  have HNX := Lib.hid (show ∀ y k, k < Wn → jn sgT (rowL g Wn y) (k + 1) = (if k = 0 then [] else jn sgT (rowL g Wn y) k ++ [32]) ++ sgT (g y k) from fun y k h => jn_succ (rowL_get g h))
  have HJA := Lib.hid (show ∀ y, jn sgT (rowL g Wn y) Wn = rowLT g Wn y from fun y => jn_all sgT _ (rowL_length g Wn y))
  have HJ0 := Lib.hid (show ∀ y, jn sgT (rowL g Wn y) 0 = [] from fun y => jn_zero _ _)
  have HJL := Lib.hid (show ∀ y k, (jn sgT (rowL g Wn y) k).length ≤ k * 8 from fun y k => jn_len _ sgT_len7 k)
  have HSU := Lib.hid (fun k => levsT_succ g Wn k)
  have HLE := Lib.hid (fun k => levsT_len g hW k)
  have HT0 := Lib.hid (show levsT g Wn 0 = [] from rfl)
  have HDC := Lib.hid (show ∀ (x : Int), 0 ≤ x ∧ x ≤ 200 → ∀ w, Calls Tryd.prog 113 #[.int .i64 x] w fun e w' => e = .returned (.string ⟨(dd x.toNat).toArray⟩) ∧ Below w.heap.size w w' from fun x h w => by
    have := decimal_any x.toNat (by omega) w
    rwa [show ((x.toNat : Nat) : Int) = x by omega] at this)
  have HDL := Lib.hid (fun x => dd_len3 x)
  have HSG := Lib.hid (show ∀ z : Int, sgT z = if z < 0 then 45 :: dd (-z).toNat else dd z.toNat from fun z => rfl)
  clear ha hb hg hLw hLh hal hbl
  go_enter Tryd.func86, Tryd.ntmps86
  go_wp2_with fail
  go_loopw [5, 6, 7, 8] (fun s y _ _ wr => ∃ k : Nat, k ≤ Hn ∧ y = .int .i8 (k : Int) ∧ s = .string ⟨(levsT g Wn k).toArray⟩ ∧ Below w.heap.size w wr) (fun _ y _ _ _ => Hn - (intOf y).toNat)
  case atStart => exact ⟨0, by omega, rfl, by rw [HT0.out], Below.refl _ _⟩
  case round =>
    obtain ⟨k, hk, rfl, rfl, hb⟩ := hrel
    obtain ⟨c0, c1⟩ := HC0.out wr hb
    have hl1 := HLE.out k
    have HS := Lib.hid (HSU.out k)
    obtain ⟨T, hT⟩ : ∃ T, levsT g Wn k = T := ⟨_, rfl⟩
    rw [hT] at hl1 HS ⊢
    have HTE := Lib.hid hT
    clear hT
    by_cases hlt : k < Hn
    · have hd : decide ((k : Int) < (Hn : Int)) = true := by simp; omega
      go_wp2_with fail
      clear c0 c1
      go_loopw [5, 7, 8] (fun s x _ wr => ∃ j : Nat, j ≤ Wn ∧ x = .int .i8 (j : Int) ∧ s = .string ⟨(T ++ jn sgT (rowL g Wn k) j).toArray⟩ ∧ Below w.heap.size w wr) (fun _ x _ _ => Wn - (intOf x).toNat)
      case atStart => exact ⟨0, by omega, rfl, by rw [HJ0.out, List.append_nil], hb⟩
      case round =>
        clear hb
        obtain ⟨j, hj, rfl, rfl, hb⟩ := hrel
        obtain ⟨c0, c1⟩ := HC0.out wr hb
        have hl2 := HJL.out k j
        by_cases hjt : j < Wn
        · have hdj : decide ((j : Int) < (Wn : Int)) = true := by simp; omega
          have ck := HCK.out wr hb k j (by omega) (by omega)
          obtain ⟨hz0, hz1⟩ := HG.out k j (by omega) (by omega)
          have HX := HNX.out k j hjt
          obtain ⟨z, hz⟩ : ∃ z, g k j = z := ⟨_, rfl⟩
          rw [hz] at ck hz0 hz1 HX
          rw [HSG.out] at HX
          have hwr : IntKind.i64.wrap z = z := IntWalk.i64_in _ (by omega)
          have hwn : IntKind.i64.wrap (-z) = -z := IntWalk.i64_in _ (by omega)
          have hy0 : (0 : Int) ≤ k := by omega
          have hy1 : (k : Int) < 10 := by omega
          have hx0 : (0 : Int) ≤ j := by omega
          have hx1 : (j : Int) < 10 := by omega
          clear hz
          obtain ⟨J, hJ⟩ : ∃ J, jn sgT (rowL g Wn k) j = J := ⟨_, rfl⟩
          rw [hJ] at HX hl2 ⊢
          by_cases hzn : z < 0
          · rw [if_pos hzn] at HX
            have hdz : decide (z < 0) = true := by simp; omega
            have lx := HDL.out (-z).toNat
            have DX := HDC.out (-z) (by omega)
            obtain ⟨A, hA⟩ : ∃ A, dd (-z).toNat = A := ⟨_, rfl⟩
            rw [hA] at HX DX lx
            have HDX := Lib.hid DX
            clear hA DX hzn
            by_cases hk0 : j = 0
            · have hd0 : decide (0 < j) = false := by simp; omega
              rw [if_pos hk0] at HX
              have HXX := Lib.hid HX
              have HJX := Lib.hid (show J = [] by rw [← hJ, hk0, HJ0.out])
              clear HX hk0 hJ
              go_wp2_with fail
              refine (HDX.out _).mono ?_
              rintro e w5 ⟨rfl, h5⟩
              have hb2 := hb.trans (h5.mono hb.size)
              clear h5 hb c0 c1 ck
              go_wp2_with fail
              go_roundw
              case rel => exact ⟨j + 1, by omega, by go_num, by
                rw [HXX.out, HJX.out]
                exact congrArg Value.string (by apply ByteArray.ext; simp), hb2⟩
              case measure => simp [intOf]; omega
            · have hd0 : decide (0 < j) = true := by simp; omega
              rw [if_neg hk0] at HX
              have HXX := Lib.hid HX
              clear HX hk0 hJ
              go_wp2_with fail
              refine (HDX.out _).mono ?_
              rintro e w5 ⟨rfl, h5⟩
              have hb2 := hb.trans (h5.mono hb.size)
              clear h5 hb c0 c1 ck
              go_wp2_with fail
              go_roundw
              case rel => exact ⟨j + 1, by omega, by go_num, by
                rw [HXX.out]
                exact congrArg Value.string (by apply ByteArray.ext; simp), hb2⟩
              case measure => simp [intOf]; omega
          · rw [if_neg hzn] at HX
            have hdz : decide (z < 0) = false := by simp; omega
            have lx := HDL.out z.toNat
            have DX := HDC.out z (by omega)
            obtain ⟨A, hA⟩ : ∃ A, dd z.toNat = A := ⟨_, rfl⟩
            rw [hA] at HX DX lx
            have HDX := Lib.hid DX
            clear hA DX hzn
            by_cases hk0 : j = 0
            · have hd0 : decide (0 < j) = false := by simp; omega
              rw [if_pos hk0] at HX
              have HXX := Lib.hid HX
              have HJX := Lib.hid (show J = [] by rw [← hJ, hk0, HJ0.out])
              clear HX hk0 hJ
              go_wp2_with fail
              refine (HDX.out _).mono ?_
              rintro e w5 ⟨rfl, h5⟩
              have hb2 := hb.trans (h5.mono hb.size)
              clear h5 hb c0 c1 ck
              go_wp2_with fail
              go_roundw
              case rel => exact ⟨j + 1, by omega, by go_num, by
                rw [HXX.out, HJX.out]
                exact congrArg Value.string (by apply ByteArray.ext; simp), hb2⟩
              case measure => simp [intOf]; omega
            · have hd0 : decide (0 < j) = true := by simp; omega
              rw [if_neg hk0] at HX
              have HXX := Lib.hid HX
              clear HX hk0 hJ
              go_wp2_with fail
              refine (HDX.out _).mono ?_
              rintro e w5 ⟨rfl, h5⟩
              have hb2 := hb.trans (h5.mono hb.size)
              clear h5 hb c0 c1 ck
              go_wp2_with fail
              go_roundw
              case rel => exact ⟨j + 1, by omega, by go_num, by
                rw [HXX.out]
                exact congrArg Value.string (by apply ByteArray.ext; simp), hb2⟩
              case measure => simp [intOf]; omega
        · have hdj : decide ((j : Int) < (Wn : Int)) = false := by simp; omega
          obtain rfl : j = Wn := by omega
          have HJJ := Lib.hid (HJA.out k)
          obtain ⟨J, hJ⟩ : ∃ J, jn sgT (rowL g j k) j = J := ⟨_, rfl⟩
          rw [hJ] at hl2 HJJ ⊢
          clear hJ
          go_wp2_with fail
          go_roundw
          case rel => exact ⟨k + 1, by omega, by go_num, by
            rw [HS.out, ← HJJ.out]
            exact congrArg Value.string (by apply ByteArray.ext; simp), hb⟩
          case measure => simp [intOf]; omega
    · have hd : decide ((k : Int) < (Hn : Int)) = false := by simp; omega
      obtain rfl : k = Hn := by omega
      go_wp2_with fail
      go_ret
      exact ⟨by rw [HTE.out]; rfl, hb⟩

set_option maxRecDepth 100000 in
set_option maxHeartbeats 1000000 in
theorem slevT_any (L : Lawn) (hL : L.Fits) (g : Nat → Nat → Int) (hg : LevFits g) (w : World) :
    Calls Tryd.prog 41 #[.agg L.cells, .agg (levV g)] w fun e w' => e = .returned (.string (levS L g)) ∧ Below w.heap.size w w' := by
  have g0 := (Holds.new w L.cells 26).alloc (.cells (levV g) 64)
  have g1 := Holds.new' (w.alloc (.cells L.cells 26)) (levV g) 64 (w.heap.size + 1) (by simp)
  have hb0 := ((Below.refl w.heap.size w).alloc (Nat.le_refl _) (.cells L.cells 26)).alloc (by simp) (.cells (levV g) 64)
  have HO := Lib.hid (l06Ok_any L hL g hg _ _ _ g0 g1)
  have hs0 := g1.lt
  cases hv : levB L g with
  | true =>
    obtain ⟨h1, h2, -⟩ := validB_true (levB_true hv).1
    have HT := Lib.hid (fun (a b : Nat) (w : World) (h : Holds w a L.cells) (h' : Holds w b (levV g)) => l06Text_any L.wide.toNat L.high.toNat (by omega) (by omega) L (by omega) (by omega) g hg a b w h h')
    have HE := Lib.hid (show levS L g = ⟨(levsT g L.wide.toNat L.high.toNat).toArray⟩ by unfold levS; rw [if_pos hv])
    rw [hv] at HO
    clear hv h1 h2 hL hg
    go_enter Tryd.func41, Tryd.ntmps41
    go_wp2_with fail
    refine HO.out.mono ?_
    rintro e w1 ⟨rfl, hb1⟩
    have j0 := g0.below hb1 g0.lt
    have j1 := g1.below hb1 g1.lt
    have hb2 := below_onto hb0 hb1
    clear hb0 hb1 g0 g1 HO
    go_wp2_with fail
    refine (HT.out _ _ _ j0 j1).mono ?_
    rintro e w2 ⟨rfl, hb3⟩
    have hb4 := below_onto hb2 hb3
    clear hb2 hb3 j0 j1
    go_wp2_with fail
    go_ret
    exact ⟨by rw [HE.out]; rfl, hb4⟩
  | false =>
    have HE := Lib.hid (show levS L g = ⟨#[]⟩ by unfold levS; rw [if_neg (by rw [hv]; simp)])
    rw [hv] at HO
    clear hv hL hg g0 g1
    go_enter Tryd.func41, Tryd.ntmps41
    go_wp2_with fail
    refine HO.out.mono ?_
    rintro e w1 ⟨rfl, hb1⟩
    have hb2 := below_onto hb0 hb1
    clear hb0 hb1
    go_wp2_with fail
    go_ret
    exact ⟨by rw [HE.out]; rfl, hb2⟩
end Go.Proofs.YthfhpcigjnjkdaaDoor
