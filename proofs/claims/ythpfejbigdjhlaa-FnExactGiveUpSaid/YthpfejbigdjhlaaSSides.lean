/- All sides, of the model. -/
import Derived.Test.YthpfejbigdjhlaaSSide
namespace Go.Proofs.Ythpfejbigdjhlaa
open Go.RowKit
set_option linter.unusedVariables false
attribute [local go_sem ↓] loadRow loadGrid loadLawn loadMirror storeRow storeGrid storeLawn allocRow allocGrid allocLawn buildZero buildSides loadSd storeSd allocSd buildSd

theorem sumS_take {W H : Nat} (L : Lawn) (l : List (Fin W × Fin H)) {i : Nat} {c : Fin W × Fin H} (h : l[i]? = some c) : sumS L (l.take (i + 1)) = addS (sumS L (l.take i)) (sidesL L ((c.1.val : Int), (c.2.val : Int))) := by
  rw [List.take_add_one, h]
  exact sumS_snoc L _ c
theorem grassS_ofKind (L : Lawn) (W H : Nat) : allS L W H = sumS L (ofKind L W H 0) := rfl

set_option maxRecDepth 100000 in
set_option maxHeartbeats 2000000 in
theorem l05All_any (Wn Hn : Nat) (hW : Wn ≤ 10) (hH : Hn ≤ 10) (hW1 : 1 ≤ Wn) (hH1 : 1 ≤ Hn) (L : Lawn) (hL : L.Fits) (hV : validB L = true) (hLw : L.wide = Wn) (hLh : L.high = Hn) (b : Nat) (w : World) (h : Holds w b L.cells) :
    Calls Try.prog 52 #[.pointer (some ⟨b, 0, none⟩)] w fun e w' => e = .returned (.agg (sdV (allS L Wn Hn))) ∧ Below w.heap.size w w' := by
  have HAT := Lib.hid (fun (c : Fin Wn × Fin Hn) (w : World) (h : Holds w b L.cells) => l05At_any L hL hV b c.1.val c.2.val (by omega) (by have := c.1.isLt; omega) (by omega) (by have := c.2.isLt; omega) w h)
  have HCE := Lib.hid (fun (w : World) (h : Holds w b L.cells) => l01Cells_any Wn Hn hW hH hW1 hH1 L hL hLw hLh 0 b w h)
  have hn1 : (ofKind L Wn Hn 0).length ≤ 100 := by
    refine Nat.le_trans (List.length_filter_le _ _) ?_
    rw [allC_length]
    exact Nat.le_trans (Nat.mul_le_mul hH hW) (by omega)
  have hbw := h.lt
  rw [grassS_ofKind]
  obtain ⟨l, hl⟩ : ∃ l, ofKind L Wn Hn 0 = l := ⟨_, rfl⟩
  rw [hl] at hn1 HCE ⊢
  clear hL hV hLw hLh hW hH hW1 hH1 hl
  go_enter Try.func52, Try.ntmps52
  go_wp2_with fail
  obtain ⟨W0, hW0⟩ : ∃ W0, (w.alloc (.cells (sdV fun _ => 0) 28)).alloc (.cells (sdV fun _ => 0) 28) = W0 := ⟨_, rfl⟩
  have g0 : Holds W0 (w.heap.size + 1) (sdV fun _ => 0) := by rw [← hW0]; exact Holds.new' _ _ _ _ (by simp)
  have r0 : Holds W0 w.heap.size (sdV fun _ => 0) := by rw [← hW0]; exact (Holds.new _ _ _).alloc _
  have h0 : Holds W0 b L.cells := by rw [← hW0]; exact (h.alloc _).alloc _
  have hb0 : Below w.heap.size w W0 := by rw [← hW0]; exact ((Below.refl w.heap.size w).alloc (Nat.le_refl _) _).alloc (by simp) _
  rw [hW0]
  clear hW0 h
  refine (HCE.out _ h0).mono ?_
  rintro e w1 ⟨vA, rfl, hA, hb1⟩
  have g1 := g0.below hb1 g0.lt
  have h1 := h0.below hb1 h0.lt
  have r1 := r0.below hb1 r0.lt
  have hb2 := below_onto hb0 hb1
  have hl0 := g0.lt
  obtain ⟨s, hs⟩ : ∃ s, w.heap.size = s := ⟨_, rfl⟩
  have hA := ownsRow_low hA hl0
  rw [hs] at g1 r1 hb2 hbw hA ⊢
  have HS := Lib.hid hs
  obtain ⟨a, cap, rfl⟩ := own_slice hA
  have HO := Lib.hid hA
  obtain ⟨n, hn⟩ : ∃ n, l.length = n := ⟨_, rfl⟩
  rw [hn] at hn1 HO ⊢
  have HN := Lib.hid hn
  clear hs g0 h0 r0 hb0 hb1 hA hl0 hn
  go_wp2_with fail
  go_loopw [5] (fun q wr => ∃ i : Nat, i ≤ n ∧ q = .int .i64 i ∧ Holds wr (s + 1) (sdV (sumS L (l.take i))) ∧ Holds wr s (sdV fun _ => 0) ∧ Holds wr b L.cells ∧ wr.ownsRow (s + 1 + 1) 40 2 (.slice a n cap) n (flatV l) ∧ Below s w wr) (fun q _ => n - (intOf q).toNat)
  case atStart => exact ⟨0, by omega, rfl, g1, r1, h1, HO.out, hb2⟩
  case round =>
    obtain ⟨i, hi, rfl, k0, kr, k1, ho, hb⟩ := hrel
    have HO2 := Lib.hid ho
    have hsz := k0.lt
    clear g1 r1 h1 HO hb2 ho
    by_cases hlt : i < n
    · have hd : decide ((i : Int) < (n : Int)) = true := by simp; omega
      obtain ⟨c, hc⟩ : ∃ c, l[i]? = some c := ⟨_, List.getElem?_eq_getElem (by rw [HN.out]; exact hlt)⟩
      have HC := Lib.hid (sumS_take L l hc)
      have HAc := Lib.hid (HAT.out c)
      obtain ⟨g, cap', he, -, -⟩ := own_form HO2.out (by omega)
      cases he
      obtain ⟨fa, fb⟩ := flatV_get _ _ _ hc
      have ca := own_cell HO2.out _ _ fa
      have cb := own_cell HO2.out _ _ fb
      have HF := Lib.hid (sumS_bound L (l.take i))
      have hlen : ((l.take i).length : Int) ≤ 100 := by rw [List.length_take]; omega
      have HG := Lib.hid (sidesL_bound L ((c.1.val : Int), (c.2.val : Int)))
      clear hc fa fb
      go_wp2_with fail
      refine (HAc.out _ k1).mono ?_
      rintro e w2 ⟨rfl, hb1⟩
      have p0 := k0.below hb1 k0.lt
      have pr := kr.below hb1 kr.lt
      have p1 := k1.below hb1 k1.lt
      have hb3 := hb.trans (hb1.mono (by omega))
      have HO3 := Lib.hid (own_below HO2.out hb1)
      obtain ⟨f, hf⟩ : ∃ f, sumS L (l.take i) = f := ⟨_, rfl⟩
      obtain ⟨u, hu⟩ : ∃ u, sidesL L ((c.1.val : Int), (c.2.val : Int)) = u := ⟨_, rfl⟩
      rw [hf] at p0 HC HF
      rw [hu] at HC HG ⊢
      have hls := p0.lt
      clear ca cb k0 kr k1 hb hb1 HO2 hf hu HAc
      have m0 := p0.alloc (.cells (sdV u) 28)
      have mr := pr.alloc (.cells (sdV u) 28)
      have m1 := p1.alloc (.cells (sdV u) 28)
      have HO4 := Lib.hid (own_below HO3.out ((Below.refl w2.heap.size w2).alloc (Nat.le_refl _) (.cells (sdV u) 28)))
      have hb4 : Below s w (w2.alloc (.cells (sdV u) 28)) := hb3.alloc (by omega) _
      have mu := Holds.new w2 (sdV u) 28
      obtain ⟨m, hm⟩ : ∃ m, w2.heap.size = m := ⟨_, rfl⟩
      have hms : s + 1 < m := by omega
      obtain ⟨W3, hW3⟩ : ∃ W3, w2.alloc (.cells (sdV u) 28) = W3 := ⟨_, rfl⟩
      rw [hW3] at m0 mr m1 mu hb4 HO4
      rw [hm] at mu
      have hbm : b < m := by omega
      clear p0 pr p1 hb3 hls HO3
      go_wp2_with fail
      clear hW3 hm
      go_loopw [7] (fun q wk => ∃ k : Nat, k ≤ 5 ∧ q = .int .i64 k ∧ Holds wk (s + 1) (sdV (addTo f u k)) ∧ Holds wk s (sdV fun _ => 0) ∧ Holds wk m (sdV u) ∧ Holds wk b L.cells ∧ wk.ownsRow (s + 1 + 1) 40 2 (.slice (some ⟨g, 0, none⟩) n cap) n (flatV l) ∧ Below s w wk) (fun q _ => 5 - (intOf q).toNat)
      case atStart => exact ⟨0, by omega, rfl, by rw [addTo_zero]; exact m0, mr, mu, m1, HO4.out, hb4⟩
      case round =>
        obtain ⟨k, hk, rfl, k0, kr, ku, k1, ho, hb⟩ := hrel
        have HOK := Lib.hid ho
        clear m0 mr mu m1 HO4 hb4 ho
        by_cases hkt : k < 5
        · have hdk : decide ((k : Int) < (5 : Int)) = true := by simp; omega
          have cf := k0.sd k hkt
          have cu := ku.sd k hkt
          have cff := addTo_at f u k
          rw [cff] at cf
          obtain ⟨-, -, -, fr, hl⟩ := k0.facts
          have hl2 := ku.lt
          have b1 := HF.out k
          have b2 := HG.out k
          have hwr : IntKind.i64.wrap (f k + u k) = f k + u k := IntWalk.i64_in _ (by omega)
          go_wp2_with fail
          go_region_with (fail)
          all_goals
            go_wp2_with fail
            go_roundw
            case rel =>
              refine ⟨k + 1, by omega, by go_num, ?_, kr.setCell_other _ _ (by dsimp only; omega), ku.setCell_other _ _ (by dsimp only; omega), k1.setCell_other _ _ (by dsimp only; omega), (show (wr.setCell ⟨s + 1, k, none⟩ (.int .i64 (f k + u k))).ownsRow (s + 1 + 1) 40 2 (.slice (some ⟨g, 0, none⟩) n cap) n (flatV l) from own_setAt HOK.out (s + 1) k _ (by omega)), (hb.setCell (p := ⟨s + 1, k, none⟩) (by dsimp only; omega) _).drew⟩
              rw [← addTo_succ]
              exact k0.setSd k hkt _
            case measure => simp [intOf]; omega
        · obtain rfl : k = 5 := by omega
          have hdk : decide (((5 : Nat) : Int) < (5 : Int)) = false := by decide
          rw [addTo_all, ← HC.out] at k0
          have HK0 := Lib.hid k0
          clear k0
          go_wp2_with fail
          go_roundw
          case rel => exact ⟨i + 1, by omega, by go_num, HK0.out, kr, k1, HOK.out, hb⟩
          case measure => simp [intOf]; omega
    · obtain rfl : i = n := by omega
      have hd : decide ((i : Int) < (i : Int)) = false := by simp
      have hT : sumS L (l.take i) = sumS L l := by rw [List.take_of_length_le (by rw [HN.out]; omega)]
      rw [hT] at k0
      have r0 := k0.row
      obtain ⟨rr, fr, -, -, -⟩ := kr.facts
      have HR := Lib.hid (kr.setRow (sdV (sumS L l)))
      have HB := Lib.hid hb
      go_wp2_with fail
      exact bodyPost_ret (results_cell_holds (n := 5) rfl (by kernel_rfl) _ rfl HR.out rfl) rfl ⟨rfl, by have := HS.out; subst this; exact below_setRow HB.out _ (by omega) _⟩
end Go.Proofs.Ythpfejbigdjhlaa
