/- BestHome, of the model. -/
import Derived.Test.YtojccgaldadcnaaIHome
namespace Go.Proofs.Ytojccgaldadcnaa
open Go.RowKit
set_option linter.unusedVariables false
set_option linter.unusedSimpArgs false
attribute [local go_sem ↓] loadRow loadGrid loadLawn loadMirror storeRow storeGrid storeLawn allocRow allocGrid allocLawn buildZero buildSides

theorem allC_is {L : Lawn} {W H : Nat} (hW : L.wide = W) (hH : L.high = H) (c : Fin W × Fin H) : isB L (c.1.val : Int) (c.2.val : Int) = true := by
  have := c.1.isLt
  have := c.2.isLt
  unfold isB inB
  simp only [Bool.and_eq_true, decide_eq_true_eq]
  omega

set_option maxRecDepth 100000 in
set_option maxHeartbeats 2000000 in
theorem specHome_good (L : Lawn) (hL : L.Fits) (hV : validB L = true) (Wn Hn : Nat) (hLw : L.wide = Wn) (hLh : L.high = Hn) (w : World) :
    Calls Try.prog 21 #[.agg L.cells] w fun e w' => e = .returned (homeR (homeL L (allC Wn Hn))) ∧ Below w.heap.size w w' := by
  have hWH : Wn ≤ 10 ∧ Hn ≤ 10 := by obtain ⟨h1, h2, -⟩ := validB_true hV; omega
  obtain ⟨hW, hH⟩ := hWH
  have HOK := Lib.hid (fun (b : Nat) (w : World) (h : Holds w b L.cells) => l01Ok_any L hL b w h)
  rw [hV] at HOK
  have HALL := Lib.hid (fun (b : Nat) (w : World) (h : Holds w b L.cells) => l01All_any Wn Hn hW hH L hLw hLh b w h)
  have HOP := Lib.hid (show ∀ (c : Fin Wn × Fin Hn) (b : Nat) (w : World), Holds w b L.cells → Calls Try.prog 56 #[.pointer (some ⟨b, 0, none⟩), .agg #[.int .i8 c.1.val, .int .i8 c.2.val]] w fun e w' => e = .returned (.bool (openB L c.1.val c.2.val)) ∧ Below w.heap.size w w' from fun c b w h => by
    have := open_any L hL b c.1.val c.2.val (by have := c.1.isLt; omega) (by have := c.2.isLt; omega) w h
    unfold openB
    rw [allC_is hLw hLh c]
    exact this)
  have HLE := Lib.hid (fun (c : Fin Wn × Fin Hn) (h : openB L c.1.val c.2.val = true) (b : Nat) (w : World) (hb : Holds w b L.cells) => l04Least_any L hL hV Wn Hn hLw hLh c.1.val c.2.val (openB_in h) h b w hb)
  have HLB := Lib.hid (fun l : List (Fin Wn × Fin Hn) => homeL_bound hV l)
  have hlen : (allC Wn Hn).length = Hn * Wn := allC_length Wn Hn
  have hHW : Hn * Wn ≤ 100 := Nat.le_trans (Nat.mul_le_mul hH hW) (by omega)
  obtain ⟨N, hN⟩ : ∃ N, Hn * Wn = N := ⟨_, rfl⟩
  rw [hN] at HALL hlen hHW
  have HN := Lib.hid hlen
  clear hLw hLh hV hL hN hlen
  obtain ⟨W0, hW0⟩ : ∃ W0, (w.alloc (.cells L.cells 30)).alloc (.cells #[.int .i8 0, .int .i8 0] 43) = W0 := ⟨_, rfl⟩
  obtain ⟨s, hs⟩ : ∃ s, w.heap.size = s := ⟨_, rfl⟩
  have g0 : Holds W0 s L.cells := by rw [← hW0]; exact (Holds.new' _ _ _ _ hs.symm).alloc _
  have g1 : Holds W0 (s + 1) #[.int .i8 0, .int .i8 0] := by rw [← hW0]; exact Holds.new' _ _ _ _ (by simp; omega)
  have hB0 : Below w.heap.size w W0 := by rw [← hW0]; exact ((Below.refl w.heap.size w).alloc (Nat.le_refl _) _).alloc (by simp) _
  go_enter Try.func21, Try.ntmps21
  go_wp2_with fail
  try rw [hs]
  try rw [hW0]
  clear hW0
  refine (HOK.out _ _ g0).mono ?_
  rintro e w1 ⟨rfl, hb1⟩
  have k0 := (g0.below hb1 g0.lt).alloc (.cells #[.int .i8 0, .int .i8 0] 43)
  have k1 := (g1.below hb1 g1.lt).alloc (.cells #[.int .i8 0, .int .i8 0] 43)
  have k2 := Holds.new w1 #[.int .i8 0, .int .i8 0] 43
  have hb2 := (below_onto hB0 hb1).alloc (below_onto hB0 hb1).size (.cells #[.int .i8 0, .int .i8 0] 43)
  have hsu : s + 1 < w1.heap.size := (g1.below hb1 g1.lt).lt
  clear g0 g1 hB0 hb1
  go_wp2_with fail
  refine (HALL.out _ _ k0).mono ?_
  rintro e w2 ⟨v, rfl, hA, hb1⟩
  obtain ⟨u, hu⟩ : ∃ u, w1.heap.size = u := ⟨_, rfl⟩
  have j0 := k0.below hb1 k0.lt
  have j1 := k1.below hb1 k1.lt
  have j2 := k2.below hb1 k2.lt
  have hb3 := below_onto hb2 hb1
  rw [hs] at hb3
  rw [hu] at j2 hsu
  obtain ⟨aA, cA, rfl⟩ := own_slice hA
  have HAO := Lib.hid (ownsRow_low (A := u + 1) hA (by simp; omega))
  clear k0 k1 k2 hb1 hb2 hA
  try rw [hu]
  clear hu
  go_wp2_with fail
  go_loopw [6, 8] (fun t q wr => ∃ i : Nat, i ≤ N ∧ q = .int .i64 i ∧ t = .int .i64 (homeL L ((allC Wn Hn).take i)).2.2 ∧ Holds wr s L.cells ∧ Holds wr (s + 1) #[.int .i8 0, .int .i8 0] ∧ Holds wr u (ptV (homeL L ((allC Wn Hn).take i))) ∧ wr.ownsRow (u + 1) 43 2 (.slice aA N cA) N (flatV (allC Wn Hn)) ∧ Below s w wr) (fun _ q _ => N - (intOf q).toNat)
  case atStart => exact ⟨0, by omega, rfl, rfl, j0, j1, j2, HAO.out, hb3⟩
  case round =>
    obtain ⟨i, hi, rfl, rfl, i0, i1, i2, ho, hb⟩ := hrel
    have HAW := Lib.hid ho
    have hlb := HLB.out ((allC Wn Hn).take i)
    clear j0 j1 j2 hb3 HAO ho
    by_cases hlt : i < N
    · have hd : decide ((i : Int) < (N : Int)) = true := by simp; omega
      obtain ⟨x, hx⟩ : ∃ x, (allC Wn Hn)[i]? = some x := ⟨_, List.getElem?_eq_getElem (by rw [HN.out]; exact hlt)⟩
      have htk : (allC Wn Hn).take (i + 1) = (allC Wn Hn).take i ++ [x] := by rw [List.take_add_one, hx]; rfl
      have HST := Lib.hid (show homeL L ((allC Wn Hn).take (i + 1)) = homeStep L (homeL L ((allC Wn Hn).take i)) x by rw [htk]; exact homeL_snoc L _ x)
      have HOx := Lib.hid (HOP.out x)
      have HLx := Lib.hid (HLE.out x)
      have HOK2 : Hid (homeOk L x = (openB L x.1.val x.2.val && wholeB L Wn Hn x.1.val x.2.val)) := Lib.hid rfl
      have HHZ : Hid (2 * mostZ (aroundL L x.1.val x.2.val) = homeZ L x) := Lib.hid rfl
      rw [HHZ.out] at HLx
      obtain ⟨o, ho⟩ : ∃ o, openB L x.1.val x.2.val = o := ⟨_, rfl⟩
      rw [ho] at HOx HLx HOK2
      obtain ⟨⟨bx, by', m⟩, hst⟩ : ∃ st, homeL L ((allC Wn Hn).take i) = st := ⟨_, rfl⟩
      rw [hst] at HST i2 hlb ⊢
      have HSE : Hid (homeStep L (bx, by', m) x = if homeOk L x && (decide (m < 0) || decide (homeZ L x < m)) then ((x.1.val : Int), (x.2.val : Int), homeZ L x) else (bx, by', m)) := Lib.hid rfl
      obtain ⟨z, hz⟩ : ∃ z, homeZ L x = z := ⟨_, rfl⟩
      obtain ⟨ok, hok⟩ : ∃ ok, homeOk L x = ok := ⟨_, rfl⟩
      rw [hz, hok] at HSE
      rw [hz] at HLx
      rw [hok] at HOK2
      obtain ⟨wh, hwh⟩ : ∃ wh, wholeB L Wn Hn x.1.val x.2.val = wh := ⟨_, rfl⟩
      rw [hwh] at HLx HOK2
      dsimp only at hlb
      have i2 : Holds wr u #[.int .i8 bx, .int .i8 by'] := i2
      obtain ⟨fa, fb⟩ := flatV_get _ _ _ hx
      obtain ⟨ga, cap, he, hBg, hgw⟩ := own_form HAW.out (by omega)
      simp only [Value.slice.injEq, true_and] at he
      obtain ⟨rfl, rfl⟩ := he
      obtain ⟨⟨xj, hxj⟩, ⟨xk, hxk⟩⟩ := x
      dsimp only at *
      have ca := own_cell HAW.out _ _ fa
      have cb := own_cell HAW.out _ _ fb
      have FAB := Lib.hid (And.intro fa fb)
      clear hx htk fa fb ho hst hz hok hwh HHZ
      go_wp2_with fail
      refine (HOx.out _ _ i0).mono ?_
      rintro e w5 ⟨rfl, hb1⟩
      have hl0 := i0.lt
      have j0 := i0.below hb1 i0.lt
      have j1 := i1.below hb1 i1.lt
      have j2 := i2.below hb1 i2.lt
      have HAX := Lib.hid (own_below HAW.out hb1)
      have hb4 := hb.trans (hb1.mono (by omega))
      clear i0 i1 i2 hb hb1 HAW ca cb
      cases o
      · have HEQ := Lib.hid (show homeStep L (bx, by', m) (⟨xj, hxj⟩, ⟨xk, hxk⟩) = (bx, by', m) by rw [HSE.out, HOK2.out]; rfl)
        go_wp2_with fail
        all_goals exact ⟨⟨i + 1, by omega, by go_num, by rw [HST.out, HEQ.out], j0, j1, by rw [HST.out, HEQ.out]; exact j2, HAX.out, hb4⟩, by simp [intOf]; omega⟩
      · have ca := own_cell HAX.out _ _ FAB.out.1
        have cb := own_cell HAX.out _ _ FAB.out.2
        go_wp2_with fail
        refine (HLx.out (by trivial) _ _ j0).mono ?_
        rintro e w6 ⟨rfl, hb1⟩
        have hl5 := j0.lt
        have i0 := j0.below hb1 j0.lt
        have i1 := j1.below hb1 j1.lt
        have i2 := j2.below hb1 j2.lt
        have HAY := Lib.hid (own_below HAX.out hb1)
        have hb := hb4.trans (hb1.mono (by omega))
        clear j0 j1 j2 hb4 hb1 HAX ca cb
        have ca := own_cell HAY.out _ _ FAB.out.1
        have cb := own_cell HAY.out _ _ FAB.out.2
        obtain ⟨-, -, c2, f2, l2⟩ := i2.facts
        have HOK3 := HOK2.out
        cases wh
        · have HEQ := Lib.hid (show homeStep L (bx, by', m) (⟨xj, hxj⟩, ⟨xk, hxk⟩) = (bx, by', m) by rw [HSE.out, HOK2.out]; rfl)
          go_wp2_with fail
          all_goals exact ⟨⟨i + 1, by omega, by go_num, by rw [HST.out, HEQ.out], i0, i1, by rw [HST.out, HEQ.out]; exact i2, HAY.out, hb⟩, by simp [intOf]; omega⟩
        · by_cases hm0 : m < 0
          · have hd0 : decide (m < 0) = true := by simpa using hm0
            have HEQ := Lib.hid (show homeStep L (bx, by', m) (⟨xj, hxj⟩, ⟨xk, hxk⟩) = ((xj : Int), (xk : Int), z) by rw [HSE.out, HOK2.out, hd0]; rfl)
            have v2 := (i2.setCell 0 (.int .i8 xj)).setCell 1 (.int .i8 xk)
            have v0 := (i0.setCell_other ⟨u, 0, none⟩ (.int .i8 xj) (by dsimp only; omega)).setCell_other ⟨u, 1, none⟩ (.int .i8 xk) (by dsimp only; omega)
            have v1 := (i1.setCell_other ⟨u, 0, none⟩ (.int .i8 xj) (by dsimp only; omega)).setCell_other ⟨u, 1, none⟩ (.int .i8 xk) (by dsimp only; omega)
            have hb5 := (hb.setCell (p := ⟨u, 0, none⟩) (by dsimp only; omega) (.int .i8 xj)).setCell (p := ⟨u, 1, none⟩) (by dsimp only; omega) (.int .i8 xk)
            have HAZ := Lib.hid ((HAY.out.kept (grown_put w6 u 0 (.int .i8 xj)) (.inr (by simp [Value.ownBlock]; omega))).kept (grown_put _ u 1 (.int .i8 xk)) (.inr (by simp [Value.ownBlock]; omega)))
            go_wp2_with fail
            all_goals exact ⟨⟨i + 1, by omega, by go_num, by rw [HST.out, HEQ.out], v0, v1, by rw [HST.out, HEQ.out]; exact v2, HAZ.out, hb5⟩, by simp [intOf]; omega⟩
          · have hd0 : decide (m < 0) = false := by simpa using hm0
            by_cases hzm : z < m
            · have hd1 : decide (z < m) = true := by simpa using hzm
              have HEQ := Lib.hid (show homeStep L (bx, by', m) (⟨xj, hxj⟩, ⟨xk, hxk⟩) = ((xj : Int), (xk : Int), z) by rw [HSE.out, HOK2.out, hd0, hd1]; rfl)
              have v2 := (i2.setCell 0 (.int .i8 xj)).setCell 1 (.int .i8 xk)
              have v0 := (i0.setCell_other ⟨u, 0, none⟩ (.int .i8 xj) (by dsimp only; omega)).setCell_other ⟨u, 1, none⟩ (.int .i8 xk) (by dsimp only; omega)
              have v1 := (i1.setCell_other ⟨u, 0, none⟩ (.int .i8 xj) (by dsimp only; omega)).setCell_other ⟨u, 1, none⟩ (.int .i8 xk) (by dsimp only; omega)
              have hb5 := (hb.setCell (p := ⟨u, 0, none⟩) (by dsimp only; omega) (.int .i8 xj)).setCell (p := ⟨u, 1, none⟩) (by dsimp only; omega) (.int .i8 xk)
              have HAZ := Lib.hid ((HAY.out.kept (grown_put w6 u 0 (.int .i8 xj)) (.inr (by simp [Value.ownBlock]; omega))).kept (grown_put _ u 1 (.int .i8 xk)) (.inr (by simp [Value.ownBlock]; omega)))
              go_wp2_with fail
              all_goals exact ⟨⟨i + 1, by omega, by go_num, by rw [HST.out, HEQ.out], v0, v1, by rw [HST.out, HEQ.out]; exact v2, HAZ.out, hb5⟩, by simp [intOf]; omega⟩
            · have hd1 : decide (z < m) = false := by simpa using hzm
              have HEQ := Lib.hid (show homeStep L (bx, by', m) (⟨xj, hxj⟩, ⟨xk, hxk⟩) = (bx, by', m) by rw [HSE.out, HOK2.out, hd0, hd1]; rfl)
              go_wp2_with fail
              all_goals exact ⟨⟨i + 1, by omega, by go_num, by rw [HST.out, HEQ.out], i0, i1, by rw [HST.out, HEQ.out]; exact i2, HAY.out, hb⟩, by simp [intOf]; omega⟩
    · have hd : decide ((i : Int) < (N : Int)) = false := by simp; omega
      have htk : (allC Wn Hn).take i = allC Wn Hn := List.take_of_length_le (by rw [HN.out]; omega)
      rw [htk] at i2 hlb
      rw [htk]
      obtain ⟨⟨bx, by', m⟩, hst⟩ : ∃ st, homeL L (allC Wn Hn) = st := ⟨_, rfl⟩
      rw [hst] at i2 hlb
      have HHM := Lib.hid hst
      try rw [hst]
      dsimp only at hlb
      have i2 : Holds wr u #[.int .i8 bx, .int .i8 by'] := i2
      obtain ⟨-, -, c2, f2, l2⟩ := i2.facts
      obtain ⟨-, -, c1, f1, l1⟩ := i1.facts
      clear hst htk
      by_cases hm0 : m < 0
      · have hd0 : decide (m < 0) = true := by simpa using hm0
        have v1 := (i1.setCell 0 (.int .i8 0)).setCell 1 (.int .i8 0)
        have hb5 := (hb.setCell (p := ⟨s + 1, 0, none⟩) (by dsimp only; omega) (.int .i8 0)).setCell (p := ⟨s + 1, 1, none⟩) (by dsimp only; omega) (.int .i8 0)
        go_wp2_with fail
        refine bodyPost_ret (results_cell_tmp2 (n := 2) (p := 2) (u := 3) (v := 4) rfl (by kernel_rfl) _ rfl rfl rfl v1 rfl) rfl ⟨?_, by first | exact hb5 | (rw [hs]; exact hb5)⟩
        rw [HHM.out]; unfold homeR; rw [if_pos (show m < 0 by omega)]; rfl
      · have hd0 : decide (m < 0) = false := by simpa using hm0
        have v1 := (i1.setCell 0 (.int .i8 bx)).setCell 1 (.int .i8 by')
        have hb5 := (hb.setCell (p := ⟨s + 1, 0, none⟩) (by dsimp only; omega) (.int .i8 bx)).setCell (p := ⟨s + 1, 1, none⟩) (by dsimp only; omega) (.int .i8 by')
        go_wp2_with fail
        refine bodyPost_ret (results_cell_tmp2 (n := 2) (p := 2) (u := 3) (v := 4) rfl (by kernel_rfl) _ rfl rfl rfl v1 rfl) rfl ⟨?_, by first | exact hb5 | (rw [hs]; exact hb5)⟩
        rw [HHM.out]; unfold homeR; rw [if_neg (show ¬ m < 0 by omega)]; rfl

set_option maxRecDepth 100000 in
set_option maxHeartbeats 1000000 in
theorem specHome_any (L : Lawn) (hL : L.Fits) (w : World) :
    Calls Try.prog 21 #[.agg L.cells] w fun e w' => e = .returned (bestHomeV L) ∧ Below w.heap.size w w' := by
  cases hv : validB L
  case true =>
    obtain ⟨h1, h2, -⟩ := validB_true hv
    unfold bestHomeV
    rw [if_pos hv]
    exact specHome_good L hL hv L.wide.toNat L.high.toNat (by omega) (by omega) w
  case false =>
    have HOK := Lib.hid (fun (b : Nat) (w : World) (h : Holds w b L.cells) => l01Ok_any L hL b w h)
    rw [hv] at HOK
    unfold bestHomeV
    rw [hv]
    simp only [Bool.false_eq_true, if_false]
    clear hv hL
    obtain ⟨W0, hW0⟩ : ∃ W0, (w.alloc (.cells L.cells 30)).alloc (.cells #[.int .i8 0, .int .i8 0] 43) = W0 := ⟨_, rfl⟩
    have g0 : Holds W0 w.heap.size L.cells := by rw [← hW0]; exact (Holds.new _ _ _).alloc _
    have g1 : Holds W0 (w.heap.size + 1) #[.int .i8 0, .int .i8 0] := by rw [← hW0]; exact Holds.new' _ _ _ _ (by simp)
    have hb0 : Below w.heap.size w W0 := by rw [← hW0]; exact ((Below.refl w.heap.size w).alloc (Nat.le_refl _) _).alloc (by simp) _
    go_enter Try.func21, Try.ntmps21
    go_wp2_with fail
    try rw [hW0]
    clear hW0
    refine (HOK.out _ _ g0).mono ?_
    rintro e w1 ⟨rfl, hb1⟩
    have k1 := g1.below hb1 g1.lt
    have hb2 := below_onto hb0 hb1
    clear g0 g1 hb0 hb1
    obtain ⟨-, -, c1, f1, l1⟩ := k1.facts
    have v1 := (k1.setCell 0 (.int .i8 0)).setCell 1 (.int .i8 0)
    have hb3 := (hb2.setCell (p := ⟨w.heap.size + 1, 0, none⟩) (by dsimp only; omega) (.int .i8 0)).setCell (p := ⟨w.heap.size + 1, 1, none⟩) (by dsimp only; omega) (.int .i8 0)
    go_wp2_with fail
    exact bodyPost_ret (results_cell_tmp2 (n := 2) (p := 2) (u := 3) (v := 4) rfl (by kernel_rfl) _ rfl rfl rfl v1 rfl) rfl ⟨rfl, hb3⟩
theorem bestHomeV_form (L : Lawn) : ∃ x y z m : Int, bestHomeV L = .tuple #[.agg #[.int .i8 x, .int .i8 y], .int .i64 z, .int .i64 m] := by
  unfold bestHomeV homeR
  split
  · split
    · exact ⟨_, _, _, _, rfl⟩
    · exact ⟨_, _, _, _, rfl⟩
  · exact ⟨_, _, _, _, rfl⟩
end Go.Proofs.Ytojccgaldadcnaa
