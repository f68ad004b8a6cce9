/- MostVisited, of the model. -/
import Derived.Test.YtabemgplddfemaaGreatDoorMostP
import Derived.Test.YtabemgplddfemaaGreatDoorSMoleN
import Derived.Test.YtabemgplddfemaaGreatDoorMoleM
import Derived.Test.YtabemgplddfemaaGreatDoorZH
import Derived.Test.YtabemgplddfemaaGreatDoorZC
import Derived.Test.YtabemgplddfemaaGreatDoorZR
namespace Go.Proofs.YtabemgplddfemaaGreatDoor
open Go.RowKit Go.Shelf
set_option linter.unusedVariables false
set_option linter.unusedSimpArgs false
attribute [local go_sem ↓] loadRow loadGrid loadLawn loadMirror storeRow storeGrid storeLawn allocRow allocGrid allocLawn buildZero buildSides loadR8 loadL8 loadLv storeR8 storeLv allocR8 allocLv buildZLv storeCl loadG64 storeG64 allocG64 buildG64

theorem visG_snoc (cs : List Pt) (x y : Nat) : grid64 (visG (cs ++ [((x : Int), (y : Int))])) = grid64 (upd (visG cs) y x (visN cs ((x : Int), (y : Int)) + 1)) := by
  refine grid64_ext fun y' x' hy hx => ?_
  simp only [visG, visN_snoc, upd, Prod.mk.injEq]
  by_cases e : y' = y ∧ x' = x
  · obtain ⟨rfl, rfl⟩ := e
    simp
  · rw [if_neg e, if_neg (fun h => e ⟨by omega, by omega⟩)]

set_option maxRecDepth 100000 in
set_option maxHeartbeats 4000000 in
theorem smost_good (L : Lawn) (hL : L.Fits) (g : Nat → Nat → Int) (hg : LevFits g) (hv : levB L g = true) (q : Q10) (hq : grassP L (ptQ q) = true) (N : Nat) (hN : N ≤ 60) (hN0 : 0 < N) (w : World) :
    Calls Tryz.prog 10 #[.agg L.cells, .agg (levV g), .agg #[.int .i8 q.1.val, .int .i8 q.2.val], .int .i64 N] w fun e w' => e = .returned (cellNN3 (visA L g q N)) ∧ Below w.heap.size w w' := by
  obtain ⟨s, hs⟩ : ∃ s, w.heap.size = s := ⟨_, rfl⟩
  obtain ⟨Wn, Hn, ⟨hW, hH⟩, ⟨hW1, hH1⟩, hLw, hLh⟩ := valid_sides (levB_true hv).1
  have HMN := Lib.hid (show ∀ w, Calls Tryz.prog 16 #[.agg L.cells, .agg (levV g), .agg #[.int .i8 q.1.val, .int .i8 q.2.val], .int .i64 N] w fun e w' => (∃ v, e = .returned (.tuple #[.agg (levV (stQ L g q N).1), v, .int .i64 0]) ∧ w'.ownsRow w.heap.size 30 2 v (N + 1) (flatV (pathQ L g q N))) ∧ Below w.heap.size w w' from fun w => smoleNights_good L hL g hg hv q hq N hN w)
  have hal := fun (b : Nat) (w : World) (h : Holds w b L.cells) => l01All_any Wn Hn hW hH L hLw hLh b w h
  have hpl := pathQ_length L g q N
  have hcl := visC_length L g q N
  have hcg : ∀ k c, (visC L g q N)[k]? = some c → ∃ d : Q10, c = ((d.1.val : Int), (d.2.val : Int)) ∧ (pathQ L g q N)[1 + k]? = some d := visC_get
  rw [visA_all hv hq N hN0 hLw hLh]
  obtain ⟨G9, hG9⟩ : ∃ G9, (stQ L g q N).1 = G9 := ⟨_, rfl⟩
  obtain ⟨P, hP⟩ : ∃ P, pathQ L g q N = P := ⟨_, rfl⟩
  obtain ⟨cs, hcs⟩ : ∃ cs, visC L g q N = cs := ⟨_, rfl⟩
  rw [hP, hG9] at HMN
  rw [hP] at hpl
  rw [hcs] at hcl ⊢
  rw [hP, hcs] at hcg
  obtain ⟨B, hB⟩ : ∃ B, allC Wn Hn = B := ⟨_, rfl⟩
  have HBL : B.length ≤ 100 := by
    rw [← hB, allC_length]
    exact Nat.le_trans (Nat.mul_le_mul hH hW) (by omega)
  have hBn : B.length = Hn * Wn := by rw [← hB]; exact allC_length _ _
  rw [hB] at hal ⊢
  obtain ⟨n, hn⟩ : ∃ n, Hn * Wn = n := ⟨_, rfl⟩
  rw [hn] at hal hBn
  rw [hBn] at HBL
  have HAL := Lib.hid hal
  have HNB := Lib.hid hBn
  have HPL := Lib.hid hpl
  have HCL := Lib.hid hcl
  have HCG := Lib.hid hcg
  have HWH := Lib.hid (show Wn ≤ 10 ∧ Hn ≤ 10 from ⟨hW, hH⟩)
  obtain ⟨q1, hq1'⟩ : ∃ k : Nat, q.1.val = k := ⟨_, rfl⟩
  obtain ⟨q2, hq2'⟩ : ∃ k : Nat, q.2.val = k := ⟨_, rfl⟩
  rw [hq1', hq2'] at HMN
  rw [hq1', hq2']
  have hNz : ((N : Int) == 0) = false := by simp; omega
  have hNz2 : decide ((N : Int) = 0) = false := by simp; omega
  clear hal hL hg hv hq hP hG9 hq1' hq2' hpl hcl hcg hcs hB hBn hn hLw hLh hW hH hW1 hH1
  obtain ⟨W0, hW0⟩ : ∃ W0, (((w.alloc (.cells L.cells 33)).alloc (.cells (levV g) 35)).alloc (.cells #[.int .i8 q1, .int .i8 q2] 30)).alloc (.cells #[.int .i8 0, .int .i8 0] 30) = W0 := ⟨_, rfl⟩
  have g0 : Holds W0 s L.cells := by rw [← hW0]; exact (((Holds.new' _ _ _ _ hs.symm).alloc _).alloc _).alloc _
  have g1 : Holds W0 (s + 1) (levV g) := by rw [← hW0]; exact ((Holds.new' _ _ _ _ (by simp <;> omega)).alloc _).alloc _
  have g2 : Holds W0 (s + 1 + 1) #[.int .i8 q1, .int .i8 q2] := by rw [← hW0]; exact (Holds.new' _ _ _ _ (by simp <;> omega)).alloc _
  have g3 : Holds W0 (s + 1 + 1 + 1) #[.int .i8 0, .int .i8 0] := by rw [← hW0]; exact Holds.new' _ _ _ _ (by simp <;> omega)
  have hb : Below s w W0 := by rw [← hW0]; exact ((((Below.refl s w).alloc (by omega) _).alloc (by simp; omega) _).alloc (by simp; omega) _).alloc (by simp; omega) _
  obtain ⟨r0, -, -, -, l0⟩ := g0.facts
  obtain ⟨r1, -, -, -, l1⟩ := g1.facts
  have l2 := g2.lt
  have c20 := (g2.cell 0).trans (show _ = some (.int .i8 q1) from rfl)
  have c21 := (g2.cell 1).trans (show _ = some (.int .i8 q2) from rfl)
  rw [hs]
  go_enter Tryz.func10, Tryz.ntmps10
  go_wp2_with fail
  try rw [hW0]
  clear hW0
  refine (HMN.out _).mono ?_
  rintro e w1 ⟨⟨v, rfl, ho⟩, hb1⟩
  obtain ⟨ga, cap, rfl, hBg, hgw⟩ := own_form ho (by omega)
  have hb2 : Below s w w1 := hb.trans (hb1.mono (by have := hb.size; omega))
  have m0 := g0.below hb1 g0.lt
  have m3 := g3.below hb1 g3.lt
  have HO := Lib.hid ho
  obtain ⟨w0s, hw0s⟩ : ∃ k, W0.heap.size = k := ⟨_, rfl⟩
  rw [hw0s] at HO hBg
  clear g0 g1 g2 g3 r0 r1 l0 l1 l2 c20 c21 hb hb1 HMN ho hw0s
  have HO2 := Lib.hid ((HO.out.alloc (.cells (levV G9) 35)).alloc (.cells (grid64 fun _ _ => 0) 50))
  have k0 := (m0.alloc (.cells (levV G9) 35)).alloc (.cells (grid64 fun _ _ => 0) 50)
  have k3 := (m3.alloc (.cells (levV G9) 35)).alloc (.cells (grid64 fun _ _ => 0) 50)
  have kG : Holds ((w1.alloc (.cells (levV G9) 35)).alloc (.cells (grid64 fun _ _ => 0) 50)) (w1.heap.size + 1) (grid64 (visG (cs.take 0))) := Holds.new' _ _ _ _ (by simp)
  have hb3 : Below s w ((w1.alloc (.cells (levV G9) 35)).alloc (.cells (grid64 fun _ _ => 0) 50)) := (hb2.alloc (by have := hb2.size; omega) _).alloc (by have := hb2.size; simp; omega) _
  obtain ⟨W2, hW2⟩ : ∃ W2, (w1.alloc (.cells (levV G9) 35)).alloc (.cells (grid64 fun _ _ => 0) 50) = W2 := ⟨_, rfl⟩
  have hs1 : s + 1 + 1 + 1 < w1.heap.size := m3.lt
  obtain ⟨b, hbb⟩ : ∃ b, w1.heap.size + 1 = b := ⟨_, rfl⟩
  rw [hW2] at HO2 k0 k3 kG hb3
  rw [hbb] at kG
  have hW2s : W2.heap.size = b + 1 := by rw [← hW2, ← hbb]; simp
  have hgb : ga < b := by omega
  have hsb : s + 1 + 1 + 1 < b := by omega
  have HW2 := Lib.hid hW2
  have HBB := Lib.hid hbb
  clear HO m0 m3 hb2 hW2 hbb
  go_wp2_with fail
  try simp only [HW2.out, HBB.out]
  clear HW2 HBB
  have HOW := Lib.hid HO2.out
  go_loopw [15] (fun i wr => ∃ k : Nat, k ≤ N ∧ i = .int .i64 ((k : Int) + 1) ∧ Holds wr b (grid64 (visG (cs.take k))) ∧ Only [b] W2 wr) (fun i _ => 300 - (intOf i).toNat)
  case atStart => exact ⟨0, Nat.zero_le _, rfl, kG, Only.refl _ _⟩
  case round =>
    obtain ⟨k, hk, rfl, hgk, hO⟩ := hrel
    have HO1 := Lib.hid (hO.own HOW.out (fun q hq => by simp [Value.ownBlock] at hq; simp; omega))
    have HOn := Lib.hid hO
    by_cases hlt : k < N
    · have hd : decide ((k : Int) + 1 < (N : Int) + 1) = true := by simp; omega
      obtain ⟨a, ha⟩ : ∃ a, cs[k]? = some a := ⟨_, List.getElem?_eq_getElem (by rw [HCL.out]; exact hlt)⟩
      obtain ⟨d, rfl, hPd⟩ := HCG.out k a ha
      obtain ⟨fa, fb⟩ := flatV_get _ _ _ hPd
      have HTK := Lib.hid (show cs.take (k + 1) = cs.take k ++ [((d.1.val : Int), (d.2.val : Int))] by rw [List.take_add_one, ha]; rfl)
      obtain ⟨⟨xn, hxn⟩, ⟨yn, hyn⟩⟩ := d
      dsimp only at fa fb HTK
      rw [show 1 + k = k + 1 by omega] at fa fb
      have hrg := visN_range cs k ((xn : Int), (yn : Int))
      have hgc := grid64_get (visG (cs.take k)) yn xn hyn hxn
      have htg : visG (cs.take k) yn xn = visN (cs.take k) ((xn : Int), (yn : Int)) := rfl
      rw [htg] at hgc
      obtain ⟨tt, htt⟩ : ∃ tt, visN (cs.take k) ((xn : Int), (yn : Int)) = tt := ⟨_, rfl⟩
      rw [htt] at hgc hrg
      have HTT := Lib.hid htt
      have HFA := Lib.hid (show ∀ w' : World, Below wr.heap.size wr w' → w'.cell? ⟨ga, (k + 1) * 2, none⟩ = some (.int .i8 (xn : Int)) ∧ w'.cell? ⟨ga, (k + 1) * 2 + 1, none⟩ = some (.int .i8 (yn : Int)) ∧ w'.cell? ⟨b, yn * 10 + xn, none⟩ = some (.int .i64 tt) from fun w' hw => ⟨own_cell (own_below HO1.out hw) _ _ fa, own_cell (own_below HO1.out hw) _ _ fb, by rw [(hgk.below hw hgk.lt).cell, hgc]⟩)
      have hx0 : (0 : Int) ≤ xn := by omega
      have hx1 : (xn : Int) < 10 := by omega
      have hy0 : (0 : Int) ≤ yn := by omega
      have hy1 : (yn : Int) < 10 := by omega
      have HGK := Lib.hid hgk
      clear htt htg fa fb ha hPd hgk hO
      go_wp2_with fail
      refine wp_region_grow 16 (by kernel_rfl) (by kernel_rfl) ?_
      simp only [List.take_succ_cons, List.take_zero, List.drop_succ_cons, List.drop_zero]
      iterate 16
        apply wpGrow_plain rfl
        · intro w' hw' K hK
          obtain ⟨q1, q2, q3⟩ := HFA.out _ hw'
          go_wp2_with fail
          exact hK _ _ rfl hw'
        simp only [Act.put, List.setIfInBounds_toArray, List.set_cons_succ, List.set_cons_zero]
      refine wpGrow_nil ?_
      intro W5 hW5
      have g6 := HGK.out.below hW5 HGK.out.lt
      have HO3 := Lib.hid (HOn.out.onto hW5)
      obtain ⟨-, -, c6, f6, l6⟩ := g6.facts
      have g7 := g6.setCell (yn * 10 + xn) (.int .i64 (tt + 1))
      rw [grid64_set _ _ _ _ hyn hxn] at g7
      have HG7 := Lib.hid (show Holds (W5.setCell ⟨b, yn * 10 + xn, none⟩ (.int .i64 (tt + 1))) b (grid64 (visG (cs.take (k + 1)))) by
        rw [HTK.out, visG_snoc, HTT.out]; exact g7)
      clear hW5 g7 HFA
      go_wp2_with fail
      go_roundw
      case rel => exact ⟨k + 1, by omega, by go_num, HG7.out, HO3.out.setCell (a := ⟨b, yn * 10 + xn, none⟩) (.inl (by simp)) _⟩
      case measure => simp [intOf]; omega
    · have hd : decide ((k : Int) + 1 < (N : Int) + 1) = false := by simp; omega
      rw [show cs.take k = cs by rw [List.take_of_length_le (by rw [HCL.out]; omega)]] at hgk
      obtain ⟨GV, hGV⟩ : ∃ G, visG cs = G := ⟨_, rfl⟩
      have HGV : Hid (∀ i j : Nat, GV j i = visN cs ((i : Int), (j : Int))) := Lib.hid (fun i j => by rw [← hGV]; rfl)
      rw [hGV] at hgk
      have r0 := hO.holds k0 (by simp; omega)
      have r3 := hO.holds k3 (by simp; omega)
      have hb4 := hb3.trans (hO.toBelow (B := s) (by simp; omega) (by have := hb3.size; omega))
      have j0 := r0.alloc (.cells #[.int .i8 0, .int .i8 0] 30)
      have j3 := r3.alloc (.cells #[.int .i8 0, .int .i8 0] 30)
      have jG := hgk.alloc (.cells #[.int .i8 0, .int .i8 0] 30)
      have jC := Holds.new wr #[.int .i8 0, .int .i8 0] 30
      have hb5 := hb4.alloc (by have := hb4.size; omega) (.cells #[.int .i8 0, .int .i8 0] 30)
      have hlb : b < wr.heap.size := hgk.lt
      obtain ⟨uC, huC⟩ : ∃ u, wr.heap.size = u := ⟨_, rfl⟩
      obtain ⟨W6, hW6⟩ : ∃ W6, wr.alloc (.cells #[.int .i8 0, .int .i8 0] 30) = W6 := ⟨_, rfl⟩
      rw [huC] at jC hlb
      rw [hW6] at j0 j3 jG jC hb5
      have HU := Lib.hid huC
      have HW6 := Lib.hid hW6
      have hs6 : W6.heap.size = uC + 1 := by rw [← hW6, ← huC]; simp
      have HS6 := Lib.hid hs6
      clear hgk hO HO1 HOn hGV r0 r3 hb4 huC hW6 hs6 k0 k3 kG hb3 HO2 HOW hW2s
      go_wp2_with fail
      try simp only [HW6.out, HU.out]
      refine (HAL.out _ _ j0).mono ?_
      rintro e w6 ⟨v, rfl, hA, hb1⟩
      rw [HS6.out] at hA
      have k3 := j3.below hb1 j3.lt
      have kG := jG.below hb1 jG.lt
      have kC := jC.below hb1 jC.lt
      have hb7 := hb5.trans (hb1.mono (by have := hb5.size; omega))
      obtain ⟨aA, cA, rfl⟩ := own_slice hA
      have HAO := Lib.hid hA
      clear j0 j3 jG jC hb5 hb1 HS6 hA HAL
      go_wp2_with fail
      go_loopw [17, 19, 20] (fun t u _ wr => ∃ (bx bz z : Int) (i : Nat), i ≤ n ∧ u = .int .i64 i ∧ t = .int .i64 z ∧ mostL (visN cs) ((B.take i).map ptOf) = ((bx, bz), z) ∧ Holds wr uC #[.int .i8 bx, .int .i8 bz] ∧ Holds wr (s + 1 + 1 + 1) #[.int .i8 0, .int .i8 0] ∧ Holds wr b (grid64 GV) ∧ wr.ownsRow (uC + 1) 30 2 (.slice aA n cA) n (flatV B) ∧ Below s w wr) (fun _ u _ _ => n - (intOf u).toNat)
      case atStart => exact ⟨0, 0, 0, 0, by omega, rfl, rfl, rfl, kC, k3, kG, HAO.out, hb7⟩
      case round =>
        obtain ⟨bx, bz, z, i, hi, rfl, rfl, hM, r4, r5, rG, ro, hb⟩ := hrel
        have HM := Lib.hid hM
        have HAW := Lib.hid ro
        clear kC k3 kG HAO hb7 ro hM
        by_cases hlt : i < n
        · have hd : decide ((i : Int) < (n : Int)) = true := by simp; omega
          obtain ⟨c, hc⟩ : ∃ c, B[i]? = some c := ⟨_, List.getElem?_eq_getElem (by rw [HNB.out]; exact hlt)⟩
          have hstep : mostL (visN cs) ((B.take (i + 1)).map ptOf) = mostStep (visN cs) ((bx, bz), z) (ptOf c) := by rw [List.take_add_one, hc, List.map_append, ← HM.out]; exact mostL_snoc _ _ _
          obtain ⟨ga2, cap2, he, hBg2, hgw2⟩ := own_form HAW.out (by omega)
          simp only [Value.slice.injEq, true_and] at he
          obtain ⟨rfl, rfl⟩ := he
          obtain ⟨fa, fb⟩ := flatV_get _ _ _ hc
          obtain ⟨⟨e1, he1⟩, ⟨e2, he2⟩⟩ := c
          have hw10 := HWH.out
          have hw1 : e1 < 10 := by omega
          have hw2 : e2 < 10 := by omega
          have hOG := grid64_get GV e2 e1 hw2 hw1
          have hstep : mostL (visN cs) ((B.take (i + 1)).map ptOf) = mostStep (visN cs) ((bx, bz), z) ((e1 : Int), (e2 : Int)) := hstep
          unfold mostStep at hstep
          dsimp only at hstep fa fb
          rw [HGV.out] at hOG
          obtain ⟨m, hm⟩ : ∃ m, visN cs ((e1 : Int), (e2 : Int)) = m := ⟨_, rfl⟩
          rw [hm] at hOG hstep
          have HST := Lib.hid hstep
          have FX := Lib.hid (show ∀ w', Below wr.heap.size wr w' → w'.cell? ⟨ga2, i * 2, none⟩ = some (.int .i8 e1) ∧ w'.cell? ⟨ga2, i * 2 + 1, none⟩ = some (.int .i8 e2) ∧ w'.cell? ⟨b, e2 * 10 + e1, none⟩ = some (.int .i64 m) from fun w' hw' =>
            ⟨own_cell (own_below HAW.out hw') _ _ fa, own_cell (own_below HAW.out hw') _ _ fb, by rw [(rG.below hw' rG.lt).cell, hOG]⟩)
          have hsz := r4.lt
          clear hc fa fb hOG hm hstep hw10
          go_wp2_with fail
          refine wp_region_grow 13 (by kernel_rfl) (by kernel_rfl) ?_
          simp only [List.take_succ_cons, List.take_zero, List.drop_succ_cons, List.drop_zero]
          iterate 13
            apply wpGrow_plain rfl
            · intro w' hw' K hK
              obtain ⟨f1, f2, f3⟩ := FX.out _ hw'
              go_wp2_with fail
              exact hK _ _ rfl hw'
            simp only [Act.put, List.setIfInBounds_toArray, List.set_cons_succ, List.set_cons_zero]
          refine wpGrow_nil ?_
          intro W3 hW3
          obtain ⟨f1, f2, -⟩ := FX.out _ hW3
          have q4 := r4.below hW3 r4.lt
          have q5 := r5.below hW3 r5.lt
          have qG := rG.below hW3 rG.lt
          have HAX := Lib.hid (own_below HAW.out hW3)
          have hb6 := hb.trans (hW3.mono (by omega))
          clear hW3 r4 r5 rG HAW hb FX hsz
          by_cases hz : z < m
          · have HS2 := Lib.hid (show mostL (visN cs) ((B.take (i + 1)).map ptOf) = (((e1 : Int), (e2 : Int)), m) by rw [HST.out, if_pos hz])
            have hdz : decide (z < m) = true := decide_eq_true hz
            obtain ⟨r9, z9, c9, -, l9⟩ := q4.facts
            go_wp2_with fail
            exact ⟨⟨e1, e2, m, i + 1, by omega, by go_num, rfl, HS2.out, q4.setRow _, q5.setRow_other _ (by omega), qG.setRow_other _ (by omega), HAX.out.kept (⟨rfl, rfl, rfl, by simp [World.setRow], fun k hk hne => setRow_other _ uC k _ (fun e => hne (by rw [e]))⟩ : W3.grownBy (W3.setRow uC #[.int .i8 (e1 : Int), .int .i8 (e2 : Int)]) (some uC)) (.inr (by simp [Value.ownBlock]; omega)), below_setRow' hb6 (by omega) _⟩, by simp [intOf]; omega⟩
          · have HS2 := Lib.hid (show mostL (visN cs) ((B.take (i + 1)).map ptOf) = ((bx, bz), z) by rw [HST.out, if_neg hz])
            have hdz : decide (z < m) = false := decide_eq_false hz
            clear hz
            go_wp2_with fail
            exact ⟨⟨bx, bz, z, i + 1, by omega, by go_num, rfl, HS2.out, q4, q5, qG, HAX.out, hb6⟩, by simp [intOf]; omega⟩
        · have hd : decide ((i : Int) < (n : Int)) = false := by simp; omega
          have htk : B.take i = B := List.take_of_length_le (by rw [HNB.out]; omega)
          have hM := HM.out
          rw [htk] at hM
          have HRF := Lib.hid hM
          have HR5 := Lib.hid r5
          have HB8 := Lib.hid hb
          obtain ⟨r9, f9, -, -, l9⟩ := r5.facts
          have c40 : wr.cell? ⟨uC, 0, none⟩ = some (.int .i8 bx) := r4.cell 0
          have c41 : wr.cell? ⟨uC, 1, none⟩ = some (.int .i8 bz) := r4.cell 1
          clear hM htk rG HAW hb
          go_wp2_with fail
          exact bodyPost_ret (results_cell_nn rfl (by kernel_rfl) _ rfl rfl rfl (HR5.out.setRow _) rfl) rfl ⟨by rw [HRF.out]; rfl, below_setRow' HB8.out (by omega) _⟩

set_option maxRecDepth 100000 in
set_option maxHeartbeats 4000000 in
/-- What the model answers if no night is told of. -/
theorem smost_code (L : Lawn) (g : Nat → Nat → Int) (x y n c : Int) (g9 : Nat → Nat → Int) (xs : List Value) (m : Nat) (hc : (if (c == 0) = true ∧ (n == 0) = true then 6 else c) ≠ 0)
    (HMN : Hid (∀ w, Calls Tryz.prog 16 #[.agg L.cells, .agg (levV g), .agg #[.int .i8 x, .int .i8 y], .int .i64 n] w fun e w' => (∃ v, e = .returned (.tuple #[.agg (levV g9), v, .int .i64 c]) ∧ w'.ownsRow w.heap.size 30 2 v m xs) ∧ Below w.heap.size w w')) (w : World) :
    Calls Tryz.prog 10 #[.agg L.cells, .agg (levV g), .agg #[.int .i8 x, .int .i8 y], .int .i64 n] w fun e w' => e = .returned (cellNN3 ((0, 0), 0, if (c == 0) = true ∧ (n == 0) = true then 6 else c)) ∧ Below w.heap.size w w' := by
  obtain ⟨s, hs⟩ : ∃ s, w.heap.size = s := ⟨_, rfl⟩
  obtain ⟨b1, hb1⟩ : ∃ b, (c == 0) = b := ⟨_, rfl⟩
  obtain ⟨b2, hb2⟩ : ∃ b, (n == 0) = b := ⟨_, rfl⟩
  rw [hb1, hb2] at hc ⊢
  obtain ⟨W0, hW0⟩ : ∃ W0, (((w.alloc (.cells L.cells 33)).alloc (.cells (levV g) 35)).alloc (.cells #[.int .i8 x, .int .i8 y] 30)).alloc (.cells #[.int .i8 0, .int .i8 0] 30) = W0 := ⟨_, rfl⟩
  have g0 : Holds W0 s L.cells := by rw [← hW0]; exact (((Holds.new' _ _ _ _ hs.symm).alloc _).alloc _).alloc _
  have g1 : Holds W0 (s + 1) (levV g) := by rw [← hW0]; exact ((Holds.new' _ _ _ _ (by simp <;> omega)).alloc _).alloc _
  have g2 : Holds W0 (s + 1 + 1) #[.int .i8 x, .int .i8 y] := by rw [← hW0]; exact (Holds.new' _ _ _ _ (by simp <;> omega)).alloc _
  have g3 : Holds W0 (s + 1 + 1 + 1) #[.int .i8 0, .int .i8 0] := by rw [← hW0]; exact Holds.new' _ _ _ _ (by simp <;> omega)
  have hb : Below s w W0 := by rw [← hW0]; exact ((((Below.refl s w).alloc (by omega) _).alloc (by simp; omega) _).alloc (by simp; omega) _).alloc (by simp; omega) _
  obtain ⟨r0, -, -, -, l0⟩ := g0.facts
  obtain ⟨r1, -, -, -, l1⟩ := g1.facts
  have l2 := g2.lt
  have c20 := (g2.cell 0).trans (show _ = some (.int .i8 x) from rfl)
  have c21 := (g2.cell 1).trans (show _ = some (.int .i8 y) from rfl)
  rw [hs]
  go_enter Tryz.func10, Tryz.ntmps10
  go_wp2_with fail
  try rw [hW0]
  clear hW0
  refine (HMN.out _).mono ?_
  rintro e w1 ⟨⟨v, rfl, ho⟩, hb3⟩
  have hb4 : Below s w w1 := hb.trans (hb3.mono (by have := hb.size; omega))
  have m3 := g3.below hb3 g3.lt
  have m4 := m3.alloc (.cells (levV g9) 35)
  have HJ := Lib.hid m3
  have HB2 := Lib.hid hb4
  obtain ⟨r9, f9, -, -, l9⟩ := m3.facts
  obtain ⟨r8, f8, -, -, l8⟩ := m4.facts
  have hcz : (c != 0) = !b1 := by rw [bne, hb1]
  have hn2 : decide (n = 0) = b2 := by rw [← hb2]; rfl
  clear g0 g1 g2 g3 r0 r1 l0 l1 l2 c20 c21 hb hb3 ho
  cases b1 <;> cases b2
  all_goals (
    first
    | (exfalso; simp at hc hb1; exact hc hb1)
    | (
      simp only [Bool.not_true, Bool.not_false] at hcz
      go_wp2_with fail
      exact bodyPost_ret (results_cell_nn rfl (by kernel_rfl) _ rfl rfl rfl ((HJ.out.setRow _).alloc _) rfl) rfl ⟨rfl, (below_setRow' HB2.out (by omega) _).alloc (by have := HB2.out.size; simp; omega) _⟩))
end Go.Proofs.YtabemgplddfemaaGreatDoor
