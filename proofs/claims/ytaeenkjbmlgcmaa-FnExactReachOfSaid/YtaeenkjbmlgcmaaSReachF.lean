/- ReachOf, of the model. -/
import Derived.Test.YtaeenkjbmlgcmaaReachP
import Derived.Test.YtaeenkjbmlgcmaaSReachO
import Derived.Test.YtaeenkjbmlgcmaaGrowV
import Derived.Test.YtaeenkjbmlgcmaaSStepsFrom
namespace Go.Proofs.Ytaeenkjbmlgcmaa
open Go.RowKit
set_option linter.unusedVariables false
set_option linter.unusedSimpArgs false
attribute [local go_sem ↓] loadRow loadGrid loadLawn loadMirror storeRow storeGrid storeLawn allocRow allocGrid allocLawn buildZero buildSides loadG64 storeG64 allocG64 buildG64

theorem l04Full_is (n : Int) (w : World) : Calls Try.prog 69 #[.int .i64 n] w fun e w' => e = .returned (.bool (upZ n 400)) ∧ w' = w := by
  have HIN : Hid (∀ w, Calls Try.prog 89 #[.int .i64 n, .int .i64 0, .int .i64 400] w fun e w' => e = .returned (.bool (upZ n 400)) ∧ w' = w) := Lib.hid fun w => by
    by_cases h1 : 0 ≤ n
    · have d1 : decide (0 ≤ n) = true := by simpa using h1
      by_cases h2 : n ≤ 400
      · have d2 : decide (n ≤ 400) = true := by simpa using h2
        rw [show upZ n 400 = true by simp [upZ, h1, h2]]
        go_enter Try.func89, Try.ntmps89
        go_wp2
        go_ret
        exact ⟨rfl, rfl⟩
      · have d2 : decide (n ≤ 400) = false := by simpa using h2
        rw [show upZ n 400 = false by simp [upZ]; omega]
        go_enter Try.func89, Try.ntmps89
        go_wp2
        go_ret
        exact ⟨rfl, rfl⟩
    · have d1 : decide (0 ≤ n) = false := by simpa using h1
      rw [show upZ n 400 = false by simp [upZ]; omega]
      go_enter Try.func89, Try.ntmps89
      go_wp2
      go_ret
      exact ⟨rfl, rfl⟩
  go_enter Try.func69, Try.ntmps69
  go_wp2_with fail
  refine (HIN.out _).mono ?_
  rintro e w' ⟨rfl, rfl⟩
  go_wp2_with fail
  go_ret
  exact ⟨rfl, rfl⟩
theorem toldC_full (L : Lawn) (x y full : Int) : toldC L [(x, y)] (upZ full 400) = askZ L [(x, y)] full 0 := by
  unfold toldC askZ
  rw [if_neg (show ¬ (5 < 0) by omega), Bool.and_comm]
theorem cells_one {w : World} {g : Nat} {x y : Int} (h : Holds w g #[.int .i8 x, .int .i8 y]) : ∀ w', Below w.heap.size w w' → ∀ (i : Nat) (c : Pt), [(x, y)][i]? = some c → w'.cell? ⟨g, i * 2, none⟩ = some (.int .i8 c.1) ∧ w'.cell? ⟨g, i * 2 + 1, none⟩ = some (.int .i8 c.2) := by
  intro w' hw' i c hc
  have k := h.below hw' h.lt
  match i, hc with
  | 0, hc => simp at hc; subst hc; exact ⟨k.cell 0, k.cell 1⟩

set_option maxRecDepth 100000 in
set_option maxHeartbeats 4000000 in
theorem specReach_any (L : Lawn) (hL : L.Fits) (x y full : Int) (x0 : -128 ≤ x) (x1 : x ≤ 127) (y0 : -128 ≤ y) (y1 : y ≤ 127) (w : World) :
    Calls Try.prog 23 #[.agg L.cells, .agg #[.int .i8 x, .int .i8 y], .int .i64 full] w fun e w' => (∃ v, e = .returned (.tuple #[v, .int .i64 (askZ L [(x, y)] full 0)]) ∧ w'.ownsRow w.heap.size 37 2 v (reachL L x y full).length (flatV (reachL L x y full))) ∧ Below w.heap.size w w' := by
  obtain ⟨i0, hi, hz0, hz1, hz2⟩ := info_parts cellInfo
  have HI := Lib.hid (show Try.prog.info? 37 = some i0 ∧ i0.zero = some (.agg #[.int .i8 0, .int .i8 0]) ∧ i0.size = 2 ∧ i0.bytes = 2 from ⟨hi, hz0, hz1, hz2⟩)
  clear hi hz0 hz1 hz2
  have HTO := (fun (b g : Nat) (w : World) (h : Holds w b L.cells) (hg : Holds w g #[.int .i8 x, .int .i8 y]) => l04Told_list L hL [(x, y)] 1 1 rfl (by omega) (by intro c hc; simp at hc; subst hc; dsimp only; omega) (upZ full 400) b g w h (cells_one hg))
  rw [toldC_full] at HTO
  have HFU := Lib.hid (fun w => l04Full_is full w)
  have HRE := Lib.hid (fun (h : askZ L [(x, y)] full 0 = 0) (b : Nat) (w : World) (hw : Holds w b L.cells) => show Calls Try.prog 60 #[.pointer (some ⟨b, 0, none⟩), .agg #[.int .i8 x, .int .i8 y], .bool false] w fun e w' => e = .returned (.agg (grid64 (gridF (found (openP L) (x, y) 100)))) ∧ Below w.heap.size w w' from by
    obtain ⟨hv, hi, ho, -⟩ := askZ_zero h
    have hxy := isB_near hv hi
    obtain ⟨a, rfl⟩ : ∃ a : Nat, x = a := ⟨x.toNat, by omega⟩
    obtain ⟨c, rfl⟩ : ∃ c : Nat, y = c := ⟨y.toNat, by omega⟩
    have := reach_open L hL hv b a c (by omega) (by omega) (show passG L false ((a : Int), (c : Int)) = true from ho) w hw
    have hpg : passG L false = openP L := funext fun c => rfl
    rwa [hpg] at this)
  have HCE := Lib.hid (fun (h : askZ L [(x, y)] full 0 = 0) (b : Nat) (w : World) (hw : Holds w b L.cells) => by
    obtain ⟨hv, -⟩ := askZ_zero h
    obtain ⟨Wn, Hn, ⟨hW, hH⟩, ⟨hW1, hH1⟩, hLw, hLh⟩ := valid_sides hv
    exact l01Cells_any L.wide.toNat L.high.toNat (by omega) (by omega) (by omega) (by omega) L hL (by omega) (by omega) 0 b w hw)
  have HSB := Lib.hid (fun (h : askZ L [(x, y)] full 0 = 0) => steps_bound (askZ_zero h).1 (s := (x, y)) (askZ_zero h).2.2.1)
  have HWH := Lib.hid (fun (h : askZ L [(x, y)] full 0 = 0) => show L.wide.toNat ≤ 10 ∧ L.high.toNat ≤ 10 from by
    obtain ⟨Wn, Hn, ⟨hW, hH⟩, -, hLw, hLh⟩ := valid_sides (askZ_zero h).1
    omega)
  have HRL : Hid (reachL L x y full = if askZ L [(x, y)] full 0 = 0 then (ofKind L L.wide.toNat L.high.toNat 0).filter (reachB L (found (openP L) (x, y) 100) full) else []) := Lib.hid rfl
  obtain ⟨C, hC⟩ : ∃ C, askZ L [(x, y)] full 0 = C := ⟨_, rfl⟩
  obtain ⟨R, hR⟩ : ∃ R, reachL L x y full = R := ⟨_, rfl⟩
  rw [hR] at HRL ⊢
  simp only [hC] at HTO HRE HCE HSB HWH HRL ⊢
  obtain ⟨F, hF⟩ : ∃ F, found (openP L) (x, y) 100 = F := ⟨_, rfl⟩
  rw [hF] at HRE HSB HRL
  have HTO' := Lib.hid HTO
  obtain ⟨s, hs⟩ : ∃ s, w.heap.size = s := ⟨_, rfl⟩
  obtain ⟨W0, hW0⟩ : ∃ W0, ((w.alloc (.cells L.cells 29)).alloc (.cells #[.int .i8 x, .int .i8 y] 37)).alloc (.cells #[] 37) = W0 := ⟨_, rfl⟩
  have g0 : Holds W0 s L.cells := by rw [← hW0, ← hs]; exact ((Holds.new _ _ _).alloc _).alloc _
  have g1 : Holds W0 (s + 1) #[.int .i8 x, .int .i8 y] := by rw [← hW0, ← hs]; exact (Holds.new' _ _ _ _ (by simp)).alloc _
  have hm : W0.ownsRow (s + 1 + 1) 37 2 (.slice (some ⟨s + 1 + 1, 0, none⟩) 0 0) 0 [] := own_none hW0.symm (by simp; omega) (by simp; omega)
  have hb0 : Below s w W0 := by rw [← hW0, ← hs]; exact (((Below.refl w.heap.size w).alloc (Nat.le_refl _) _).alloc (by simp) _).alloc (by simp; omega) _
  have hs0 : W0.heap.size = s + 3 := by rw [← hW0, ← hs]; simp
  rw [hs]
  have HS := Lib.hid hs
  clear hC hR hF hL HTO x0 x1 y0 y1
  go_enter Try.func23, Try.ntmps23
  go_wp2_with fail
  try rw [hW0]
  try simp only [hs]
  clear hW0 hs
  have HG0 := Lib.hid g0
  have HG1 := Lib.hid g1
  refine wp_region_growV 5 1 [4] (fun p w' => ∃ g, p = .slice (some ⟨g, 0, none⟩) 1 1 ∧ Holds w' g #[.int .i8 x, .int .i8 y]) (fun p w1 w2 ⟨g, h1, h2⟩ hb => ⟨g, h1, h2.below hb h2.lt⟩)
    (fun p => [.agg #[.int .i8 x, .int .i8 y], p, .int .i64 full, .bool (upZ full 400), .int .i64 C]) (by
      intro p p' j h1 h2
      match j with
      | 0 => rfl
      | 1 => exact absurd rfl h1
      | 2 => rfl
      | 3 => rfl
      | 4 => simp at h2
      | j + 5 => rfl) (by kernel_rfl) (by kernel_rfl) (by kernel_rfl) ?_
  intro p
  simp only [List.take_succ_cons, List.take_zero, List.drop_succ_cons, List.drop_zero]
  refine seqV_free rfl rfl rfl rfl ?_ ?_
  · intro w' hw' K hK
    have k := HG1.out.below hw' HG1.out.lt
    have f1 : w'.cell? ⟨s + 1, 0, none⟩ = some (.int .i8 x) := k.cell 0
    have f2 : w'.cell? ⟨s + 1, 1, none⟩ = some (.int .i8 y) := k.cell 1
    go_wp2_with fail
    exact hK _ _ rfl (Below.refl _ _)
  simp only [Act.put, List.setIfInBounds_toArray, List.set_cons_succ, List.set_cons_zero, List.getD_cons_zero, List.getD_cons_succ, Nat.reduceAdd]
  refine seqV_call rfl rfl (fun q => rfl) ?_ ?_
  · intro w' hw' K hK
    go_wp2_with fail
    exact hK _ _ _ rfl ((Below.refl _ _).alloc (Nat.le_refl _) _) ⟨_, rfl, Holds.new _ _ _⟩
  simp only [Act.put, List.setIfInBounds_toArray, List.set_cons_succ, List.set_cons_zero, List.getD_cons_zero, List.getD_cons_succ, Nat.reduceAdd]
  refine seqV_free rfl rfl rfl rfl ?_ ?_
  · intro w' hw' K hK
    go_wp2_with fail
    exact hK _ _ rfl (Below.refl _ _)
  simp only [Act.put, List.setIfInBounds_toArray, List.set_cons_succ, List.set_cons_zero, List.getD_cons_zero, List.getD_cons_succ, Nat.reduceAdd]
  refine seqV_free rfl rfl rfl rfl ?_ ?_
  · intro w' hw' K hK
    go_wp2_with fail
    refine (HFU.out _).mono ?_
    rintro e w4 ⟨rfl, rfl⟩
    exact hK _ _ rfl (Below.refl _ _)
  simp only [Act.put, List.setIfInBounds_toArray, List.set_cons_succ, List.set_cons_zero, List.getD_cons_zero, List.getD_cons_succ, Nat.reduceAdd]
  refine seqV_dep rfl rfl rfl rfl ?_ ?_
  · rintro w' hw' ⟨g, rfl, hg⟩ K hK
    go_wp2_with fail
    refine (HTO'.out _ _ _ (HG0.out.below hw' HG0.out.lt) hg).mono ?_
    rintro e w4 ⟨rfl, hb4⟩
    exact hK _ _ rfl hb4
  simp only [Act.put, List.setIfInBounds_toArray, List.set_cons_succ, List.set_cons_zero, List.getD_cons_zero, List.getD_cons_succ, Nat.reduceAdd]
  refine seqV_nil ?_
  rintro w2 hsz2 hbw -
  have k0 := g0.below hbw g0.lt
  have k1 := g1.below hbw g1.lt
  have km := own_below hm hbw
  have hb3 := hb0.trans (hbw.mono (by omega))
  have c0 : w2.cell? ⟨s + 1, 0, none⟩ = some (.int .i8 x) := k1.cell 0
  have c1 : w2.cell? ⟨s + 1, 1, none⟩ = some (.int .i8 y) := k1.cell 1
  clear HG0 HG1 g0 g1 hm hb0 hbw HTO' HFU
  by_cases hc : C = 0
  · subst hc
    have HR2 := HRL.out
    rw [if_pos rfl] at HR2
    have HRE2 := Lib.hid (HRE.out rfl)
    have HCE2 := HCE.out rfl
    have HSB2 := Lib.hid (HSB.out rfl)
    have HWH2 := Lib.hid (HWH.out rfl)
    obtain ⟨B, hB⟩ : ∃ B, ofKind L L.wide.toNat L.high.toNat 0 = B := ⟨_, rfl⟩
    rw [hB] at HCE2 HR2
    have HBL : B.length ≤ 100 := by
      have := HWH2.out
      rw [← hB]
      refine Nat.le_trans (List.length_filter_le _ _) ?_
      rw [allC_length]
      exact Nat.le_trans (Nat.mul_le_mul this.2 this.1) (by omega)
    obtain ⟨G, hG⟩ : ∃ G, gridF F = G := ⟨_, rfl⟩
    have HG : Hid (∀ i j : Nat, G j i = stepsAt F i j) := Lib.hid (fun i j => by rw [← hG]; rfl)
    rw [hG] at HRE2
    obtain ⟨n, hn⟩ : ∃ n, B.length = n := ⟨_, rfl⟩
    rw [hn] at HCE2 HBL
    have HCE3 := Lib.hid HCE2
    have HN := Lib.hid hn
    have HRR := Lib.hid HR2
    have HPB := Lib.hid (show ∀ c : Fin L.wide.toNat × Fin L.high.toNat, reachB L F full c = (decide (0 ≤ stepsAt F c.1.val c.2.val) && decide (2 * stepsAt F c.1.val c.2.val ≤ full)) from fun c => rfl)
    obtain ⟨p, hp⟩ : ∃ p : Fin L.wide.toNat × Fin L.high.toNat → Bool, reachB L F full = p := ⟨_, rfl⟩
    rw [hp] at HPB HRR
    clear HR2 HRL HRE HCE HSB HWH HCE2 hB hG hn hp
    have HKM := Lib.hid km
    clear km
    go_wp2_with fail
    refine (HRE2.out _ _ k0).mono ?_
    rintro e w3 ⟨rfl, hb1⟩
    have j0 := (k0.below hb1 k0.lt).alloc (.cells (grid64 G) 89)
    have jG := Holds.new w3 (grid64 G) 89
    have HJM := Lib.hid ((own_below HKM.out hb1).alloc (.cells (grid64 G) 89))
    have hb4 := (hb3.trans (hb1.mono (by omega))).alloc (by have := hb1.size; omega) (.cells (grid64 G) 89)
    have hs3 : s + 3 ≤ w3.heap.size := by have := hb1.size; omega
    clear k0 k1 HKM hb3 hb1 c0 c1 HRE2
    go_wp2_with fail
    refine (HCE3.out _ _ j0).mono ?_
    rintro e w4 ⟨v, rfl, hA, hb1⟩
    have hmm : w3.heap.size < (w3.alloc (.cells (grid64 G) 89)).heap.size := by simp
    obtain ⟨m, hmz⟩ : ∃ m, w3.heap.size = m := ⟨_, rfl⟩
    obtain ⟨W5, hW5⟩ : ∃ W5, w3.alloc (.cells (grid64 G) 89) = W5 := ⟨_, rfl⟩
    rw [hW5] at j0 jG HJM hb4 hA hb1 hmm
    rw [hmz] at jG hs3 hmm
    try simp only [hmz]
    have qG := jG.below hb1 jG.lt
    have HKM := Lib.hid (own_below HJM.out hb1)
    have hb5 := hb4.trans (hb1.mono (by omega))
    have hm4 := qG.lt
    obtain ⟨aA, cA, rfl⟩ := own_slice hA
    have hA2 := ownsRow_low (A := m + 1) hA (by omega)
    have hne : (Value.slice (some ⟨s + 1 + 1, 0, none⟩) 0 0).ownBlock ≠ (Value.slice aA n cA).ownBlock := fun h => by
      have := own_far hA2 (s + 1 + 1) (by rw [← h]; rfl)
      omega
    have HAO := Lib.hid hA2
    clear j0 jG HJM hb4 hA hb1 hA2 HCE3 hmz hW5 hs0
    go_wp2_with fail
    have hn2 : (Value.slice (some ⟨s + 1 + 1, 0, none⟩) 0 0).ownBlock ≠ some m := fun h => by
      simp only [Value.ownBlock, Option.some.injEq] at h
      omega
    go_loopw [8, 12, 13] (fun v u _ wr => ∃ (i : Nat), i ≤ n ∧ u = .int .i64 i ∧ wr.ownsRow (s + 1 + 1) 37 2 v ((B.take i).filter p).length (flatV ((B.take i).filter p)) ∧ wr.ownsRow (m + 1) 37 2 (.slice aA n cA) n (flatV B) ∧ v.ownBlock ≠ (Value.slice aA n cA).ownBlock ∧ v.ownBlock ≠ some m ∧ Holds wr m (grid64 G) ∧ Below s w wr) (fun _ u _ _ => n - (intOf u).toNat)
    case atStart => exact ⟨0, by omega, rfl, HKM.out, HAO.out, hne, hn2, qG, hb5⟩
    case round =>
      obtain ⟨i, hi, rfl, ro, ra, hv1, hv2, rG, hb⟩ := hrel
      have HO := Lib.hid ro
      have HA := Lib.hid ra
      have HV1 := Lib.hid hv1
      have HV2 := Lib.hid hv2
      clear HKM HAO hne hn2 qG hb5 ro ra hv1 hv2
      by_cases hlt : i < n
      · have hd : decide ((i : Int) < (n : Int)) = true := by simp; omega
        obtain ⟨c, hq⟩ : ∃ c, B[i]? = some c := ⟨_, List.getElem?_eq_getElem (by rw [HN.out]; exact hlt)⟩
        have hstep : (B.take (i + 1)).filter p = (B.take i).filter p ++ if p c then [c] else [] := by
          rw [List.take_add_one, hq, List.filter_append]
          congr 1
          cases h : p c <;> simp [h]
        obtain ⟨ga, cap, he, hBg, hgw⟩ := own_form HA.out (by omega)
        simp only [Value.slice.injEq, true_and] at he
        obtain ⟨rfl, rfl⟩ := he
        obtain ⟨fa, fb⟩ := flatV_get _ _ _ hq
        have hpc := HPB.out c
        have hw10 := HWH2.out
        obtain ⟨⟨e1, he1⟩, ⟨e2, he2⟩⟩ := c
        have hw1 : e1 < 10 := by omega
        have hw2 : e2 < 10 := by omega
        have hOG := grid64_get G e2 e1 hw2 hw1
        obtain ⟨z, hz⟩ : ∃ z, stepsAt F e1 e2 = z := ⟨_, rfl⟩
        dsimp only at fa fb hpc
        rw [HG.out, hz] at hOG
        rw [hz] at hpc
        have hzb := HSB2.out e1 e2
        rw [hz] at hzb
        have hlf : ((B.take i).filter p).length ≤ 100 := Nat.le_trans (List.length_filter_le _ _) (by simp; omega)
        have HST := Lib.hid hstep
        have HPC := Lib.hid hpc
        have HLF := Lib.hid hlf
        have FX := Lib.hid (show ∀ w', Below wr.heap.size wr w' → w'.cell? ⟨ga, i * 2, none⟩ = some (.int .i8 e1) ∧ w'.cell? ⟨ga, i * 2 + 1, none⟩ = some (.int .i8 e2) ∧ w'.cell? ⟨m, e2 * 10 + e1, none⟩ = some (.int .i64 z) from fun w' hw' =>
          ⟨own_cell (own_below HA.out hw') _ _ fa, own_cell (own_below HA.out hw') _ _ fb, by rw [(rG.below hw' rG.lt).cell, hOG]⟩)
        have hsz := rG.lt
        clear hq fa fb hOG hz hstep hpc hw10 hlf
        go_wp2_with fail
        refine wp_region_grow 13 (by kernel_rfl) (by kernel_rfl) ?_
        simp only [List.take_succ_cons, List.take_zero, List.drop_succ_cons, List.drop_zero]
        iterate 13
          apply wpGrow_plain rfl
          · intro w' hw' K hK
            obtain ⟨f1, f2, f3⟩ := FX.out _ hw'
            go_wp2_with fail
            exact hK _ _ rfl hw'
          simp only [Act.put, List.setIfInBounds_toArray, List.set_cons_succ, List.set_cons_zero]
        refine wpGrow_nil ?_
        intro W2 hW2
        obtain ⟨f1, f2, -⟩ := FX.out _ hW2
        have qG := rG.below hW2 rG.lt
        have HO2 := Lib.hid (own_below HO.out hW2)
        have HA2 := Lib.hid (own_below HA.out hW2)
        have hb6 := hb.trans (hW2.mono (by have := hb.size; have := HS.out; omega))
        have hgw2 : ga < W2.heap.size := Nat.lt_of_lt_of_le hgw hW2.size
        have hmw2 := qG.lt
        clear hW2 rG HO HA hb FX hgw hsz
        have hwz : wrap64 (2 * z) = 2 * z := by unfold wrap64; omega
        have hpc := HPC.out
        by_cases hz0 : 0 ≤ z
        · have hdz : decide (0 ≤ z) = true := decide_eq_true hz0
          have hdz' : decide (z ≥ 0) = true := decide_eq_true hz0
          by_cases hzf : 2 * z ≤ full
          · have hdf : decide (2 * z ≤ full) = true := decide_eq_true hzf
            rw [hdz, hdf] at hpc
            have hst := HST.out
            rw [hpc] at hst
            simp only [Bool.and_self, if_true] at hst
            have HST2 := Lib.hid hst
            clear hpc hst hz0 hzf
            go_wp2_with (at_builtin; refine wpList_append_own_at _ rfl _ _ 45 rfl (s + 1 + 1) 37 i0 (.agg #[.int .i8 0, .int .i8 0]) 2 2 Try.underlying45 HI.out.1 HI.out.2.1 HI.out.2.2.1 HI.out.2.2.2 rfl (by decide) _ _ _ rfl (HO2.out.alloc _) ⟨W2.heap.size, 0, none⟩ 1 1 [.int .i8 e1, .int .i8 e2] rfl rfl ?c1 ?c2 ?c3 ?c4 ?c5 ?_)
            case c1 =>
              intro j u hu
              match j, hu with
              | 0, hu => simp at hu; subst hu; exact (Holds.new W2 #[.int .i8 e1, .int .i8 e2] 37).cell 0
              | 1, hu => simp at hu; subst hu; exact (Holds.new W2 #[.int .i8 e1, .int .i8 e2] 37).cell 1
            case c2 => intro u hu; simp at hu; rcases hu with rfl | rfl <;> rfl
            case c3 => have := HLF.out; unfold maxLen; omega
            case c4 => have := HLF.out; omega
            case c5 => simp; omega
            · intro v' w3 hown' hgrow _ hat
              have hb7 : Below s w w3 := (hb6.alloc (by omega) _).grown hgrow (by simp; omega) (fun k hk => by have := own_far HO2.out k hk; omega)
              have ho3 : w3.ownsRow (s + 1 + 1) 37 2 v' ((B.take (i + 1)).filter p).length (flatV ((B.take (i + 1)).filter p)) := by
                rw [HST2.out, flatV_append, List.length_append]
                exact hown'
              have hA3 := (HA2.out.alloc (.cells #[.int .i8 e1, .int .i8 e2] 37)).kept hgrow (.inr (Ne.symm HV1.out))
              have hv3 : v'.ownBlock ≠ (Value.slice (some ⟨ga, 0, none⟩) n cA).ownBlock := by
                rcases hat with h | h
                · rw [h]; exact HV1.out
                · rw [h]; simp [Value.ownBlock]; omega
              have hv4 : v'.ownBlock ≠ some m := by
                rcases hat with h | h
                · rw [h]; exact HV2.out
                · rw [h]; simp; omega
              have kG : Holds w3 m (grid64 G) := by
                have q := qG.alloc (.cells #[.int .i8 e1, .int .i8 e2] 37)
                obtain ⟨tt, hq⟩ := q
                exact ⟨tt, (hgrow.block m (by simp; omega) (fun e => HV2.out e.symm)).trans hq⟩
              have HO3 := Lib.hid ho3
              have HA3 := Lib.hid hA3
              have HV3 := Lib.hid hv3
              have HV4 := Lib.hid hv4
              clear hown' hgrow ho3 hA3 hv3 hv4 hat qG HO2 HA2 hb6 f1 f2
              go_wp2_with fail
              go_roundw
              case rel => exact ⟨i + 1, by omega, by go_num, HO3.out, HA3.out, HV3.out, HV4.out, kG, hb7⟩
              case measure => simp [intOf]; omega
          · have hdf : decide (2 * z ≤ full) = false := decide_eq_false hzf
            rw [hdz, hdf] at hpc
            have hst := HST.out
            rw [hpc] at hst
            simp only [Bool.and_false, Bool.false_eq_true, if_false, List.append_nil] at hst
            have HST2 := Lib.hid hst
            clear hpc hst hz0 hzf
            go_wp2_with fail
            exact ⟨⟨i + 1, by omega, by go_num, by rw [HST2.out]; exact HO2.out, HA2.out, HV1.out, HV2.out, qG, hb6⟩, by simp [intOf]; omega⟩
        · have hdz : decide (0 ≤ z) = false := decide_eq_false hz0
          rw [hdz] at hpc
          have hst := HST.out
          rw [hpc] at hst
          simp only [Bool.false_and, Bool.false_eq_true, if_false, List.append_nil] at hst
          have HST2 := Lib.hid hst
          clear hpc hst hz0
          go_wp2_with fail
          exact ⟨⟨i + 1, by omega, by go_num, by rw [HST2.out]; exact HO2.out, HA2.out, HV1.out, HV2.out, qG, hb6⟩, by simp [intOf]; omega⟩
      · have hd : decide ((i : Int) < (n : Int)) = false := by simp; omega
        have htk : B.take i = B := List.take_of_length_le (by rw [HN.out]; omega)
        have ho := HO.out
        rw [htk, ← HRR.out] at ho
        have HO3 := Lib.hid (ownsRow_low (A := s) ho (by omega))
        obtain ⟨av, cv, rfl⟩ := own_slice HO3.out
        clear htk ho HO rG HA HV1 HV2
        go_wp2_with fail
        go_ret2
        exact ⟨⟨_, rfl, HO3.out⟩, hb⟩
  · have hcd : (C != 0) = true := by simpa using hc
    have HR2 := HRL.out
    rw [if_neg hc] at HR2
    subst HR2
    have HKM := Lib.hid (ownsRow_low (A := s) km (by omega))
    clear HRL HRE HCE HSB HWH hc km
    go_wp2_with fail
    go_ret2
    exact ⟨⟨_, rfl, HKM.out⟩, hb3⟩
end Go.Proofs.Ytaeenkjbmlgcmaa
