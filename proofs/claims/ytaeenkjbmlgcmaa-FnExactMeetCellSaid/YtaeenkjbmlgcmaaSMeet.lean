/- MeetCell, of the model. -/
import Derived.Test.YtaeenkjbmlgcmaaMeetP
import Derived.Test.YtaeenkjbmlgcmaaSTold
import Derived.Test.YtaeenkjbmlgcmaaSReachO
import Derived.Test.YtaeenkjbmlgcmaaSLeast
import Derived.Test.YtaeenkjbmlgcmaaResC
namespace Go.Proofs.Ytaeenkjbmlgcmaa
open Go.RowKit
set_option linter.unusedVariables false
set_option linter.unusedSimpArgs false
attribute [local go_sem ↓] loadRow loadGrid loadLawn loadMirror storeRow storeGrid storeLawn allocRow allocGrid allocLawn buildZero buildSides loadG64 storeG64 allocG64 buildG64

theorem toldC_two (L : Lawn) (x y x2 y2 : Int) : toldC L [(x, y), (x2, y2)] true = openC L x y x2 y2 := by
  unfold toldC openC isP openP
  simp
theorem cells_two {w : World} {g : Nat} {x y x2 y2 : Int} (h : Holds w g #[.int .i8 x, .int .i8 y, .int .i8 x2, .int .i8 y2]) : ∀ w', Below w.heap.size w w' → ∀ (i : Nat) (c : Pt), [(x, y), (x2, y2)][i]? = some c → w'.cell? ⟨g, i * 2, none⟩ = some (.int .i8 c.1) ∧ w'.cell? ⟨g, i * 2 + 1, none⟩ = some (.int .i8 c.2) := by
  intro w' hw' i c hc
  have k := h.below hw' h.lt
  match i, hc with
  | 0, hc => simp at hc; subst hc; exact ⟨k.cell 0, k.cell 1⟩
  | 1, hc => simp at hc; subst hc; exact ⟨k.cell 2, k.cell 3⟩

theorem grownBy_setD (W : World) (a : Addr) (v : Value) : W.grownBy (W.setCell a v) (some a.block) :=
  ⟨rfl, rfl, rfl, (KeepsWalks.setCell W a v).size, fun k _ hk => Below.heap_setCell _ _ _ k (fun e => hk (by rw [e]))⟩

set_option maxRecDepth 100000 in
set_option maxHeartbeats 4000000 in
theorem specMeet_good (L : Lawn) (hL : L.Fits) (x y x2 y2 : Int) (hc : openC L x y x2 y2 = 0) (w : World) :
    Calls Try.prog 28 #[.agg L.cells, .agg #[.int .i8 x, .int .i8 y], .agg #[.int .i8 x2, .int .i8 y2]] w fun e w' => e = .returned (cellNN (meetR L x y x2 y2)) ∧ Below w.heap.size w w' := by
  obtain ⟨hv, ⟨hi, hi2⟩, ho, ho2⟩ := openC_zero hc
  obtain ⟨Wn, Hn, ⟨hW, hH⟩, ⟨hW1, hH1⟩, hLw, hLh⟩ := valid_sides hv
  have hxy := isB_near hv hi
  have hxy2 := isB_near hv hi2
  have hTO := fun (b g : Nat) (w : World) (h : Holds w b L.cells) (hg : Holds w g #[.int .i8 x, .int .i8 y, .int .i8 x2, .int .i8 y2]) => l04Told_list L hL [(x, y), (x2, y2)] 2 2 rfl (by omega) (by intro c hc; simp at hc; rcases hc with rfl | rfl <;> dsimp only <;> omega) true b g w h (cells_two hg)
  rw [toldC_two, hc] at hTO
  have HTO := Lib.hid hTO
  obtain ⟨a, rfl⟩ : ∃ a : Nat, x = a := ⟨x.toNat, by omega⟩
  obtain ⟨c, rfl⟩ : ∃ c : Nat, y = c := ⟨y.toNat, by omega⟩
  obtain ⟨a2, rfl⟩ : ∃ a : Nat, x2 = a := ⟨x2.toNat, by omega⟩
  obtain ⟨c2, rfl⟩ : ∃ c : Nat, y2 = c := ⟨y2.toNat, by omega⟩
  have HRA := (fun (b : Nat) (w : World) (h : Holds w b L.cells) => reach_open L hL hv b a c (by omega) (by omega) (show passG L false ((a : Int), (c : Int)) = true from ho) w h)
  have HRB := (fun (b : Nat) (w : World) (h : Holds w b L.cells) => reach_open L hL hv b a2 c2 (by omega) (by omega) (show passG L false ((a2 : Int), (c2 : Int)) = true from ho2) w h)
  have hpg : passG L false = openP L := funext fun c => rfl
  rw [hpg] at HRA HRB
  have HBA := fun u v => steps_bound hv (s := ((a : Int), (c : Int))) ho u v
  have HBB := fun u v => steps_bound hv (s := ((a2 : Int), (c2 : Int))) ho2 u v
  have HR : meetR L a c a2 c2 = (if (meetL (found (openP L) ((a : Int), (c : Int)) 100) (found (openP L) ((a2 : Int), (c2 : Int)) 100) (allP L)).2 < 0 then ((0, 0), 0, 6)
     else ((meetL (found (openP L) ((a : Int), (c : Int)) 100) (found (openP L) ((a2 : Int), (c2 : Int)) 100) (allP L)).1, (meetL (found (openP L) ((a : Int), (c : Int)) 100) (found (openP L) ((a2 : Int), (c2 : Int)) 100) (allP L)).2, 0)) := by unfold meetR; rw [if_pos hc]
  obtain ⟨FA, hFA⟩ : ∃ FA, found (openP L) ((a : Int), (c : Int)) 100 = FA := ⟨_, rfl⟩
  obtain ⟨FB, hFB⟩ : ∃ FB, found (openP L) ((a2 : Int), (c2 : Int)) 100 = FB := ⟨_, rfl⟩
  simp only [hFA, hFB] at HRA HRB HBA HBB HR
  have HAP : allP L = (allC Wn Hn).map ptOf := by
    unfold allP
    have e1 : L.wide.toNat = Wn := by omega
    have e2 : L.high.toNat = Hn := by omega
    rw [e1, e2]
  rw [HAP] at HR
  have HAL := Lib.hid (fun (b : Nat) (w : World) (h : Holds w b L.cells) => l01All_any Wn Hn hW hH L hLw hLh b w h)
  obtain ⟨GA, hGA⟩ : ∃ G, gridF FA = G := ⟨_, rfl⟩
  obtain ⟨GB, hGB⟩ : ∃ G, gridF FB = G := ⟨_, rfl⟩
  have HGA : Hid (∀ i j : Nat, GA j i = stepsAt FA i j) := Lib.hid (fun i j => by rw [← hGA]; rfl)
  have HGB : Hid (∀ i j : Nat, GB j i = stepsAt FB i j) := Lib.hid (fun i j => by rw [← hGB]; rfl)
  rw [hGA] at HRA
  rw [hGB] at HRB
  have HRA' := Lib.hid HRA
  have HRB' := Lib.hid HRB
  have HBA' := Lib.hid HBA
  have HBB' := Lib.hid HBB
  obtain ⟨R, hR⟩ : ∃ R, meetR L a c a2 c2 = R := ⟨_, rfl⟩
  rw [hR] at HR ⊢
  have HRR := Lib.hid HR
  obtain ⟨B, hB⟩ : ∃ B, allC Wn Hn = B := ⟨_, rfl⟩
  have HBL : B.length ≤ 100 := by
    rw [← hB, allC_length]
    exact Nat.le_trans (Nat.mul_le_mul hH hW) (by omega)
  rw [hB] at HAL HRR
  have hBn : B.length = Hn * Wn := by rw [← hB]; exact allC_length _ _
  obtain ⟨n, hn⟩ : ∃ n, Hn * Wn = n := ⟨_, rfl⟩
  rw [hn] at HAL hBn
  rw [hBn] at HBL
  have HN := Lib.hid hBn
  have HWH := Lib.hid (show Wn ≤ 10 ∧ Hn ≤ 10 from ⟨hW, hH⟩)
  clear hpg hv hi hi2 ho ho2 hxy hxy2 hLw hLh hFA hFB hGA hGB HBA HBB HRA HRB HR hR hB hn hBn HAP hTO hc hL hW hH hW1 hH1
  obtain ⟨W0, hW0⟩ : ∃ W0, ((((w.alloc (.cells L.cells 29)).alloc (.cells #[.int .i8 a, .int .i8 c] 37)).alloc (.cells #[.int .i8 a2, .int .i8 c2] 37)).alloc (.cells #[.int .i8 0, .int .i8 0] 37)).alloc (.cells #[.int .i8 a, .int .i8 c, .int .i8 a2, .int .i8 c2] 37) = W0 := ⟨_, rfl⟩
  obtain ⟨s, hs⟩ : ∃ s, w.heap.size = s := ⟨_, rfl⟩
  have g0 : Holds W0 s L.cells := by rw [← hW0, ← hs]; exact ((((Holds.new _ _ _).alloc _).alloc _).alloc _).alloc _
  have g1 : Holds W0 (s + 1) #[.int .i8 a, .int .i8 c] := by rw [← hW0, ← hs]; exact (((Holds.new' _ _ _ _ (by simp)).alloc _).alloc _).alloc _
  have g2 : Holds W0 (s + 1 + 1) #[.int .i8 a2, .int .i8 c2] := by rw [← hW0, ← hs]; exact ((Holds.new' _ _ _ _ (by simp)).alloc _).alloc _
  have g3 : Holds W0 (s + 1 + 1 + 1) #[.int .i8 0, .int .i8 0] := by rw [← hW0, ← hs]; exact (Holds.new' _ _ _ _ (by simp)).alloc _
  have g4 : Holds W0 (s + 1 + 1 + 1 + 1) #[.int .i8 a, .int .i8 c, .int .i8 a2, .int .i8 c2] := by rw [← hW0, ← hs]; exact Holds.new' _ _ _ _ (by simp)
  have hb0 : Below s w W0 := by rw [← hW0, ← hs]; exact (((((Below.refl w.heap.size w).alloc (Nat.le_refl _) _).alloc (by simp) _).alloc (by simp; omega) _).alloc (by simp; omega) _).alloc (by simp; omega) _
  have HS := Lib.hid hs
  go_enter Try.func28, Try.ntmps28
  go_wp2_with fail
  try rw [hW0]
  try simp only [hs]
  clear hW0 hs
  refine (HTO.out _ _ _ g0 g4).mono ?_
  rintro e w1 ⟨rfl, hb1⟩
  have k0 := g0.below hb1 g0.lt
  have k1 := g1.below hb1 g1.lt
  have k2 := g2.below hb1 g2.lt
  have k3 := g3.below hb1 g3.lt
  have hb2 := hb0.trans (hb1.mono (by have := g4.lt; omega))
  clear g0 g1 g2 g3 g4 hb0 hb1 HTO
  have d0 : w1.cell? ⟨s + 1, 0, none⟩ = some (.int .i8 a) := k1.cell 0
  have d1 : w1.cell? ⟨s + 1, 1, none⟩ = some (.int .i8 c) := k1.cell 1
  go_wp2_with fail
  refine (HRA'.out _ _ k0).mono ?_
  rintro e w2 ⟨rfl, hb1⟩
  have j0 := (k0.below hb1 k0.lt).alloc (.cells (grid64 GA) 89)
  have j2 := (k2.below hb1 k2.lt).alloc (.cells (grid64 GA) 89)
  have j3 := (k3.below hb1 k3.lt).alloc (.cells (grid64 GA) 89)
  have jA := Holds.new w2 (grid64 GA) 89
  have hlo := (k3.below hb1 k3.lt).lt
  have hb3 := (hb2.trans (hb1.mono (by have := k3.lt; omega))).alloc (by omega) (.cells (grid64 GA) 89)
  clear k0 k1 k2 k3 hb2 hb1 d0 d1
  obtain ⟨uA, huA⟩ : ∃ u, w2.heap.size = u := ⟨_, rfl⟩
  rw [huA] at jA hlo
  have d0 : (w2.alloc (.cells (grid64 GA) 89)).cell? ⟨s + 1 + 1, 0, none⟩ = some (.int .i8 a2) := j2.cell 0
  have d1 : (w2.alloc (.cells (grid64 GA) 89)).cell? ⟨s + 1 + 1, 1, none⟩ = some (.int .i8 c2) := j2.cell 1
  go_wp2_with fail
  refine (HRB'.out _ _ j0).mono ?_
  rintro e w3 ⟨rfl, hb1⟩
  have k0 := ((j0.below hb1 j0.lt).alloc (.cells (grid64 GB) 89)).alloc (.cells #[.int .i8 0, .int .i8 0] 37)
  have k3 := ((j3.below hb1 j3.lt).alloc (.cells (grid64 GB) 89)).alloc (.cells #[.int .i8 0, .int .i8 0] 37)
  have kA := ((jA.below hb1 jA.lt).alloc (.cells (grid64 GB) 89)).alloc (.cells #[.int .i8 0, .int .i8 0] 37)
  have kB := (Holds.new w3 (grid64 GB) 89).alloc (.cells #[.int .i8 0, .int .i8 0] 37)
  have kC := Holds.new' (w3.alloc (.cells (grid64 GB) 89)) #[.int .i8 0, .int .i8 0] 37 (w3.heap.size + 1) (by simp)
  have hlA := (jA.below hb1 jA.lt).lt
  have hb4 := ((hb3.trans (hb1.mono (by have := j3.lt; omega))).alloc (by omega) (.cells (grid64 GB) 89)).alloc (by simp; omega) (.cells #[.int .i8 0, .int .i8 0] 37)
  clear j0 j2 j3 jA hb3 hb1 d0 d1 huA
  go_wp2_with fail
  obtain ⟨uB, huB⟩ : ∃ u, w3.heap.size = u := ⟨_, rfl⟩
  rw [huB] at kB kC hlA
  obtain ⟨W5, hW5⟩ : ∃ W5, (w3.alloc (.cells (grid64 GB) 89)).alloc (.cells #[.int .i8 0, .int .i8 0] 37) = W5 := ⟨_, rfl⟩
  obtain ⟨uC, huC⟩ : ∃ u, uB + 1 = u := ⟨_, rfl⟩
  have hs5 : W5.heap.size = uC + 1 := by rw [← hW5, ← huC, ← huB]; simp
  rw [huC] at kC
  rw [hW5] at k0 k3 kA kB kC hb4
  try rw [hW5]
  try simp only [huB]
  try simp only [huC]
  clear hW5 huB
  refine (HAL.out _ _ k0).mono ?_
  rintro e w6 ⟨v, rfl, hA, hb1⟩
  rw [hs5] at hA
  have j3 := k3.below hb1 k3.lt
  have jA := kA.below hb1 kA.lt
  have jB := kB.below hb1 kB.lt
  have jC := kC.below hb1 kC.lt
  have hb5 := hb4.trans (hb1.mono (by have := k3.lt; omega))
  have hlc : uA < uC ∧ uB < uC ∧ s + 1 + 1 + 1 < uA := by omega
  clear k0 k3 kA kB kC hb4 hb1 hs5 HAL HRA' HRB' huC
  obtain ⟨aA, cA, rfl⟩ := own_slice hA
  have HAO := Lib.hid hA
  clear hA
  go_wp2_with fail
  go_loopw [13, 15, 16, 17, 18] (fun t u _ _ _ wr => ∃ (bx bz z : Int) (i : Nat), i ≤ n ∧ u = .int .i64 i ∧ t = .int .i64 z ∧ meetL FA FB ((B.take i).map ptOf) = ((bx, bz), z) ∧ Holds wr uC #[.int .i8 bx, .int .i8 bz] ∧ Holds wr (s + 1 + 1 + 1) #[.int .i8 0, .int .i8 0] ∧ Holds wr uA (grid64 GA) ∧ Holds wr uB (grid64 GB) ∧ wr.ownsRow (uC + 1) 37 2 (.slice aA n cA) n (flatV B) ∧ Below s w wr) (fun _ u _ _ _ _ => n - (intOf u).toNat)
  case atStart => exact ⟨0, 0, -1, 0, by omega, rfl, rfl, rfl, jC, j3, jA, jB, HAO.out, hb5⟩
  case round =>
    obtain ⟨bx, bz, z, i, hi, rfl, rfl, hM, r4, r5, rA, rB, ro, hb⟩ := hrel
    have HM := Lib.hid hM
    have HAW := Lib.hid ro
    clear jC j3 jA jB HAO hb5 ro hM
    by_cases hlt : i < n
    · have hd : decide ((i : Int) < (n : Int)) = true := by simp; omega
      obtain ⟨q, hq⟩ : ∃ q, B[i]? = some q := ⟨_, List.getElem?_eq_getElem (by rw [HN.out]; exact hlt)⟩
      have hstep : meetL FA FB ((B.take (i + 1)).map ptOf) = meetStep FA FB ((bx, bz), z) (ptOf q) := by rw [List.take_add_one, hq, List.map_append, ← HM.out]; exact meetL_snoc _ _ _ _
      obtain ⟨ga, cap, he, hBg, hgw⟩ := own_form HAW.out (by omega)
      simp only [Value.slice.injEq, true_and] at he
      obtain ⟨rfl, rfl⟩ := he
      obtain ⟨fa, fb⟩ := flatV_get _ _ _ hq
      obtain ⟨⟨e1, he1⟩, ⟨e2, he2⟩⟩ := q
      have hw10 := HWH.out
      have hw1 : e1 < 10 := by omega
      have hw2 : e2 < 10 := by omega
      have hOA := grid64_get GA e2 e1 hw2 hw1
      have hOB := grid64_get GB e2 e1 hw2 hw1
      obtain ⟨m, hm⟩ : ∃ m, stepsAt FA e1 e2 = m := ⟨_, rfl⟩
      obtain ⟨k, hk⟩ : ∃ k, stepsAt FB e1 e2 = k := ⟨_, rfl⟩
      obtain ⟨mx, hmx⟩ : ∃ mx, maxZ m k = mx := ⟨_, rfl⟩
      rw [HGA.out, hm] at hOA
      rw [HGB.out, hk] at hOB
      have hmb := HBA'.out e1 e2
      have hkb := HBB'.out e1 e2
      have hstep : meetL FA FB ((B.take (i + 1)).map ptOf) = meetStep FA FB ((bx, bz), z) ((e1 : Int), (e2 : Int)) := hstep
      unfold meetStep at hstep
      dsimp only at hstep fa fb
      rw [hm, hk, hmx] at hstep
      rw [hm] at hmb
      rw [hk] at hkb
      have HST := Lib.hid hstep
      have HMX := Lib.hid (show max m k = mx from hmx)
      have FX := Lib.hid (show ∀ w', Below wr.heap.size wr w' → w'.cell? ⟨ga, i * 2, none⟩ = some (.int .i8 e1) ∧ w'.cell? ⟨ga, i * 2 + 1, none⟩ = some (.int .i8 e2) ∧ w'.cell? ⟨uA, e2 * 10 + e1, none⟩ = some (.int .i64 m) ∧ w'.cell? ⟨uB, e2 * 10 + e1, none⟩ = some (.int .i64 k) from fun w' hw' =>
        ⟨own_cell (own_below HAW.out hw') _ _ fa, own_cell (own_below HAW.out hw') _ _ fb, by rw [(rA.below hw' rA.lt).cell, hOA], by rw [(rB.below hw' rB.lt).cell, hOB]⟩)
      have hsz := r4.lt
      clear hq fa fb hOA hOB hm hk hmx hstep hw10
      go_wp2_with fail
      refine wp_region_grow 13 (by kernel_rfl) (by kernel_rfl) ?_
      simp only [List.take_succ_cons, List.take_zero, List.drop_succ_cons, List.drop_zero]
      iterate 13
        apply wpGrow_plain rfl
        · intro w' hw' K hK
          obtain ⟨f1, f2, f3, f4⟩ := FX.out _ hw'
          go_wp2_with fail
          exact hK _ _ rfl hw'
        simp only [Act.put, List.setIfInBounds_toArray, List.set_cons_succ, List.set_cons_zero]
      refine wpGrow_nil ?_
      intro W2 hW2
      have FX2 := Lib.hid (show ∀ w', Below W2.heap.size W2 w' → w'.cell? ⟨ga, i * 2, none⟩ = some (.int .i8 e1) ∧ w'.cell? ⟨ga, i * 2 + 1, none⟩ = some (.int .i8 e2) ∧ w'.cell? ⟨uA, e2 * 10 + e1, none⟩ = some (.int .i64 m) ∧ w'.cell? ⟨uB, e2 * 10 + e1, none⟩ = some (.int .i64 k) from fun w' hw' => FX.out _ (below_onto hW2 hw'))
      have q4 := r4.below hW2 r4.lt
      have q5 := r5.below hW2 r5.lt
      have qA := rA.below hW2 rA.lt
      have qB := rB.below hW2 rB.lt
      have HAX := Lib.hid (own_below HAW.out hW2)
      have hb6 := hb.trans (hW2.mono (by omega))
      have hsz2 := q4.lt
      clear hW2 r4 r5 rA rB HAW hb FX hgw hsz
      go_wp2_with fail
      refine wp_region_grow 13 (by kernel_rfl) (by kernel_rfl) ?_
      simp only [List.take_succ_cons, List.take_zero, List.drop_succ_cons, List.drop_zero]
      iterate 13
        apply wpGrow_plain rfl
        · intro w' hw' K hK
          obtain ⟨f1, f2, f3, f4⟩ := FX2.out _ hw'
          go_wp2_with fail
          exact hK _ _ rfl hw'
        simp only [Act.put, List.setIfInBounds_toArray, List.set_cons_succ, List.set_cons_zero]
      refine wpGrow_nil ?_
      intro W3 hW3
      obtain ⟨f1, f2, -, -⟩ := FX2.out _ hW3
      have k4 := q4.below hW3 q4.lt
      have k5 := q5.below hW3 q5.lt
      have kA := qA.below hW3 qA.lt
      have kB := qB.below hW3 qB.lt
      have HAY := Lib.hid (own_below HAX.out hW3)
      have hb7 := hb6.trans (hW3.mono (by omega))
      clear hW3 q4 q5 qA qB HAX hb6 FX2 hsz2
      by_cases hm0 : m < 0
      · have hS2 : meetL FA FB ((B.take (i + 1)).map ptOf) = ((bx, bz), z) := by rw [HST.out, if_neg (fun h => by omega)]
        have HS2 := Lib.hid hS2
        have hdm0 : decide (m < 0) = true := decide_eq_true hm0
        clear hS2 hmb hkb hm0
        go_wp2_with fail
        exact ⟨⟨bx, bz, z, i + 1, by omega, by go_num, rfl, HS2.out, k4, k5, kA, kB, HAY.out, hb7⟩, by simp [intOf]; omega⟩
      · have hdm0 : decide (m < 0) = false := decide_eq_false hm0
        by_cases hk0 : k < 0
        · have hS2 : meetL FA FB ((B.take (i + 1)).map ptOf) = ((bx, bz), z) := by rw [HST.out, if_neg (fun h => by omega)]
          have HS2 := Lib.hid hS2
          have hdk0 : decide (k < 0) = true := decide_eq_true hk0
          clear hS2 hmb hkb hm0 hk0
          go_wp2_with fail
          exact ⟨⟨bx, bz, z, i + 1, by omega, by go_num, rfl, HS2.out, k4, k5, kA, kB, HAY.out, hb7⟩, by simp [intOf]; omega⟩
        · have hdk0 : decide (k < 0) = false := decide_eq_false hk0
          have HMC := Lib.hid (show ∀ w, Calls Try.prog 76 #[.int .i64 m, .int .i64 k] w fun e w' => e = .returned (.int .i64 mx) ∧ w' = w from fun w => by
            refine (max4_is m k w).mono ?_
            rintro e w' ⟨rfl, rfl⟩
            refine ⟨?_, rfl⟩
            rw [← HMX.out]
            have : (if k < m then m else k) = max m k := by split <;> omega
            rw [this])
          by_cases hz : z < 0 ∨ mx < z
          · have hS2 : meetL FA FB ((B.take (i + 1)).map ptOf) = (((e1 : Int), (e2 : Int)), mx) := by rw [HST.out, if_pos ⟨by omega, by omega, hz⟩]
            have HS2 := Lib.hid hS2
            have hdz : decide (z < 0) = true ∨ (decide (z < 0) = false ∧ decide (mx < z) = true) := by
              by_cases h : z < 0
              · exact .inl (decide_eq_true h)
              · exact .inr ⟨decide_eq_false h, decide_eq_true (hz.resolve_left h)⟩
            obtain ⟨-, -, c9, z9, l9⟩ := k4.facts
            clear hS2 hmb hkb hz hm0 hk0
            go_wp2_with fail
            refine (HMC.out _).mono ?_
            rintro e5 w5 ⟨rfl, rfl⟩
            rcases hdz with hdz | ⟨hdz, hdm⟩
            all_goals
              go_wp2_with fail
              exact ⟨⟨e1, e2, mx, i + 1, by omega, by go_num, rfl, HS2.out, (k4.setCell 0 (.int .i8 e1)).setCell 1 (.int .i8 e2), (k5.setCell_other _ _ (by dsimp only; omega)).setCell_other _ _ (by dsimp only; omega), (kA.setCell_other _ _ (by dsimp only; omega)).setCell_other _ _ (by dsimp only; omega), (kB.setCell_other _ _ (by dsimp only; omega)).setCell_other _ _ (by dsimp only; omega), (HAY.out.kept (grownBy_setD _ ⟨uC, 0, none⟩ _) (.inr (by simp [Value.ownBlock]; omega))).kept (grownBy_setD _ ⟨uC, 1, none⟩ _) (.inr (by simp [Value.ownBlock]; omega)), (hb7.setCell (p := ⟨uC, 0, none⟩) (by dsimp only; omega) _).setCell (p := ⟨uC, 1, none⟩) (by dsimp only; omega) _⟩, by simp [intOf]; omega⟩
          · have hS2 : meetL FA FB ((B.take (i + 1)).map ptOf) = ((bx, bz), z) := by rw [HST.out, if_neg (fun h => hz h.2.2)]
            have HS2 := Lib.hid hS2
            have hdz : decide (z < 0) = false := decide_eq_false (fun h => hz (.inl h))
            have hdm : decide (mx < z) = false := decide_eq_false (fun h => hz (.inr h))
            clear hS2 hmb hkb hz hm0 hk0
            go_wp2_with fail
            refine (HMC.out _).mono ?_
            rintro e5 w5 ⟨rfl, rfl⟩
            go_wp2_with fail
            exact ⟨⟨bx, bz, z, i + 1, by omega, by go_num, rfl, HS2.out, k4, k5, kA, kB, HAY.out, hb7⟩, by simp [intOf]; omega⟩
    · have hd : decide ((i : Int) < (n : Int)) = false := by simp; omega
      have htk : B.take i = B := List.take_of_length_le (by rw [HN.out]; omega)
      have hM := HM.out
      rw [htk] at hM
      have hR := HRR.out
      rw [hM] at hR
      dsimp only at hR
      obtain ⟨-, -, c9, z9, l9⟩ := r5.facts
      have c0 : wr.cell? ⟨uC, 0, none⟩ = some (.int .i8 bx) := r4.cell 0
      have c1 : wr.cell? ⟨uC, 1, none⟩ = some (.int .i8 bz) := r4.cell 1
      have HSS := HS.out
      clear hM htk rA rB HAW
      by_cases hz : z < 0
      · rw [if_pos hz] at hR
        have hdz : decide (z < 0) = true := decide_eq_true hz
        have HRF := Lib.hid hR
        have v1 := (r5.setCell 0 (.int .i8 0)).setCell 1 (.int .i8 0)
        have hb3 := (hb.setCell (p := ⟨s + 1 + 1 + 1, 0, none⟩) (by dsimp only; omega) (.int .i8 0)).setCell (p := ⟨s + 1 + 1 + 1, 1, none⟩) (by dsimp only; omega) (.int .i8 0)
        clear hR hb r5
        go_wp2_with fail
        exact bodyPost_ret (results_cell_nn (n := 2) (p := 6) (u := 7) (v := 8) rfl (by kernel_rfl) _ rfl rfl rfl v1 rfl) rfl ⟨by rw [HRF.out]; rfl, HSS ▸ hb3⟩
      · rw [if_neg hz] at hR
        have hdz : decide (z < 0) = false := decide_eq_false hz
        have HRF := Lib.hid hR
        have v1 := (r5.setCell 0 (.int .i8 bx)).setCell 1 (.int .i8 bz)
        have hb3 := (hb.setCell (p := ⟨s + 1 + 1 + 1, 0, none⟩) (by dsimp only; omega) (.int .i8 bx)).setCell (p := ⟨s + 1 + 1 + 1, 1, none⟩) (by dsimp only; omega) (.int .i8 bz)
        clear hR hb r5
        go_wp2_with fail
        exact bodyPost_ret (results_cell_nn (n := 2) (p := 6) (u := 7) (v := 8) rfl (by kernel_rfl) _ rfl rfl rfl v1 rfl) rfl ⟨by rw [HRF.out]; rfl, HSS ▸ hb3⟩

set_option maxRecDepth 100000 in
set_option maxHeartbeats 1000000 in
theorem specMeet_any (L : Lawn) (hL : L.Fits) (x y x2 y2 : Int) (x0 : -128 ≤ x) (x1 : x ≤ 127) (y0 : -128 ≤ y) (y1 : y ≤ 127) (x20 : -128 ≤ x2) (x21 : x2 ≤ 127) (y20 : -128 ≤ y2) (y21 : y2 ≤ 127) (w : World) :
    Calls Try.prog 28 #[.agg L.cells, .agg #[.int .i8 x, .int .i8 y], .agg #[.int .i8 x2, .int .i8 y2]] w fun e w' => e = .returned (cellNN (meetR L x y x2 y2)) ∧ Below w.heap.size w w' := by
  by_cases hc : openC L x y x2 y2 = 0
  · exact specMeet_good L hL x y x2 y2 hc w
  have HR : meetR L x y x2 y2 = ((0, 0), 0, openC L x y x2 y2) := by unfold meetR; rw [if_neg hc]
  have hTO := fun (b g : Nat) (w : World) (h : Holds w b L.cells) (hg : Holds w g #[.int .i8 x, .int .i8 y, .int .i8 x2, .int .i8 y2]) => l04Told_list L hL [(x, y), (x2, y2)] 2 2 rfl (by omega) (by intro c hc; simp at hc; rcases hc with rfl | rfl <;> dsimp only <;> omega) true b g w h (cells_two hg)
  rw [toldC_two] at hTO
  rw [HR]
  obtain ⟨C, hC⟩ : ∃ C, openC L x y x2 y2 = C := ⟨_, rfl⟩
  rw [hC] at hTO hc ⊢
  have HTO := Lib.hid hTO
  have hcd : (C != 0) = true := by simpa using hc
  clear hTO HR hC hc hL
  obtain ⟨W0, hW0⟩ : ∃ W0, ((((w.alloc (.cells L.cells 29)).alloc (.cells #[.int .i8 x, .int .i8 y] 37)).alloc (.cells #[.int .i8 x2, .int .i8 y2] 37)).alloc (.cells #[.int .i8 0, .int .i8 0] 37)).alloc (.cells #[.int .i8 x, .int .i8 y, .int .i8 x2, .int .i8 y2] 37) = W0 := ⟨_, rfl⟩
  obtain ⟨s, hs⟩ : ∃ s, w.heap.size = s := ⟨_, rfl⟩
  have g0 : Holds W0 s L.cells := by rw [← hW0, ← hs]; exact ((((Holds.new _ _ _).alloc _).alloc _).alloc _).alloc _
  have g3 : Holds W0 (s + 1 + 1 + 1) #[.int .i8 0, .int .i8 0] := by rw [← hW0, ← hs]; exact (Holds.new' _ _ _ _ (by simp)).alloc _
  have g4 : Holds W0 (s + 1 + 1 + 1 + 1) #[.int .i8 x, .int .i8 y, .int .i8 x2, .int .i8 y2] := by rw [← hW0, ← hs]; exact Holds.new' _ _ _ _ (by simp)
  have hb0 : Below s w W0 := by rw [← hW0, ← hs]; exact (((((Below.refl w.heap.size w).alloc (Nat.le_refl _) _).alloc (by simp) _).alloc (by simp; omega) _).alloc (by simp; omega) _).alloc (by simp; omega) _
  have HS := Lib.hid hs
  go_enter Try.func28, Try.ntmps28
  go_wp2_with fail
  try rw [hW0]
  try simp only [hs]
  clear hW0 hs
  refine (HTO.out _ _ _ g0 g4).mono ?_
  rintro e w1 ⟨rfl, hb1⟩
  have k3 := g3.below hb1 g3.lt
  have hb2 := hb0.trans (hb1.mono (by have := g4.lt; omega))
  clear g0 g3 g4 hb0 hb1 HTO
  obtain ⟨-, -, c2, z2, l2⟩ := k3.facts
  have v1 := (k3.setCell 0 (.int .i8 0)).setCell 1 (.int .i8 0)
  have hb3 := (hb2.setCell (p := ⟨s + 1 + 1 + 1, 0, none⟩) (by dsimp only; omega) (.int .i8 0)).setCell (p := ⟨s + 1 + 1 + 1, 1, none⟩) (by dsimp only; omega) (.int .i8 0)
  clear k3 hb2
  go_wp2_with fail
  exact bodyPost_ret (results_cell_nn (n := 2) (p := 6) (u := 7) (v := 8) rfl (by kernel_rfl) _ rfl rfl rfl v1 rfl) rfl ⟨rfl, HS.out ▸ hb3⟩
end Go.Proofs.Ytaeenkjbmlgcmaa
