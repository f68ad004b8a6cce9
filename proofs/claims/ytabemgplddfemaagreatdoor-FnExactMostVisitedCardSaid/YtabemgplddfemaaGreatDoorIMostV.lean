/- MostVisited, of the program. -/
import Derived.Test.YtabemgplddfemaaGreatDoorMostOf
import Derived.Test.YtabemgplddfemaaGreatDoorMapSt
import Derived.Test.YtabemgplddfemaaGreatDoorMostP
import Derived.Test.YtabemgplddfemaaGreatDoorMoleM
import Derived.RegionTactic
import Derived.ChangeAlike
namespace Go.Proofs.YtabemgplddfemaaGreatDoor
open Go.RowKit Go.Shelf
set_option linter.unusedVariables false
set_option linter.unusedSimpArgs false
attribute [local go_sem ↓] loadRow loadGrid loadLawn loadMirror storeRow storeGrid storeLawn allocRow allocGrid allocLawn buildZero buildSides loadR8 loadL8 loadLv storeR8 storeLv allocR8 allocLv buildZLv storeCl

set_option maxRecDepth 100000 in
set_option maxHeartbeats 4000000 in
theorem imost_good (L : Lawn) (hL : L.Fits) (g : Nat → Nat → Int) (hv : levB L g = true) (q : Q10) (hq : grassP L (ptQ q) = true) (N : Nat) (hN : N ≤ 60) {a0 a1 a2 a3 a4 : Addr} (w : World) (hE : ErrsIn w a0 a1 a2 a3 a4) :
    Calls Tryz.prog 12 #[.agg L.cells, .agg (levV g), .agg #[.int .i8 q.1.val, .int .i8 q.2.val], .int .i64 N] w fun e w' => e = .returned (cellNN3 (visA L g q N)) ∧ Below w.heap.size w w' := by
  obtain ⟨s, hs⟩ : ∃ s, w.heap.size = s := ⟨_, rfl⟩
  have HMN := Lib.hid (show ∀ w, ErrsIn w a0 a1 a2 a3 a4 → Calls Tryz.prog 27 #[.agg L.cells, .agg (levV g), .agg #[.int .i8 q.1.val, .int .i8 q.2.val], .int .i64 N] w fun e w' => (∃ v, e = .returned (.tuple #[.agg (levV (stQ L g q N).1), v, .int .i64 0]) ∧ w'.ownsRow w.heap.size 30 2 v (N + 1) (flatV (pathQ L g q N))) ∧ Below w.heap.size w w' from fun w hE => inights_good L hL g hv q hq N hN w hE)
  have hpl := pathQ_length L g q N
  have hcl := visC_length L g q N
  have hc10 := visC_q10 L g q N
  have hcg : ∀ k c, (visC L g q N)[k]? = some c → ∃ d : Q10, c = ((d.1.val : Int), (d.2.val : Int)) ∧ (pathQ L g q N)[1 + k]? = some d := visC_get
  unfold visA
  obtain ⟨G9, hG9⟩ : ∃ G9, (stQ L g q N).1 = G9 := ⟨_, rfl⟩
  obtain ⟨P, hP⟩ : ∃ P, pathQ L g q N = P := ⟨_, rfl⟩
  obtain ⟨cs, hcs⟩ : ∃ cs, visC L g q N = cs := ⟨_, rfl⟩
  rw [hP, hG9] at HMN
  rw [hP] at hpl
  rw [hcs] at hcl hc10 ⊢
  rw [hP, hcs] at hcg
  have HMO := Lib.hid (mostOf_any cs hc10)
  obtain ⟨A, hA⟩ : ∃ A, mostR (mostL (visN cs) ((visS cs).map ptOf)) = A := ⟨_, rfl⟩
  rw [hA] at HMO ⊢
  have HPL := Lib.hid hpl
  have HCL := Lib.hid hcl
  have HCG := Lib.hid hcg
  obtain ⟨q1, hq1'⟩ : ∃ k : Nat, q.1.val = k := ⟨_, rfl⟩
  obtain ⟨q2, hq2'⟩ : ∃ k : Nat, q.2.val = k := ⟨_, rfl⟩
  rw [hq1', hq2'] at HMN
  rw [hq1', hq2']
  have hmk := fun w => run_makeMap (P := Tryz.prog) 61 w
  clear hL hv hq hP hG9 hq1' hq2' hpl hcl hcg hcs hc10 hA
  obtain ⟨W0, hW0⟩ : ∃ W0, (((w.alloc (.cells L.cells 33)).alloc (.cells (levV g) 35)).alloc (.cells #[.int .i8 q1, .int .i8 q2] 30)).alloc (.cells #[.int .i8 0, .int .i8 0] 30) = W0 := ⟨_, rfl⟩
  have g0 : Holds W0 s L.cells := by rw [← hW0]; exact (((Holds.new' _ _ _ _ hs.symm).alloc _).alloc _).alloc _
  have g1 : Holds W0 (s + 1) (levV g) := by rw [← hW0]; exact ((Holds.new' _ _ _ _ (by simp <;> omega)).alloc _).alloc _
  have g2 : Holds W0 (s + 1 + 1) #[.int .i8 q1, .int .i8 q2] := by rw [← hW0]; exact (Holds.new' _ _ _ _ (by simp <;> omega)).alloc _
  have g3 : Holds W0 (s + 1 + 1 + 1) #[.int .i8 0, .int .i8 0] := by rw [← hW0]; exact Holds.new' _ _ _ _ (by simp <;> omega)
  have hb : Below s w W0 := by rw [← hW0]; exact ((((Below.refl s w).alloc (by omega) _).alloc (by simp; omega) _).alloc (by simp; omega) _).alloc (by simp; omega) _
  have hE0 : ErrsIn W0 a0 a1 a2 a3 a4 := hE.below (hs.symm ▸ hb)
  obtain ⟨r0, -, -, -, l0⟩ := g0.facts
  obtain ⟨r1, -, -, -, l1⟩ := g1.facts
  have l2 := g2.lt
  have c20 := (g2.cell 0).trans (show _ = some (.int .i8 q1) from rfl)
  have c21 := (g2.cell 1).trans (show _ = some (.int .i8 q2) from rfl)
  rw [hs]
  go_enter Tryz.func12, Tryz.ntmps12
  go_wp2_with fail
  try rw [hW0]
  clear hW0
  refine (HMN.out _ hE0).mono ?_
  rintro e w1 ⟨⟨v, rfl, ho⟩, hb1⟩
  obtain ⟨ga, cap, rfl, hBg, hgw⟩ := own_form ho (by omega)
  have hcap : N + 1 ≤ cap := by
    rcases ho.2 with ⟨h1, -⟩ | ⟨g', cap', cur, he, -, -, hle, -⟩
    · simp at h1
    · simp only [Value.slice.injEq, Option.some.injEq, Addr.mk.injEq] at he
      obtain ⟨-, -, rfl⟩ := he
      exact hle
  have hb2 : Below s w w1 := hb.trans (hb1.mono (by have := hb.size; omega))
  have m3 := g3.below hb1 g3.lt
  have HO := Lib.hid ho
  obtain ⟨w0s, hw0s⟩ : ∃ k, W0.heap.size = k := ⟨_, rfl⟩
  rw [hw0s] at HO hBg
  clear g0 g1 g2 g3 r0 r1 l0 l1 l2 c20 c21 hb hb1 HMN hE0 ho
  have JM : Hid (MapSt ((w1.alloc (.cells (levV G9) 35)).alloc (.map #[] 0)) (w1.heap.size + 1) cellK valK (visM (cs.take 0))) := Lib.hid (by
    have h := MapSt.made (enc := cellK) (val := valK) (w1.alloc (.cells (levV G9) 35))
    rwa [show (w1.alloc (.cells (levV G9) 35)).heap.size = w1.heap.size + 1 by simp] at h)
  have HO2 := Lib.hid ((HO.out.alloc (.cells (levV G9) 35)).alloc (.map #[] 0))
  have m4 := (m3.alloc (.cells (levV G9) 35)).alloc (.map #[] 0)
  have hb3 : Below s w ((w1.alloc (.cells (levV G9) 35)).alloc (.map #[] 0)) := (hb2.alloc (by have := hb2.size; omega) _).alloc (by have := hb2.size; simp; omega) _
  obtain ⟨W2, hW2⟩ : ∃ W2, (w1.alloc (.cells (levV G9) 35)).alloc (.map #[] 0) = W2 := ⟨_, rfl⟩
  have hm3 := m3.lt
  have hs1 : s + 1 + 1 + 1 < w1.heap.size := m3.lt
  obtain ⟨b, hbb⟩ : ∃ b, w1.heap.size + 1 = b := ⟨_, rfl⟩
  rw [hW2] at JM HO2 m4 hb3
  rw [hbb] at JM
  have hbW : b < W2.heap.size := JM.out.lt
  have hgb : ga < b := by omega
  have hsb : s + 1 + 1 + 1 < b := by omega
  have HW2 := Lib.hid hW2
  have HBB := Lib.hid hbb
  clear HO m3 hb2 hW2 hbb
  by_cases hc1 : cap = 1
  all_goals (
    go_wp2_with fail
    simp only [HW2.out, HBB.out]
    clear HW2 HBB
    go_loopw [34] (fun i wr => ∃ k : Nat, k ≤ N ∧ i = .int .i64 k ∧ wr.ownsRow w0s 30 2 (.slice (some ⟨ga, 0, none⟩) (N + 1) cap) (N + 1) (flatV P) ∧ MapSt wr b cellK valK (visM (cs.take k)) ∧ Holds wr (s + 1 + 1 + 1) #[.int .i8 0, .int .i8 0] ∧ Below s w wr) (fun i _ => 300 - (intOf i).toNat)
    case atStart => exact ⟨0, Nat.zero_le _, rfl, HO2.out, JM.out, m4, hb3⟩
    case round =>
      obtain ⟨k, hk, rfl, ho, hM, m5, hb⟩ := hrel
      have HO1 := Lib.hid ho
      have HM1 := Lib.hid hM
      clear ho hM HO2 JM m4 hb3
      by_cases hlt : k < N
      · first
        | (exfalso; omega)
        | (
            have hd : decide ((k : Int) < (N : Int)) = true := by simp; omega
            obtain ⟨a, ha⟩ : ∃ a, cs[k]? = some a := ⟨_, List.getElem?_eq_getElem (by rw [HCL.out]; exact hlt)⟩
            obtain ⟨d, rfl, hPd⟩ := HCG.out k a ha
            obtain ⟨fa, fb⟩ := flatV_get _ _ _ hPd
            have ca := own_cell HO1.out _ _ fa
            have cb := own_cell HO1.out _ _ fb
            rw [show (1 + k) * 2 = 2 + k * 2 by omega] at ca cb
            have HTK := Lib.hid (show cs.take (k + 1) = cs.take k ++ [((d.1.val : Int), (d.2.val : Int))] by rw [List.take_add_one, ha]; rfl)
            obtain ⟨px, hpx⟩ : ∃ p : Int, (d.1.val : Int) = p := ⟨_, rfl⟩
            obtain ⟨py, hpy⟩ : ∃ p : Int, (d.2.val : Int) = p := ⟨_, rfl⟩
            rw [hpx, hpy] at HTK
            rw [hpx] at ca
            rw [hpy] at cb
            clear fa fb ha hPd hpx hpy
            have n1 := Holds.new wr #[.int .i8 px, .int .i8 py] 30
            have m6 := m5.alloc (.cells #[.int .i8 px, .int .i8 py] 30)
            have HO3 := Lib.hid (HO1.out.alloc (.cells #[.int .i8 px, .int .i8 py] 30))
            have HM2 := Lib.hid (HM1.out.alloc (.cells #[.int .i8 px, .int .i8 py] 30))
            have hb4 := hb.alloc (by have := hb.size; omega) (.cells #[.int .i8 px, .int .i8 py] 30)
            have hbl := HM1.out.lt
            have hbz := hb.size
            have hln := visM_length cs k
            have hrg := visN_range cs k (px, py)
            obtain ⟨B, hB⟩ : ∃ B, wr.heap.size = B := ⟨_, rfl⟩
            obtain ⟨w2, hw2⟩ : ∃ w2, wr.alloc (.cells #[.int .i8 px, .int .i8 py] 30) = w2 := ⟨_, rfl⟩
            rw [hw2] at n1 m6 HO3 HM2 hb4
            rw [hB] at n1 hbl
            obtain ⟨o, j, hj, he1, he2, he3⟩ := HM2.out.entry cellKey (by omega) Tryz.underlying61 zeroK64 (px, py)
            obtain ⟨o', he4, he5⟩ := he3 (visN (cs.take k) (px, py) + 1)
            have hlk := fun (w' : World) (hw : w'.heap[b]? = w2.heap[b]?) => ((HM2.out.block hw).is.look cellKey Tryz.underlying61 zeroK64 (px, py)).1
            have hlk2 := fun (w' : World) (hw : w'.heap[b]? = some o) => ((he2 w' hw).is.look cellKey Tryz.underlying61 zeroK64 (px, py)).1
            simp only [cellK, cellV, valK, alLook_put, if_true, Option.getD_some] at he1 he4 hlk hlk2
            have hT : (alLook (visM (cs.take k)) (px, py)).getD 0 = visN (cs.take k) (px, py) := rfl
            rw [hT] at he1 hlk hlk2
            have hbM := HM2.out.lt
            have hpo : ∀ (w' : World), w'.heap.size = w2.heap.size → (w'.putObj b o).heap[b]? = some o := fun w' hw => by
              have h2 : b < w'.heap.size := by rw [hw]; exact hbM
              unfold World.putObj
              simp [h2]
            have f1 := hlk w2.drew rfl
            have f2 := he1 w2.drew rfl
            have f3 := hlk2 (w2.drew.putObj b o) (hpo _ rfl)
            have f4 := he4 (w2.drew.putObj b o) (hpo _ rfl)
            have HE5 := Lib.hid he5
            obtain ⟨-, sN⟩ := n1.later
            obtain ⟨-, -, dN, -, -⟩ := n1.facts
            clear hlk hlk2 he1 he4 he3 he2 hT he5 hpo
            obtain ⟨tt, htt⟩ : ∃ tt, visN (cs.take k) (px, py) = tt := ⟨_, rfl⟩
            rw [htt] at f1 f2 f3 f4 HE5 hrg
            have HTT := Lib.hid htt
            have HWB := Lib.hid hw2
            have HB := Lib.hid hB
            clear htt hw2 hB
            go_wp2_with fail
            simp only [HWB.out, HB.out]
            go_region
            have hOn : Only [b] w2 ((w2.drew.putObj b o).putObj b o') := (((Only.refl [b] w2).drew).putT (by simp) o).putT (by simp) o'
            have HO5 := Lib.hid (hOn.own HO3.out (fun q hq => by simp [Value.ownBlock] at hq; simp; omega))
            have m7 := hOn.holds m6 (by simp; omega)
            have hb7 := hb4.trans (hOn.toBelow (B := s) (by simp; omega) (by have := hb4.size; omega))
            have hM7 := HE5.out ((w2.drew.putObj b o).putObj b o') (by
              have h2 : b < (w2.drew.putObj b o).heap.size := by simp [World.putObj]; exact hbM
              show ((w2.drew.putObj b o).heap.setIfInBounds b o')[b]? = some o'
              rw [Array.getElem?_setIfInBounds, if_pos rfl, if_pos h2])
            have HM7 := Lib.hid (show MapSt ((w2.drew.putObj b o).putObj b o') b cellK valK (visM (cs.take (k + 1))) by
              have e : visN (cs.take k) (px, py) = tt := HTT.out
              rw [HTK.out, visM_snoc, e]
              exact hM7)
            clear hOn hM7 hb4 m6 HO3 HM2 n1 sN dN f1 f2 f3 f4 HE5
            go_wp2_with fail
            go_roundw
            case rel => exact ⟨k + 1, by omega, by go_num, HO5.out, HM7.out, m7, hb7⟩
            case measure => simp [intOf]; omega)
      · obtain rfl : k = N := by omega
        have hd : decide ((k : Int) < (k : Int)) = false := by simp
        have HMk := Lib.hid (show MapIs wr b cellK valK (visM cs) by
          have h := HM1.out.is
          rwa [List.take_of_length_le (by rw [HCL.out]; exact Nat.le_refl _)] at h)
        go_wp2_with fail
        refine (HMO.out b _ HMk.out).mono ?_
        rintro e w5 ⟨rfl, hb5⟩
        obtain ⟨⟨ax, ay⟩, az, ac⟩ := A
        have j0 := m5.below hb5 m5.lt
        have hb6 := hb.trans (hb5.mono (by have := hb.size; omega))
        have HJ := Lib.hid j0
        have HB6 := Lib.hid hb6
        obtain ⟨r9, f9, -, -, l9⟩ := j0.facts
        clear j0 hb6 hb5 HM1 HO1 HMk HMO hb m5
        simp only [cellNN3]
        go_wp2_with fail
        exact bodyPost_ret (results_cell_nn rfl (by kernel_rfl) _ rfl rfl rfl (HJ.out.setRow _) rfl) rfl ⟨rfl, below_setRow' HB6.out (by omega) _⟩)

set_option maxRecDepth 100000 in
set_option maxHeartbeats 4000000 in
theorem imost_bad (L : Lawn) (hL : L.Fits) (g : Nat → Nat → Int) (x y n : Int) (k : Nat) (hk : chkE L g (upZ n 60) [(x, y)] = some k) {a0 a1 a2 a3 a4 : Addr} (w : World) (hE : ErrsIn w a0 a1 a2 a3 a4) :
    Calls Tryz.prog 12 #[.agg L.cells, .agg (levV g), .agg #[.int .i8 x, .int .i8 y], .int .i64 n] w fun e w' => e = .returned (cellNN3 ((0, 0), 0, errZ k)) ∧ Below w.heap.size w w' := by
  obtain ⟨s, hs⟩ : ∃ s, w.heap.size = s := ⟨_, rfl⟩
  have HMN := Lib.hid (show ∀ w, ErrsIn w a0 a1 a2 a3 a4 → Calls Tryz.prog 27 #[.agg L.cells, .agg (levV g), .agg #[.int .i8 x, .int .i8 y], .int .i64 n] w fun e w' => (∃ v, e = .returned (.tuple #[.agg (levV fun _ _ => 0), v, .int .i64 (errZ k)]) ∧ w'.ownsRow w.heap.size 30 2 v 0 ([])) ∧ Below w.heap.size w w' from fun w hE => inights_bad L hL g x y n k hk w hE)
  have hne : errZ k ≠ 0 := by unfold errZ; (split; · decide); (split <;> decide)
  obtain ⟨z, hz⟩ : ∃ z, errZ k = z := ⟨_, rfl⟩
  rw [hz] at HMN hne ⊢
  have hnb : (z != 0) = true := by simpa [bne] using hne
  clear hL hk hz
  obtain ⟨W0, hW0⟩ : ∃ W0, (((w.alloc (.cells L.cells 33)).alloc (.cells (levV g) 35)).alloc (.cells #[.int .i8 x, .int .i8 y] 30)).alloc (.cells #[.int .i8 0, .int .i8 0] 30) = W0 := ⟨_, rfl⟩
  have g0 : Holds W0 s L.cells := by rw [← hW0]; exact (((Holds.new' _ _ _ _ hs.symm).alloc _).alloc _).alloc _
  have g1 : Holds W0 (s + 1) (levV g) := by rw [← hW0]; exact ((Holds.new' _ _ _ _ (by simp <;> omega)).alloc _).alloc _
  have g2 : Holds W0 (s + 1 + 1) #[.int .i8 x, .int .i8 y] := by rw [← hW0]; exact (Holds.new' _ _ _ _ (by simp <;> omega)).alloc _
  have g3 : Holds W0 (s + 1 + 1 + 1) #[.int .i8 0, .int .i8 0] := by rw [← hW0]; exact Holds.new' _ _ _ _ (by simp <;> omega)
  have hb : Below s w W0 := by rw [← hW0]; exact ((((Below.refl s w).alloc (by omega) _).alloc (by simp; omega) _).alloc (by simp; omega) _).alloc (by simp; omega) _
  have hE0 : ErrsIn W0 a0 a1 a2 a3 a4 := hE.below (hs.symm ▸ hb)
  obtain ⟨r0, -, -, -, l0⟩ := g0.facts
  obtain ⟨r1, -, -, -, l1⟩ := g1.facts
  have l2 := g2.lt
  have c20 := (g2.cell 0).trans (show _ = some (.int .i8 x) from rfl)
  have c21 := (g2.cell 1).trans (show _ = some (.int .i8 y) from rfl)
  rw [hs]
  go_enter Tryz.func12, Tryz.ntmps12
  go_wp2_with fail
  try rw [hW0]
  clear hW0
  refine (HMN.out _ hE0).mono ?_
  rintro e w1 ⟨⟨v, rfl, ho⟩, hb1⟩
  have hb2 : Below s w w1 := hb.trans (hb1.mono (by have := hb.size; omega))
  have m3 := g3.below hb1 g3.lt
  have m4 := m3.alloc (.cells (levV fun _ _ => 0) 35)
  have hb3 : Below s w (w1.alloc (.cells (levV fun _ _ => 0) 35)) := hb2.alloc (by have := hb2.size; omega) _
  have HJ := Lib.hid m3
  have HB2 := Lib.hid hb2
  clear g0 g1 g2 g3 r0 r1 l0 l1 l2 c20 c21 hb hb1 HMN hE0 ho hb3
  obtain ⟨r9, f9, -, -, l9⟩ := m3.facts
  obtain ⟨r8, f8, -, -, l8⟩ := m4.facts
  go_wp2_with fail
  exact bodyPost_ret (results_cell_nn rfl (by kernel_rfl) _ rfl rfl rfl ((HJ.out.setRow _).alloc _) rfl) rfl ⟨rfl, (below_setRow' HB2.out (by omega) _).alloc (by have := HB2.out.size; simp; omega) _⟩
end Go.Proofs.YtabemgplddfemaaGreatDoor
