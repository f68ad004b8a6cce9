/- MeetCell, of the program. -/
import Derived.Test.YtaeenkjbmlgcmaaMeetP
import Derived.Test.YtaeenkjbmlgcmaaOrdered
import Derived.Test.YtaeenkjbmlgcmaaGrowV2
import Derived.Test.YtaeenkjbmlgcmaaZG
import Derived.Test.YtaeenkjbmlgcmaaResC
namespace Go.Proofs.Ytaeenkjbmlgcmaa
open Go.RowKit
set_option linter.unusedVariables false
set_option linter.unusedSimpArgs false
attribute [local go_sem ↓] loadRow loadGrid loadLawn loadMirror storeRow storeGrid storeLawn allocRow allocGrid allocLawn buildZero buildSides

theorem grownBy_setC (W : World) (a : Addr) (v : Value) : W.grownBy (W.setCell a v) (some a.block) :=
  ⟨rfl, rfl, rfl, (KeepsWalks.setCell W a v).size, fun k _ hk => Below.heap_setCell _ _ _ k (fun e => hk (by rw [e]))⟩

set_option maxRecDepth 100000 in
set_option maxHeartbeats 4000000 in
theorem implMeet_good (L : Lawn) (hL : L.Fits) (x y x2 y2 : Int) (hc : openC L x y x2 y2 = 0) (w : World) :
    Calls Try.prog 29 #[.agg L.cells, .agg #[.int .i8 x, .int .i8 y], .agg #[.int .i8 x2, .int .i8 y2]] w fun e w' => e = .returned (cellNN (meetR L x y x2 y2)) ∧ Below w.heap.size w w' := by
  obtain ⟨hv, ⟨hi, hi2⟩, ho, ho2⟩ := openC_zero hc
  have hCO := checkOpen_two L hL x y x2 y2
  rw [hc] at hCO
  have HCO := Lib.hid hCO
  have HSA := Lib.hid (fun w => steps_any L 78 (openP L) (fun args w => pass_isOpen L args w) (fun x y w => isOpen_any L hv hL x y w) (openP_near hv) (x, y) ho w)
  have HSB := Lib.hid (fun w => steps_any L 78 (openP L) (fun args w => pass_isOpen L args w) (fun x y w => isOpen_any L hv hL x y w) (openP_near hv) (x2, y2) ho2 w)
  have hgA := found_good (pass := openP L) (s := (x, y)) ho 100
  have hlA := good_length (openP_near hv) hgA
  have HBA := fun u v => steps_bound hv (s := (x, y)) ho u v
  have HBB := fun u v => steps_bound hv (s := (x2, y2)) ho2 u v
  have HLA := fun c => steps_look hv (s := (x, y)) ho c
  have HLB := fun c => steps_look hv (s := (x2, y2)) ho2 c
  have HKS := keys_sorted hv (s := (x, y)) ho
  have HR : meetR L x y x2 y2 = (if (meetL (found (openP L) (x, y) 100) (found (openP L) (x2, y2) 100) (allP L)).2 < 0 then ((0, 0), 0, 6)
     else ((meetL (found (openP L) (x, y) 100) (found (openP L) (x2, y2) 100) (allP L)).1, (meetL (found (openP L) (x, y) 100) (found (openP L) (x2, y2) 100) (allP L)).2, 0)) := by unfold meetR; rw [if_pos hc]
  obtain ⟨FA, hFA⟩ : ∃ FA, found (openP L) (x, y) 100 = FA := ⟨_, rfl⟩
  obtain ⟨FB, hFB⟩ : ∃ FB, found (openP L) (x2, y2) 100 = FB := ⟨_, rfl⟩
  simp only [hFA, hFB] at HSA HSB hlA HBA HBB HLA HLB HKS HR
  have HKN : ∀ c ∈ allP L, (-128 ≤ c.1 ∧ c.1 ≤ 127) ∧ -128 ≤ c.2 ∧ c.2 ≤ 127 := by
    intro c hc
    unfold allP at hc
    obtain ⟨d, -, rfl⟩ := List.mem_map.1 hc
    obtain ⟨W, H, hW, hH, hLw, hLh⟩ := valid_sides hv
    have := ptOf_near (W := L.wide.toNat) (H := L.high.toNat) (by omega) (by omega) d
    omega
  obtain ⟨KS, hKS⟩ : ∃ KS, sortC (FA.map (·.1)) = KS := ⟨_, rfl⟩
  have hKL : KS.length = FA.length := by rw [← hKS, (sortC_perm _).length_eq, List.length_map]
  rw [hKS] at HKS
  have HMF : meetL FA FB KS = meetL FA FB (allP L) := by rw [HKS]; exact meet_filter _ _
  have HKIN : ∀ c ∈ KS, 0 ≤ stepsAt FA c.1 c.2 := by
    intro c hc
    rw [HKS] at hc
    simpa using (List.mem_filter.1 hc).2
  rw [← HMF] at HR
  obtain ⟨R, hR⟩ : ∃ R, meetR L x y x2 y2 = R := ⟨_, rfl⟩
  rw [hR] at HR ⊢
  have HOR := Lib.hid (fun (b : Nat) (w : World) (hm : MapIs w b cellK valI FA) => (hKS ▸ ordered_any b FA hlA w hm : Calls _ _ _ _ fun e w' => (∃ v, e = .returned v ∧ w'.ownsRow w.heap.size 37 2 v FA.length (flatP KS)) ∧ Below w.heap.size w w'))
  have HBA' := Lib.hid HBA
  have HBB' := Lib.hid HBB
  have HLA' := Lib.hid HLA
  have HLB' := Lib.hid HLB
  have HRR := Lib.hid HR
  have HKL := Lib.hid hKL
  have HKI := Lib.hid HKIN
  have hlA' := Lib.hid hlA
  clear HBA HBB HLA HLB HR hKL HKIN HKN HKS HMF hKS hR hFA hFB hgA hlA hCO hc hi hi2 ho ho2 hv hL
  obtain ⟨W0, hW0⟩ : ∃ W0, ((((w.alloc (.cells L.cells 29)).alloc (.cells #[.int .i8 x, .int .i8 y] 37)).alloc (.cells #[.int .i8 x2, .int .i8 y2] 37)).alloc (.cells #[.int .i8 0, .int .i8 0] 37)).alloc (.cells #[.int .i8 x, .int .i8 y, .int .i8 x2, .int .i8 y2] 37) = W0 := ⟨_, rfl⟩
  obtain ⟨s, hs⟩ : ∃ s, w.heap.size = s := ⟨_, rfl⟩
  have g0 : Holds W0 s L.cells := by rw [← hW0, ← hs]; exact ((((Holds.new _ _ _).alloc _).alloc _).alloc _).alloc _
  have g1 : Holds W0 (s + 1) #[.int .i8 x, .int .i8 y] := by rw [← hW0, ← hs]; exact (((Holds.new' _ _ _ _ (by simp)).alloc _).alloc _).alloc _
  have g2 : Holds W0 (s + 1 + 1) #[.int .i8 x2, .int .i8 y2] := by rw [← hW0, ← hs]; exact ((Holds.new' _ _ _ _ (by simp)).alloc _).alloc _
  have g3 : Holds W0 (s + 1 + 1 + 1) #[.int .i8 0, .int .i8 0] := by rw [← hW0, ← hs]; exact (Holds.new' _ _ _ _ (by simp)).alloc _
  have g4 : Holds W0 (s + 1 + 1 + 1 + 1) #[.int .i8 x, .int .i8 y, .int .i8 x2, .int .i8 y2] := by rw [← hW0, ← hs]; exact Holds.new' _ _ _ _ (by simp)
  have hb0 : Below s w W0 := by rw [← hW0, ← hs]; exact (((((Below.refl w.heap.size w).alloc (Nat.le_refl _) _).alloc (by simp) _).alloc (by simp; omega) _).alloc (by simp; omega) _).alloc (by simp; omega) _
  have rr := ((((Holds.new w L.cells 29).alloc (.cells #[.int .i8 x, .int .i8 y] 37)).alloc (.cells #[.int .i8 x2, .int .i8 y2] 37)).alloc (.cells #[.int .i8 0, .int .i8 0] 37)).row
  go_enter Try.func29, Try.ntmps29
  go_wp2_with fail
  try rw [hW0]
  try simp only [hs]
  clear hW0 rr
  have HS := Lib.hid hs
  refine (HCO.out _ _ g4).mono ?_
  rintro e w1 ⟨rfl, hb1⟩
  have k0 := g0.below hb1 g0.lt
  have k1 := g1.below hb1 g1.lt
  have k2 := g2.below hb1 g2.lt
  have k3 := g3.below hb1 g3.lt
  have hb2 := hb0.trans (hb1.mono (by have := g4.lt; omega))
  have hsz : s + 1 + 1 + 1 + 1 < w1.heap.size := (g4.below hb1 g4.lt).lt
  clear g0 g1 g2 g3 g4 hb0 hb1 HCO hs
  go_wp2_with fail
  have HX := Lib.hid (show ∀ w', Below w1.heap.size w1 w' → rowAt w' s = L.cells ∧ w'.cell? ⟨s + 1, 0, none⟩ = some (.int .i8 x) ∧ w'.cell? ⟨s + 1, 1, none⟩ = some (.int .i8 y) ∧ w'.cell? ⟨s + 1 + 1, 0, none⟩ = some (.int .i8 x2) ∧ w'.cell? ⟨s + 1 + 1, 1, none⟩ = some (.int .i8 y2) from fun w' hw' => by
    have q0 := k0.below hw' k0.lt
    have q1 := k1.below hw' k1.lt
    have q2 := k2.below hw' k2.lt
    exact ⟨q0.row, q1.cell 0, q1.cell 1, q2.cell 0, q2.cell 1⟩)
  have HSZ := Lib.hid hsz
  refine wp_region_growV2 9 3 7 [8] (fun p w' => ∃ b, p = .map (some b) ∧ s + 1 + 1 + 1 + 1 < b ∧ MapIs w' b cellK valI FA) (fun p w' => ∃ b, p = .map (some b) ∧ s + 1 + 1 + 1 + 1 < b ∧ MapIs w' b cellK valI FB) (fun p w1 w2 ⟨b, h1, h2, h3⟩ hb => ⟨b, h1, h2, h3.below hb h3.lt⟩) (fun p w1 w2 ⟨b, h1, h2, h3⟩ hb => ⟨b, h1, h2, h3.below hb h3.lt⟩)
    (fun p q => [.agg #[.int .i8 x, .int .i8 y], .agg L.cells, .func (.func 78) #[.agg L.cells] #[], p, .agg #[.int .i8 x2, .int .i8 y2], .agg L.cells, .func (.func 78) #[.agg L.cells] #[], q, p]) (by
      intro p q p' q' j h1 h2 h3
      match j with
      | 0 => rfl
      | 1 => rfl
      | 2 => rfl
      | 3 => exact absurd rfl h1
      | 4 => rfl
      | 5 => rfl
      | 6 => rfl
      | 7 => exact absurd rfl h2
      | 8 => simp at h3
      | j + 9 => rfl) (fun p q => rfl) (fun p q => rfl) (by kernel_rfl) (by kernel_rfl) (by kernel_rfl) ?_
  intro p q
  simp only [List.take_succ_cons, List.take_zero, List.drop_succ_cons, List.drop_zero]
  iterate 3
    refine seqV2_free rfl rfl rfl rfl rfl ?_ ?_
    · intro w' hw' K hK
      obtain ⟨f0, f1, f2, f3, f4⟩ := HX.out _ hw'
      go_wp2_with fail
      exact hK _ _ rfl (Below.refl _ _)
    simp only [Act.put, List.setIfInBounds_toArray, List.set_cons_succ, List.set_cons_zero]
  refine seqV2_call rfl rfl rfl ?_ ?_
  · intro w' hw' K hK
    go_wp2_with fail
    refine (HSA.out _).mono ?_
    rintro e w4 ⟨⟨b, rfl, hbl, hm⟩, hb4⟩
    exact hK _ _ _ rfl hb4 ⟨b, rfl, by have := hw'.size; have := HSZ.out; omega, hm⟩
  simp only [Act.put, List.setIfInBounds_toArray, List.set_cons_succ, List.set_cons_zero]
  iterate 3
    refine seqV2_free rfl rfl rfl rfl rfl ?_ ?_
    · intro w' hw' K hK
      obtain ⟨f0, f1, f2, f3, f4⟩ := HX.out _ hw'
      go_wp2_with fail
      exact hK _ _ rfl (Below.refl _ _)
    simp only [Act.put, List.setIfInBounds_toArray, List.set_cons_succ, List.set_cons_zero]
  refine seqV2_call2 rfl rfl rfl rfl ?_ ?_
  · intro w' hw' K hK
    go_wp2_with fail
    refine (HSB.out _).mono ?_
    rintro e w4 ⟨⟨b, rfl, hbl, hm⟩, hb4⟩
    exact hK _ _ _ rfl hb4 ⟨b, rfl, by have := hw'.size; have := HSZ.out; omega, hm⟩
  simp only [Act.put, List.setIfInBounds_toArray, List.set_cons_succ, List.set_cons_zero]
  refine seqV2_dep rfl rfl rfl rfl rfl ?_ ?_
  · intro w' hw' _ _ K hK
    go_wp2_with fail
    exact hK _ _ rfl (Below.refl _ _)
  simp only [Act.put, List.setIfInBounds_toArray, List.set_cons_succ, List.set_cons_zero]
  refine seqV2_nil ?_
  rintro w2 hsz2 hbw ⟨ba, rfl, hba, ma⟩ ⟨bb, rfl, hbb, mb⟩
  have q3 := k3.below hbw k3.lt
  have hb3 := hb2.trans (hbw.mono (by omega))
  clear HX HSZ k0 k1 k2 k3 hb2 hbw
  have qa := ma.alloc (.cells #[.int .i8 0, .int .i8 0] 37)
  have qb := mb.alloc (.cells #[.int .i8 0, .int .i8 0] 37)
  have q4 := Holds.new w2 #[.int .i8 0, .int .i8 0] 37
  have q5 := q3.alloc (.cells #[.int .i8 0, .int .i8 0] 37)
  have hb4 := hb3.alloc (by have := q3.lt; omega) (.cells #[.int .i8 0, .int .i8 0] 37)
  have hau := ma.lt
  have hbu := mb.lt
  clear q3 hb3 ma mb
  obtain ⟨u, hu⟩ : ∃ u, w2.heap.size = u := ⟨_, rfl⟩
  obtain ⟨W3, hW3⟩ : ∃ W3, w2.alloc (.cells #[.int .i8 0, .int .i8 0] 37) = W3 := ⟨_, rfl⟩
  have hsz3 : W3.heap.size = u + 1 := by rw [← hW3, ← hu]; simp
  rw [hu] at q4 hau hbu
  rw [hW3] at qa qb q4 q5 hb4
  go_wp2_with fail
  try rw [hW3]
  try simp only [hu]
  clear hW3 hu
  refine (HOR.out _ _ qa).mono ?_
  rintro e w3 ⟨⟨v, rfl, ho⟩, hb5⟩
  rw [hsz3] at ho
  have ja := qa.below hb5 (by omega)
  have jb := qb.below hb5 (by omega)
  have j4 := q4.below hb5 (by omega)
  have j5 := q5.below hb5 q5.lt
  have hsu := q5.lt
  have hb6 := hb4.trans (hb5.mono (by omega))
  clear qa qb q4 q5 hb4 hb5 HOR
  obtain ⟨aA, cA, rfl⟩ := own_slice ho
  obtain ⟨N, hN⟩ : ∃ N, FA.length = N := ⟨_, rfl⟩
  rw [hN] at ho HKL hlA' ⊢
  have HO := Lib.hid ho
  clear ho hN
  go_wp2_with fail
  go_loopw [13, 15, 16, 17, 18, 39] (fun t _ _ _ _ i wr => ∃ (bx bz z : Int) (k : Nat), k ≤ N ∧ i = .int .i64 k ∧ t = .int .i64 z ∧ meetL FA FB (KS.take k) = ((bx, bz), z) ∧ Holds wr u #[.int .i8 bx, .int .i8 bz] ∧ Holds wr (s + 1 + 1 + 1) #[.int .i8 0, .int .i8 0] ∧ MapIs wr ba cellK valI FA ∧ MapIs wr bb cellK valI FB ∧ wr.ownsRow (u + 1) 37 2 (.slice aA N cA) N (flatP KS) ∧ Below s w wr) (fun _ _ _ _ _ i _ => N - (intOf i).toNat)
  case atStart => exact ⟨0, 0, -1, 0, by omega, rfl, rfl, rfl, j4, j5, ja, jb, HO.out, hb6⟩
  case round =>
    obtain ⟨bx, bz, z, k, hk, rfl, rfl, hM, r4, r5, ra, rb, ro, hb⟩ := hrel
    have HM := Lib.hid hM
    have HRO := Lib.hid ro
    clear j4 j5 ja jb HO hb6 ro hM
    have hN100 := hlA'.out
    by_cases hlt : k < N
    · have hd : decide ((k : Int) < (N : Int)) = true := by simp; omega
      obtain ⟨c, hq⟩ : ∃ c, KS[k]? = some c := ⟨_, List.getElem?_eq_getElem (by rw [HKL.out]; exact hlt)⟩
      have hm0 := HKI.out c (List.mem_of_getElem? hq)
      have hstep : meetL FA FB (KS.take (k + 1)) = meetStep FA FB ((bx, bz), z) c := by rw [List.take_add_one, hq, ← HM.out]; exact meetL_snoc _ _ _ _
      obtain ⟨ga, cap, he, hBg, hgw⟩ := own_form HRO.out (by omega)
      simp only [Value.slice.injEq] at he
      obtain ⟨rfl, -, rfl⟩ := he
      obtain ⟨cx, cy⟩ := c
      have e0 : wr.cell? ⟨ga, k * 2, none⟩ = some (.int .i8 cx) := by
        have := flatP_at KS k 0 (by omega)
        rw [hq] at this
        exact own_cell HRO.out _ _ this
      have e1 : wr.cell? ⟨ga, k * 2 + 1, none⟩ = some (.int .i8 cy) := by
        have := flatP_at KS k 1 (by omega)
        rw [hq] at this
        exact own_cell HRO.out _ _ this
      obtain ⟨m, hm⟩ : ∃ m, stepsAt FA cx cy = m := ⟨_, rfl⟩
      obtain ⟨n, hn⟩ : ∃ n, stepsAt FB cx cy = n := ⟨_, rfl⟩
      obtain ⟨mx, hmx⟩ : ∃ mx, maxZ m n = mx := ⟨_, rfl⟩
      have hmb := HBA'.out cx cy
      have hnb := HBB'.out cx cy
      have hla := HLA'.out (cx, cy)
      have hlb := HLB'.out (cx, cy)
      unfold meetStep at hstep
      dsimp only at hm0 hla hlb hstep
      rw [hm, hn, hmx] at hstep
      rw [hm] at hm0 hmb hla
      rw [hn] at hnb hlb
      obtain ⟨W4, hW4⟩ : ∃ W4, wr.alloc (.cells #[.int .i8 cx, .int .i8 cy] 37) = W4 := ⟨_, rfl⟩
      have n4 := r4.alloc (.cells #[.int .i8 cx, .int .i8 cy] 37)
      have n5 := r5.alloc (.cells #[.int .i8 cx, .int .i8 cy] 37)
      have na := ra.alloc (.cells #[.int .i8 cx, .int .i8 cy] 37)
      have nb := rb.alloc (.cells #[.int .i8 cx, .int .i8 cy] 37)
      have no := HRO.out.alloc (.cells #[.int .i8 cx, .int .i8 cy] 37)
      have nc := Holds.new wr #[.int .i8 cx, .int .i8 cy] 37
      have nB := hb.alloc (by have := r5.lt; omega) (.cells #[.int .i8 cx, .int .i8 cy] 37)
      have hul := r4.lt
      have lkA := (na.look cellKey Try.underlying112 zero64 (cx, cy)).1
      have lkB := (nb.look cellKey Try.underlying112 zero64 (cx, cy)).2
      rw [hla.2 hm0] at lkA
      rw [hlb.1] at lkB
      rw [hW4] at n4 n5 na nb no nc nB lkA lkB
      have NO := Lib.hid no
      have HST := Lib.hid hstep
      have HMX := Lib.hid hmx
      have c0 : W4.cell? ⟨wr.heap.size, 0, none⟩ = some (.int .i8 cx) := nc.cell 0
      have c1 : W4.cell? ⟨wr.heap.size, 1, none⟩ = some (.int .i8 cy) := nc.cell 1
      clear r4 r5 ra rb hq hm hn hmx hb hgw no hstep hla nc
      simp only [cellK, cellV, valI] at lkA lkB
      by_cases hn0 : 0 ≤ n
      · rw [hlb.2 hn0] at lkB
        have hdn : decide (0 ≤ n) = true := decide_eq_true hn0
        rw [hdn] at lkB
        have hmx2 : max m n = mx := HMX.out
        clear hlb hdn
        by_cases hz : z < 0 ∨ mx < z
        · have hS2 : meetL FA FB (KS.take (k + 1)) = ((cx, cy), mx) := by rw [HST.out, if_pos ⟨hm0, hn0, hz⟩]
          have HS2 := Lib.hid hS2
          have hdz : decide (z < 0) = true ∨ (decide (z < 0) = false ∧ decide (mx < z) = true) := by
            by_cases h : z < 0
            · exact .inl (decide_eq_true h)
            · exact .inr ⟨decide_eq_false h, decide_eq_true (hz.resolve_left h)⟩
          obtain ⟨-, -, c2, z2, l2⟩ := n4.facts
          clear hS2 hnb hmb hz
          rcases hdz with hdz | ⟨hdz, hdm⟩
          all_goals
            go_wp2_with fail
            exact ⟨⟨cx, cy, mx, k + 1, by omega, by go_num, rfl, HS2.out, (n4.setCell 0 (.int .i8 cx)).setCell 1 (.int .i8 cy), (n5.setCell_other _ _ (by dsimp only; omega)).setCell_other _ _ (by dsimp only; omega), (na.setCell _ _ (by dsimp only; omega)).setCell _ _ (by dsimp only; omega), (nb.setCell _ _ (by dsimp only; omega)).setCell _ _ (by dsimp only; omega), (NO.out.kept (grownBy_setC _ ⟨u, 0, none⟩ _) (.inr (by simp [Value.ownBlock]; omega))).kept (grownBy_setC _ ⟨u, 1, none⟩ _) (.inr (by simp [Value.ownBlock]; omega)), (nB.setCell (p := ⟨u, 0, none⟩) (by dsimp only; omega) _).setCell (p := ⟨u, 1, none⟩) (by dsimp only; omega) _⟩, by simp [intOf]; omega⟩
        · have hS2 : meetL FA FB (KS.take (k + 1)) = ((bx, bz), z) := by rw [HST.out, if_neg (fun h => hz h.2.2)]
          have HS2 := Lib.hid hS2
          have hdz : decide (z < 0) = false := decide_eq_false (fun h => hz (.inl h))
          have hdm : decide (mx < z) = false := decide_eq_false (fun h => hz (.inr h))
          clear hS2 hnb hmb hz
          go_wp2_with fail
          exact ⟨⟨bx, bz, z, k + 1, by omega, by go_num, rfl, HS2.out, n4, n5, na, nb, NO.out, nB⟩, by simp [intOf]; omega⟩
      · have hS2 : meetL FA FB (KS.take (k + 1)) = ((bx, bz), z) := by rw [HST.out, if_neg (fun h => hn0 h.2.1)]
        have HS2 := Lib.hid hS2
        have hdn : decide (0 ≤ n) = false := decide_eq_false hn0
        rw [hdn] at lkB
        obtain ⟨nx, hnx⟩ : ∃ nx, (alLook FB (cx, cy)).getD 0 = nx := ⟨_, rfl⟩
        rw [hnx] at lkB
        obtain ⟨my, hmy⟩ : ∃ my, max m nx = my := ⟨_, rfl⟩
        clear hlb hdn hS2 hnx hnb hmb
        go_wp2_with fail
        exact ⟨⟨bx, bz, z, k + 1, by omega, by go_num, rfl, HS2.out, n4, n5, na, nb, NO.out, nB⟩, by simp [intOf]; omega⟩
    · have hd : decide ((k : Int) < (N : Int)) = false := by simp; omega
      have htk : KS.take k = KS := List.take_of_length_le (by rw [HKL.out]; omega)
      have hM := HM.out
      rw [htk] at hM
      have hR := HRR.out
      rw [hM] at hR
      dsimp only at hR
      obtain ⟨-, -, c2, z2, l2⟩ := r5.facts
      have c0 : wr.cell? ⟨u, 0, none⟩ = some (.int .i8 bx) := r4.cell 0
      have c1 : wr.cell? ⟨u, 1, none⟩ = some (.int .i8 bz) := r4.cell 1
      have HSS := HS.out
      clear hM htk ra rb HRO HSA HSB
      by_cases hz : z < 0
      · rw [if_pos hz] at hR
        have hdz : decide (z < 0) = true := decide_eq_true hz
        have HRF := Lib.hid hR
        have v1 := (r5.setCell 0 (.int .i8 0)).setCell 1 (.int .i8 0)
        have hb3 := (hb.setCell (p := ⟨s + 1 + 1 + 1, 0, none⟩) (by dsimp only; omega) (.int .i8 0)).setCell (p := ⟨s + 1 + 1 + 1, 1, none⟩) (by dsimp only; omega) (.int .i8 0)
        clear hR hb r5
        go_wp2_with fail
        exact bodyPost_ret (results_cell_nn (n := 2) (p := 6) (u := 7) (v := 8) rfl (by kernel_rfl) _ rfl rfl rfl v1 rfl) rfl ⟨by rw [HRF.out]; rfl, HSS ▸ hb3⟩
      · rw [if_neg hz] at hR
        have hdz : decide (z < 0) = false := decide_eq_false hz
        have HRF := Lib.hid hR
        have v1 := (r5.setCell 0 (.int .i8 bx)).setCell 1 (.int .i8 bz)
        have hb3 := (hb.setCell (p := ⟨s + 1 + 1 + 1, 0, none⟩) (by dsimp only; omega) (.int .i8 bx)).setCell (p := ⟨s + 1 + 1 + 1, 1, none⟩) (by dsimp only; omega) (.int .i8 bz)
        clear hR hb r5
        go_wp2_with fail
        exact bodyPost_ret (results_cell_nn (n := 2) (p := 6) (u := 7) (v := 8) rfl (by kernel_rfl) _ rfl rfl rfl v1 rfl) rfl ⟨by rw [HRF.out]; rfl, HSS ▸ hb3⟩

set_option maxRecDepth 100000 in
set_option maxHeartbeats 1000000 in
theorem implMeet_any (L : Lawn) (hL : L.Fits) (x y x2 y2 : Int) (w : World) :
    Calls Try.prog 29 #[.agg L.cells, .agg #[.int .i8 x, .int .i8 y], .agg #[.int .i8 x2, .int .i8 y2]] w fun e w' => e = .returned (cellNN (meetR L x y x2 y2)) ∧ Below w.heap.size w w' := by
  by_cases hc : openC L x y x2 y2 = 0
  · exact implMeet_good L hL x y x2 y2 hc w
  have HR : meetR L x y x2 y2 = ((0, 0), 0, openC L x y x2 y2) := by unfold meetR; rw [if_neg hc]
  have hCO := checkOpen_two L hL x y x2 y2
  rw [HR]
  obtain ⟨C, hC⟩ : ∃ C, openC L x y x2 y2 = C := ⟨_, rfl⟩
  rw [hC] at hCO hc ⊢
  have HCO := Lib.hid hCO
  have hcd : (C != 0) = true := by simpa using hc
  clear hCO HR hC hc hL
  obtain ⟨W0, hW0⟩ : ∃ W0, ((((w.alloc (.cells L.cells 29)).alloc (.cells #[.int .i8 x, .int .i8 y] 37)).alloc (.cells #[.int .i8 x2, .int .i8 y2] 37)).alloc (.cells #[.int .i8 0, .int .i8 0] 37)).alloc (.cells #[.int .i8 x, .int .i8 y, .int .i8 x2, .int .i8 y2] 37) = W0 := ⟨_, rfl⟩
  obtain ⟨s, hs⟩ : ∃ s, w.heap.size = s := ⟨_, rfl⟩
  have g3 : Holds W0 (s + 1 + 1 + 1) #[.int .i8 0, .int .i8 0] := by rw [← hW0, ← hs]; exact (Holds.new' _ _ _ _ (by simp)).alloc _
  have g4 : Holds W0 (s + 1 + 1 + 1 + 1) #[.int .i8 x, .int .i8 y, .int .i8 x2, .int .i8 y2] := by rw [← hW0, ← hs]; exact Holds.new' _ _ _ _ (by simp)
  have hb0 : Below s w W0 := by rw [← hW0, ← hs]; exact (((((Below.refl w.heap.size w).alloc (Nat.le_refl _) _).alloc (by simp) _).alloc (by simp; omega) _).alloc (by simp; omega) _).alloc (by simp; omega) _
  have rr := ((((Holds.new w L.cells 29).alloc (.cells #[.int .i8 x, .int .i8 y] 37)).alloc (.cells #[.int .i8 x2, .int .i8 y2] 37)).alloc (.cells #[.int .i8 0, .int .i8 0] 37)).row
  go_enter Try.func29, Try.ntmps29
  go_wp2_with fail
  try rw [hW0]
  try simp only [hs]
  clear hW0 rr
  refine (HCO.out _ _ g4).mono ?_
  rintro e w1 ⟨rfl, hb1⟩
  have k3 := g3.below hb1 g3.lt
  have hb2 := hb0.trans (hb1.mono (by have := g4.lt; omega))
  have HS := Lib.hid hs
  clear g3 g4 hb0 hb1 HCO hs
  obtain ⟨-, -, c2, z2, l2⟩ := k3.facts
  have v1 := (k3.setCell 0 (.int .i8 0)).setCell 1 (.int .i8 0)
  have hb3 := (hb2.setCell (p := ⟨s + 1 + 1 + 1, 0, none⟩) (by dsimp only; omega) (.int .i8 0)).setCell (p := ⟨s + 1 + 1 + 1, 1, none⟩) (by dsimp only; omega) (.int .i8 0)
  clear k3 hb2
  go_wp2_with fail
  exact bodyPost_ret (results_cell_nn (n := 2) (p := 6) (u := 7) (v := 8) rfl (by kernel_rfl) _ rfl rfl rfl v1 rfl) rfl ⟨rfl, HS.out ▸ hb3⟩
end Go.Proofs.Ytaeenkjbmlgcmaa
