/- NightOf of the program. -/
import Derived.Test.YteaajkkhbflmdaaDoorNightF
namespace Go.Proofs.YteaajkkhbflmdaaDoor
open Go.RowKit Go.Shelf
set_option linter.unusedVariables false
set_option linter.unusedSimpArgs false

set_option maxRecDepth 100000 in
theorem indexC_cut (ga o H cv : Nat) (hH : H ≤ 2000000) (ps : List Pt) (hl : ps.length = H) (x y : Int) (w : World) (ho : ∀ w', Below w.heap.size w w' → ∀ (k : Nat) (z : Pt), ps[k]? = some z → w'.cell? ⟨ga, o + k * 2, none⟩ = some (.int .i8 z.1) ∧ w'.cell? ⟨ga, o + k * 2 + 1, none⟩ = some (.int .i8 z.2)) :
    Calls Tryd.prog 45 #[.slice (some ⟨ga, o, none⟩) H cv, .agg #[.int .i8 x, .int .i8 y]] w fun e w' => e = .returned (.int .i64 (idxP ps (x, y))) ∧ Below w.heap.size w w' := by
  have HO := Lib.hid ho
  have HL := Lib.hid hl
  clear ho hl
  go_enter Tryd.func45, Tryd.ntmps45
  go_wp2_with fail
  obtain ⟨W0, hW0⟩ : ∃ W0, w.alloc (.cells #[.int .i8 x, .int .i8 y] 39) = W0 := ⟨_, rfl⟩
  have hb0 : Below w.heap.size w W0 := by rw [← hW0]; exact (Below.refl _ _).alloc (Nat.le_refl _) _
  have g0 : Holds W0 w.heap.size #[.int .i8 x, .int .i8 y] := by rw [← hW0]; exact Holds.new _ _ _
  rw [hW0]
  clear hW0
  go_loopw [8] (fun i wr => ∃ k : Nat, k ≤ H ∧ i = .int .i64 k ∧ (∀ j z, j < k → ps[j]? = some z → z ≠ (x, y)) ∧ Below W0.heap.size W0 wr) (fun i _ => H - (intOf i).toNat)
  case atStart => exact ⟨0, by omega, rfl, fun j z h _ => by omega, Below.refl _ _⟩
  case round =>
    obtain ⟨k, hk, rfl, hall, hb⟩ := hrel
    have HA := Lib.hid hall
    have hb1 := below_onto hb0 hb
    have g1 := g0.below hb g0.lt
    clear hall
    obtain ⟨-, -, c1, -, l1⟩ := g1.facts
    have c10 := (c1 0).trans (show _ = some (.int .i8 x) from rfl)
    have c11 := (c1 1).trans (show _ = some (.int .i8 y) from rfl)
    clear c1
    by_cases hlt : k < H
    · have hd : decide ((k : Int) < (H : Int)) = true := by simp; omega
      obtain ⟨⟨zx, zy⟩, hzk⟩ : ∃ z, ps[k]? = some z := ⟨_, List.getElem?_eq_getElem (by rw [HL.out]; omega)⟩
      obtain ⟨e1, e2⟩ := HO.out _ hb1 k _ hzk
      dsimp only at e1 e2
      have HZK := Lib.hid hzk
      clear hzk
      by_cases hxy : (zx, zy) = (x, y)
      · simp only [Prod.mk.injEq] at hxy
        obtain ⟨hx, hy⟩ := hxy
        rw [hx, hy] at HZK
        rw [hx] at e1
        rw [hy] at e2
        have HF := Lib.hid (idxP_at HZK.out HA.out)
        clear hx hy
        go_wp2_with fail
        go_region
        go_wp2_with fail
        go_ret
        exact ⟨by rw [HF.out]; rfl, hb1.drew⟩
      · have HNE := Lib.hid (show ∀ j z, j < k + 1 → ps[j]? = some z → z ≠ (x, y) from fun j z hj hz => by
          by_cases e : j = k
          · subst e; rw [HZK.out] at hz; cases hz; exact hxy
          · exact HA.out j z (by omega) hz)
        simp only [Prod.mk.injEq] at hxy
        by_cases hx : x = zx
        · have hy : ¬ y = zy := fun h => hxy ⟨hx.symm, h.symm⟩
          rw [← hx] at e1
          clear hx hxy
          go_wp2_with fail
          go_region
          go_wp2_with fail
          go_roundw
          case rel => exact ⟨k + 1, by omega, by go_num, HNE.out, hb.drew⟩
          case measure => simp [intOf]; omega
        · clear hxy
          go_wp2_with fail
          go_region
          go_wp2_with fail
          go_roundw
          case rel => exact ⟨k + 1, by omega, by go_num, HNE.out, hb.drew⟩
          case measure => simp [intOf]; omega
    · have hd : decide ((k : Int) < (H : Int)) = false := by simp; omega
      have hkH : k = H := by omega
      have HF := Lib.hid (idxP_none (c := (x, y)) fun j z hj hz => HA.out j z (by rw [HL.out] at hj; omega) hz)
      go_wp2_with fail
      go_ret
      exact ⟨by rw [HF.out]; rfl, hb1⟩


theorem idxP_range (l : List Pt) (c : Pt) : -1 ≤ idxP l c ∧ idxP l c < l.length := by
  unfold idxP
  cases h : l.findIdx? (· == c) with
  | none => simp only; omega
  | some k =>
    have := (List.findIdx?_eq_some_iff_getElem.1 h).1
    simp only
    omega

section
attribute [local go_sem ↓] loadRow loadGrid loadLawn loadMirror storeRow storeGrid storeLawn allocRow allocGrid allocLawn buildZero buildSides loadR8 loadL8 loadLv storeR8 storeLv allocR8 allocLv buildZLv

set_option maxRecDepth 100000 in
set_option maxHeartbeats 4000000 in
theorem inightOf_bad (L : Lawn) (hL : L.Fits) (g : Nat → Nat → Int) (x y x' y' : Int) (k : Nat) (hk : chkE L g true [(x, y), (x', y')] = some k) {a0 a1 a2 a3 a4 : Addr} (w : World) (hE : ErrsIn w a0 a1 a2 a3 a4) :
    Calls Tryd.prog 29 #[.agg L.cells, .agg (levV g), .agg #[.int .i8 x, .int .i8 y], .agg #[.int .i8 x', .int .i8 y']] w fun e w' => e = .returned (.tuple #[.int .i64 0, .int .i64 (errZ k)]) ∧ Below w.heap.size w w' := by
  obtain ⟨s, hs⟩ : ∃ s, w.heap.size = s := ⟨_, rfl⟩
  obtain ⟨aE, hv, hco⟩ := chk_code (a0 := a0) (a1 := a1) (a2 := a2) (a3 := a3) (a4 := a4) hk
  have HCK := Lib.hid (show ∀ (w : World) (B : Nat) (v : Value), ErrsIn w a0 a1 a2 a3 a4 → w.ownsRow B 39 2 v 2 (flatP [(x, y), (x', y')]) → Calls Tryd.prog 41 #[.agg L.cells, .agg (levV g), .int .i64 60, v] w fun e w' => e = .returned (.iface 137 (.pointer (some aE))) ∧ Below w.heap.size w w' from fun w B v hE ho => by
    have h := checkMoles_any L hL g 60 B 2 v (by omega) [(x, y), (x', y')] rfl w hE ho
    rwa [show upZ 60 60 = true from rfl, hk, hv] at h)
  have HCO := Lib.hid hco
  obtain ⟨z, hz⟩ : ∃ z, errZ k = z := ⟨_, rfl⟩
  rw [hz] at HCO ⊢
  clear hL hk hv hco hz
  obtain ⟨W0, hW0⟩ : ∃ W0, (((w.alloc (.cells L.cells 36)).alloc (.cells (levV g) 33)).alloc (.cells #[.int .i8 x, .int .i8 y] 39)).alloc (.cells #[.int .i8 x', .int .i8 y'] 39) = W0 := ⟨_, rfl⟩
  have g0 : Holds W0 s L.cells := by rw [← hW0]; exact (((Holds.new' _ _ _ _ hs.symm).alloc _).alloc _).alloc _
  have g1 : Holds W0 (s + 1) (levV g) := by rw [← hW0]; exact ((Holds.new' _ _ _ _ (by simp <;> omega)).alloc _).alloc _
  have g2 : Holds W0 (s + 1 + 1) #[.int .i8 x, .int .i8 y] := by rw [← hW0]; exact (Holds.new' _ _ _ _ (by simp <;> omega)).alloc _
  have g3 : Holds W0 (s + 1 + 1 + 1) #[.int .i8 x', .int .i8 y'] := by rw [← hW0]; exact Holds.new' _ _ _ _ (by simp <;> omega)
  have hb : Below s w W0 := by rw [← hW0]; exact ((((Below.refl s w).alloc (by omega) _).alloc (by simp; omega) _).alloc (by simp; omega) _).alloc (by simp; omega) _
  have hE0 : ErrsIn W0 a0 a1 a2 a3 a4 := hE.below (hs.symm ▸ hb)
  have HE := Lib.hid hE0
  obtain ⟨r0, -, -, -, l0⟩ := g0.facts
  obtain ⟨r1, -, -, -, l1⟩ := g1.facts
  have l2 := g2.lt
  have l3 := g3.lt
  have c20 := (g2.cell 0).trans (show _ = some (.int .i8 x) from rfl)
  have c21 := (g2.cell 1).trans (show _ = some (.int .i8 y) from rfl)
  have c30 := (g3.cell 0).trans (show _ = some (.int .i8 x') from rfl)
  have c31 := (g3.cell 1).trans (show _ = some (.int .i8 y') from rfl)
  have k0 := g0.alloc (.cells #[.int .i8 x, .int .i8 y, .int .i8 x', .int .i8 y'] 39)
  have k1 := g1.alloc (.cells #[.int .i8 x, .int .i8 y, .int .i8 x', .int .i8 y'] 39)
  have k2 := g2.alloc (.cells #[.int .i8 x, .int .i8 y, .int .i8 x', .int .i8 y'] 39)
  have k3 := g3.alloc (.cells #[.int .i8 x, .int .i8 y, .int .i8 x', .int .i8 y'] 39)
  have HOW := Lib.hid (own_cell2 W0 x y x' y')
  have hbA : Below W0.heap.size W0 (W0.alloc (.cells #[.int .i8 x, .int .i8 y, .int .i8 x', .int .i8 y'] 39)) := (Below.refl _ _).alloc (Nat.le_refl _) _
  have hEA := hE0.below hbA
  clear g0 g1 g2 g3 hE hE0
  rw [hs]
  go_enter Tryd.func29, Tryd.ntmps29
  go_wp2_with fail
  try rw [hW0]
  clear hW0
  refine (HCK.out _ _ _ hEA HOW.out).mono ?_
  rintro e w1 ⟨rfl, hb1⟩
  have hbB := below_onto hbA hb1
  have hb2 : Below s w w1 := hb.trans (hbB.mono (by omega))
  have HE1 := Lib.hid (HE.out.below hbB)
  clear k0 k1 k2 k3 c20 c21 c30 c31 hb hb1 hbA hbB hEA r0 r1 l0 l1 l2 l3 HE HOW HCK
  go_wp2_with fail
  refine (HCO.out _ HE1.out).mono ?_
  rintro e w2 ⟨rfl, hw2⟩
  rw [hw2]
  clear hw2
  go_wp2_with fail
  go_ret2
  exact ⟨rfl, hb2⟩

set_option maxRecDepth 100000 in
set_option maxHeartbeats 4000000 in
theorem inightOf_good (L : Lawn) (hL : L.Fits) (g : Nat → Nat → Int) (hv : levB L g = true) (q t : Q10) (hq : grassP L (ptQ q) = true) (ht : grassP L (ptQ t) = true) {a0 a1 a2 a3 a4 : Addr} (w : World) (hE : ErrsIn w a0 a1 a2 a3 a4) :
    Calls Tryd.prog 29 #[.agg L.cells, .agg (levV g), .agg #[.int .i8 q.1.val, .int .i8 q.2.val], .agg #[.int .i8 t.1.val, .int .i8 t.2.val]] w fun e w' => e = .returned (.tuple #[.int .i64 (nfN (nightZ L g q t)), .int .i64 (nfC (nightZ L g q t))]) ∧ Below w.heap.size w w' := by
  obtain ⟨s, hs⟩ : ∃ s, w.heap.size = s := ⟨_, rfl⟩
  have HCK := Lib.hid (show ∀ (w : World) (B : Nat) (v : Value), ErrsIn w a0 a1 a2 a3 a4 → w.ownsRow B 39 2 v 2 (flatP [((q.1.val : Int), (q.2.val : Int)), ((t.1.val : Int), (t.2.val : Int))]) → Calls Tryd.prog 41 #[.agg L.cells, .agg (levV g), .int .i64 60, v] w fun e w' => e = .returned .nilIface ∧ Below w.heap.size w w' from fun w B v hE ho => by
    have h := checkMoles_any L hL g 60 B 2 v (by omega) [ptQ q, ptQ t] rfl w hE ho
    rwa [show upZ 60 60 = true from rfl, chkE_good hv (fun c hc => by
      simp only [List.mem_cons, List.not_mem_nil, or_false] at hc
      rcases hc with rfl | rfl
      · exact hq
      · exact ht)] at h)
  have HPN := Lib.hid (show ∀ w, Calls Tryd.prog 44 #[.agg (levV g), .agg #[.int .i8 q.1.val, .int .i8 q.2.val], .int .i64 60, .func (.func 42) #[.agg L.cells] #[]] w fun e w' => (∃ v, e = .returned (.tuple #[.agg (levV (stQ L g q 60).1), v]) ∧ w'.ownsRow w.heap.size 39 2 v (60 + 1) (flatV (pathQ L g q 60))) ∧ Below w.heap.size w w' from fun w => passNights_any L hL g hv q hq 60 (by omega) w)
  have hpl := pathQ_length L g q 60
  have HZD : Hid (nightZ L g q t = idxP (((pathQ L g q 60).drop 1).map ptQ) ((t.1.val : Int), (t.2.val : Int))) := Lib.hid rfl
  obtain ⟨P, hP⟩ : ∃ P, pathQ L g q 60 = P := ⟨_, rfl⟩
  obtain ⟨Z, hZ⟩ : ∃ Z, nightZ L g q t = Z := ⟨_, rfl⟩
  obtain ⟨G9, hG9⟩ : ∃ G9, (stQ L g q 60).1 = G9 := ⟨_, rfl⟩
  rw [hP] at HPN HZD hpl
  rw [hZ] at HZD ⊢
  rw [hG9] at HPN
  obtain ⟨q1, hq1'⟩ : ∃ k : Nat, q.1.val = k := ⟨_, rfl⟩
  obtain ⟨q2, hq2'⟩ : ∃ k : Nat, q.2.val = k := ⟨_, rfl⟩
  obtain ⟨t1, ht1'⟩ : ∃ k : Nat, t.1.val = k := ⟨_, rfl⟩
  obtain ⟨t2, ht2'⟩ : ∃ k : Nat, t.2.val = k := ⟨_, rfl⟩
  rw [hq1', hq2'] at HPN
  rw [hq1', hq2', ht1', ht2'] at HCK
  rw [ht1', ht2'] at HZD
  rw [hq1', hq2', ht1', ht2']
  have HPL := Lib.hid hpl
  clear hL hv hq ht hP hZ hG9 hq1' hq2' ht1' ht2' hpl
  obtain ⟨W0, hW0⟩ : ∃ W0, (((w.alloc (.cells L.cells 36)).alloc (.cells (levV g) 33)).alloc (.cells #[.int .i8 q1, .int .i8 q2] 39)).alloc (.cells #[.int .i8 t1, .int .i8 t2] 39) = W0 := ⟨_, rfl⟩
  have g0 : Holds W0 s L.cells := by rw [← hW0]; exact (((Holds.new' _ _ _ _ hs.symm).alloc _).alloc _).alloc _
  have g1 : Holds W0 (s + 1) (levV g) := by rw [← hW0]; exact ((Holds.new' _ _ _ _ (by simp <;> omega)).alloc _).alloc _
  have g2 : Holds W0 (s + 1 + 1) #[.int .i8 q1, .int .i8 q2] := by rw [← hW0]; exact (Holds.new' _ _ _ _ (by simp <;> omega)).alloc _
  have g3 : Holds W0 (s + 1 + 1 + 1) #[.int .i8 t1, .int .i8 t2] := by rw [← hW0]; exact Holds.new' _ _ _ _ (by simp <;> omega)
  have hb : Below s w W0 := by rw [← hW0]; exact ((((Below.refl s w).alloc (by omega) _).alloc (by simp; omega) _).alloc (by simp; omega) _).alloc (by simp; omega) _
  have hE0 : ErrsIn W0 a0 a1 a2 a3 a4 := hE.below (hs.symm ▸ hb)
  have HE := Lib.hid hE0
  obtain ⟨r0, -, -, -, l0⟩ := g0.facts
  obtain ⟨r1, -, -, -, l1⟩ := g1.facts
  have l2 := g2.lt
  have l3 := g3.lt
  have c20 := (g2.cell 0).trans (show _ = some (.int .i8 q1) from rfl)
  have c21 := (g2.cell 1).trans (show _ = some (.int .i8 q2) from rfl)
  have c30 := (g3.cell 0).trans (show _ = some (.int .i8 t1) from rfl)
  have c31 := (g3.cell 1).trans (show _ = some (.int .i8 t2) from rfl)
  have k0 := g0.alloc (.cells #[.int .i8 q1, .int .i8 q2, .int .i8 t1, .int .i8 t2] 39)
  have k1 := g1.alloc (.cells #[.int .i8 q1, .int .i8 q2, .int .i8 t1, .int .i8 t2] 39)
  have k2 := g2.alloc (.cells #[.int .i8 q1, .int .i8 q2, .int .i8 t1, .int .i8 t2] 39)
  have k3 := g3.alloc (.cells #[.int .i8 q1, .int .i8 q2, .int .i8 t1, .int .i8 t2] 39)
  have HOW := Lib.hid (own_cell2 W0 q1 q2 t1 t2)
  have hbA : Below W0.heap.size W0 (W0.alloc (.cells #[.int .i8 q1, .int .i8 q2, .int .i8 t1, .int .i8 t2] 39)) := (Below.refl _ _).alloc (Nat.le_refl _) _
  have hEA := hE0.below hbA
  clear g0 g1 g2 g3 hE hE0
  rw [hs]
  go_enter Tryd.func29, Tryd.ntmps29
  go_wp2_with fail
  try rw [hW0]
  clear hW0
  refine (HCK.out _ _ _ hEA HOW.out).mono ?_
  rintro e w1 ⟨rfl, hb1⟩
  have hbB := below_onto hbA hb1
  have hb2 : Below s w w1 := hb.trans (hbB.mono (by omega))
  have m0 := k0.below hb1 k0.lt
  have m1 := k1.below hb1 k1.lt
  have m2 := k2.below hb1 k2.lt
  have m3 := k3.below hb1 k3.lt
  clear k0 k1 k2 k3 c20 c21 c30 c31 hb hb1 hbA hbB hEA r0 r1 l0 l1 l2 l3 HE HOW HCK
  obtain ⟨r0, -, -, -, l0⟩ := m0.facts
  obtain ⟨r1, -, -, -, l1⟩ := m1.facts
  have l2 := m2.lt
  have c20 := (m2.cell 0).trans (show _ = some (.int .i8 q1) from rfl)
  have c21 := (m2.cell 1).trans (show _ = some (.int .i8 q2) from rfl)
  go_wp2_with fail
  refine (HPN.out _).mono ?_
  rintro e w2 ⟨⟨v, rfl, ho⟩, hb1⟩
  have n3 := m3.below hb1 m3.lt
  have hb3 : Below s w w2 := hb2.trans (hb1.mono (by have := hb2.size; omega))
  obtain ⟨ga, cap, rfl, hBg, hgw⟩ := own_form ho (by omega)
  have HO := Lib.hid ho
  have hcap : 61 ≤ cap := by
    rcases ho.2 with ⟨h1, -⟩ | ⟨g', cap', cur, he, -, -, hle, -⟩
    · simp at h1
    · simp only [Value.slice.injEq, Option.some.injEq, Addr.mk.injEq] at he
      obtain ⟨-, -, rfl⟩ := he
      exact hle
  clear ho m0 m1 m2 m3 r0 r1 l0 l1 l2 c20 c21 hb1 hb2 HPN
  go_wp2_with fail
  obtain ⟨W3, hW3⟩ : ∃ W3, w2.alloc (.cells (levV G9) 33) = W3 := ⟨_, rfl⟩
  have k3 : Holds W3 (s + 1 + 1 + 1) #[.int .i8 t1, .int .i8 t2] := by rw [← hW3]; exact n3.alloc _
  have HO3 : Hid (W3.ownsRow w1.heap.size 39 2 (.slice (some ⟨ga, 0, none⟩) 61 cap) 61 (flatV P)) := Lib.hid (by rw [← hW3]; exact HO.out.alloc _)
  have hb4 : Below s w W3 := by rw [← hW3]; exact hb3.alloc (by have := hb3.size; omega) _
  try rw [hW3]
  clear hW3 n3 hb3 HO
  refine wp_region_grow 4 (by kernel_rfl) (by kernel_rfl) ?_
  simp only [List.take_succ_cons, List.take_zero, List.drop_succ_cons, List.drop_zero]
  iterate 2
    apply wpGrow_plain rfl
    · intro w' hw' K hK
      go_wp2_with fail
      exact hK _ _ rfl hw'
    simp only [Act.put, List.setIfInBounds_toArray, List.set_cons_succ, List.set_cons_zero]
  have HIX := Lib.hid (show ∀ w', Below W3.heap.size W3 w' → Calls Tryd.prog 45 #[.slice (some ⟨ga, 2, none⟩) 60 (cap - 1), .agg #[.int .i8 t1, .int .i8 t2]] w' fun e w'' => e = .returned (.int .i64 Z) ∧ Below w'.heap.size w' w'' from fun w' hw' => by
    have h := indexC_cut ga 2 60 (cap - 1) (by omega) ((P.drop 1).map ptQ) (by rw [List.length_map, List.length_drop, HPL.out]) t1 t2 w' (fun w'' hw'' k z hz => by
      rw [List.getElem?_map, List.getElem?_drop, Option.map_eq_some_iff] at hz
      obtain ⟨z', h1, rfl⟩ := hz
      obtain ⟨fa, fb⟩ := flatV_get _ _ _ h1
      have oa := own_below (own_below HO3.out hw') hw''
      have ca := own_cell oa _ _ fa
      have cb := own_cell oa _ _ fb
      rw [show (1 + k) * 2 = 2 + k * 2 by omega] at ca cb
      exact ⟨ca, cb⟩)
    rwa [← HZD.out] at h)
  have hzr := idxP_range ((P.drop 1).map ptQ) ((t1 : Int), (t2 : Int))
  rw [← HZD.out, List.length_map, List.length_drop, HPL.out] at hzr
  have hzw : IntKind.i64.wrap (Z + 1) = Z + 1 := IntWalk.i64_in _ (by omega)
  apply wpGrow_plain rfl
  · intro w' hw' K hK
    have e1 := k3.below hw' k3.lt
    have c0 := (e1.cell 0).trans (show _ = some (.int .i8 t1) from rfl)
    have c1 := (e1.cell 1).trans (show _ = some (.int .i8 t2) from rfl)
    have l1 := e1.lt
    clear e1
    go_wp2_with fail
    exact hK _ _ rfl hw'
  simp only [Act.put, List.setIfInBounds_toArray, List.set_cons_succ, List.set_cons_zero]
  apply wpGrow_plain rfl
  · intro w' hw' K hK
    go_wp2_with fail
    refine (HIX.out _ hw').mono ?_
    rintro e w5 ⟨rfl, hb5⟩
    exact hK _ _ rfl (below_onto hw' hb5)
  simp only [Act.put, List.setIfInBounds_toArray, List.set_cons_succ, List.set_cons_zero]
  refine wpGrow_nil ?_
  intro W4 hW4
  have hb5 : Below s w W4 := hb4.trans (hW4.mono (by have := hb4.size; omega))
  clear hW4 hb4 k3 HO3 HIX HZD
  by_cases hz0 : Z < 0
  · have hd : decide (Z < 0) = true := by simpa using hz0
    have HF : Hid (nfN Z = 0 ∧ nfC Z = 6) := Lib.hid ⟨if_pos hz0, if_pos hz0⟩
    go_wp2_with fail
    go_ret2
    exact ⟨by rw [HF.out.1, HF.out.2]; rfl, hb5⟩
  · have hd : decide (Z < 0) = false := by simpa using hz0
    have HF : Hid (nfN Z = Z + 1 ∧ nfC Z = 0) := Lib.hid ⟨if_neg hz0, if_neg hz0⟩
    go_wp2_with fail
    go_ret2
    exact ⟨by rw [HF.out.1, HF.out.2]; rfl, hb5⟩
end
end Go.Proofs.YteaajkkhbflmdaaDoor
