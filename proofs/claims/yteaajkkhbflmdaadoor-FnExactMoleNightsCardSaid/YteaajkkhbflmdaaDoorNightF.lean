/- NightOf, pure, and of the model. -/
import Derived.Test.YteaajkkhbflmdaaDoorSMoleN
import Derived.Test.YteaajkkhbflmdaaDoorIdxC
namespace Go.Proofs.YteaajkkhbflmdaaDoor
open Go.RowKit Go.Shelf
set_option linter.unusedVariables false
set_option linter.unusedSimpArgs false
attribute [local go_sem ↓] loadRow loadGrid loadLawn loadMirror storeRow storeGrid storeLawn allocRow allocGrid allocLawn buildZero buildSides loadR8 loadL8 loadLv storeR8 storeLv allocR8 allocLv buildZLv

/-- The place of the trap among the cells behind the nights. -/
def nightZ (L : Lawn) (g : Nat → Nat → Int) (q t : Q10) : Int := idxP (((pathQ L g q 60).drop 1).map ptQ) (ptQ t)
def nfN (z : Int) : Int := if z < 0 then 0 else z + 1
def nfC (z : Int) : Int := if z < 0 then 6 else 0
theorem chkE_good {L : Lawn} {g : Nat → Nat → Int} (hv : levB L g = true) {cs : List Pt} (h : ∀ c ∈ cs, grassP L c = true) : chkE L g true cs = none := by
  have e1 : cs.any (fun c => !isB L c.1 c.2) = false := List.any_eq_false.2 fun c hc => by rw [grassB_in (h c hc)]; simp
  have e2 : cs.any (fun c => !grassB L c.1 c.2) = false := List.any_eq_false.2 fun c hc => by rw [show grassB L c.1 c.2 = true from h c hc]; simp
  unfold chkE
  rw [hv, e1, e2]
  rfl
theorem own_cell2 (w : World) (x y x' y' : Int) : (w.alloc (.cells #[.int .i8 x, .int .i8 y, .int .i8 x', .int .i8 y'] 39)).ownsRow w.heap.size 39 2 (.slice (some ⟨w.heap.size, 0, none⟩) 2 2) 2 (flatP [(x, y), (x', y')]) :=
  ⟨rfl, .inr ⟨w.heap.size, 2, #[.int .i8 x, .int .i8 y, .int .i8 x', .int .i8 y'], rfl, Nat.le_refl _, heap_alloc_new _ _, Nat.le_refl _, by simp [maxLen], rfl, rfl⟩⟩

set_option maxRecDepth 100000 in
set_option maxHeartbeats 4000000 in
theorem snightOf_bad (L : Lawn) (hL : L.Fits) (g : Nat → Nat → Int) (hg : LevFits g) (x y x' y' : Int) (hf : (-128 ≤ x ∧ x ≤ 127) ∧ -128 ≤ y ∧ y ≤ 127) (hf' : (-128 ≤ x' ∧ x' ≤ 127) ∧ -128 ≤ y' ∧ y' ≤ 127) (c : Int) (hc : chkC L g true [(x, y), (x', y')] = c) (hne : c ≠ 0) (w : World) :
    Calls Tryd.prog 28 #[.agg L.cells, .agg (levV g), .agg #[.int .i8 x, .int .i8 y], .agg #[.int .i8 x', .int .i8 y']] w fun e w' => e = .returned (.tuple #[.int .i64 0, .int .i64 c]) ∧ Below w.heap.size w w' := by
  obtain ⟨s, hs⟩ : ∃ s, w.heap.size = s := ⟨_, rfl⟩
  have HBL := Lib.hid (show ∀ (w : World) (B : Nat) (v : Value), Holds w s L.cells → Holds w (s + 1) (levV g) → w.ownsRow B 39 2 v 2 (flatP [(x, y), (x', y')]) → Calls Tryd.prog 39 #[.pointer (some ⟨s, 0, none⟩), .pointer (some ⟨s + 1, 0, none⟩), v, .bool true] w fun e w' => e = .returned (.int .i64 c) ∧ Below w.heap.size w w' from fun w B v kl kg ho => by
    have h := sbelow_any L hL g hg s (s + 1) true B 2 v (by omega) [(x, y), (x', y')] rfl (fun d hd => by
      simp only [List.mem_cons, List.not_mem_nil, or_false] at hd
      rcases hd with rfl | rfl
      · exact hf
      · exact hf') w kl kg ho
    rwa [hc] at h)
  have hcc : (c != 0) = true := by simpa using hne
  clear hL hg hf hf' hc
  obtain ⟨W0, hW0⟩ : ∃ W0, (((w.alloc (.cells L.cells 36)).alloc (.cells (levV g) 33)).alloc (.cells #[.int .i8 x, .int .i8 y] 39)).alloc (.cells #[.int .i8 x', .int .i8 y'] 39) = W0 := ⟨_, rfl⟩
  have g0 : Holds W0 s L.cells := by rw [← hW0]; exact (((Holds.new' _ _ _ _ hs.symm).alloc _).alloc _).alloc _
  have g1 : Holds W0 (s + 1) (levV g) := by rw [← hW0]; exact ((Holds.new' _ _ _ _ (by simp <;> omega)).alloc _).alloc _
  have g2 : Holds W0 (s + 1 + 1) #[.int .i8 x, .int .i8 y] := by rw [← hW0]; exact (Holds.new' _ _ _ _ (by simp <;> omega)).alloc _
  have g3 : Holds W0 (s + 1 + 1 + 1) #[.int .i8 x', .int .i8 y'] := by rw [← hW0]; exact Holds.new' _ _ _ _ (by simp <;> omega)
  have hb : Below s w W0 := by rw [← hW0]; exact ((((Below.refl s w).alloc (by omega) _).alloc (by simp; omega) _).alloc (by simp; omega) _).alloc (by simp; omega) _
  have l2 := g2.lt
  have l3 := g3.lt
  have c20 := (g2.cell 0).trans (show _ = some (.int .i8 x) from rfl)
  have c21 := (g2.cell 1).trans (show _ = some (.int .i8 y) from rfl)
  have c30 := (g3.cell 0).trans (show _ = some (.int .i8 x') from rfl)
  have c31 := (g3.cell 1).trans (show _ = some (.int .i8 y') from rfl)
  have k0 := g0.alloc (.cells #[.int .i8 x, .int .i8 y, .int .i8 x', .int .i8 y'] 39)
  have k1 := g1.alloc (.cells #[.int .i8 x, .int .i8 y, .int .i8 x', .int .i8 y'] 39)
  have HOW := Lib.hid (own_cell2 W0 x y x' y')
  clear g0 g1 g2 g3
  rw [hs]
  go_enter Tryd.func28, Tryd.ntmps28
  go_wp2_with fail
  try rw [hW0]
  clear hW0
  refine (HBL.out _ _ _ k0 k1 HOW.out).mono ?_
  rintro e w1 ⟨rfl, hb1⟩
  have hb2 : Below s w w1 := (hb.alloc (by omega) (.cells #[.int .i8 x, .int .i8 y, .int .i8 x', .int .i8 y'] 39)).trans (hb1.mono (by simp; omega))
  clear k0 k1 c20 c21 c30 c31 hb hb1
  go_wp2_with fail
  go_ret2
  exact ⟨rfl, hb2⟩

set_option maxRecDepth 100000 in
set_option maxHeartbeats 4000000 in
theorem snightOf_good (L : Lawn) (hL : L.Fits) (g : Nat → Nat → Int) (hg : LevFits g) (hv : levB L g = true) (q t : Q10) (hq : grassP L (ptQ q) = true) (ht : grassP L (ptQ t) = true) (w : World) :
    Calls Tryd.prog 28 #[.agg L.cells, .agg (levV g), .agg #[.int .i8 q.1.val, .int .i8 q.2.val], .agg #[.int .i8 t.1.val, .int .i8 t.2.val]] w fun e w' => e = .returned (.tuple #[.int .i64 (nfN (nightZ L g q t)), .int .i64 (nfC (nightZ L g q t))]) ∧ Below w.heap.size w w' := by
  obtain ⟨s, hs⟩ : ∃ s, w.heap.size = s := ⟨_, rfl⟩
  have hq1 := q.1.isLt
  have hq2 := q.2.isLt
  have ht1 := t.1.isLt
  have ht2 := t.2.isLt
  have HBL := Lib.hid (show ∀ (w : World) (B : Nat) (v : Value), Holds w s L.cells → Holds w (s + 1) (levV g) → w.ownsRow B 39 2 v 2 (flatP [((q.1.val : Int), (q.2.val : Int)), ((t.1.val : Int), (t.2.val : Int))]) → Calls Tryd.prog 39 #[.pointer (some ⟨s, 0, none⟩), .pointer (some ⟨s + 1, 0, none⟩), v, .bool true] w fun e w' => e = .returned (.int .i64 0) ∧ Below w.heap.size w w' from fun w B v kl kg ho => by
    have h := sbelow_any L hL g hg s (s + 1) true B 2 v (by omega) [ptQ q, ptQ t] rfl (fun d hd => by
      simp only [List.mem_cons, List.not_mem_nil, or_false] at hd
      rcases hd with rfl | rfl <;> simp only [ptQ] <;> omega) w kl kg ho
    rwa [chkC_good hv (fun c hc => by
      simp only [List.mem_cons, List.not_mem_nil, or_false] at hc
      rcases hc with rfl | rfl
      · exact hq
      · exact ht)] at h)
  have HMN := Lib.hid (show ∀ w, Calls Tryd.prog 23 #[.agg L.cells, .agg (levV g), .agg #[.int .i8 q.1.val, .int .i8 q.2.val], .int .i64 60] w fun e w' => (∃ v, e = .returned (.tuple #[.agg (levV (stQ L g q 60).1), v, .int .i64 0]) ∧ w'.ownsRow w.heap.size 39 2 v 61 (flatV (pathQ L g q 60))) ∧ Below w.heap.size w w' from fun w => smoleNights_good L hL g hg hv q hq 60 (by omega) w)
  have hpl := pathQ_length L g q 60
  have HZA := Lib.hid (show ∀ k : Nat, 1 ≤ k → (pathQ L g q 60)[k]? = some t → (∀ (j : Nat) z, 1 ≤ j → j < k → (pathQ L g q 60)[j]? = some z → z ≠ t) → nightZ L g q t = (k : Int) - 1 from fun k hk h hn => by
    unfold nightZ
    rw [idxP_at (k := k - 1) (by rw [List.getElem?_map, List.getElem?_drop, show 1 + (k - 1) = k by omega, h]; rfl) (fun j z hj hz he => by
      rw [List.getElem?_map, List.getElem?_drop, Option.map_eq_some_iff] at hz
      obtain ⟨z', h1, h2⟩ := hz
      exact hn (1 + j) z' (by omega) (by omega) h1 (ptQ_inj (h2.trans he)))]
    omega)
  have HZN := Lib.hid (show (∀ (j : Nat) z, 1 ≤ j → j < 61 → (pathQ L g q 60)[j]? = some z → z ≠ t) → nightZ L g q t = -1 from fun hn => by
    unfold nightZ
    exact idxP_none fun j z hj hz he => by
      rw [List.getElem?_map, List.getElem?_drop, Option.map_eq_some_iff] at hz
      obtain ⟨z', h1, h2⟩ := hz
      have := (List.getElem?_eq_some_iff.1 h1).1
      exact hn (1 + j) z' (by omega) (by omega) h1 (ptQ_inj (h2.trans he)))
  obtain ⟨P, hP⟩ : ∃ P, pathQ L g q 60 = P := ⟨_, rfl⟩
  obtain ⟨Z, hZ⟩ : ∃ Z, nightZ L g q t = Z := ⟨_, rfl⟩
  obtain ⟨G9, hG9⟩ : ∃ G9, (stQ L g q 60).1 = G9 := ⟨_, rfl⟩
  rw [hP] at HMN HZA HZN hpl
  rw [hZ] at HZA HZN ⊢
  rw [hG9] at HMN
  obtain ⟨q1, hq1'⟩ : ∃ k : Nat, q.1.val = k := ⟨_, rfl⟩
  obtain ⟨q2, hq2'⟩ : ∃ k : Nat, q.2.val = k := ⟨_, rfl⟩
  obtain ⟨t1, ht1'⟩ : ∃ k : Nat, t.1.val = k := ⟨_, rfl⟩
  obtain ⟨t2, ht2'⟩ : ∃ k : Nat, t.2.val = k := ⟨_, rfl⟩
  have HT := Lib.hid (And.intro ht1' ht2')
  rw [hq1', hq2'] at HMN
  rw [hq1', hq2', ht1', ht2'] at HBL
  rw [hq1', hq2', ht1', ht2']
  have HPL := Lib.hid hpl
  clear hL hg hv hq ht hP hZ hG9 hq1 hq2 ht1 ht2 hq1' hq2' ht1' ht2' hpl
  obtain ⟨W0, hW0⟩ : ∃ W0, (((w.alloc (.cells L.cells 36)).alloc (.cells (levV g) 33)).alloc (.cells #[.int .i8 q1, .int .i8 q2] 39)).alloc (.cells #[.int .i8 t1, .int .i8 t2] 39) = W0 := ⟨_, rfl⟩
  have g0 : Holds W0 s L.cells := by rw [← hW0]; exact (((Holds.new' _ _ _ _ hs.symm).alloc _).alloc _).alloc _
  have g1 : Holds W0 (s + 1) (levV g) := by rw [← hW0]; exact ((Holds.new' _ _ _ _ (by simp <;> omega)).alloc _).alloc _
  have g2 : Holds W0 (s + 1 + 1) #[.int .i8 q1, .int .i8 q2] := by rw [← hW0]; exact (Holds.new' _ _ _ _ (by simp <;> omega)).alloc _
  have g3 : Holds W0 (s + 1 + 1 + 1) #[.int .i8 t1, .int .i8 t2] := by rw [← hW0]; exact Holds.new' _ _ _ _ (by simp <;> omega)
  have hb : Below s w W0 := by rw [← hW0]; exact ((((Below.refl s w).alloc (by omega) _).alloc (by simp; omega) _).alloc (by simp; omega) _).alloc (by simp; omega) _
  have l2 := g2.lt
  have l3 := g3.lt
  have c20 := (g2.cell 0).trans (show _ = some (.int .i8 q1) from rfl)
  have c21 := (g2.cell 1).trans (show _ = some (.int .i8 q2) from rfl)
  have c30 := (g3.cell 0).trans (show _ = some (.int .i8 t1) from rfl)
  have c31 := (g3.cell 1).trans (show _ = some (.int .i8 t2) from rfl)
  have k0 := g0.alloc (.cells #[.int .i8 q1, .int .i8 q2, .int .i8 t1, .int .i8 t2] 39)
  have k1 := g1.alloc (.cells #[.int .i8 q1, .int .i8 q2, .int .i8 t1, .int .i8 t2] 39)
  have k2 := g2.alloc (.cells #[.int .i8 q1, .int .i8 q2, .int .i8 t1, .int .i8 t2] 39)
  have k3 := g3.alloc (.cells #[.int .i8 q1, .int .i8 q2, .int .i8 t1, .int .i8 t2] 39)
  have HOW := Lib.hid (own_cell2 W0 q1 q2 t1 t2)
  clear g0 g1 g2 g3
  rw [hs]
  go_enter Tryd.func28, Tryd.ntmps28
  go_wp2_with fail
  try rw [hW0]
  clear hW0
  refine (HBL.out _ _ _ k0 k1 HOW.out).mono ?_
  rintro e w1 ⟨rfl, hb1⟩
  have hb2 : Below s w w1 := (hb.alloc (by omega) (.cells #[.int .i8 q1, .int .i8 q2, .int .i8 t1, .int .i8 t2] 39)).trans (hb1.mono (by simp; omega))
  have m0 := k0.below hb1 k0.lt
  have m1 := k1.below hb1 k1.lt
  have m2 := k2.below hb1 k2.lt
  have m3 := k3.below hb1 k3.lt
  clear k0 k1 k2 k3 c20 c21 c30 c31 hb hb1 l2 l3 HBL HOW
  obtain ⟨r0, -, -, -, l0⟩ := m0.facts
  obtain ⟨r1, -, -, -, l1⟩ := m1.facts
  have l2 := m2.lt
  have c20 := (m2.cell 0).trans (show _ = some (.int .i8 q1) from rfl)
  have c21 := (m2.cell 1).trans (show _ = some (.int .i8 q2) from rfl)
  go_wp2_with fail
  refine (HMN.out _).mono ?_
  rintro e w2 ⟨⟨v, rfl, ho⟩, hb1⟩
  have n3 := m3.below hb1 m3.lt
  have hb3 : Below s w w2 := hb2.trans (hb1.mono (by have := hb2.size; omega))
  obtain ⟨av, cv, rfl⟩ := own_slice ho
  obtain ⟨B, hB⟩ : ∃ B, w1.heap.size = B := ⟨_, rfl⟩
  have l3 := m3.lt
  have HO := Lib.hid ho
  clear ho m0 m1 m2 m3 r0 r1 l0 l1 l2 c20 c21 hb1 hb2 HMN
  go_wp2_with fail
  obtain ⟨W3, hW3⟩ : ∃ W3, w2.alloc (.cells (levV G9) 33) = W3 := ⟨_, rfl⟩
  have k3 : Holds W3 (s + 1 + 1 + 1) #[.int .i8 t1, .int .i8 t2] := by rw [← hW3]; exact n3.alloc _
  have HO3 : Hid (W3.ownsRow B 39 2 (.slice av 61 cv) 61 (flatV P)) := Lib.hid (by rw [← hW3, ← hB]; exact HO.out.alloc _)
  have hb4 : Below s w W3 := by rw [← hW3]; exact hb3.alloc (by have := hb3.size; omega) _
  try rw [hW3]
  clear hW3 n3 hb3 HO
  go_loopw [14] (fun x wr => ∃ k : Nat, 1 ≤ k ∧ k ≤ 61 ∧ x = .int .i64 k ∧ (∀ (j : Nat) z, 1 ≤ j → j < k → P[j]? = some z → z ≠ t) ∧ Below W3.heap.size W3 wr) (fun x _ => 61 - (intOf x).toNat)
  case atStart => exact ⟨1, by omega, by omega, rfl, fun j z h1 h2 => by omega, Below.refl _ _⟩
  case round =>
    obtain ⟨k, hk1, hk, rfl, hall, hb⟩ := hrel
    have HA := Lib.hid hall
    clear hall
    have hbb : Below s w wr := hb4.trans (hb.mono (by have := hb4.size; omega))
    by_cases hlt : k < 61
    · have hd : decide ((k : Int) < 61) = true := by simp; omega
      obtain ⟨c, hc⟩ : ∃ c, P[k]? = some c := ⟨_, List.getElem?_eq_getElem (by rw [HPL.out]; omega)⟩
      have oa := own_below HO3.out hb
      obtain ⟨ga, cap, he, hBg, hgw⟩ := own_form oa (by omega)
      simp only [Value.slice.injEq, true_and] at he
      obtain ⟨rfl, rfl⟩ := he
      obtain ⟨fa, fb⟩ := flatV_get _ _ _ hc
      obtain ⟨c1, hc1⟩ : ∃ k : Nat, c.1.val = k := ⟨_, rfl⟩
      obtain ⟨c2, hc2⟩ : ∃ k : Nat, c.2.val = k := ⟨_, rfl⟩
      have ca := own_cell oa _ _ fa
      have cb := own_cell oa _ _ fb
      rw [hc1] at ca
      rw [hc2] at cb
      have kt := k3.below hb k3.lt
      have lt := kt.lt
      have d0 := (kt.cell 0).trans (show _ = some (.int .i8 t1) from rfl)
      have d1 := (kt.cell 1).trans (show _ = some (.int .i8 t2) from rfl)
      have HC12 := Lib.hid (And.intro hc1 hc2)
      have HCC := Lib.hid hc
      clear oa fa fb hc hc1 hc2 kt
      by_cases h1 : c1 = t1
      · by_cases h2 : c2 = t2
        · have hct : c = t := Prod.ext (Fin.ext (by rw [HC12.out.1, HT.out.1]; exact h1)) (Fin.ext (by rw [HC12.out.2, HT.out.2]; exact h2))
          have HZ := Lib.hid (HZA.out k hk1 (by rw [← hct]; exact HCC.out) HA.out)
          have HF : Hid (nfN Z = (k : Int) ∧ nfC Z = 0) := Lib.hid (by rw [HZ.out]; unfold nfN nfC; exact ⟨by rw [if_neg (by omega)]; omega, by rw [if_neg (by omega)]⟩)
          rw [h1] at ca
          rw [h2] at cb
          clear h1 h2 hct HZA HZN
          go_wp2_with fail
          go_region
          go_wp2_with fail
          go_ret2
          exact ⟨by rw [HF.out.1, HF.out.2]; rfl, hbb.drew⟩
        · have h3 : ¬ (c2 : Int) = t2 := by omega
          have h4 : ¬ (t2 : Int) = c2 := by omega
          have HN2 := Lib.hid (show ∀ (j : Nat) z, 1 ≤ j → j < k + 1 → P[j]? = some z → z ≠ t from fun j z hj1 hj hz hzt => by
            by_cases e : j = k
            · subst e
              rw [HCC.out] at hz
              cases hz
              exact h2 (by rw [← HC12.out.2, ← HT.out.2, hzt])
            · exact HA.out j z hj1 (by omega) hz hzt)
          rw [h1] at ca
          clear h1 h2
          go_wp2_with fail
          go_region
          go_wp2_with fail
          go_roundw
          case rel => exact ⟨k + 1, by omega, by omega, by go_num, HN2.out, hb.drew⟩
          case measure => simp [intOf]; omega
      · have h3 : ¬ (c1 : Int) = t1 := by omega
        have h4 : ¬ (t1 : Int) = c1 := by omega
        have HN2 := Lib.hid (show ∀ (j : Nat) z, 1 ≤ j → j < k + 1 → P[j]? = some z → z ≠ t from fun j z hj1 hj hz hzt => by
          by_cases e : j = k
          · subst e
            rw [HCC.out] at hz
            cases hz
            exact h1 (by rw [← HC12.out.1, ← HT.out.1, hzt])
          · exact HA.out j z hj1 (by omega) hz hzt)
        clear h1
        go_wp2_with fail
        go_region
        go_wp2_with fail
        go_roundw
        case rel => exact ⟨k + 1, by omega, by omega, by go_num, HN2.out, hb.drew⟩
        case measure => simp [intOf]; omega
    · have hd : decide ((k : Int) < 61) = false := by simp; omega
      have hk61 : k = 61 := by omega
      have HZ := Lib.hid (HZN.out (fun j z h1 h2 => HA.out j z h1 (by omega)))
      have HF : Hid (nfN Z = 0 ∧ nfC Z = 6) := Lib.hid (by rw [HZ.out]; exact ⟨rfl, rfl⟩)
      go_wp2_with fail
      go_ret2
      exact ⟨by rw [HF.out.1, HF.out.2]; rfl, hbb⟩
end Go.Proofs.YteaajkkhbflmdaaDoor
