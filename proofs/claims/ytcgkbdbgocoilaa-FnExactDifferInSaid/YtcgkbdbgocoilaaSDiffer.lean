/- DifferIn of the model. -/
import Derived.Test.YtcgkbdbgocoilaaDiffer
namespace Go.Proofs.Ytcgkbdbgocoilaa
open Go.RowKit
set_option linter.unusedVariables false
attribute [local go_sem ↓] loadRow loadGrid loadLawn loadMirror storeRow storeGrid storeLawn allocRow allocGrid allocLawn buildZero buildSides

set_option maxRecDepth 100000 in
set_option maxHeartbeats 2000000 in
theorem sdiffer_loop (Wn Hn : Nat) (hW : Wn ≤ 10) (hH : Hn ≤ 10) (hW1 : 1 ≤ Wn) (hH1 : 1 ≤ Hn) (A B : Lawn) (hLw : A.wide = Wn) (hLh : A.high = Hn) (hA : A.Fits) (hB : B.Fits) (hVA : validB A = true) (hVB : validB B = true) (hS : sideB A B = true) (w : World) :
    Calls Try.prog 52 #[.agg A.cells, .agg B.cells] w fun e w' => (∃ v, e = .returned (.tuple #[v, .int .i64 0]) ∧ w'.ownsRow w.heap.size 46 2 v (filtB (differP A B) (allC Wn Hn)).length (flatV (filtB (differP A B) (allC Wn Hn)))) ∧ Below w.heap.size w w' := by
  have hsd : (A.wide == B.wide) = true ∧ (A.high == B.high) = true := by simpa [sideB] using hS
  obtain ⟨hs1, hs2⟩ := hsd
  have hs3 : (A.wide != B.wide) = false := by simp [bne, hs1]
  have hs4 : (A.high != B.high) = false := by simp [bne, hs2]
  obtain ⟨i0, hi, hz0, hz1, hz2⟩ := info_parts cellInfo
  have HI := Lib.hid (show Try.prog.info? 46 = some i0 ∧ i0.zero = some (.agg #[.int .i8 0, .int .i8 0]) ∧ i0.size = 2 ∧ i0.bytes = 2 from ⟨hi, hz0, hz1, hz2⟩)
  have HLw := Lib.hid hLw
  have HLh := Lib.hid hLh
  have HVA := Lib.hid hVA
  have HVB := Lib.hid hVB
  clear hi hz0 hz1 hz2 hLw hLh hVA hVB hS
  go_enter Try.func52, Try.ntmps52
  go_wp2_with fail
  have g0 := (Holds.new w A.cells 30).alloc (.cells B.cells 30)
  have g1 := Holds.new' (w.alloc (.cells A.cells 30)) B.cells 30 (w.heap.size + 1) (by simp)
  have hb0 := ((Below.refl w.heap.size w).alloc (Nat.le_refl _) (.cells A.cells 30)).alloc (by simp) (.cells B.cells 30)
  refine (l01Ok_any A hA _ _ g0).mono ?_
  rw [HVA.out]
  rintro e w1 ⟨rfl, hb1⟩
  have j0 := g0.below hb1 g0.lt
  have j1 := g1.below hb1 g1.lt
  have jB := below_onto hb0 hb1
  clear g0 g1 hb0 hb1
  go_wp2_with fail
  refine (l01Ok_any B hB _ _ j1).mono ?_
  rw [HVB.out]
  rintro e w2 ⟨rfl, hb1⟩
  have q0 := j0.below hb1 j0.lt
  have q1 := j1.below hb1 j1.lt
  have qB := below_onto jB hb1
  clear j0 j1 jB hb1
  obtain ⟨r0, -, c0, -, l0⟩ := q0.facts
  obtain ⟨r1, -, c1, -, l1⟩ := q1.facts
  go_wp2_with fail
  have hm : (w2.alloc (.cells #[] 46)).ownsRow w2.heap.size 46 2 (.slice (some ⟨w2.heap.size, 0, none⟩) 0 0) 0 [] := World.ownsRow_made w2 #[] 0 (Nat.le_refl _) (by simp [maxLen]) rfl
  have h0 := q0.alloc (.cells #[] 46)
  have h1 := q1.alloc (.cells #[] 46)
  have hb0 := qB.alloc qB.size (.cells #[] 46)
  have hs0 : w2.heap.size < (w2.alloc (.cells #[] 46)).heap.size := by simp
  obtain ⟨W0, hW0⟩ : ∃ W0, w2.alloc (.cells #[] 46) = W0 := ⟨_, rfl⟩
  obtain ⟨u, hu⟩ : ∃ u, w2.heap.size = u := ⟨_, rfl⟩
  rw [hW0] at hm hb0 hs0 h0 h1 ⊢
  rw [hu] at hm hs0 l0 l1 ⊢
  clear hW0 hu r0 r1 c0 c1 q0 q1 qB
  refine (l01All_any Wn Hn hW hH A HLw.out HLh.out _ W0 h0).mono ?_
  rintro e w3 ⟨vA, rfl, hoA, hb1⟩
  have hn : 0 < Hn * Wn := Nat.mul_pos (by omega) (by omega)
  have hn1 : Hn * Wn ≤ 100 := Nat.le_trans (Nat.mul_le_mul hH hW) (by omega)
  obtain ⟨g, cap, rfl, hg0, hg1⟩ := own_form hoA hn
  have hb2 := below_onto hb0 hb1
  have k0 := h0.below hb1 h0.lt
  have k1 := h1.below hb1 h1.lt
  have hm1 := own_below hm hb1
  clear hm hb0 hb1 h0 h1
  obtain ⟨N, hN⟩ : ∃ N, Hn * Wn = N := ⟨_, rfl⟩
  have hall : (allC Wn Hn).length = N := by rw [allC_length, hN]
  rw [hN] at hoA hn hn1 ⊢
  have HA := Lib.hid hall
  clear hN hall
  go_wp2_with fail
  have hlow : w.heap.size < u := by omega
  have hug : u < g := by omega
  have hug2 : W0.heap.size ≤ g := hg0
  go_loopw [6, 8] (fun v x wr => ∃ i : Nat, i ≤ N ∧ x = .int .i64 i ∧ wr.ownsRow u 46 2 v (filtB (differP A B) ((allC Wn Hn).take i)).length (flatV (filtB (differP A B) ((allC Wn Hn).take i))) ∧ wr.ownsRow W0.heap.size 46 2 (.slice (some ⟨g, 0, none⟩) N cap) N (flatV (allC Wn Hn)) ∧ v.ownBlock ≠ some g ∧ g < wr.heap.size ∧ Holds wr w.heap.size A.cells ∧ Holds wr (w.heap.size + 1) B.cells ∧ Below w.heap.size w wr) (fun _ x _ => N - (intOf x).toNat)
  case atStart => exact ⟨0, by omega, rfl, by simpa [filtB, flatV] using hm1, hoA, by simp [Value.ownBlock]; omega, hg1, k0, k1, hb2⟩
  case round =>
    obtain ⟨i, hi, rfl, ho, hA', hv, hg, k0, k1, hb⟩ := hrel
    have HO := Lib.hid ho
    have HAo := Lib.hid hA'
    have HV := Lib.hid hv
    clear ho hA' hv hm1 hoA hb2
    by_cases hlt : i < N
    · have hd : decide ((i : Int) < (N : Int)) = true := by simp; omega
      obtain ⟨c, hc⟩ : ∃ c, (allC Wn Hn)[i]? = some c := ⟨_, List.getElem?_eq_getElem (by rw [HA.out]; exact hlt)⟩
      have HC := Lib.hid hc
      have hcx := c.1.isLt
      have hcy := c.2.isLt
      obtain ⟨fa, fb⟩ := flatV_get _ _ _ hc
      have ca := fun w' hw' => own_cell (own_below HAo.out (W' := w') hw') _ _ fa
      have cb := fun w' hw' => own_cell (own_below HAo.out (W' := w') hw') _ _ fb
      clear hc fa fb
      go_wp2_with fail
      refine wp_region_grow 10 (by kernel_rfl) (by kernel_rfl) ?_
      simp only [List.take_succ_cons, List.take_zero, List.drop_succ_cons, List.drop_zero]
      iterate 10
        apply wpGrow_plain rfl
        · intro w' hw' K hK
          have e1 := ca _ hw'
          have e2 := cb _ hw'
          go_wp2_with (first | (go_at_call 86; ((with_reducible refine (at_any A hA _ c.1.val c.2.val (by omega) (by omega) _ (k0.below hw' k0.lt)).mono ?_); rintro e w2 ⟨rfl, hb2⟩)) | (go_at_call 86; ((with_reducible refine (at_any B hB _ c.1.val c.2.val (by omega) (by omega) _ (k1.below hw' k1.lt)).mono ?_); rintro e w2 ⟨rfl, hb2⟩)))
          first | exact hK _ _ rfl hw' | exact hK _ _ rfl (below_onto hw' hb2)
        simp only [Act.put, List.setIfInBounds_toArray, List.set_cons_succ, List.set_cons_zero]
      refine wpGrow_nil ?_
      intro W2 hW2
      have p0 := k0.below hW2 k0.lt
      have p1 := k1.below hW2 k1.lt
      have hb4 := below_onto hb hW2
      have HO2 := Lib.hid (own_below HO.out hW2)
      have HA2 := Lib.hid (own_below HAo.out hW2)
      have hg2 : g < W2.heap.size := Nat.lt_of_lt_of_le hg hW2.size
      clear ca cb hW2 k0 k1 hb HO HAo hg
      cases hk : differP A B c.2.val c.1.val
      case true =>
        have hkd : (A.kind c.2.val c.1.val != B.kind c.2.val c.1.val) = true := hk
        have HK := Lib.hid hk
        obtain ⟨fa, fb⟩ := flatV_get _ _ _ HC.out
        have ca := own_cell HA2.out _ _ fa
        have cb := own_cell HA2.out _ _ fb
        have hle : (filtB (differP A B) ((allC Wn Hn).take i)).length ≤ 100 := Nat.le_trans (filtB_le _ _) (by simp; omega)
        clear hk fa fb
        go_wp2_with (at_builtin; refine wpList_append_own_at _ rfl _ _ 27 rfl u 46 i0 (.agg #[.int .i8 0, .int .i8 0]) 2 2 Try.underlying27 HI.out.1 HI.out.2.1 HI.out.2.2.1 HI.out.2.2.2 rfl (by decide) _ _ _ rfl (HO2.out.alloc _) ⟨W2.heap.size, 0, none⟩ 1 1 [.int .i8 c.1.val, .int .i8 c.2.val] rfl rfl ?c1 ?c2 ?c3 ?c4 ?c5 ?_)
        case c1 =>
          intro m u hu
          match m, hu with
          | 0, hu => simp at hu; subst hu; exact (Holds.new W2 #[.int .i8 c.1.val, .int .i8 c.2.val] 46).cell 0
          | 1, hu => simp at hu; subst hu; exact (Holds.new W2 #[.int .i8 c.1.val, .int .i8 c.2.val] 46).cell 1
        case c2 => intro u hu; simp at hu; rcases hu with rfl | rfl <;> rfl
        case c3 => unfold maxLen; omega
        case c4 => omega
        case c5 => simp; omega
        intro v' w3 hown' hgrow _ hat
        have hb5 : Below w.heap.size w w3 := (hb4.alloc hb4.size _).grown hgrow (by have := hb4.size; simp; omega) (fun k hk => by have := own_far HO2.out k hk; omega)
        have ho3 : w3.ownsRow u 46 2 v' (filtB (differP A B) ((allC Wn Hn).take (i + 1))).length (flatV (filtB (differP A B) ((allC Wn Hn).take (i + 1)))) := by
          rw [List.take_add_one, HC.out, Option.toList_some, filtB_hit HK.out, flatV_append, List.length_append]
          exact hown'
        have hA3 : w3.ownsRow W0.heap.size 46 2 (.slice (some ⟨g, 0, none⟩) N cap) N (flatV (allC Wn Hn)) := (HA2.out.alloc _).kept hgrow (.inr (Ne.symm HV.out))
        have hv3 : v'.ownBlock ≠ some g := by
          rcases hat with h | h
          · rw [h]; exact HV.out
          · rw [h]; simp; omega
        have hg3 : g < w3.heap.size := Nat.lt_of_lt_of_le (by simp; omega) hgrow.size
        have r0 := held_grown (p0.alloc (.cells #[.int .i8 c.1.val, .int .i8 c.2.val] 46)) (HO2.out.alloc _) hgrow (by omega)
        have r1 := held_grown (p1.alloc (.cells #[.int .i8 c.1.val, .int .i8 c.2.val] 46)) (HO2.out.alloc _) hgrow (by omega)
        have HO3 := Lib.hid ho3
        have HA3 := Lib.hid hA3
        have HV3 := Lib.hid hv3
        clear hown' hgrow ho3 hA3 hv3 hat ca cb hb4 p0 p1
        go_wp2_with fail
        go_roundw
        case rel => exact ⟨i + 1, by omega, by go_num, HO3.out, HA3.out, HV3.out, hg3, r0, r1, hb5⟩
        case measure => simp [intOf]; omega
      case false =>
        have hkd : (A.kind c.2.val c.1.val != B.kind c.2.val c.1.val) = false := hk
        have ho3 : filtB (differP A B) ((allC Wn Hn).take (i + 1)) = filtB (differP A B) ((allC Wn Hn).take i) := by rw [List.take_add_one, HC.out, Option.toList_some, filtB_miss hk]
        rw [← ho3] at HO2
        have HO3 := HO2
        clear ho3 HO2 hk
        go_wp2_with fail
        go_roundw
        case rel => exact ⟨i + 1, by omega, by go_num, HO3.out, HA2.out, HV.out, hg2, p0, p1, hb4⟩
        case measure => simp [intOf]; omega
    · have hd : decide ((i : Int) < (N : Int)) = false := by simp; omega
      go_wp2_with fail
      obtain ⟨av, cv, rfl⟩ := own_slice HO.out
      go_ret2
      refine ⟨⟨_, rfl, ?_⟩, hb⟩
      have := HO.out
      rw [List.take_of_length_le (by rw [HA.out]; omega)] at this ⊢
      exact ownsRow_low this (by omega)

set_option maxRecDepth 100000 in
set_option maxHeartbeats 1000000 in
theorem specDiffer_any (A B : Lawn) (hA : A.Fits) (hB : B.Fits) (w : World) :
    Calls Try.prog 52 #[.agg A.cells, .agg B.cells] w fun e w' => (∃ v, e = .returned (.tuple #[v, .int .i64 (differC A B)]) ∧ w'.ownsRow w.heap.size 46 2 v (differL A B).length (flatV (differL A B))) ∧ Below w.heap.size w w' := by
  cases hVA : validB A
  case false =>
    have e0 : differC A B = 1 := by simp [differC, hVA]
    have e : differL A B = [] := by simp [differL, e0]
    rw [e, e0]
    have HVA := Lib.hid hVA
    clear e0 e hVA
    go_enter Try.func52, Try.ntmps52
    go_wp2_with fail
    have g0 := (Holds.new w A.cells 30).alloc (.cells B.cells 30)
    have hb0 := ((Below.refl w.heap.size w).alloc (Nat.le_refl _) (.cells A.cells 30)).alloc (by simp) (.cells B.cells 30)
    refine (l01Ok_any A hA _ _ g0).mono ?_
    rw [HVA.out]
    rintro e w1 ⟨rfl, hb1⟩
    have jB := below_onto hb0 hb1
    clear g0 hb0 hb1
    go_wp2_with fail
    go_ret2
    exact ⟨⟨_, rfl, World.ownsRow_made w1 #[] 0 jB.size (by simp [maxLen]) rfl⟩, jB.alloc jB.size _⟩
  case true =>
    cases hVB : validB B
    case true =>
      cases hS : sideB A B
      case true =>
        have e0 : differC A B = 0 := by simp [differC, hVA, hVB, hS]
        have e : differL A B = filtB (differP A B) (allC A.wide.toNat A.high.toNat) := by simp [differL, e0]
        rw [e, e0]
        obtain ⟨h1, h2, -⟩ := validB_true hVA
        exact sdiffer_loop A.wide.toNat A.high.toNat (by omega) (by omega) (by omega) (by omega) A B (by omega) (by omega) hA hB hVA hVB hS w
      case false =>
        have e0 : differC A B = 4 := by simp [differC, hVA, hVB, hS]
        have e : differL A B = [] := by simp [differL, e0]
        rw [e, e0]
        have hS' : (A.wide != B.wide) = true ∨ (A.wide != B.wide) = false ∧ (A.high != B.high) = true := by
          unfold sideB at hS
          cases h1 : (A.wide == B.wide) <;> simp_all [bne]
        have HVA := Lib.hid hVA
        have HVB := Lib.hid hVB
        clear hVA hVB hS e0 e
        rcases hS' with h1 | ⟨h1, h2⟩
        all_goals
          go_enter Try.func52, Try.ntmps52
          go_wp2_with fail
          have g0 := (Holds.new w A.cells 30).alloc (.cells B.cells 30)
          have g1 := Holds.new' (w.alloc (.cells A.cells 30)) B.cells 30 (w.heap.size + 1) (by simp)
          have hb0 := ((Below.refl w.heap.size w).alloc (Nat.le_refl _) (.cells A.cells 30)).alloc (by simp) (.cells B.cells 30)
          refine (l01Ok_any A hA _ _ g0).mono ?_
          rw [HVA.out]
          rintro e w1 ⟨rfl, hb1⟩
          have j0 := g0.below hb1 g0.lt
          have j1 := g1.below hb1 g1.lt
          have jB := below_onto hb0 hb1
          clear g0 g1 hb0 hb1
          go_wp2_with fail
          refine (l01Ok_any B hB _ _ j1).mono ?_
          rw [HVB.out]
          rintro e w2 ⟨rfl, hb1⟩
          have q0 := j0.below hb1 j0.lt
          have q1 := j1.below hb1 j1.lt
          have qB := below_onto jB hb1
          clear j0 j1 jB hb1
          obtain ⟨r0, -, c0, -, l0⟩ := q0.facts
          obtain ⟨r1, -, c1, -, l1⟩ := q1.facts
          go_wp2_with fail
          go_ret2
          exact ⟨⟨_, rfl, World.ownsRow_made w2 #[] 0 qB.size (by simp [maxLen]) rfl⟩, qB.alloc qB.size _⟩
    case false =>
      have e0 : differC A B = 1 := by simp [differC, hVA, hVB]
      have e : differL A B = [] := by simp [differL, e0]
      rw [e, e0]
      have HVA := Lib.hid hVA
      have HVB := Lib.hid hVB
      clear hVA hVB e0 e
      go_enter Try.func52, Try.ntmps52
      go_wp2_with fail
      have g0 := (Holds.new w A.cells 30).alloc (.cells B.cells 30)
      have g1 := Holds.new' (w.alloc (.cells A.cells 30)) B.cells 30 (w.heap.size + 1) (by simp)
      have hb0 := ((Below.refl w.heap.size w).alloc (Nat.le_refl _) (.cells A.cells 30)).alloc (by simp) (.cells B.cells 30)
      refine (l01Ok_any A hA _ _ g0).mono ?_
      rw [HVA.out]
      rintro e w1 ⟨rfl, hb1⟩
      have j1 := g1.below hb1 g1.lt
      have jB := below_onto hb0 hb1
      clear g0 g1 hb0 hb1
      go_wp2_with fail
      refine (l01Ok_any B hB _ _ j1).mono ?_
      rw [HVB.out]
      rintro e w2 ⟨rfl, hb1⟩
      have qB := below_onto jB hb1
      clear j1 jB hb1
      go_wp2_with fail
      go_ret2
      exact ⟨⟨_, rfl, World.ownsRow_made w2 #[] 0 qB.size (by simp [maxLen]) rfl⟩, qB.alloc qB.size _⟩
end Go.Proofs.Ytcgkbdbgocoilaa
