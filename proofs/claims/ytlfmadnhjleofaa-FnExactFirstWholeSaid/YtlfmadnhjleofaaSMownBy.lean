/- MownBy, LeftBy, IsWhole: the cells that are mown, and all others, of the model. -/
import Derived.Test.YtlfmadnhjleofaaMownBy
import Derived.Test.YtlfmadnhjleofaaZE
namespace Go.Proofs.Ytlfmadnhjleofaa
open Go.RowKit
set_option linter.unusedVariables false
attribute [local go_sem ↓] loadRow loadGrid loadLawn loadMirror storeRow storeGrid storeLawn allocRow allocGrid allocLawn buildZero buildSides loadG64 storeG64 allocG64 buildG64

theorem mown_of_grass {L : Lawn} {W H : Nat} (cs : List Pt) (mown : Bool) (l : List (Fin W × Fin H)) : filtB (mownB L cs mown) (l.filter fun c => L.kind c.2 c.1 == 0) = filtB (mownB L cs mown) l := by
  unfold filtB
  rw [List.filter_filter]
  apply List.filter_congr
  intro c _
  cases h : mownB L cs mown c.2 c.1
  · simp
  · simp only [mownB, grassB, Bool.and_eq_true] at h
    simpa using h.1.2

set_option maxRecDepth 100000 in
set_option maxHeartbeats 2000000 in
theorem l02Mown_any (Wn Hn : Nat) (hW : Wn ≤ 10) (hH : Hn ≤ 10) (hW1 : 1 ≤ Wn) (hH1 : 1 ≤ Hn) (L : Lawn) (hL : L.Fits) (hLw : L.wide = Wn) (hLh : L.high = Hn) (hV : validB L = true) (b g cap N : Nat) (cs : List Pt) (hN : cs.length = N) (hN2 : N ≤ 201) (hop : ∀ c ∈ cs, openP L c = true) (mown : Bool) (B : Nat) (w : World) (h : Holds w b L.cells)
    (ho : w.ownsRow B 35 2 (.slice (some ⟨g, 0, none⟩) N cap) N (flatP cs)) :
    Calls Try.prog 109 #[.pointer (some ⟨b, 0, none⟩), .slice (some ⟨g, 0, none⟩) N cap, .bool mown] w fun e w' => (∃ v, e = .returned v ∧ w'.ownsRow w.heap.size 35 2 v (filtB (mownB L cs mown) (allC Wn Hn)).length (flatV (filtB (mownB L cs mown) (allC Wn Hn)))) ∧ Below w.heap.size w w' := by
  have HT := Lib.hid (l02Times_any L hL hV b g cap N cs hN hN2 hop B w h ho)
  obtain ⟨ci, hi, hz0, hz1, hz2⟩ := info_parts cellInfo
  have HCI := Lib.hid (show Try.prog.info? 35 = some ci ∧ ci.zero = some (.agg #[.int .i8 0, .int .i8 0]) ∧ ci.size = 2 ∧ ci.bytes = 2 from ⟨hi, hz0, hz1, hz2⟩)
  have HIS := Lib.hid (fun c => isB_fin hLw hLh (c : Fin Wn × Fin Hn))
  have HC := Lib.hid (fun w h => l01Cells_any Wn Hn hW hH hW1 hH1 L hL hLw hLh 0 b w h)
  have hbw := h.lt
  have H0 := Lib.hid h
  clear hi hz0 hz1 hz2 hLw hLh hL hV hN hop ho h hN2
  go_enter Try.func109, Try.ntmps109
  go_wp2_with fail
  refine HT.out.mono ?_
  obtain ⟨G, hG⟩ : ∃ G, timesG L cs = G := ⟨_, rfl⟩
  have HGV := Lib.hid (show ∀ i j : Nat, G j i = timeN L cs ((i : Int), (j : Int)) from fun i j => by rw [← hG]; rfl)
  rw [hG]
  rintro e w4 ⟨rfl, jB4⟩
  have g4 := H0.out.below jB4 H0.out.lt
  clear hG HT H0
  go_wp2_with fail
  obtain ⟨s, hs⟩ : ∃ s, w4.heap.size = s := ⟨_, rfl⟩
  obtain ⟨W0, hW0⟩ : ∃ W0, (w4.alloc (.cells (grid64 G) 142)).alloc (.cells #[] 35) = W0 := ⟨_, rfl⟩
  have hG0 : Holds W0 s (grid64 G) := by rw [← hW0]; exact (Holds.new' _ _ _ _ hs.symm).alloc _
  have hL0 : Holds W0 b L.cells := by rw [← hW0]; exact (g4.alloc _).alloc _
  have hm : W0.ownsRow (s + 1) 35 2 (.slice (some ⟨s + 1, 0, none⟩) 0 0) 0 [] := by
    have := World.ownsRow_made (e := 35) (size := 2) (w4.alloc (.cells (grid64 G) 142)) #[] 0 (Nat.le_refl _) (by simp [maxLen]) rfl
    rw [hW0] at this
    simpa [hs] using this
  have hB0 : Below w.heap.size w W0 := by rw [← hW0]; exact (jB4.alloc jB4.size _).alloc (by have := jB4.size; simp; omega) _
  have hws : w.heap.size ≤ s := by have := jB4.size; omega
  have hz0 : s + 2 ≤ W0.heap.size := by rw [← hW0]; simp; omega
  rw [hW0, hs]
  clear hW0 hs g4 jB4
  refine (HC.out W0 hL0).mono ?_
  rintro e w5 ⟨vA, rfl, hoA, hb1⟩
  have hb2 := below_onto hB0 hb1
  have k0 := hG0.below hb1 hG0.lt
  have hm1 := own_below hm hb1
  have hN1 : (ofKind L Wn Hn 0).length ≤ 100 := by
    refine Nat.le_trans (List.length_filter_le _ _) ?_
    rw [allC_length]
    exact Nat.le_trans (Nat.mul_le_mul hH hW) (by omega)
  obtain ⟨M, hM⟩ : ∃ M, (ofKind L Wn Hn 0).length = M := ⟨_, rfl⟩
  rw [hM] at hoA hN1
  obtain ⟨aA, cA, rfl⟩ := own_slice hoA
  have HM := Lib.hid hM
  clear hm hB0 hb1 hG0 hL0 hM
  go_wp2_with fail
  go_loopw [8, 10] (fun v x wr => ∃ i : Nat, i ≤ M ∧ x = .int .i64 i ∧ wr.ownsRow (s + 1) 35 2 v (filtB (mownB L cs mown) ((ofKind L Wn Hn 0).take i)).length (flatV (filtB (mownB L cs mown) ((ofKind L Wn Hn 0).take i))) ∧ wr.ownsRow W0.heap.size 35 2 (.slice aA M cA) M (flatV (ofKind L Wn Hn 0)) ∧ (v.ownBlock = none ∨ v.ownBlock ≠ Value.ownBlock (.slice aA M cA)) ∧ Holds wr s (grid64 G) ∧ Below w.heap.size w wr) (fun _ x _ => M - (intOf x).toNat)
  case atStart =>
    refine ⟨0, by omega, rfl, by simpa [filtB, flatV] using hm1, hoA, .inr ?_, k0, hb2⟩
    intro he
    have := own_far hoA (s + 1) he.symm
    omega
  case round =>
    obtain ⟨i, hi, rfl, ho, hA', hv, k0, hb⟩ := hrel
    have HO := Lib.hid ho
    have HAo := Lib.hid hA'
    have HV2 := Lib.hid hv
    clear ho hA' hv hm1 hoA hb2
    by_cases hlt : i < M
    · have hd : decide ((i : Int) < (M : Int)) = true := by simp; omega
      obtain ⟨q, hq⟩ : ∃ q, (ofKind L Wn Hn 0)[i]? = some q := ⟨_, List.getElem?_eq_getElem (by rw [HM.out]; exact hlt)⟩
      have HQ := Lib.hid hq
      have hgr : grassB L q.1.val q.2.val = true := by
        have hm := List.mem_of_getElem? hq
        simp only [ofKind, List.mem_filter] at hm
        simp only [grassB, HIS.out q, Bool.true_and]
        simpa using hm.2
      have HGR := Lib.hid hgr
      obtain ⟨gA, capA, heq, hg0, hg1⟩ := own_form HAo.out (by omega)
      simp only [Value.slice.injEq, true_and] at heq
      obtain ⟨rfl, rfl⟩ := heq
      obtain ⟨fa, fb⟩ := flatV_get _ _ _ hq
      obtain ⟨⟨e1, he1⟩, ⟨e2, he2⟩⟩ := q
      dsimp only at fa fb HGR
      have hw1 : e1 < 10 := by omega
      have hw2 : e2 < 10 := by omega
      have hO1 := grid64_get G e2 e1 hw2 hw1
      obtain ⟨v, hv⟩ : ∃ v, G e2 e1 = v := ⟨_, rfl⟩
      rw [hv] at hO1
      obtain ⟨d, hdd⟩ : ∃ d, decide ((0 : Int) < v) = d := ⟨_, rfl⟩
      have HDD := Lib.hid hdd
      have HMB := Lib.hid (show mownB L cs mown e2 e1 = (d == mown) by
        have : timeN L cs ((e1 : Int), (e2 : Int)) = v := by rw [← hv, HGV.out]
        simp only [mownB, HGR.out, this, hdd, Bool.true_and])
      have FX := Lib.hid (show ∀ w', Below _ _ w' → w'.cell? ⟨gA, i * 2, none⟩ = some (.int .i8 e1) ∧ w'.cell? ⟨gA, i * 2 + 1, none⟩ = some (.int .i8 e2) ∧ w'.cell? ⟨s, e2 * 10 + e1, none⟩ = some (.int .i64 v) from fun w' hw' =>
        ⟨own_cell (own_below HAo.out hw') _ _ fa, own_cell (own_below HAo.out hw') _ _ fb, by rw [(k0.below hw' k0.lt).cell, hO1]⟩)
      have hsz := k0.lt
      clear hq fa fb hO1 hv hgr hdd
      go_wp2_with fail
      refine wp_region_grow 15 (by kernel_rfl) (by kernel_rfl) ?_
      simp only [List.take_succ_cons, List.take_zero, List.drop_succ_cons, List.drop_zero]
      iterate 13
        apply wpGrow_plain rfl
        · intro w' hw' K hK
          obtain ⟨f1, f2, f3⟩ := FX.out _ hw'
          go_wp2_with fail
          exact hK _ _ rfl hw'
        simp only [Act.put, List.setIfInBounds_toArray, List.set_cons_succ, List.set_cons_zero]
      refine wpGrow_plain (v := .bool d) rfl ?_ ?_
      · intro w' hw' K hK
        have hdd := HDD.out
        go_wp2_with fail
        exact hK _ _ rfl hw'
      simp only [Act.put, List.setIfInBounds_toArray, List.set_cons_succ, List.set_cons_zero]
      apply wpGrow_plain rfl
      · intro w' hw' K hK
        go_wp2_with fail
        exact hK _ _ rfl hw'
      simp only [Act.put, List.setIfInBounds_toArray, List.set_cons_succ, List.set_cons_zero]
      refine wpGrow_nil ?_
      intro W3 hW3
      have HO3 := Lib.hid (own_below HO.out hW3)
      have HA3 := Lib.hid (own_below HAo.out hW3)
      have k3 := k0.below hW3 k0.lt
      have hb3 := hb.trans (hW3.mono hb.size)
      obtain ⟨f1, f2, -⟩ := FX.out _ hW3
      clear HO HAo k0 hb hW3 FX
      obtain ⟨z, hz⟩ : ∃ z, (d == mown) = z := ⟨_, rfl⟩
      have HMB2 := Lib.hid (show mownB L cs mown e2 e1 = z by rw [HMB.out, hz])
      have HTK := Lib.hid (show (ofKind L Wn Hn 0).take (i + 1) = (ofKind L Wn Hn 0).take i ++ [((⟨e1, he1⟩, ⟨e2, he2⟩) : Fin Wn × Fin Hn)] by rw [List.take_add_one, HQ.out]; rfl)
      have hfl : (filtB (mownB L cs mown) ((ofKind L Wn Hn 0).take i)).length ≤ 100 := by
        refine Nat.le_trans (filtB_le _ _) ?_
        rw [List.length_take]; omega
      cases z
      case false =>
        have HF2 := Lib.hid (filtB_miss (p := mownB L cs mown) (pre := (ofKind L Wn Hn 0).take i) (c := ((⟨e1, he1⟩, ⟨e2, he2⟩) : Fin Wn × Fin Hn)) HMB2.out)
        clear f1 f2
        go_wp2_with fail
        go_roundw
        case rel => exact ⟨i + 1, by omega, by go_num, by rw [HTK.out, HF2.out]; exact HO3.out, HA3.out, HV2.out, k3, hb3⟩
        case measure => simp [intOf]; omega
      case true =>
        have HF2 := Lib.hid (filtB_hit (p := mownB L cs mown) (pre := (ofKind L Wn Hn 0).take i) (c := ((⟨e1, he1⟩, ⟨e2, he2⟩) : Fin Wn × Fin Hn)) HMB2.out)
        have hgA : gA < W3.heap.size := (own_lt HA3.out).2
        go_wp2_with (at_builtin; refine wpList_append_own_at _ rfl _ _ 42 rfl (s + 1) 35 ci (.agg #[.int .i8 0, .int .i8 0]) 2 2 Try.underlying42 HCI.out.1 HCI.out.2.1 HCI.out.2.2.1 HCI.out.2.2.2 rfl (by decide) _ _ _ rfl (HO3.out.alloc _) ⟨W3.heap.size, 0, none⟩ 1 1 [.int .i8 e1, .int .i8 e2] rfl rfl ?c1 ?c2 ?c3 ?c4 ?c5 ?_)
        case c1 =>
          intro m u hu
          match m, hu with
          | 0, hu => simp at hu; subst hu; exact (Holds.new W3 #[.int .i8 e1, .int .i8 e2] 35).cell 0
          | 1, hu => simp at hu; subst hu; exact (Holds.new W3 #[.int .i8 e1, .int .i8 e2] 35).cell 1
        case c2 => intro u hu; simp at hu; rcases hu with rfl | rfl <;> rfl
        case c3 => unfold maxLen; omega
        case c4 => omega
        case c5 => have := k3.lt; simp; omega
        intro v' w9 hown' hgrow _ hat
        have hb9 : Below w.heap.size w w9 := (hb3.alloc hb3.size _).grown hgrow (by have := hb3.size; simp; omega) (fun k hk => by have := own_far HO3.out k hk; omega)
        have k9 := held_grown (k3.alloc (.cells #[.int .i8 e1, .int .i8 e2] 35)) (HO3.out.alloc _) hgrow (by omega)
        have HA9 := Lib.hid ((HA3.out.alloc (.cells #[.int .i8 e1, .int .i8 e2] 35)).kept hgrow (HV2.out.elim (fun h => .inr (by rw [h]; simp [Value.ownBlock])) (fun h => .inr (Ne.symm h))))
        have HP9 := Lib.hid (show v'.ownBlock = none ∨ v'.ownBlock ≠ Value.ownBlock (.slice (some ⟨gA, 0, none⟩) M cA) by
          rcases hat with h | h
          · rw [h]; exact HV2.out
          · rw [h]; exact .inr (fun e => by cases e; simp at hgA; omega))
        have ho9 : w9.ownsRow (s + 1) 35 2 v' (filtB (mownB L cs mown) ((ofKind L Wn Hn 0).take (i + 1))).length (flatV (filtB (mownB L cs mown) ((ofKind L Wn Hn 0).take (i + 1)))) := by
          rw [HTK.out, HF2.out, flatV_append, List.length_append]
          exact hown'
        have HO9 := Lib.hid ho9
        clear hown' hgrow hat ho9 f1 f2
        go_wp2_with fail
        go_roundw
        case rel => exact ⟨i + 1, by omega, by go_num, HO9.out, HA9.out, HP9.out, k9, hb9⟩
        case measure => simp [intOf]; omega
    · have hiM : i = M := by omega
      have hd : decide ((i : Int) < (M : Int)) = false := by simp; omega
      obtain ⟨av, cv, hve⟩ := own_slice HO.out
      have HF := Lib.hid (show _ from HO.out)
      have hall : (ofKind L Wn Hn 0).take i = ofKind L Wn Hn 0 := by rw [List.take_of_length_le (by rw [HM.out]; omega)]
      have hall2 : filtB (mownB L cs mown) ((ofKind L Wn Hn 0).take i) = filtB (mownB L cs mown) (allC Wn Hn) := by rw [hall]; exact mown_of_grass cs mown _
      rw [hall2] at HF
      clear hiM hall hall2 HO
      go_wp2_with fail
      go_ret
      exact ⟨⟨_, rfl, ownsRow_low HF.out (by omega)⟩, hb⟩
end Go.Proofs.Ytlfmadnhjleofaa
