/- The program's text of Walk. -/
import Derived.Test.YthfhpcigjnjkdaaDoorStrV
import Derived.Test.YthfhpcigjnjkdaaDoorJoinT
import Derived.Test.YthfhpcigjnjkdaaDoorZD
import Derived.Test.YthfhpcigjnjkdaaDoorDays
namespace Go.Proofs.YthfhpcigjnjkdaaDoor
open Go.RowKit
set_option linter.unusedVariables false
set_option linter.unusedSimpArgs false

set_option maxRecDepth 100000 in
set_option maxHeartbeats 2000000 in
theorem itextWalk_any (B : Nat) (qs : List (Int × Int)) (n : Nat) (hn : qs.length = n) (hm : n ≤ 2000000) (v : Value) (w : World) (ho : w.ownsRow B 106 2 v n (prV qs)) :
    Calls Tryd.prog 29 #[v] w fun e w' => e = .returned (.string ⟨(lineL (pairT 44) (pairOk 9 9) 201 qs).toArray⟩) ∧ Below w.heap.size w w' := by
  obtain ⟨i0, hi, hq0, hq1, hq2⟩ := info_parts strInfo
  have HCI := Lib.hid (show Tryd.prog.info? 9 = some i0 ∧ i0.zero = some (.string ⟨#[]⟩) ∧ i0.size = 1 ∧ i0.bytes = 16 from ⟨hi, hq0, hq1, hq2⟩)
  clear hi hq0 hq1 hq2
  obtain ⟨av, cv, rfl⟩ := own_slice ho
  have HO := Lib.hid ho
  by_cases hbig : 201 < n
  · have dl : decide ((201 : Int) < (n : Int)) = true := by simp; omega
    have HB := Lib.hid (show lineL (pairT 44) (pairOk 9 9) 201 qs = [] by unfold lineL; rw [if_neg]; simp only [Bool.and_eq_true, decide_eq_true_eq, not_and]; intro _; omega)
    clear HO ho
    go_enter Tryd.func29, Tryd.ntmps29
    go_wp2_with fail
    go_ret
    exact ⟨by rw [HB.out]; rfl, Below.refl _ _⟩
  have HBAD := Lib.hid (show ∀ (i : Nat) a, qs[i]? = some a → (pairOk 9 9) a = false → lineL (pairT 44) (pairOk 9 9) 201 qs = [] from fun i a h hf => by
    unfold lineL
    rw [if_neg]
    simp only [Bool.and_eq_true, not_and, List.all_eq_true]
    intro hall
    have := hall a (List.mem_of_getElem? h)
    rw [hf] at this
    cases this)
  have HGOOD := Lib.hid (show (∀ (j : Nat) a, j < n → qs[j]? = some a → (pairOk 9 9) a = true) → lineL (pairT 44) (pairOk 9 9) 201 qs = joinS 32 (qs.map (pairT 44)) from fun h => lineL_good (fun a ha => by
    obtain ⟨j, hj⟩ := List.getElem?_of_mem ha
    exact h j a (by have := (List.getElem?_eq_some_iff.1 hj).1; omega) hj) (by omega))
  have hm : n ≤ 201 := by omega
  clear hbig
  have HQ := Lib.hid (show ∀ i, i < n → ∃ a, qs[i]? = some a from fun i h => ⟨_, List.getElem?_eq_getElem (by omega)⟩)
  have HT := Lib.hid (show ∀ i a, qs[i]? = some a → strV ((qs.take (i + 1)).map (pairT 44)) = strV ((qs.take i).map (pairT 44)) ++ [.string ⟨(dd a.1.toNat ++ 44 :: dd a.2.toNat).toArray⟩] from fun i a h => by
    rw [List.take_add_one, h]; simp [strV, pairT])
  have HDL := Lib.hid (fun x => dd_len3 x)
  have HIT := Lib.hid (show ∀ x : Int, 0 ≤ x ∧ x ≤ 50 → ∀ w, Calls Tryd.prog 69 #[.int .i64 x] w fun e w' => e = .returned (.string ⟨(dd x.toNat).toArray⟩) ∧ w' = w from fun x h w => by
    have := itoa_any x.toNat (by omega) w
    rwa [show ((x.toNat : Nat) : Int) = x by omega] at this)
  have HJL := Lib.hid (join_le (tx := (pairT 44)) qs (pairT_len7 44))
  have HALL := Lib.hid (show strV ((qs.take n).map (pairT 44)) = strV (qs.map (pairT 44)) ∧ (qs.map (pairT 44)).length = n from ⟨by rw [List.take_of_length_le (by omega)], by rw [List.length_map, hn]⟩)
  have HN := Lib.hid hn
  clear ho hn
  have dl : decide ((201 : Int) < (n : Int)) = false := by simp; omega
  go_enter Tryd.func29, Tryd.ntmps29
  go_wp2_with fail
  have hb1 := Below.refl w.heap.size w
  have HO1 := HO
  clear HO
  obtain ⟨u, hu⟩ : ∃ u, w.heap.size = u := ⟨_, rfl⟩
  have HU := Lib.hid hu
  have hu1 : w.heap.size ≤ u := by rw [← hu]; exact hb1.size
  clear hu
  go_loopw [3, 11] (fun x i wr => ∃ k : Nat, k ≤ n ∧ i = .int .i64 (k : Int) ∧ (∀ (j : Nat) a, j < k → qs[j]? = some a → (pairOk 9 9) a = true) ∧ wr.ownsRow u 9 1 x k (strV ((qs.take k).map (pairT 44))) ∧ wr.ownsRow B 106 2 (.slice av n cv) n (prV qs) ∧ u ≤ wr.heap.size ∧ Below w.heap.size w wr) (fun _ i _ => n - (intOf i).toNat)
  case atStart => exact ⟨0, by omega, rfl, (fun j a h _ => absurd h (Nat.not_lt_zero _)), ⟨rfl, .inl ⟨rfl, rfl⟩⟩, HO1.out, by rw [← HU.out]; exact Nat.le_refl _, hb1⟩
  case round =>
    obtain ⟨k, hk, rfl, hpre, hox, ho, hul, hb⟩ := hrel
    have HX := Lib.hid hox
    have HO := Lib.hid ho
    have HO1W := HO1
    have HPRE := Lib.hid hpre
    clear hox ho HO1 hpre
    by_cases hlt : k < n
    · have hd : decide ((k : Int) < (n : Int)) = true := by simp; omega
      obtain ⟨⟨x, y⟩, ha⟩ := HQ.out k hlt
      have ho := HO.out
      obtain ⟨g, cap, he, -, -⟩ := own_form ho (by omega)
      simp only [Value.slice.injEq, true_and] at he
      obtain ⟨rfl, rfl⟩ := he
      obtain ⟨z0, z1⟩ := prV_get _ _ _ ha
      have c0 := own_cell ho _ _ z0
      have c1 := own_cell ho _ _ z1
      have HTX := HT.out k _ ha
      have HA := Lib.hid ha
      
      simp only at c0 c1 HTX
      have lx := HDL.out x.toNat
      have ly := HDL.out y.toNat
      have DX := HIT.out x
      have DY := HIT.out y
      obtain ⟨A, hA⟩ : ∃ A, dd x.toNat = A := ⟨_, rfl⟩
      obtain ⟨D, hD⟩ : ∃ D, dd y.toNat = D := ⟨_, rfl⟩
      rw [hA] at HTX DX lx
      rw [hD] at HTX DY ly
      have HTXX := Lib.hid HTX
      have HDX0 := Lib.hid DX
      have HDY0 := Lib.hid DY
      clear ho z0 z1 ha hA hD DX DY HTX
      obtain ⟨s, hs⟩ : ∃ s, wr.heap.size = s := ⟨_, rfl⟩
      have j0 := Holds.new' wr #[.int .i8 x, .int .i8 y] 106 s hs.symm
      have HO1 := Lib.hid (HO.out.alloc (.cells #[.int .i8 x, .int .i8 y] 106))
      have HX1 := Lib.hid (HX.out.alloc (.cells #[.int .i8 x, .int .i8 y] 106))
      have hb1 := hb.alloc hb.size (.cells #[.int .i8 x, .int .i8 y] 106)
      obtain ⟨W1, hW1⟩ : ∃ W1, wr.alloc (.cells #[.int .i8 x, .int .i8 y] 106) = W1 := ⟨_, rfl⟩
      rw [hW1] at j0 HO1 HX1 hb1
      have hsW : u < W1.heap.size := by have := j0.lt; omega
      have HSS := Lib.hid hs
      have HWW := Lib.hid hW1
      have f0 : (wr.alloc (.cells #[.int .i8 x, .int .i8 y] 106)).cell? ⟨wr.heap.size, 0, none⟩ = some (.int .i8 x) := by simp
      clear HO HX hb hW1 hs
      go_wp2_with fail
      try simp only [HSS.out]
      try rw [HWW.out]
      clear HWW HSS c0 c1 f0
      obtain ⟨bx, hbx⟩ : ∃ b, upB x 9 = b := ⟨_, rfl⟩
      refine (upto8_is _ _ bx hbx _).mono ?_
      rintro e w2 ⟨rfl, hw2⟩
      rw [hw2]
      clear hw2
      have HBX := Lib.hid hbx
      clear hbx
      cases bx
      case false =>
        have HE := Lib.hid (HBAD.out k _ HA.out (by have := HBX.out; unfold upB at this; simp only [pairOk, this, Bool.false_and]))
        go_wp2_with fail
        go_ret
        exact ⟨by rw [HE.out]; rfl, hb1⟩
      have e1 := j0.cell 1
      simp at e1
      go_wp2_with fail
      obtain ⟨bx, hbx⟩ : ∃ b, upB y 9 = b := ⟨_, rfl⟩
      refine (upto8_is _ _ bx hbx _).mono ?_
      rintro e w2 ⟨rfl, hw2⟩
      rw [hw2]
      clear hw2
      have HBY := Lib.hid hbx
      clear hbx e1
      cases bx
      case false =>
        have HE := Lib.hid (HBAD.out k _ HA.out (by have := HBY.out; unfold upB at this; simp only [pairOk, this, Bool.and_false]))
        go_wp2_with fail
        go_ret
        exact ⟨by rw [HE.out]; rfl, hb1⟩
      have HOKA := Lib.hid (show (pairOk 9 9) (x, y) = true by have h1 := HBX.out; have h2 := HBY.out; unfold upB at h1 h2; simp only [pairOk, h1, h2, Bool.and_true])
      obtain ⟨⟨hx0, hx1⟩, hy0, hy1⟩ := pairOk_true.1 HOKA.out
      simp only at hx0 hx1 hy0 hy1
      have HDX := Lib.hid (HDX0.out (by omega))
      have HDY := Lib.hid (HDY0.out (by omega))
      go_wp2_with fail
      refine wp_region_make 11 rfl rfl (by kernel_rfl) (by kernel_rfl) (by kernel_rfl) ?_
      simp only [List.take_succ_cons, List.take_zero, List.drop_succ_cons, List.drop_zero]
      apply wpGrowB_plain rfl
      · intro w' hw' K hK
        have e0 := (j0.below hw' j0.lt).cell 0
        have e1 := (j0.below hw' j0.lt).cell 1
        simp at e0 e1
        go_wp2_with fail
        exact hK _ _ rfl (Below.refl _ _)
      simp only [Act.put, List.setIfInBounds_toArray, List.set_cons_succ, List.set_cons_zero]
      apply wpGrowB_plain rfl
      · intro w' hw' K hK
        have e0 := (j0.below hw' j0.lt).cell 0
        have e1 := (j0.below hw' j0.lt).cell 1
        simp at e0 e1
        go_wp2_with fail
        exact hK _ _ rfl (Below.refl _ _)
      simp only [Act.put, List.setIfInBounds_toArray, List.set_cons_succ, List.set_cons_zero]
      apply wpGrowB_plain rfl
      · intro w' hw' K hK
        have e0 := (j0.below hw' j0.lt).cell 0
        have e1 := (j0.below hw' j0.lt).cell 1
        simp at e0 e1
        go_wp2_with fail
        exact hK _ _ rfl (Below.refl _ _)
      simp only [Act.put, List.setIfInBounds_toArray, List.set_cons_succ, List.set_cons_zero]
      apply wpGrowB_plain rfl
      · intro w' hw' K hK
        have e0 := (j0.below hw' j0.lt).cell 0
        have e1 := (j0.below hw' j0.lt).cell 1
        simp at e0 e1
        go_wp2_with fail
        exact hK _ _ rfl (Below.refl _ _)
      simp only [Act.put, List.setIfInBounds_toArray, List.set_cons_succ, List.set_cons_zero]
      apply wpGrowB_plain rfl
      · intro w' hw' K hK
        have e0 := (j0.below hw' j0.lt).cell 0
        have e1 := (j0.below hw' j0.lt).cell 1
        simp at e0 e1
        go_wp2_with fail
        refine (HDX.out _).mono ?_
        rintro e w5 ⟨rfl, h5⟩
        rw [h5]
        clear h5
        go_wp2_with fail
        exact hK _ _ rfl (Below.refl _ _)
      simp only [Act.put, List.setIfInBounds_toArray, List.set_cons_succ, List.set_cons_zero]
      apply wpGrowB_plain rfl
      · intro w' hw' K hK
        have e0 := (j0.below hw' j0.lt).cell 0
        have e1 := (j0.below hw' j0.lt).cell 1
        simp at e0 e1
        go_wp2_with fail
        exact hK _ _ rfl (Below.refl _ _)
      simp only [Act.put, List.setIfInBounds_toArray, List.set_cons_succ, List.set_cons_zero]
      apply wpGrowB_plain rfl
      · intro w' hw' K hK
        have e0 := (j0.below hw' j0.lt).cell 0
        have e1 := (j0.below hw' j0.lt).cell 1
        simp at e0 e1
        go_wp2_with fail
        exact hK _ _ rfl (Below.refl _ _)
      simp only [Act.put, List.setIfInBounds_toArray, List.set_cons_succ, List.set_cons_zero]
      apply wpGrowB_plain rfl
      · intro w' hw' K hK
        have e0 := (j0.below hw' j0.lt).cell 0
        have e1 := (j0.below hw' j0.lt).cell 1
        simp at e0 e1
        go_wp2_with fail
        exact hK _ _ rfl (Below.refl _ _)
      simp only [Act.put, List.setIfInBounds_toArray, List.set_cons_succ, List.set_cons_zero]
      apply wpGrowB_plain rfl
      · intro w' hw' K hK
        have e0 := (j0.below hw' j0.lt).cell 0
        have e1 := (j0.below hw' j0.lt).cell 1
        simp at e0 e1
        go_wp2_with fail
        exact hK _ _ rfl (Below.refl _ _)
      simp only [Act.put, List.setIfInBounds_toArray, List.set_cons_succ, List.set_cons_zero]
      apply wpGrowB_plain rfl
      · intro w' hw' K hK
        have e0 := (j0.below hw' j0.lt).cell 0
        have e1 := (j0.below hw' j0.lt).cell 1
        simp at e0 e1
        go_wp2_with fail
        refine (HDY.out _).mono ?_
        rintro e w5 ⟨rfl, h5⟩
        rw [h5]
        clear h5
        go_wp2_with fail
        exact hK _ _ rfl (Below.refl _ _)
      simp only [Act.put, List.setIfInBounds_toArray, List.set_cons_succ, List.set_cons_zero]
      apply wpGrowB_plain rfl
      · intro w' hw' K hK
        have e0 := (j0.below hw' j0.lt).cell 0
        have e1 := (j0.below hw' j0.lt).cell 1
        simp at e0 e1
        go_wp2_with fail
        exact hK _ _ rfl (Below.refl _ _)
      simp only [Act.put, List.setIfInBounds_toArray, List.set_cons_succ, List.set_cons_zero]
      refine wpGrowB_nil ⟨fun g => .slice (some ⟨g, 0, none⟩) 1 1, .cells #[.string ((⟨A.toArray⟩ ++ ⟨#[44]⟩) ++ ⟨D.toArray⟩)] 9, fun w1 hw1 K hK => ?_, ?_⟩
      · go_wp2_with fail
        exact hK _ _ rfl rfl
      intro gg W3 hg3 hW3 hobj
      have HX3 := Lib.hid (own_below HX1.out hW3)
      have HO3 := Lib.hid (own_below HO1.out hW3)
      have hb3 := hb1.trans (hW3.mono hb1.size)
      have hgg : Holds W3 gg #[.string ((⟨A.toArray⟩ ++ ⟨#[44]⟩) ++ ⟨D.toArray⟩)] := ⟨_, hobj⟩
      have HG3 := Lib.hid hgg
      have hgs := hgg.lt
      have hW3s := hW3.size
      clear HX1 HO1 j0 hb1 hW3 hobj hgg HDX HDY
      simp only [List.setIfInBounds_toArray, List.set_cons_succ, List.set_cons_zero]
      go_wp2_with (at_builtin; refine wpList_append_own_at _ rfl _ _ 81 rfl u 9 i0 (.string ⟨#[]⟩) 1 16 Tryd.underlying81 HCI.out.1 HCI.out.2.1 HCI.out.2.2.1 HCI.out.2.2.2 rfl (by decide) _ _ _ rfl HX3.out ⟨gg, 0, none⟩ 1 1 [.string ((⟨A.toArray⟩ ++ ⟨#[44]⟩) ++ ⟨D.toArray⟩)] rfl rfl ?c1 ?c2 ?c3 ?c4 ?c5 ?_)
      case c1 =>
        intro m z hz
        match m, hz with
        | 0, hz => simp at hz; subst hz; exact HG3.out.cell 0
      case c2 => intro z hz; simp at hz; subst hz; rfl
      case c3 => unfold maxLen; omega
      case c4 => omega
      case c5 => omega
      intro v' w9 hown' hgrow _ hat
      have hb9 : Below w.heap.size w w9 := hb3.grown hgrow hb3.size (fun k hk => by have := own_far HX3.out k hk; omega)
      have HO9 := Lib.hid (HO3.out.kept hgrow (own_apart HO1W.out (Nat.le_of_eq HU.out) HX3.out))
      have ho9 : w9.ownsRow u 9 1 v' (k + 1) (strV ((qs.take (k + 1)).map (pairT 44))) := by
        rw [HTXX.out]
        have e : (⟨(A ++ 44 :: D).toArray⟩ : ByteArray) = ((⟨A.toArray⟩ ++ ⟨#[44]⟩) ++ ⟨D.toArray⟩) := by apply ByteArray.ext; simp
        rw [e]
        simpa only [List.map_take] using hown'
      have HX9 := Lib.hid ho9
      have hgz := hgrow.size
      have HPX := Lib.hid (show ∀ (j : Nat) a, j < k + 1 → qs[j]? = some a → (pairOk 9 9) a = true from fun j a hj h => by
        rcases Nat.lt_or_ge j k with h1 | h1
        · exact HPRE.out j a h1 h
        · have e : j = k := by omega
          rw [e, HA.out] at h
          cases h
          exact HOKA.out)
      clear HX3 HO3 hb3 hown' hgrow hat HG3 ho9
      go_wp2_with fail
      go_roundw
      case rel => exact ⟨k + 1, by omega, by go_num, HPX.out, HX9.out, HO9.out, by omega, hb9⟩
      case measure => simp [intOf]; omega
    · have hd : decide ((k : Int) < (n : Int)) = false := by simp; omega
      obtain rfl : k = n := by omega
      have hox := HX.out
      rw [HALL.out.1] at hox
      go_wp2_with fail
      refine (join_own 32 (qs.map (pairT 44)) k HALL.out.2 u _ _ hox (by omega) (by have := HJL.out; have := HN.out; omega)).mono ?_
      rintro e w9 ⟨rfl, hb9⟩
      have hbz := below_onto hb hb9
      go_wp2_with fail
      go_ret
      exact ⟨by rw [HGOOD.out (fun j a hj h => HPRE.out j a hj h)]; rfl, hbz⟩
end Go.Proofs.YthfhpcigjnjkdaaDoor
