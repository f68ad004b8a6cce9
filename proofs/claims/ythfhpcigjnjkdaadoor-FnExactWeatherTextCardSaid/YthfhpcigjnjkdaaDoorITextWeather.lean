/- The program's text of Weather. -/
import Derived.Test.YthfhpcigjnjkdaaDoorStrV
import Derived.Test.YthfhpcigjnjkdaaDoorJoinT
import Derived.Test.YthfhpcigjnjkdaaDoorZD
import Derived.Test.YthfhpcigjnjkdaaDoorIValidW
namespace Go.Proofs.YthfhpcigjnjkdaaDoor
open Go.RowKit
set_option linter.unusedVariables false
set_option linter.unusedSimpArgs false

set_option maxRecDepth 100000 in
set_option maxHeartbeats 2000000 in
theorem itextWeather_good (B : Nat) (qs : List (Int × Int)) (n : Nat) (hn : qs.length = n) (hm : n ≤ 30) (hok : ∀ a ∈ qs, pairOk 50 40 a = true) (v : Value) (w : World) (ho : w.ownsRow B 93 2 v n (prV qs)) (HV : Calls Tryd.prog 68 #[v] w fun e w' => e = .returned (.bool true) ∧ Below w.heap.size w w') :
    Calls Tryd.prog 20 #[v] w fun e w' => e = .returned (.string ⟨(joinS 32 (qs.map (pairT 47))).toArray⟩) ∧ Below w.heap.size w w' := by
  obtain ⟨i0, hi, hq0, hq1, hq2⟩ := info_parts strInfo
  have HCI := Lib.hid (show Tryd.prog.info? 9 = some i0 ∧ i0.zero = some (.string ⟨#[]⟩) ∧ i0.size = 1 ∧ i0.bytes = 16 from ⟨hi, hq0, hq1, hq2⟩)
  clear hi hq0 hq1 hq2
  obtain ⟨av, cv, rfl⟩ := own_slice ho
  have HO := Lib.hid ho
  have HOK := Lib.hid (show ∀ (i : Nat) a, qs[i]? = some a → (0 ≤ a.1 ∧ a.1 ≤ 50) ∧ 0 ≤ a.2 ∧ a.2 ≤ 40 from fun i a h => pairOk_true.1 (hok a (List.mem_of_getElem? h)))
  have HQ := Lib.hid (show ∀ i, i < n → ∃ a, qs[i]? = some a from fun i h => ⟨_, List.getElem?_eq_getElem (by omega)⟩)
  have HT := Lib.hid (show ∀ i a, qs[i]? = some a → strV ((qs.take (i + 1)).map (pairT 47)) = strV ((qs.take i).map (pairT 47)) ++ [.string ⟨(dd a.1.toNat ++ 47 :: dd a.2.toNat).toArray⟩] from fun i a h => by
    rw [List.take_add_one, h]; simp [strV, pairT])
  have HDL := Lib.hid (fun x => dd_len3 x)
  have HIT := Lib.hid (show ∀ x : Int, 0 ≤ x ∧ x ≤ 50 → ∀ w, Calls Tryd.prog 69 #[.int .i64 x] w fun e w' => e = .returned (.string ⟨(dd x.toNat).toArray⟩) ∧ w' = w from fun x h w => by
    have := itoa_any x.toNat (by omega) w
    rwa [show ((x.toNat : Nat) : Int) = x by omega] at this)
  have HJL := Lib.hid (join_le (tx := (pairT 47)) qs (pairT_len7 47))
  have HALL := Lib.hid (show strV ((qs.take n).map (pairT 47)) = strV (qs.map (pairT 47)) ∧ (qs.map (pairT 47)).length = n from ⟨by rw [List.take_of_length_le (by omega)], by rw [List.length_map, hn]⟩)
  have HN := Lib.hid hn
  clear ho hok hn
  have HV := Lib.hid HV
  go_enter Tryd.func20, Tryd.ntmps20
  go_wp2_with fail
  refine HV.out.mono ?_
  rintro e w1 ⟨rfl, hb1⟩
  have HO1 := Lib.hid (own_below HO.out hb1)
  clear HO HV
  go_wp2_with fail
  obtain ⟨u, hu⟩ : ∃ u, w1.heap.size = u := ⟨_, rfl⟩
  have HU := Lib.hid hu
  have hu1 : w.heap.size ≤ u := by rw [← hu]; exact hb1.size
  clear hu
  go_loopw [3, 11] (fun x i wr => ∃ k : Nat, k ≤ n ∧ i = .int .i64 (k : Int) ∧ wr.ownsRow u 9 1 x k (strV ((qs.take k).map (pairT 47))) ∧ wr.ownsRow B 93 2 (.slice av n cv) n (prV qs) ∧ u ≤ wr.heap.size ∧ Below w.heap.size w wr) (fun _ i _ => n - (intOf i).toNat)
  case atStart => exact ⟨0, by omega, rfl, ⟨rfl, .inl ⟨rfl, rfl⟩⟩, HO1.out, by rw [← HU.out]; exact Nat.le_refl _, hb1⟩
  case round =>
    obtain ⟨k, hk, rfl, hox, ho, hul, hb⟩ := hrel
    have HX := Lib.hid hox
    have HO := Lib.hid ho
    have HO1W := HO1
    
    clear hox ho HO1
    by_cases hlt : k < n
    · have hd : decide ((k : Int) < (n : Int)) = true := by simp; omega
      obtain ⟨⟨x, y⟩, ha⟩ := HQ.out k hlt
      have ho := HO.out
      obtain ⟨g, cap, he, -, -⟩ := own_form ho (by omega)
      simp only [Value.slice.injEq, true_and] at he
      obtain ⟨rfl, rfl⟩ := he
      obtain ⟨z0, z1⟩ := prV_get _ _ _ ha
      have c0 := own_cell ho _ _ z0
      have c1 := own_cell ho _ _ z1
      have HTX := HT.out k _ ha
      have HA := Lib.hid ha
      obtain ⟨hx, hy⟩ := HOK.out k _ ha
      simp only at c0 c1 HTX hx hy
      have lx := HDL.out x.toNat
      have ly := HDL.out y.toNat
      have DX := HIT.out x
      have DY := HIT.out y
      obtain ⟨A, hA⟩ : ∃ A, dd x.toNat = A := ⟨_, rfl⟩
      obtain ⟨D, hD⟩ : ∃ D, dd y.toNat = D := ⟨_, rfl⟩
      rw [hA] at HTX DX lx
      rw [hD] at HTX DY ly
      have HTXX := Lib.hid HTX
      have HDX := Lib.hid (DX (by omega))
      have HDY := Lib.hid (DY (by omega))
      clear ho z0 z1 ha hA hD DX DY HTX
      obtain ⟨s, hs⟩ : ∃ s, wr.heap.size = s := ⟨_, rfl⟩
      have j0 := Holds.new' wr #[.int .i8 x, .int .i8 y] 93 s hs.symm
      have HO1 := Lib.hid (HO.out.alloc (.cells #[.int .i8 x, .int .i8 y] 93))
      have HX1 := Lib.hid (HX.out.alloc (.cells #[.int .i8 x, .int .i8 y] 93))
      have hb1 := hb.alloc hb.size (.cells #[.int .i8 x, .int .i8 y] 93)
      obtain ⟨W1, hW1⟩ : ∃ W1, wr.alloc (.cells #[.int .i8 x, .int .i8 y] 93) = W1 := ⟨_, rfl⟩
      rw [hW1] at j0 HO1 HX1 hb1
      have hsW : u < W1.heap.size := by have := j0.lt; omega
      have HSS := Lib.hid hs
      have HWW := Lib.hid hW1
      have f0 : (wr.alloc (.cells #[.int .i8 x, .int .i8 y] 93)).cell? ⟨wr.heap.size, 0, none⟩ = some (.int .i8 x) := by simp
      clear HO HX hb hW1 hs
      go_wp2_with fail
      try simp only [HSS.out]
      try rw [HWW.out]
      clear HWW HSS c0 c1 f0
      refine wp_region_make 11 rfl rfl (by kernel_rfl) (by kernel_rfl) (by kernel_rfl) ?_
      simp only [List.take_succ_cons, List.take_zero, List.drop_succ_cons, List.drop_zero]
      apply wpGrowB_plain rfl
      · intro w' hw' K hK
        have e0 := (j0.below hw' j0.lt).cell 0
        have e1 := (j0.below hw' j0.lt).cell 1
        simp at e0 e1
        go_wp2_with fail
        exact hK _ _ rfl (Below.refl _ _)
      simp only [Act.put, List.setIfInBounds_toArray, List.set_cons_succ, List.set_cons_zero]
      apply wpGrowB_plain rfl
      · intro w' hw' K hK
        have e0 := (j0.below hw' j0.lt).cell 0
        have e1 := (j0.below hw' j0.lt).cell 1
        simp at e0 e1
        go_wp2_with fail
        exact hK _ _ rfl (Below.refl _ _)
      simp only [Act.put, List.setIfInBounds_toArray, List.set_cons_succ, List.set_cons_zero]
      apply wpGrowB_plain rfl
      · intro w' hw' K hK
        have e0 := (j0.below hw' j0.lt).cell 0
        have e1 := (j0.below hw' j0.lt).cell 1
        simp at e0 e1
        go_wp2_with fail
        exact hK _ _ rfl (Below.refl _ _)
      simp only [Act.put, List.setIfInBounds_toArray, List.set_cons_succ, List.set_cons_zero]
      apply wpGrowB_plain rfl
      · intro w' hw' K hK
        have e0 := (j0.below hw' j0.lt).cell 0
        have e1 := (j0.below hw' j0.lt).cell 1
        simp at e0 e1
        go_wp2_with fail
        exact hK _ _ rfl (Below.refl _ _)
      simp only [Act.put, List.setIfInBounds_toArray, List.set_cons_succ, List.set_cons_zero]
      apply wpGrowB_plain rfl
      · intro w' hw' K hK
        have e0 := (j0.below hw' j0.lt).cell 0
        have e1 := (j0.below hw' j0.lt).cell 1
        simp at e0 e1
        go_wp2_with fail
        refine (HDX.out _).mono ?_
        rintro e w5 ⟨rfl, h5⟩
        rw [h5]
        clear h5
        go_wp2_with fail
        exact hK _ _ rfl (Below.refl _ _)
      simp only [Act.put, List.setIfInBounds_toArray, List.set_cons_succ, List.set_cons_zero]
      apply wpGrowB_plain rfl
      · intro w' hw' K hK
        have e0 := (j0.below hw' j0.lt).cell 0
        have e1 := (j0.below hw' j0.lt).cell 1
        simp at e0 e1
        go_wp2_with fail
        exact hK _ _ rfl (Below.refl _ _)
      simp only [Act.put, List.setIfInBounds_toArray, List.set_cons_succ, List.set_cons_zero]
      apply wpGrowB_plain rfl
      · intro w' hw' K hK
        have e0 := (j0.below hw' j0.lt).cell 0
        have e1 := (j0.below hw' j0.lt).cell 1
        simp at e0 e1
        go_wp2_with fail
        exact hK _ _ rfl (Below.refl _ _)
      simp only [Act.put, List.setIfInBounds_toArray, List.set_cons_succ, List.set_cons_zero]
      apply wpGrowB_plain rfl
      · intro w' hw' K hK
        have e0 := (j0.below hw' j0.lt).cell 0
        have e1 := (j0.below hw' j0.lt).cell 1
        simp at e0 e1
        go_wp2_with fail
        exact hK _ _ rfl (Below.refl _ _)
      simp only [Act.put, List.setIfInBounds_toArray, List.set_cons_succ, List.set_cons_zero]
      apply wpGrowB_plain rfl
      · intro w' hw' K hK
        have e0 := (j0.below hw' j0.lt).cell 0
        have e1 := (j0.below hw' j0.lt).cell 1
        simp at e0 e1
        go_wp2_with fail
        exact hK _ _ rfl (Below.refl _ _)
      simp only [Act.put, List.setIfInBounds_toArray, List.set_cons_succ, List.set_cons_zero]
      apply wpGrowB_plain rfl
      · intro w' hw' K hK
        have e0 := (j0.below hw' j0.lt).cell 0
        have e1 := (j0.below hw' j0.lt).cell 1
        simp at e0 e1
        go_wp2_with fail
        refine (HDY.out _).mono ?_
        rintro e w5 ⟨rfl, h5⟩
        rw [h5]
        clear h5
        go_wp2_with fail
        exact hK _ _ rfl (Below.refl _ _)
      simp only [Act.put, List.setIfInBounds_toArray, List.set_cons_succ, List.set_cons_zero]
      apply wpGrowB_plain rfl
      · intro w' hw' K hK
        have e0 := (j0.below hw' j0.lt).cell 0
        have e1 := (j0.below hw' j0.lt).cell 1
        simp at e0 e1
        go_wp2_with fail
        exact hK _ _ rfl (Below.refl _ _)
      simp only [Act.put, List.setIfInBounds_toArray, List.set_cons_succ, List.set_cons_zero]
      refine wpGrowB_nil ⟨fun g => .slice (some ⟨g, 0, none⟩) 1 1, .cells #[.string ((⟨A.toArray⟩ ++ ⟨#[47]⟩) ++ ⟨D.toArray⟩)] 9, fun w1 hw1 K hK => ?_, ?_⟩
      · go_wp2_with fail
        exact hK _ _ rfl rfl
      intro gg W3 hg3 hW3 hobj
      have HX3 := Lib.hid (own_below HX1.out hW3)
      have HO3 := Lib.hid (own_below HO1.out hW3)
      have hb3 := hb1.trans (hW3.mono hb1.size)
      have hgg : Holds W3 gg #[.string ((⟨A.toArray⟩ ++ ⟨#[47]⟩) ++ ⟨D.toArray⟩)] := ⟨_, hobj⟩
      have HG3 := Lib.hid hgg
      have hgs := hgg.lt
      have hW3s := hW3.size
      clear HX1 HO1 j0 hb1 hW3 hobj hgg HDX HDY
      simp only [List.setIfInBounds_toArray, List.set_cons_succ, List.set_cons_zero]
      go_wp2_with (at_builtin; refine wpList_append_own_at _ rfl _ _ 81 rfl u 9 i0 (.string ⟨#[]⟩) 1 16 Tryd.underlying81 HCI.out.1 HCI.out.2.1 HCI.out.2.2.1 HCI.out.2.2.2 rfl (by decide) _ _ _ rfl HX3.out ⟨gg, 0, none⟩ 1 1 [.string ((⟨A.toArray⟩ ++ ⟨#[47]⟩) ++ ⟨D.toArray⟩)] rfl rfl ?c1 ?c2 ?c3 ?c4 ?c5 ?_)
      case c1 =>
        intro m z hz
        match m, hz with
        | 0, hz => simp at hz; subst hz; exact HG3.out.cell 0
      case c2 => intro z hz; simp at hz; subst hz; rfl
      case c3 => unfold maxLen; omega
      case c4 => omega
      case c5 => omega
      intro v' w9 hown' hgrow _ hat
      have hb9 : Below w.heap.size w w9 := hb3.grown hgrow hb3.size (fun k hk => by have := own_far HX3.out k hk; omega)
      have HO9 := Lib.hid (HO3.out.kept hgrow (own_apart HO1W.out (Nat.le_of_eq HU.out) HX3.out))
      have ho9 : w9.ownsRow u 9 1 v' (k + 1) (strV ((qs.take (k + 1)).map (pairT 47))) := by
        rw [HTXX.out]
        have e : (⟨(A ++ 47 :: D).toArray⟩ : ByteArray) = ((⟨A.toArray⟩ ++ ⟨#[47]⟩) ++ ⟨D.toArray⟩) := by apply ByteArray.ext; simp
        rw [e]
        simpa only [List.map_take] using hown'
      have HX9 := Lib.hid ho9
      have hgz := hgrow.size
      clear HX3 HO3 hb3 hown' hgrow hat HG3 ho9
      go_wp2_with fail
      go_roundw
      case rel => exact ⟨k + 1, by omega, by go_num, HX9.out, HO9.out, by omega, hb9⟩
      case measure => simp [intOf]; omega
    · have hd : decide ((k : Int) < (n : Int)) = false := by simp; omega
      obtain rfl : k = n := by omega
      have hox := HX.out
      rw [HALL.out.1] at hox
      go_wp2_with fail
      refine (join_own 32 (qs.map (pairT 47)) k HALL.out.2 u _ _ hox (by omega) (by have := HJL.out; have := HN.out; omega)).mono ?_
      rintro e w9 ⟨rfl, hb9⟩
      have hbz := below_onto hb hb9
      go_wp2_with fail
      go_ret
      exact ⟨rfl, hbz⟩
end Go.Proofs.YthfhpcigjnjkdaaDoor
