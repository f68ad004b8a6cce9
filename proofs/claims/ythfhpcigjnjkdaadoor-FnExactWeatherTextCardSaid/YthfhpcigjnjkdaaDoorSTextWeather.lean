/- The model's text of Weather. -/
import Derived.Test.YthfhpcigjnjkdaaDoorStrV
import Derived.Test.YthfhpcigjnjkdaaDoorDecimal
namespace Go.Proofs.YthfhpcigjnjkdaaDoor
open Go.RowKit
set_option linter.unusedVariables false
set_option linter.unusedSimpArgs false

set_option maxRecDepth 100000 in
set_option maxHeartbeats 2000000 in
theorem stextWeather_any (B : Nat) (qs : List (Int × Int)) (n : Nat) (hn : qs.length = n) (hm : n ≤ 30) (hok : ∀ a ∈ qs, pairOk 50 40 a = true) (v : Value) (w : World) (ho : w.ownsRow B 93 2 v n (prV qs)) :
    Calls Tryd.prog 66 #[v] w fun e w' => e = .returned (.string ⟨(joinS 32 (qs.map (pairT 47))).toArray⟩) ∧ Below w.heap.size w w' := by
  obtain ⟨av, cv, rfl⟩ := own_slice ho
  have HO := Lib.hid ho
  have HOK := Lib.hid (show ∀ i a, qs[i]? = some a → ∃ x y : Nat, a = ((x : Int), (y : Int)) ∧ x < 100 ∧ y < 100 ∧ pairT 47 a = dd x ++ 47 :: dd y from fun i a h => by
    have := pairOk_true.1 (hok a (List.mem_of_getElem? h))
    obtain ⟨a1, a2⟩ := a
    simp only at this
    refine ⟨a1.toNat, a2.toNat, ?_, by omega, by omega, rfl⟩
    rw [show ((a1.toNat : Nat) : Int) = a1 by omega, show ((a2.toNat : Nat) : Int) = a2 by omega])
  have HJ := Lib.hid (show ∀ i a, qs[i]? = some a → jn (pairT 47) qs (i + 1) = (if i = 0 then [] else jn (pairT 47) qs i ++ [32]) ++ pairT 47 a from fun i a h => jn_succ h)
  have HL := Lib.hid (jn_len (tx := (pairT 47)) qs (pairT_len7 47))
  have HJA := Lib.hid (jn_all (pairT 47) qs hn)
  have HQ := Lib.hid (show ∀ i, i < n → ∃ a, qs[i]? = some a from fun i h => ⟨_, List.getElem?_eq_getElem (by omega)⟩)
  have HDL := Lib.hid (fun x => dd_len3 x)
  have HDC := Lib.hid (show ∀ (x : Nat), x < 100 → ∀ w, Calls Tryd.prog 113 #[.int .i64 (x : Int)] w fun e w' => e = .returned (.string ⟨(dd x).toArray⟩) ∧ Below w.heap.size w w' from fun x h w => decimal_any x (by omega) w)
  clear ho hok hn
  go_enter Tryd.func66, Tryd.ntmps66
  go_wp2_with fail
  go_loopw [3, 4] (fun s i wr => ∃ k : Nat, k ≤ n ∧ i = .int .i64 (k : Int) ∧ s = .string ⟨(jn (pairT 47) qs k).toArray⟩ ∧ Below w.heap.size w wr) (fun _ i _ => n - (intOf i).toNat)
  case atStart => exact ⟨0, by omega, rfl, rfl, Below.refl _ _⟩
  case round =>
    obtain ⟨k, hk, rfl, rfl, hb⟩ := hrel
    have hjl := HL.out k
    by_cases hlt : k < n
    · have hd : decide ((k : Int) < (n : Int)) = true := by simp; omega
      obtain ⟨a, ha⟩ := HQ.out k hlt
      have ho := own_below HO.out hb
      obtain ⟨g, cap, he, -, -⟩ := own_form ho (by omega)
      simp only [Value.slice.injEq, true_and] at he
      obtain ⟨rfl, rfl⟩ := he
      obtain ⟨z0, z1⟩ := prV_get _ _ _ ha
      have HC := Lib.hid (show ∀ w', Below wr.heap.size wr w' → w'.cell? ⟨g, k * 2, none⟩ = some (.int .i8 a.1) ∧ w'.cell? ⟨g, k * 2 + 1, none⟩ = some (.int .i8 a.2) from fun w' h => ⟨own_cell (own_below ho h) _ _ z0, own_cell (own_below ho h) _ _ z1⟩)
      obtain ⟨x, y, rfl, hx, hy, htx⟩ := HOK.out k a ha
      have HX := HJ.out k _ ha
      rw [htx] at HX
      have lx := HDL.out x
      have ly := HDL.out y
      have DX := HDC.out x hx
      have DY := HDC.out y hy
      obtain ⟨A, hA⟩ : ∃ A, dd x = A := ⟨_, rfl⟩
      obtain ⟨D, hD⟩ : ∃ D, dd y = D := ⟨_, rfl⟩
      rw [hA] at HX DX lx
      rw [hD] at HX DY ly
      have HDX := Lib.hid DX
      have HDY := Lib.hid DY
      have hv0 : ((x : Int) = x) := rfl
      clear ho z0 z1 ha htx hA hD DX DY
      simp only at HC
      obtain ⟨J, hJ⟩ : ∃ J, jn (pairT 47) qs k = J := ⟨_, rfl⟩
      rw [hJ] at HX hjl ⊢
      clear hJ
      by_cases hk0 : k = 0
      · have hd0 : decide (0 < k) = false := by simp; omega
        rw [if_pos hk0] at HX
        have HXX := Lib.hid HX
        have HJ0 := Lib.hid (show J = [] by
          have := hjl
          rw [hk0] at this
          simpa using this)
        clear HX hk0
        go_wp2_with fail
        refine wp_region_grow 18 (by kernel_rfl) (by kernel_rfl) ?_
        simp only [List.take_succ_cons, List.take_zero, List.drop_succ_cons, List.drop_zero]
        apply wpGrow_plain rfl
        · intro w' hw' K hK
          obtain ⟨e0, e1⟩ := HC.out _ hw'
          go_wp2_with fail
          exact hK _ _ rfl hw'
        simp only [Act.put, List.setIfInBounds_toArray, List.set_cons_succ, List.set_cons_zero]
        apply wpGrow_plain rfl
        · intro w' hw' K hK
          obtain ⟨e0, e1⟩ := HC.out _ hw'
          go_wp2_with fail
          exact hK _ _ rfl hw'
        simp only [Act.put, List.setIfInBounds_toArray, List.set_cons_succ, List.set_cons_zero]
        apply wpGrow_plain rfl
        · intro w' hw' K hK
          obtain ⟨e0, e1⟩ := HC.out _ hw'
          go_wp2_with fail
          exact hK _ _ rfl hw'
        simp only [Act.put, List.setIfInBounds_toArray, List.set_cons_succ, List.set_cons_zero]
        apply wpGrow_plain rfl
        · intro w' hw' K hK
          obtain ⟨e0, e1⟩ := HC.out _ hw'
          go_wp2_with fail
          exact hK _ _ rfl hw'
        simp only [Act.put, List.setIfInBounds_toArray, List.set_cons_succ, List.set_cons_zero]
        apply wpGrow_plain rfl
        · intro w' hw' K hK
          obtain ⟨e0, e1⟩ := HC.out _ hw'
          go_wp2_with fail
          exact hK _ _ rfl hw'
        simp only [Act.put, List.setIfInBounds_toArray, List.set_cons_succ, List.set_cons_zero]
        apply wpGrow_plain rfl
        · intro w' hw' K hK
          obtain ⟨e0, e1⟩ := HC.out _ hw'
          go_wp2_with fail
          exact hK _ _ rfl hw'
        simp only [Act.put, List.setIfInBounds_toArray, List.set_cons_succ, List.set_cons_zero]
        apply wpGrow_plain rfl
        · intro w' hw' K hK
          obtain ⟨e0, e1⟩ := HC.out _ hw'
          go_wp2_with fail
          exact hK _ _ rfl hw'
        simp only [Act.put, List.setIfInBounds_toArray, List.set_cons_succ, List.set_cons_zero]
        apply wpGrow_plain rfl
        · intro w' hw' K hK
          obtain ⟨e0, e1⟩ := HC.out _ hw'
          go_wp2_with fail
          refine (HDX.out _).mono ?_
          rintro e w5 ⟨rfl, hb5⟩
          go_wp2_with fail
          exact hK _ _ rfl (below_onto hw' hb5)
        simp only [Act.put, List.setIfInBounds_toArray, List.set_cons_succ, List.set_cons_zero]
        apply wpGrow_plain rfl
        · intro w' hw' K hK
          obtain ⟨e0, e1⟩ := HC.out _ hw'
          go_wp2_with fail
          exact hK _ _ rfl hw'
        simp only [Act.put, List.setIfInBounds_toArray, List.set_cons_succ, List.set_cons_zero]
        apply wpGrow_plain rfl
        · intro w' hw' K hK
          obtain ⟨e0, e1⟩ := HC.out _ hw'
          go_wp2_with fail
          exact hK _ _ rfl hw'
        simp only [Act.put, List.setIfInBounds_toArray, List.set_cons_succ, List.set_cons_zero]
        apply wpGrow_plain rfl
        · intro w' hw' K hK
          obtain ⟨e0, e1⟩ := HC.out _ hw'
          go_wp2_with fail
          exact hK _ _ rfl hw'
        simp only [Act.put, List.setIfInBounds_toArray, List.set_cons_succ, List.set_cons_zero]
        apply wpGrow_plain rfl
        · intro w' hw' K hK
          obtain ⟨e0, e1⟩ := HC.out _ hw'
          go_wp2_with fail
          exact hK _ _ rfl hw'
        simp only [Act.put, List.setIfInBounds_toArray, List.set_cons_succ, List.set_cons_zero]
        apply wpGrow_plain rfl
        · intro w' hw' K hK
          obtain ⟨e0, e1⟩ := HC.out _ hw'
          go_wp2_with fail
          exact hK _ _ rfl hw'
        simp only [Act.put, List.setIfInBounds_toArray, List.set_cons_succ, List.set_cons_zero]
        apply wpGrow_plain rfl
        · intro w' hw' K hK
          obtain ⟨e0, e1⟩ := HC.out _ hw'
          go_wp2_with fail
          exact hK _ _ rfl hw'
        simp only [Act.put, List.setIfInBounds_toArray, List.set_cons_succ, List.set_cons_zero]
        apply wpGrow_plain rfl
        · intro w' hw' K hK
          obtain ⟨e0, e1⟩ := HC.out _ hw'
          go_wp2_with fail
          exact hK _ _ rfl hw'
        simp only [Act.put, List.setIfInBounds_toArray, List.set_cons_succ, List.set_cons_zero]
        apply wpGrow_plain rfl
        · intro w' hw' K hK
          obtain ⟨e0, e1⟩ := HC.out _ hw'
          go_wp2_with fail
          refine (HDY.out _).mono ?_
          rintro e w5 ⟨rfl, hb5⟩
          go_wp2_with fail
          exact hK _ _ rfl (below_onto hw' hb5)
        simp only [Act.put, List.setIfInBounds_toArray, List.set_cons_succ, List.set_cons_zero]
        apply wpGrow_plain rfl
        · intro w' hw' K hK
          obtain ⟨e0, e1⟩ := HC.out _ hw'
          go_wp2_with fail
          exact hK _ _ rfl hw'
        simp only [Act.put, List.setIfInBounds_toArray, List.set_cons_succ, List.set_cons_zero]
        apply wpGrow_plain rfl
        · intro w' hw' K hK
          obtain ⟨e0, e1⟩ := HC.out _ hw'
          go_wp2_with fail
          exact hK _ _ rfl hw'
        simp only [Act.put, List.setIfInBounds_toArray, List.set_cons_succ, List.set_cons_zero]
        refine wpGrow_nil ?_
        intro W2 hW2
        have hb2 := hb.trans (hW2.mono hb.size)
        clear hb hW2 HC HDX HDY
        go_wp2_with fail
        go_roundw
        case rel => exact ⟨k + 1, by omega, by go_num, by rw [HXX.out]; exact congrArg Value.string (strs2 J A D 47 HJ0.out), hb2⟩
        case measure => simp [intOf]; omega
      · have hd0 : decide (0 < k) = true := by simp; omega
        rw [if_neg hk0] at HX
        have HXX := Lib.hid HX
        clear HX hk0
        go_wp2_with fail
        refine wp_region_grow 18 (by kernel_rfl) (by kernel_rfl) ?_
        simp only [List.take_succ_cons, List.take_zero, List.drop_succ_cons, List.drop_zero]
        apply wpGrow_plain rfl
        · intro w' hw' K hK
          obtain ⟨e0, e1⟩ := HC.out _ hw'
          go_wp2_with fail
          exact hK _ _ rfl hw'
        simp only [Act.put, List.setIfInBounds_toArray, List.set_cons_succ, List.set_cons_zero]
        apply wpGrow_plain rfl
        · intro w' hw' K hK
          obtain ⟨e0, e1⟩ := HC.out _ hw'
          go_wp2_with fail
          exact hK _ _ rfl hw'
        simp only [Act.put, List.setIfInBounds_toArray, List.set_cons_succ, List.set_cons_zero]
        apply wpGrow_plain rfl
        · intro w' hw' K hK
          obtain ⟨e0, e1⟩ := HC.out _ hw'
          go_wp2_with fail
          exact hK _ _ rfl hw'
        simp only [Act.put, List.setIfInBounds_toArray, List.set_cons_succ, List.set_cons_zero]
        apply wpGrow_plain rfl
        · intro w' hw' K hK
          obtain ⟨e0, e1⟩ := HC.out _ hw'
          go_wp2_with fail
          exact hK _ _ rfl hw'
        simp only [Act.put, List.setIfInBounds_toArray, List.set_cons_succ, List.set_cons_zero]
        apply wpGrow_plain rfl
        · intro w' hw' K hK
          obtain ⟨e0, e1⟩ := HC.out _ hw'
          go_wp2_with fail
          exact hK _ _ rfl hw'
        simp only [Act.put, List.setIfInBounds_toArray, List.set_cons_succ, List.set_cons_zero]
        apply wpGrow_plain rfl
        · intro w' hw' K hK
          obtain ⟨e0, e1⟩ := HC.out _ hw'
          go_wp2_with fail
          exact hK _ _ rfl hw'
        simp only [Act.put, List.setIfInBounds_toArray, List.set_cons_succ, List.set_cons_zero]
        apply wpGrow_plain rfl
        · intro w' hw' K hK
          obtain ⟨e0, e1⟩ := HC.out _ hw'
          go_wp2_with fail
          exact hK _ _ rfl hw'
        simp only [Act.put, List.setIfInBounds_toArray, List.set_cons_succ, List.set_cons_zero]
        apply wpGrow_plain rfl
        · intro w' hw' K hK
          obtain ⟨e0, e1⟩ := HC.out _ hw'
          go_wp2_with fail
          refine (HDX.out _).mono ?_
          rintro e w5 ⟨rfl, hb5⟩
          go_wp2_with fail
          exact hK _ _ rfl (below_onto hw' hb5)
        simp only [Act.put, List.setIfInBounds_toArray, List.set_cons_succ, List.set_cons_zero]
        apply wpGrow_plain rfl
        · intro w' hw' K hK
          obtain ⟨e0, e1⟩ := HC.out _ hw'
          go_wp2_with fail
          exact hK _ _ rfl hw'
        simp only [Act.put, List.setIfInBounds_toArray, List.set_cons_succ, List.set_cons_zero]
        apply wpGrow_plain rfl
        · intro w' hw' K hK
          obtain ⟨e0, e1⟩ := HC.out _ hw'
          go_wp2_with fail
          exact hK _ _ rfl hw'
        simp only [Act.put, List.setIfInBounds_toArray, List.set_cons_succ, List.set_cons_zero]
        apply wpGrow_plain rfl
        · intro w' hw' K hK
          obtain ⟨e0, e1⟩ := HC.out _ hw'
          go_wp2_with fail
          exact hK _ _ rfl hw'
        simp only [Act.put, List.setIfInBounds_toArray, List.set_cons_succ, List.set_cons_zero]
        apply wpGrow_plain rfl
        · intro w' hw' K hK
          obtain ⟨e0, e1⟩ := HC.out _ hw'
          go_wp2_with fail
          exact hK _ _ rfl hw'
        simp only [Act.put, List.setIfInBounds_toArray, List.set_cons_succ, List.set_cons_zero]
        apply wpGrow_plain rfl
        · intro w' hw' K hK
          obtain ⟨e0, e1⟩ := HC.out _ hw'
          go_wp2_with fail
          exact hK _ _ rfl hw'
        simp only [Act.put, List.setIfInBounds_toArray, List.set_cons_succ, List.set_cons_zero]
        apply wpGrow_plain rfl
        · intro w' hw' K hK
          obtain ⟨e0, e1⟩ := HC.out _ hw'
          go_wp2_with fail
          exact hK _ _ rfl hw'
        simp only [Act.put, List.setIfInBounds_toArray, List.set_cons_succ, List.set_cons_zero]
        apply wpGrow_plain rfl
        · intro w' hw' K hK
          obtain ⟨e0, e1⟩ := HC.out _ hw'
          go_wp2_with fail
          exact hK _ _ rfl hw'
        simp only [Act.put, List.setIfInBounds_toArray, List.set_cons_succ, List.set_cons_zero]
        apply wpGrow_plain rfl
        · intro w' hw' K hK
          obtain ⟨e0, e1⟩ := HC.out _ hw'
          go_wp2_with fail
          refine (HDY.out _).mono ?_
          rintro e w5 ⟨rfl, hb5⟩
          go_wp2_with fail
          exact hK _ _ rfl (below_onto hw' hb5)
        simp only [Act.put, List.setIfInBounds_toArray, List.set_cons_succ, List.set_cons_zero]
        apply wpGrow_plain rfl
        · intro w' hw' K hK
          obtain ⟨e0, e1⟩ := HC.out _ hw'
          go_wp2_with fail
          exact hK _ _ rfl hw'
        simp only [Act.put, List.setIfInBounds_toArray, List.set_cons_succ, List.set_cons_zero]
        apply wpGrow_plain rfl
        · intro w' hw' K hK
          obtain ⟨e0, e1⟩ := HC.out _ hw'
          go_wp2_with fail
          exact hK _ _ rfl hw'
        simp only [Act.put, List.setIfInBounds_toArray, List.set_cons_succ, List.set_cons_zero]
        refine wpGrow_nil ?_
        intro W2 hW2
        have hb2 := hb.trans (hW2.mono hb.size)
        clear hb hW2 HC HDX HDY
        go_wp2_with fail
        go_roundw
        case rel => exact ⟨k + 1, by omega, by go_num, by rw [HXX.out]; exact congrArg Value.string (strs3 J A D 47), hb2⟩
        case measure => simp [intOf]; omega
    · have hd : decide ((k : Int) < (n : Int)) = false := by simp; omega
      obtain rfl : k = n := by omega
      go_wp2_with fail
      go_ret
      exact ⟨by rw [← HJA.out]; rfl, hb⟩
end Go.Proofs.YthfhpcigjnjkdaaDoor
