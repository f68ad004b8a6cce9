/- WalkText, of both sides. -/
import Derived.Test.YthfhpcigjnjkdaaDoorSTextWalk
import Derived.Test.YthfhpcigjnjkdaaDoorITextWalk
import Derived.Test.YthfhpcigjnjkdaaDoorZA
namespace Go.Proofs.YthfhpcigjnjkdaaDoor
open Go.RowKit
set_option linter.unusedVariables false

/-- The text of a walk. -/
def walkS (qs : List (Int × Int)) : ByteArray := ⟨(lineL (pairT 44) (pairOk 9 9) 201 qs).toArray⟩
/-- Whether a walk has a text. -/
def walkB (qs : List (Int × Int)) : Bool := qs.all (pairOk 9 9) && decide (qs.length ≤ 201)

set_option maxRecDepth 100000 in
set_option maxHeartbeats 1000000 in
theorem plain_any (B : Nat) (qs : List (Int × Int)) (n : Nat) (hn : qs.length = n) (hm : n ≤ 2000000) (hr : ∀ a ∈ qs, (-128 ≤ a.1 ∧ a.1 ≤ 127) ∧ -128 ≤ a.2 ∧ a.2 ≤ 127) (v : Value) (w : World) (ho : w.ownsRow B 106 2 v n (prV qs)) :
    Calls Tryd.prog 75 #[v] w fun e w' => e = .returned (.bool (walkB qs)) ∧ Below w.heap.size w w' := by
  obtain ⟨av, cv, rfl⟩ := own_slice ho
  have HO := Lib.hid ho
  have HQ := Lib.hid (show ∀ i, i < n → ∃ x y, qs[i]? = some (x, y) ∧ (-128 ≤ x ∧ x ≤ 127) ∧ -128 ≤ y ∧ y ≤ 127 from fun i h => by
    have e : qs[i]? = some qs[i] := List.getElem?_eq_getElem (by omega)
    have := hr _ (List.mem_of_getElem? e)
    exact ⟨_, _, e, this⟩)
  have HBAD := Lib.hid (show ∀ (i : Nat) a, qs[i]? = some a → pairOk 9 9 a = false → walkB qs = false from fun i a h hf => by
    cases e : walkB qs with
    | false => rfl
    | true =>
      simp only [walkB, Bool.and_eq_true, List.all_eq_true] at e
      have := e.1 a (List.mem_of_getElem? h)
      rw [hf] at this
      cases this)
  have HGOOD := Lib.hid (show (∀ (j : Nat) a, j < n → qs[j]? = some a → pairOk 9 9 a = true) → walkB qs = decide ((n : Int) ≤ 201) from fun h => by
    have : qs.all (pairOk 9 9) = true := by
      rw [List.all_eq_true]
      intro a ha
      obtain ⟨j, hj⟩ := List.getElem?_of_mem ha
      exact h j a (by have := (List.getElem?_eq_some_iff.1 hj).1; omega) hj
    unfold walkB
    rw [this, Bool.true_and, hn]
    apply decide_eq_decide.2
    omega)
  clear ho hn hr
  go_enter Tryd.func75, Tryd.ntmps75
  go_wp2_with fail
  go_loopw [3] (fun i wr => ∃ k : Nat, k ≤ n ∧ i = .int .i64 (k : Int) ∧ (∀ (j : Nat) a, j < k → qs[j]? = some a → pairOk 9 9 a = true) ∧ Below w.heap.size w wr) (fun i _ => n - (intOf i).toNat)
  case atStart => exact ⟨0, by omega, rfl, (fun j a h _ => absurd h (Nat.not_lt_zero _)), Below.refl _ _⟩
  case round =>
    obtain ⟨k, hk, rfl, hpre, hb⟩ := hrel
    have HPRE := Lib.hid hpre
    clear hpre
    by_cases hlt : k < n
    · have hd : decide ((k : Int) < (n : Int)) = true := by simp; omega
      obtain ⟨x, y, ha, hx, hy⟩ := HQ.out k hlt
      have ho := own_below HO.out hb
      obtain ⟨g, cap, he, -, -⟩ := own_form ho (by omega)
      simp only [Value.slice.injEq, true_and] at he
      obtain ⟨rfl, rfl⟩ := he
      obtain ⟨z0, z1⟩ := prV_get _ _ _ ha
      have c0 := own_cell ho _ _ z0
      have c1 := own_cell ho _ _ z1
      have HA := Lib.hid ha
      simp only at c0 c1
      clear ho z0 z1 ha
      obtain ⟨bx, hbx⟩ : ∃ b, inB x 0 9 = b := ⟨_, rfl⟩
      have HIX := Lib.hid (fun w => in_q x 0 9 w)
      rw [hbx] at HIX
      have HBX := Lib.hid hbx
      clear hbx
      go_wp2_with fail
      refine (HIX.out _).mono ?_
      rintro e w2 ⟨rfl, hw2⟩
      rw [hw2]
      clear hw2 HIX
      cases bx
      case false =>
        have HE := Lib.hid (HBAD.out k _ HA.out (by have := HBX.out; unfold inB at this; simp only [pairOk, this, Bool.false_and]))
        go_wp2_with fail
        go_ret
        exact ⟨by rw [HE.out]; rfl, hb⟩
      obtain ⟨bx, hbx⟩ : ∃ b, inB y 0 9 = b := ⟨_, rfl⟩
      have HIX := Lib.hid (fun w => in_q y 0 9 w)
      rw [hbx] at HIX
      have HBY := Lib.hid hbx
      clear hbx
      go_wp2_with fail
      refine (HIX.out _).mono ?_
      rintro e w2 ⟨rfl, hw2⟩
      rw [hw2]
      clear hw2 HIX
      cases bx
      case false =>
        have HE := Lib.hid (HBAD.out k _ HA.out (by have := HBY.out; unfold inB at this; simp only [pairOk, this, Bool.and_false]))
        go_wp2_with fail
        go_ret
        exact ⟨by rw [HE.out]; rfl, hb⟩
      have HOKA := Lib.hid (show pairOk 9 9 (x, y) = true by have h1 := HBX.out; have h2 := HBY.out; unfold inB at h1 h2; simp only [pairOk, h1, h2, Bool.and_true])
      go_wp2_with fail
      go_roundw
      case rel => exact ⟨k + 1, by omega, by go_num, (fun j a hj h => by
        rcases Nat.lt_or_ge j k with h1 | h1
        · exact HPRE.out j a h1 h
        · have e : j = k := by omega
          rw [e, HA.out] at h
          cases h
          exact HOKA.out), hb⟩
      case measure => simp [intOf]; omega
    · have hd : decide ((k : Int) < (n : Int)) = false := by simp; omega
      obtain rfl : k = n := by omega
      go_wp2_with fail
      go_ret
      exact ⟨by rw [HGOOD.out HPRE.out]; rfl, hb⟩

set_option maxRecDepth 100000 in
set_option maxHeartbeats 1000000 in
theorem specKText_any (B : Nat) (qs : List (Int × Int)) (n : Nat) (hn : qs.length = n) (hm : n ≤ 2000000) (hr : ∀ a ∈ qs, (-128 ≤ a.1 ∧ a.1 ≤ 127) ∧ -128 ≤ a.2 ∧ a.2 ≤ 127) (v : Value) (w : World) (ho : w.ownsRow B 106 2 v n (prV qs)) :
    Calls Tryd.prog 27 #[v] w fun e w' => e = .returned (.string (walkS qs)) ∧ Below w.heap.size w w' := by
  have HK := Lib.hid (plain_any B qs n hn hm hr v w ho)
  obtain ⟨av, cv, rfl⟩ := own_slice ho
  cases e : walkB qs with
  | true =>
    have hB := e
    simp only [walkB, Bool.and_eq_true, List.all_eq_true, decide_eq_true_eq] at hB
    have HS := Lib.hid (show walkS qs = ⟨(joinS 32 (qs.map (pairT 44))).toArray⟩ by unfold walkS; rw [lineL_good hB.1 hB.2])
    have HT := Lib.hid (fun w' (ho' : w'.ownsRow B 106 2 (.slice av n cv) n (prV qs)) => stextWalk_any B qs n hn (by omega) hB.1 _ w' ho')
    rw [e] at HK
    have HO := Lib.hid ho
    clear ho hn hm hr e hB
    go_enter Tryd.func27, Tryd.ntmps27
    go_wp2_with fail
    refine HK.out.mono ?_
    rintro e w2 ⟨rfl, hb⟩
    have ho := own_below HO.out hb
    go_wp2_with fail
    refine (HT.out _ ho).mono ?_
    rintro e w3 ⟨rfl, hb3⟩
    have hb4 := below_onto hb hb3
    go_wp2_with fail
    go_ret
    exact ⟨by rw [HS.out]; rfl, hb4⟩
  | false =>
    have HS := Lib.hid (show walkS qs = ⟨#[]⟩ by
      unfold walkS lineL
      rw [if_neg]
      have := e
      unfold walkB at this
      rw [this]
      simp)
    rw [e] at HK
    clear ho hn hm hr e
    go_enter Tryd.func27, Tryd.ntmps27
    go_wp2_with fail
    refine HK.out.mono ?_
    rintro e w2 ⟨rfl, hb⟩
    go_wp2_with fail
    go_ret
    exact ⟨by rw [HS.out]; rfl, hb⟩
end Go.Proofs.YthfhpcigjnjkdaaDoor
