/- The model's text of rounds. -/
import Derived.Test.YthfhpcigjnjkdaaDoorITextR
import Derived.Test.YthfhpcigjnjkdaaDoorDecimal
import Derived.Test.YthfhpcigjnjkdaaDoorZA
namespace Go.Proofs.YthfhpcigjnjkdaaDoor
open Go.RowKit
set_option linter.unusedVariables false
set_option linter.unusedSimpArgs false

/-- Whether rounds have a text. -/
def roundsB (qs : List (Int × Bool)) : Bool := qs.all rndOk && decide (qs.length ≤ 60)

set_option maxRecDepth 100000 in
set_option maxHeartbeats 1000000 in
theorem rounds_any (B : Nat) (qs : List (Int × Bool)) (n : Nat) (hn : qs.length = n) (hm : n ≤ 2000000) (hr : ∀ a ∈ qs, -128 ≤ a.1 ∧ a.1 ≤ 127) (v : Value) (w : World) (ho : w.ownsRow B 143 2 v n (rndV qs)) :
    Calls Tryd.prog 100 #[v] w fun e w' => e = .returned (.bool (roundsB qs)) ∧ Below w.heap.size w w' := by
  obtain ⟨av, cv, rfl⟩ := own_slice ho
  have HO := Lib.hid ho
  have HQ := Lib.hid (show ∀ i, i < n → ∃ x y, qs[i]? = some (x, y) ∧ (-128 ≤ x ∧ x ≤ 127) from fun i h => by
    have e : qs[i]? = some qs[i] := List.getElem?_eq_getElem (by omega)
    have := hr _ (List.mem_of_getElem? e)
    exact ⟨_, _, e, this⟩)
  have HBAD := Lib.hid (show ∀ (i : Nat) a, qs[i]? = some a → rndOk a = false → roundsB qs = false from fun i a h hf => by
    cases e : roundsB qs with
    | false => rfl
    | true =>
      simp only [roundsB, Bool.and_eq_true, List.all_eq_true] at e
      have := e.1 a (List.mem_of_getElem? h)
      rw [hf] at this
      cases this)
  have HGOOD := Lib.hid (show (∀ (j : Nat) a, j < n → qs[j]? = some a → rndOk a = true) → roundsB qs = decide ((n : Int) ≤ 60) from fun h => by
    have : qs.all rndOk = true := by
      rw [List.all_eq_true]
      intro a ha
      obtain ⟨j, hj⟩ := List.getElem?_of_mem ha
      exact h j a (by have := (List.getElem?_eq_some_iff.1 hj).1; omega) hj
    unfold roundsB
    rw [this, Bool.true_and, hn]
    apply decide_eq_decide.2
    omega)
  clear ho hn hr
  go_enter Tryd.func100, Tryd.ntmps100
  go_wp2_with fail
  go_loopw [3] (fun i wr => ∃ k : Nat, k ≤ n ∧ i = .int .i64 (k : Int) ∧ (∀ (j : Nat) a, j < k → qs[j]? = some a → rndOk a = true) ∧ Below w.heap.size w wr) (fun i _ => n - (intOf i).toNat)
  case atStart => exact ⟨0, by omega, rfl, (fun j a h _ => absurd h (Nat.not_lt_zero _)), Below.refl _ _⟩
  case round =>
    obtain ⟨k, hk, rfl, hpre, hb⟩ := hrel
    have HPRE := Lib.hid hpre
    clear hpre
    by_cases hlt : k < n
    · have hd : decide ((k : Int) < (n : Int)) = true := by simp; omega
      obtain ⟨x, y, ha, hx⟩ := HQ.out k hlt
      have ho := own_below HO.out hb
      obtain ⟨g, cap, he, -, -⟩ := own_form ho (by omega)
      simp only [Value.slice.injEq, true_and] at he
      obtain ⟨rfl, rfl⟩ := he
      obtain ⟨z0, z1⟩ := rndV_get _ _ _ ha
      have c0 := own_cell ho _ _ z0
      have HA := Lib.hid ha
      simp only at c0
      clear ho z0 z1 ha
      obtain ⟨bx, hbx⟩ : ∃ b, inB x 0 9 = b := ⟨_, rfl⟩
      have HIX := Lib.hid (fun w => in_q x 0 9 w)
      rw [hbx] at HIX
      have HBX := Lib.hid hbx
      clear hbx
      go_wp2_with fail
      refine (HIX.out _).mono ?_
      rintro e w2 ⟨rfl, hw2⟩
      rw [hw2]
      clear hw2 HIX
      cases bx
      case false =>
        have HE := Lib.hid (HBAD.out k _ HA.out (by have := HBX.out; unfold inB at this; simp only [rndOk, this]))
        go_wp2_with fail
        go_ret
        exact ⟨by rw [HE.out]; rfl, hb⟩
      have HOKA := Lib.hid (show rndOk (x, y) = true by have h1 := HBX.out; unfold inB at h1; simp only [rndOk, h1])
      go_wp2_with fail
      go_roundw
      case rel => exact ⟨k + 1, by omega, by go_num, (fun j a hj h => by
        rcases Nat.lt_or_ge j k with h1 | h1
        · exact HPRE.out j a h1 h
        · have e : j = k := by omega
          rw [e, HA.out] at h
          cases h
          exact HOKA.out), hb⟩
      case measure => simp [intOf]; omega
    · have hd : decide ((k : Int) < (n : Int)) = false := by simp; omega
      obtain rfl : k = n := by omega
      go_wp2_with fail
      go_ret
      exact ⟨by rw [HGOOD.out HPRE.out]; rfl, hb⟩

set_option maxRecDepth 100000 in
set_option maxHeartbeats 2000000 in
theorem stextR_any (B : Nat) (qs : List (Int × Bool)) (n : Nat) (hn : qs.length = n) (hm : n ≤ 60) (hok : ∀ a ∈ qs, rndOk a = true) (v : Value) (w : World) (ho : w.ownsRow B 143 2 v n (rndV qs)) :
    Calls Tryd.prog 101 #[v] w fun e w' => e = .returned (.string ⟨(joinS 32 (qs.map rndT)).toArray⟩) ∧ Below w.heap.size w w' := by
  obtain ⟨av, cv, rfl⟩ := own_slice ho
  have HO := Lib.hid ho
  have HOK := Lib.hid (show ∀ (i : Nat) a, qs[i]? = some a → 0 ≤ a.1 ∧ a.1 ≤ 9 from fun i a h => by
    have := hok a (List.mem_of_getElem? h)
    simpa [rndOk] using this)
  have HJ := Lib.hid (show ∀ i a, qs[i]? = some a → jn rndT qs (i + 1) = (if i = 0 then [] else jn rndT qs i ++ [32]) ++ (if a.2 then 104 else 99) :: dd a.1.toNat from fun i a h => jn_succ h)
  have HL := Lib.hid (jn_len (tx := rndT) qs rndT_len7)
  have HJA := Lib.hid (jn_all rndT qs hn)
  have HQ := Lib.hid (show ∀ i, i < n → ∃ a, qs[i]? = some a from fun i h => ⟨_, List.getElem?_eq_getElem (by omega)⟩)
  have HDL := Lib.hid (fun x => dd_len3 x)
  have HDC := Lib.hid (show ∀ (x : Int), 0 ≤ x ∧ x ≤ 50 → ∀ w, Calls Tryd.prog 113 #[.int .i64 x] w fun e w' => e = .returned (.string ⟨(dd x.toNat).toArray⟩) ∧ Below w.heap.size w w' from fun x h w => by
    have := decimal_any x.toNat (by omega) w
    rwa [show ((x.toNat : Nat) : Int) = x by omega] at this)
  clear ho hok hn
  go_enter Tryd.func101, Tryd.ntmps101
  go_wp2_with fail
  go_loopw [3, 4] (fun s i wr => ∃ k : Nat, k ≤ n ∧ i = .int .i64 (k : Int) ∧ s = .string ⟨(jn rndT qs k).toArray⟩ ∧ Below w.heap.size w wr) (fun _ i _ => n - (intOf i).toNat)
  case atStart => exact ⟨0, by omega, rfl, rfl, Below.refl _ _⟩
  case round =>
    obtain ⟨k, hk, rfl, rfl, hb⟩ := hrel
    have hjl := HL.out k
    by_cases hlt : k < n
    · have hd : decide ((k : Int) < (n : Int)) = true := by simp; omega
      obtain ⟨⟨x, hh⟩, ha⟩ := HQ.out k hlt
      have ho := own_below HO.out hb
      obtain ⟨g, cap, he, -, -⟩ := own_form ho (by omega)
      simp only [Value.slice.injEq, true_and] at he
      obtain ⟨rfl, rfl⟩ := he
      obtain ⟨z0, z1⟩ := rndV_get _ _ _ ha
      have c0 := own_cell ho _ _ z0
      have c1 := own_cell ho _ _ z1
      obtain ⟨hx0, hx1⟩ := HOK.out k _ ha
      have HX := HJ.out k _ ha
      simp only at c0 c1 HX hx0 hx1
      have lx := HDL.out x.toNat
      have DX := HDC.out x (by omega)
      obtain ⟨A, hA⟩ : ∃ A, dd x.toNat = A := ⟨_, rfl⟩
      rw [hA] at HX DX lx
      have HDX := Lib.hid DX
      clear ho z0 z1 ha hA DX
      obtain ⟨J, hJ⟩ : ∃ J, jn rndT qs k = J := ⟨_, rfl⟩
      rw [hJ] at HX hjl ⊢
      clear hJ
      by_cases hk0 : k = 0
      · have hd0 : decide (0 < k) = false := by simp; omega
        rw [if_pos hk0] at HX
        have HXX := Lib.hid HX
        have HJ0 := Lib.hid (show J = [] by
          have := hjl
          rw [hk0] at this
          simpa using this)
        clear HX hk0
        cases hh
        case false =>
          go_wp2_with fail
          refine (HDX.out _).mono ?_
          rintro e w5 ⟨rfl, h5⟩
          have hb2 := hb.trans (h5.mono hb.size)
          clear h5 hb c0 c1
          go_wp2_with fail
          go_roundw
          case rel => exact ⟨k + 1, by omega, by go_num, by
            rw [HXX.out]
            try simp only [if_true, Bool.false_eq_true, if_false]
            rw [HJ0.out]
            exact congrArg Value.string (by apply ByteArray.ext; simp), hb2⟩
          case measure => simp [intOf]; omega
        case true =>
          go_wp2_with fail
          refine (HDX.out _).mono ?_
          rintro e w5 ⟨rfl, h5⟩
          have hb2 := hb.trans (h5.mono hb.size)
          clear h5 hb c0 c1
          go_wp2_with fail
          go_roundw
          case rel => exact ⟨k + 1, by omega, by go_num, by
            rw [HXX.out]
            try simp only [if_true, Bool.false_eq_true, if_false]
            rw [HJ0.out]
            exact congrArg Value.string (by apply ByteArray.ext; simp), hb2⟩
          case measure => simp [intOf]; omega
      · have hd0 : decide (0 < k) = true := by simp; omega
        rw [if_neg hk0] at HX
        have HXX := Lib.hid HX
        clear HX hk0
        cases hh
        case false =>
          go_wp2_with fail
          refine (HDX.out _).mono ?_
          rintro e w5 ⟨rfl, h5⟩
          have hb2 := hb.trans (h5.mono hb.size)
          clear h5 hb c0 c1
          go_wp2_with fail
          go_roundw
          case rel => exact ⟨k + 1, by omega, by go_num, by
            rw [HXX.out]
            try simp only [if_true, Bool.false_eq_true, if_false]
            skip
            exact congrArg Value.string (by apply ByteArray.ext; simp), hb2⟩
          case measure => simp [intOf]; omega
        case true =>
          go_wp2_with fail
          refine (HDX.out _).mono ?_
          rintro e w5 ⟨rfl, h5⟩
          have hb2 := hb.trans (h5.mono hb.size)
          clear h5 hb c0 c1
          go_wp2_with fail
          go_roundw
          case rel => exact ⟨k + 1, by omega, by go_num, by
            rw [HXX.out]
            try simp only [if_true, Bool.false_eq_true, if_false]
            skip
            exact congrArg Value.string (by apply ByteArray.ext; simp), hb2⟩
          case measure => simp [intOf]; omega
    · have hd : decide ((k : Int) < (n : Int)) = false := by simp; omega
      obtain rfl : k = n := by omega
      go_wp2_with fail
      go_ret
      exact ⟨by rw [← HJA.out]; rfl, hb⟩

set_option maxRecDepth 100000 in
set_option maxHeartbeats 1000000 in
theorem specRText_any (B : Nat) (qs : List (Int × Bool)) (n : Nat) (hn : qs.length = n) (hm : n ≤ 2000000) (hr : ∀ a ∈ qs, -128 ≤ a.1 ∧ a.1 ≤ 127) (v : Value) (w : World) (ho : w.ownsRow B 143 2 v n (rndV qs)) :
    Calls Tryd.prog 49 #[v] w fun e w' => e = .returned (.string (roundsS qs)) ∧ Below w.heap.size w w' := by
  have HK := Lib.hid (rounds_any B qs n hn hm hr v w ho)
  obtain ⟨av, cv, rfl⟩ := own_slice ho
  cases e : roundsB qs with
  | true =>
    have hB := e
    simp only [roundsB, Bool.and_eq_true, List.all_eq_true, decide_eq_true_eq] at hB
    have HS := Lib.hid (show roundsS qs = ⟨(joinS 32 (qs.map rndT)).toArray⟩ by unfold roundsS; rw [lineL_good hB.1 hB.2])
    have HT := Lib.hid (fun w' (ho' : w'.ownsRow B 143 2 (.slice av n cv) n (rndV qs)) => stextR_any B qs n hn (by omega) hB.1 _ w' ho')
    rw [e] at HK
    have HO := Lib.hid ho
    clear ho hn hm hr e hB
    go_enter Tryd.func49, Tryd.ntmps49
    go_wp2_with fail
    refine HK.out.mono ?_
    rintro e w2 ⟨rfl, hb⟩
    have ho := own_below HO.out hb
    go_wp2_with fail
    refine (HT.out _ ho).mono ?_
    rintro e w3 ⟨rfl, hb3⟩
    have hb4 := below_onto hb hb3
    go_wp2_with fail
    go_ret
    exact ⟨by rw [HS.out]; rfl, hb4⟩
  | false =>
    have HS := Lib.hid (show roundsS qs = ⟨#[]⟩ by
      unfold roundsS lineL
      rw [if_neg]
      have := e
      unfold roundsB at this
      rw [this]
      simp)
    rw [e] at HK
    clear ho hn hm hr e
    go_enter Tryd.func49, Tryd.ntmps49
    go_wp2_with fail
    refine HK.out.mono ?_
    rintro e w2 ⟨rfl, hb⟩
    go_wp2_with fail
    go_ret
    exact ⟨by rw [HS.out]; rfl, hb⟩
end Go.Proofs.YthfhpcigjnjkdaaDoor
