/- Weather and heights, as they are asked for: growthsFrom of the program, l03Asked of the model. -/
import Derived.Test.YtpjninnammddlaaSGrowth
namespace Go.Proofs.Ytpjninnammddlaa
open Go.RowKit
set_option linter.unusedVariables false

theorem upto64_is (n m : Int) (v : Bool) (h : upB n m = v) (w : World) :
    Calls Try.prog 28 #[.int .i64 n, .int .i64 m] w fun e w' => e = .returned (.bool v) ∧ w' = w := by
  have H := Lib.hid h
  by_cases h1 : 0 ≤ n
  · have d1 : decide (0 ≤ n) = true := by simpa using h1
    obtain ⟨d, hd⟩ : ∃ d, decide (n ≤ m) = d := ⟨_, rfl⟩
    have HV := Lib.hid (show v = d by rw [← h, upB, d1, hd, Bool.true_and])
    clear h
    go_enter Try.func28, Try.ntmps28
    go_wp2
    go_ret
    exact ⟨by rw [HV.out, ← hd]; rfl, rfl⟩
  · have d1 : decide (0 ≤ n) = false := by simpa using h1
    have HV := Lib.hid (show v = false by rw [← h, upB, d1, Bool.false_and])
    clear h
    go_enter Try.func28, Try.ntmps28
    go_wp2
    go_ret
    exact ⟨by rw [HV.out]; rfl, rfl⟩

/-- The code of weather, and of numbers that are as told or not. -/
def askC (N m : Nat) (fine : Bool) : Int := if m = N then (if fine then 0 else 2) else 1
def askB (N m : Nat) (fine : Bool) : Bool := decide (m = N) && fine
def askN (N m : Nat) (fine : Bool) : Nat := if askB N m fine then N else 0
def askV (zs : List Int) (N m : Nat) (fine : Bool) : List Value := if askB N m fine then intsV .i64 (growL zs N) else []

theorem firstNo_at {p : Nat → Bool} {N q k : Nat} (h : FirstNo p N q) (ha : ∀ j, j < k → p j = true) (hk : k < N) (hn : p k = false) : q = k := by
  rcases Nat.lt_trichotomy q k with h' | h' | h'
  · have h2 := h.stop (by omega); rw [ha q h'] at h2; cases h2
  · exact h'
  · have h2 := h.all k h'; rw [hn] at h2; cases h2
theorem ask_bad {N m : Nat} {b : Bool} (h : askB N m b = false) : askC N m b = 1 ∨ askC N m b = 2 := by
  unfold askC
  unfold askB at h
  split
  · rename_i e
    right
    rw [decide_eq_true e, Bool.true_and] at h
    rw [h]; rfl
  · exact .inl rfl
theorem ask_good {N m : Nat} {b : Bool} (h : askB N m b = true) : m = N ∧ b = true ∧ askC N m b = 0 := by
  unfold askB at h
  simp only [Bool.and_eq_true, decide_eq_true_eq] at h
  obtain ⟨rfl, rfl⟩ := h
  exact ⟨rfl, rfl, by simp [askC]⟩

set_option maxRecDepth 100000 in
theorem l03Asked_any (B N : Nat) (v : Value) (hN : N ≤ 2000000) (zs : List Int) (hz : zs.length = N * 2) (hzr : ∀ z ∈ zs, -128 ≤ z ∧ z ≤ 127) (m : Nat) (hm : FirstNo (dayP zs) N m) (fine : Bool) (w : World) (ho : w.ownsRow B 46 2 v N (intsV .i8 zs)) :
    Calls Try.prog 19 #[v, .bool fine] w fun e w' => e = .returned (.int .i64 (askC N m fine)) ∧ Below w.heap.size w w' := by
  have HK := Lib.hid (l03Ok_any B N v hN zs hz hzr m hm w ho)
  obtain ⟨av, cv, rfl⟩ := own_slice ho
  clear ho hm hz hzr
  obtain ⟨d, hd⟩ : ∃ d, decide (m = N) = d := ⟨_, rfl⟩
  rw [hd] at HK
  cases d
  · have HV := Lib.hid (show askC N m fine = 1 by rw [askC, if_neg (of_decide_eq_false hd)])
    clear hd
    go_enter Try.func19, Try.ntmps19
    go_wp2_with fail
    refine HK.out.mono ?_
    rintro e w1 ⟨rfl, hb1⟩
    go_wp2_with fail
    go_ret
    exact ⟨by rw [HV.out]; rfl, hb1⟩
  · have hmN := of_decide_eq_true hd
    clear hd
    cases fine
    · have HV := Lib.hid (show askC N m false = 2 by rw [askC, if_pos hmN]; rfl)
      clear hmN
      go_enter Try.func19, Try.ntmps19
      go_wp2_with fail
      refine HK.out.mono ?_
      rintro e w1 ⟨rfl, hb1⟩
      go_wp2_with fail
      go_ret
      exact ⟨by rw [HV.out]; rfl, hb1⟩
    · have HV := Lib.hid (show askC N m true = 0 by rw [askC, if_pos hmN]; rfl)
      clear hmN
      go_enter Try.func19, Try.ntmps19
      go_wp2_with fail
      refine HK.out.mono ?_
      rintro e w1 ⟨rfl, hb1⟩
      go_wp2_with fail
      go_ret
      exact ⟨by rw [HV.out]; rfl, hb1⟩

theorem l03High_is (n : Int) (v : Bool) (h : upB n 200 = v) (w : World) :
    Calls Try.prog 20 #[.int .i64 n] w fun e w' => e = .returned (.bool v) ∧ w' = w := by
  have HK := Lib.hid (l00In_is n 0 200 v h)
  clear h
  go_enter Try.func20, Try.ntmps20
  go_wp2_with fail
  refine (HK.out w).mono ?_
  rintro e w1 ⟨rfl, rfl⟩
  go_wp2_with fail
  go_ret
  exact ⟨rfl, rfl⟩

def minZ (a b : Int) : Int := if a < b then a else b
theorem minZ_min (a b : Int) : min a b = minZ a b := by unfold minZ; omega

theorem l00Min_is (a b : Int) (w : World) :
    Calls Try.prog 30 #[.int .i64 a, .int .i64 b] w fun e w' => e = .returned (.int .i64 (minZ a b)) ∧ w' = w := by
  by_cases h : a < b
  · have hd : decide (a < b) = true := by simpa using h
    have HV := Lib.hid (show minZ a b = a by rw [minZ, if_pos h])
    clear h
    go_enter Try.func30, Try.ntmps30
    go_wp2
    go_ret
    exact ⟨by rw [HV.out]; rfl, rfl⟩
  · have hd : decide (a < b) = false := by simpa using h
    have HV := Lib.hid (show minZ a b = b by rw [minZ, if_neg h])
    clear h
    go_enter Try.func30, Try.ntmps30
    go_wp2
    go_ret
    exact ⟨by rw [HV.out]; rfl, rfl⟩

set_option maxRecDepth 100000 in
set_option maxHeartbeats 1000000 in
theorem growthsFrom_any (B N : Nat) (v : Value) (hN : N ≤ 2000000) (zs : List Int) (hz : zs.length = N * 2) (hzr : ∀ z ∈ zs, -128 ≤ z ∧ z ≤ 127) (m : Nat) (hm : FirstNo (dayP zs) N m) (BH H : Nat) (hH : H ≤ 1000) (hv : Value) (hs : List Int) (hl : hs.length = H) (w : World) (ho : w.ownsRow B 46 2 v N (intsV .i8 zs)) (hoh : w.ownsRow BH 2 1 hv H (intsV .i64 hs)) :
    Calls Try.prog 24 #[v, hv] w fun e w' => (∃ u, e = .returned (.tuple #[u, .int .i64 (askC N m (hs.all (upB · 200)))]) ∧ w'.ownsRow w.heap.size 2 1 u (askN N m (hs.all (upB · 200))) (askV zs N m (hs.all (upB · 200)))) ∧ Below w.heap.size w w' := by
  have HG := Lib.hid (implGrowth_any B N v hN zs hz hzr m hm w ho)
  obtain ⟨av, cv, rfl⟩ := own_slice ho
  obtain ⟨ah, ch, rfl⟩ := own_slice hoh
  have HH := Lib.hid hoh
  clear ho hoh hm hz hzr
  by_cases hmN : m = N
  · have HA := Lib.hid (show ∀ b, askC N m b = (if b then 0 else 2) ∧ askN N m b = (if b then N else 0) ∧ askV zs N m b = (if b then intsV .i64 (growL zs N) else []) from fun b => by
      cases b <;> simp [askC, askN, askV, askB, hmN])
    have h1 : growthC N m = 0 := by rw [growthC, if_pos hmN]
    have h2 : growthN N m = N := by rw [growthN, if_pos hmN]
    have h3 : growthV zs N m = intsV .i64 (growL zs N) := by rw [growthV, if_pos hmN]
    rw [h1, h2, h3] at HG
    clear h1 h2 h3 hmN
    go_enter Try.func24, Try.ntmps24
    go_wp2_with fail
    refine HG.out.mono ?_
    rintro e w1 ⟨⟨u, rfl, hu⟩, hb1⟩
    have HU := Lib.hid hu
    have HH1 := Lib.hid (own_below HH.out hb1)
    obtain ⟨au, cu, rfl⟩ := own_slice hu
    clear hu HG HH
    go_wp2_with fail
    go_loopw [20] (fun i wr => ∃ k : Nat, k ≤ H ∧ i = .int .i64 k ∧ (∀ j z, j < k → hs[j]? = some z → upB z 200 = true) ∧ wr = w1) (fun i _ => H - (intOf i).toNat)
    case atStart => exact ⟨0, by omega, rfl, fun j z h _ => by omega, rfl⟩
    case round =>
      obtain ⟨k, hk, rfl, hall, rfl⟩ := hrel
      have HL := Lib.hid hall
      clear hall
      by_cases hlt : k < H
      · have hd : decide ((k : Int) < (H : Int)) = true := by simp; omega
        obtain ⟨z, hzk⟩ : ∃ z, hs[k]? = some z := ⟨_, List.getElem?_eq_getElem (by omega)⟩
        have ho := HH1.out
        obtain ⟨ga, cap, he, hBg, hg⟩ := own_form ho (by omega)
        simp only [Value.slice.injEq, true_and] at he
        obtain ⟨rfl, rfl⟩ := he
        have c0 := own_cell ho _ _ (intsV_get (k := .i64) hzk)
        have HZK := Lib.hid hzk
        clear ho hzk
        obtain ⟨d, hdz⟩ : ∃ d, upB z 200 = d := ⟨_, rfl⟩
        have HD := Lib.hid hdz
        go_wp2_with fail
        refine (upto64_is z 200 d hdz _).mono ?_
        rintro e w2 ⟨rfl, rfl⟩
        clear hdz
        cases d
        · have HF := Lib.hid (show hs.all (upB · 200) = false by
            rw [List.all_eq_false]
            exact ⟨z, List.mem_of_getElem? HZK.out, by rw [HD.out]; decide⟩)
          go_wp2_with fail
          go_ret2
          obtain ⟨a1, a2, a3⟩ := HA.out false
          rw [HF.out, a1, a2, a3]
          exact ⟨⟨_, rfl, World.ownsRow_nil _ _ _ _⟩, hb1⟩
        · go_wp2_with fail
          go_roundw
          case rel => exact ⟨k + 1, by omega, by go_num, fun j y hj hy => by
            by_cases e : j = k
            · subst e; rw [HZK.out] at hy; cases hy; exact HD.out
            · exact HL.out j y (by omega) hy, trivial⟩
          case measure => simp [intOf]; omega
      · have hd : decide ((k : Int) < (H : Int)) = false := by simp; omega
        obtain rfl : k = H := by omega
        have HF := Lib.hid (show hs.all (upB · 200) = true by
          rw [List.all_eq_true]
          intro x hx
          obtain ⟨j, hj⟩ := List.mem_iff_getElem?.1 hx
          exact HL.out j x (by have := (List.getElem?_eq_some_iff.1 hj).1; omega) hj)
        go_wp2_with fail
        go_ret2
        obtain ⟨a1, a2, a3⟩ := HA.out true
        rw [HF.out, a1, a2, a3]
        exact ⟨⟨_, rfl, HU.out⟩, hb1⟩
  · have HA := Lib.hid (show ∀ b, askC N m b = 1 ∧ askN N m b = 0 ∧ askV zs N m b = [] from fun b => by
      simp [askC, askN, askV, askB, hmN])
    have h1 : growthC N m = 1 := by rw [growthC, if_neg hmN]
    rw [h1] at HG
    clear h1 hmN
    go_enter Try.func24, Try.ntmps24
    go_wp2_with fail
    refine HG.out.mono ?_
    rintro e w1 ⟨⟨u, rfl, hu⟩, hb1⟩
    go_wp2_with fail
    go_ret2
    obtain ⟨a1, a2, a3⟩ := HA.out (hs.all (upB · 200))
    rw [a1, a2, a3]
    exact ⟨⟨_, rfl, World.ownsRow_nil _ _ _ _⟩, hb1⟩
end Go.Proofs.Ytpjninnammddlaa
