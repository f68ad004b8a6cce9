/- SwapDays, of the program and of the model. -/
import Derived.Test.YtbcbokpdcliimaaAsked
import Derived.Test.YtbcbokpdcliimaaIValidW
import Derived.RegionTactic
namespace Go.Proofs.Ytbcbokpdcliimaa
open Go.RowKit
set_option linter.unusedVariables false
set_option linter.unusedSimpArgs false

def swapV (zs : List Int) (a b : Nat) : List Value :=
  ((((intsV .i8 zs).set (a * 2) (.int .i8 (rainZ zs b))).set (a * 2 + 1) (.int .i8 (warmZ zs b))).set (b * 2) (.int .i8 (rainZ zs a))).set (b * 2 + 1) (.int .i8 (warmZ zs a))
def swapF (N : Nat) (a b : Int) : Bool := upB a (N - 1) && upB b (N - 1)
theorem swapF_nat {N : Nat} {a b : Int} (h : swapF N a b = true) : ∃ a' b' : Nat, a = a' ∧ b = b' ∧ a' < N ∧ b' < N := by
  simp only [swapF, upB, Bool.and_eq_true, decide_eq_true_eq] at h
  exact ⟨a.toNat, b.toNat, by omega, by omega, by omega, by omega⟩

theorem addr_at (g j : Nat) : (⟨g, 0, none⟩ : Addr).add j = ⟨g, j, none⟩ := by unfold Addr.add; split <;> simp_all

set_option maxRecDepth 100000 in
set_option maxHeartbeats 4000000 in
theorem specSwap_bad (B N : Nat) (v : Value) (hN : N ≤ 2000000) (zs : List Int) (hz : zs.length = N * 2) (hzr : ∀ z ∈ zs, -128 ≤ z ∧ z ≤ 127) (m : Nat) (hm : FirstNo (dayP zs) N m) (a b : Int) (c : Int) (hc : askC N m (swapF N a b) = c) (hc0 : c = 1 ∨ c = 2) (w : World) (ho : w.ownsRow B 40 2 v N (intsV .i8 zs)) :
    Calls Try.prog 43 #[v, .int .i64 a, .int .i64 b] w fun e w' => (∃ u, e = .returned (.tuple #[u, .int .i64 c]) ∧ w'.ownsRow w.heap.size 40 2 u 0 []) ∧ Below w.heap.size w w' := by
  have HK := Lib.hid (fun fine => l03Asked_any B N v hN zs hz hzr m hm fine w ho)
  obtain ⟨av, cv, rfl⟩ := own_slice ho
  have e1 : wrap64 ((N : Int) - 1) = N - 1 := by unfold wrap64; omega
  clear ho hm hz hzr
  unfold swapF at hc
  cases h1 : upB a (N - 1) <;> cases h2 : upB b (N - 1) <;> simp only [h1, h2, Bool.and_true, Bool.and_false, Bool.true_and, Bool.false_and] at hc ⊢ <;> rcases hc0 with rfl | rfl
  all_goals
    have HC := Lib.hid hc
    have k1 : ∀ v, upB a (N - 1) = v → (decide (0 ≤ a) && decide (a ≤ (N : Int) - 1)) = v := fun v h => h
    have k2 : ∀ v, upB b (N - 1) = v → (decide (0 ≤ b) && decide (b ≤ (N : Int) - 1)) = v := fun v h => h
    clear hc
    go_enter Try.func43, Try.ntmps43
    go_wp2_with (first | (go_at_call 64; ((with_reducible refine (l00In_is a _ _ _ (k1 _ h1) _).mono ?_); rintro e w2 ⟨rfl, rfl⟩)) | (go_at_call 64; ((with_reducible refine (l00In_is b _ _ _ (k2 _ h2) _).mono ?_); rintro e w2 ⟨rfl, rfl⟩)))
    refine (HK.out _).mono ?_
    rintro e w1 ⟨rfl, hb1⟩
    rw [HC.out]
    have hb2 := hb1.alloc hb1.size (.cells #[] 40)
    have HR0 := Lib.hid (ownsRow_low (World.ownsRow_made (e := 40) (size := 2) w1 #[] 0 (Nat.le_refl _) (by simp [maxLen]) rfl) hb1.size)
    go_wp2_with fail
    go_ret2
    exact ⟨⟨_, rfl, HR0.out⟩, hb2⟩

set_option maxRecDepth 100000 in
set_option maxHeartbeats 4000000 in
theorem implSwap_bad (B N : Nat) (v : Value) (hN : N ≤ 2000000) (zs : List Int) (hz : zs.length = N * 2) (hzr : ∀ z ∈ zs, -128 ≤ z ∧ z ≤ 127) (m : Nat) (hm : FirstNo (dayP zs) N m) (a b : Int) (c : Int) (hc : askC N m (swapF N a b) = c) (hc0 : c = 1 ∨ c = 2) (w : World) (ho : w.ownsRow B 40 2 v N (intsV .i8 zs)) :
    Calls Try.prog 44 #[v, .int .i64 a, .int .i64 b] w fun e w' => (∃ u, e = .returned (.tuple #[u, .int .i64 c]) ∧ w'.ownsRow w.heap.size 40 2 u 0 []) ∧ Below w.heap.size w w' := by
  have hK := implValidW_any B N v hN zs hz hzr m hm w ho
  obtain ⟨av, cv, rfl⟩ := own_slice ho
  have e1 : wrap64 ((N : Int) - 1) = N - 1 := by unfold wrap64; omega
  clear ho hm hz hzr
  by_cases hmN : m = N
  · rw [decide_eq_true hmN] at hK
    have HK := Lib.hid hK
    rw [askC, if_pos hmN, swapF] at hc
    clear hK hmN
    cases h1 : upB a (N - 1)
    · obtain rfl : c = 2 := by rw [h1] at hc; simpa using hc.symm
      clear hc
      go_enter Try.func44, Try.ntmps44
      go_wp2_with fail
      refine HK.out.mono ?_
      rintro e w1 ⟨rfl, hb1⟩
      go_wp2_with (go_at_call 65; ((with_reducible refine (upto64_is a _ _ h1 _).mono ?_); rintro e w2 ⟨rfl, rfl⟩))
      go_ret2
      exact ⟨⟨_, rfl, World.ownsRow_nil _ _ _ _⟩, hb1⟩
    · cases h2 : upB b (N - 1)
      · obtain rfl : c = 2 := by rw [h1, h2] at hc; simpa using hc.symm
        clear hc
        go_enter Try.func44, Try.ntmps44
        go_wp2_with fail
        refine HK.out.mono ?_
        rintro e w1 ⟨rfl, hb1⟩
        go_wp2_with (first | (go_at_call 65; ((with_reducible refine (upto64_is a _ _ h1 _).mono ?_); rintro e w2 ⟨rfl, rfl⟩)) | (go_at_call 65; ((with_reducible refine (upto64_is b _ _ h2 _).mono ?_); rintro e w2 ⟨rfl, rfl⟩)))
        go_ret2
        exact ⟨⟨_, rfl, World.ownsRow_nil _ _ _ _⟩, hb1⟩
      · rw [h1, h2] at hc
        simp at hc
        omega
  · rw [decide_eq_false hmN] at hK
    have HK := Lib.hid hK
    rw [askC, if_neg hmN] at hc
    subst hc
    clear hK hmN hc0
    go_enter Try.func44, Try.ntmps44
    go_wp2_with fail
    refine HK.out.mono ?_
    rintro e w1 ⟨rfl, hb1⟩
    go_wp2_with fail
    go_ret2
    exact ⟨⟨_, rfl, World.ownsRow_nil _ _ _ _⟩, hb1⟩

set_option maxRecDepth 100000 in
set_option maxHeartbeats 4000000 in
theorem specSwap_any (B N : Nat) (v : Value) (hN : N ≤ 2000000) (zs : List Int) (hz : zs.length = N * 2) (hzr : ∀ z ∈ zs, -128 ≤ z ∧ z ≤ 127) (hm : FirstNo (dayP zs) N N) (a b : Nat) (ha : a < N) (hb : b < N) (w : World) (ho : w.ownsRow B 40 2 v N (intsV .i8 zs)) :
    Calls Try.prog 43 #[v, .int .i64 a, .int .i64 b] w fun e w' => (∃ u, e = .returned (.tuple #[u, .int .i64 0]) ∧ w'.ownsRow w.heap.size 40 2 u N (swapV zs a b)) ∧ Below w.heap.size w w' := by
  have HK := Lib.hid (show Calls _ _ _ _ _ from by have h := l03Asked_any B N v hN zs hz hzr N hm true w ho; rw [show askC N N true = 0 by simp [askC]] at h; exact h)
  have h30 := ((first_all hm).1 rfl).1
  obtain ⟨g, cv, rfl, hBg, hg⟩ := own_form ho (by omega)
  have e1 : wrap64 ((N : Int) - 1) = N - 1 := by unfold wrap64; omega
  have h1 : upB (a : Int) (N - 1) = true := by simp [upB]; omega
  have h2 : upB (b : Int) (N - 1) = true := by simp [upB]; omega
  have k1 : ∀ v, upB (a : Int) (N - 1) = v → (decide (0 ≤ (a : Int)) && decide ((a : Int) ≤ (N : Int) - 1)) = v := fun v h => h
  have k2 : ∀ v, upB (b : Int) (N - 1) = v → (decide (0 ≤ (b : Int)) && decide ((b : Int) ≤ (N : Int) - 1)) = v := fun v h => h
  have HO := Lib.hid ho
  have HZ := Lib.hid (show ∀ i, i < N → zs[i * 2]? = some (rainZ zs i) ∧ zs[i * 2 + 1]? = some (warmZ zs i) from fun i hi => ⟨by simp [rainZ, List.getElem?_eq_getElem (show i * 2 < zs.length by omega)], by simp [warmZ, List.getElem?_eq_getElem (show i * 2 + 1 < zs.length by omega)]⟩)
  have HL := Lib.hid (show (intsV .i8 zs).length = N * 2 by simp [intsV, hz])
  clear ho hm hz hzr
  obtain ⟨i0, hi, hq0, hq1, hq2⟩ := info_parts wInfo
  go_enter Try.func43, Try.ntmps43
  go_wp2_with (first | (go_at_call 64; ((with_reducible refine (l00In_is a _ _ _ (k1 _ h1) _).mono ?_); rintro e w2 ⟨rfl, rfl⟩)) | (go_at_call 64; ((with_reducible refine (l00In_is b _ _ _ (k2 _ h2) _).mono ?_); rintro e w2 ⟨rfl, rfl⟩)))
  refine HK.out.mono ?_
  rintro e w1 ⟨rfl, hb1⟩
  have HO1 := Lib.hid (own_below HO.out hb1)
  have HM1 := Lib.hid (World.ownsRow_made (e := 40) (size := 2) w1 #[] 0 (Nat.le_refl w1.heap.size) (by simp [maxLen]) rfl)
  clear HO h1 h2 k1 k2
  have hz1 := hb1.size
  go_wp2_with (at_builtin; refine wpList_append_own_at _ rfl _ _ 27 rfl w1.heap.size 40 i0 (.agg #[.int .i8 0, .int .i8 0]) 2 2 Try.underlying27 hi hq0 hq1 hq2 rfl (by decide) _ _ _ rfl HM1.out ⟨g, 0, none⟩ N cv (intsV .i8 zs) rfl HL.out ?c1 ?c2 ?c3 ?c4 ?c5 ?_)
  case c1 => exact fun j u hu => by rw [addr_at]; exact own_cell (HO1.out.alloc (.cells #[] 40)) j u hu
  case c2 => intro z hz; simp only [intsV, List.mem_map] at hz; obtain ⟨y, -, rfl⟩ := hz; rfl
  case c3 => unfold maxLen; omega
  case c4 => omega
  case c5 => simp
  intro v' w9 hown' hgrow _ hat
  have hO9 := (HO1.out.alloc (.cells #[] 40)).kept hgrow (.inr (by simp [Value.ownBlock]; omega))
  have hb9 : Below w2.heap.size w2 w9 := (hb1.alloc hb1.size _).grown hgrow (by simp; omega) (fun k hk => by simp [Value.ownBlock] at hk; omega)
  obtain ⟨g9, c9, rfl, hB9, hg9⟩ := own_form hown' (by omega)
  obtain ⟨za0, za1⟩ := HZ.out a ha
  obtain ⟨zb0, zb1⟩ := HZ.out b hb
  have p0 := own_cell hO9 _ _ (intsV_get (k := .i8) zb0)
  have p1 := own_cell hO9 _ _ (intsV_get (k := .i8) zb1)
  have f0 := own_free hown' (a * 2)
  have f1 := own_free hown' (a * 2 + 1)
  have d0 := own_cell hown' _ _ (intsV_get (k := .i8) za0)
  have d1 := own_cell hown' _ _ (intsV_get (k := .i8) za1)
  have hs1 := own_set hown' (a * 2) (.int .i8 (rainZ zs b)) (by rw [HL.out]; omega)
  have hs2 := own_set hs1 (a * 2 + 1) (.int .i8 (warmZ zs b)) (by rw [List.length_set, HL.out]; omega)
  have hL2 : (((intsV .i8 zs).set (a * 2) (.int .i8 (rainZ zs b))).set (a * 2 + 1) (.int .i8 (warmZ zs b))).length = N * 2 := by simp [HL.out]
  have hne : ¬ g = g9 := by omega
  have hO10 := (hO9.kept (grown_set (grown_refl w9 (some g9)) (a * 2) (.int .i8 (rainZ zs b))) (.inr (by simpa [Value.ownBlock] using hne))).kept (grown_set (grown_refl _ (some g9)) (a * 2 + 1) (.int .i8 (warmZ zs b))) (.inr (by simpa [Value.ownBlock] using hne))
  have q0 := own_cell hO10 _ _ (intsV_get (k := .i8) za0)
  have q1 := own_cell hO10 _ _ (intsV_get (k := .i8) za1)
  have f2 := own_free hs2 (b * 2)
  have f3 := own_free hs2 (b * 2 + 1)
  obtain ⟨x2, hx2⟩ : ∃ x, (((intsV .i8 zs).set (a * 2) (.int .i8 (rainZ zs b))).set (a * 2 + 1) (.int .i8 (warmZ zs b)))[b * 2]? = some x := ⟨_, List.getElem?_eq_getElem (by rw [hL2]; omega)⟩
  obtain ⟨x3, hx3⟩ : ∃ x, (((intsV .i8 zs).set (a * 2) (.int .i8 (rainZ zs b))).set (a * 2 + 1) (.int .i8 (warmZ zs b)))[b * 2 + 1]? = some x := ⟨_, List.getElem?_eq_getElem (by rw [hL2]; omega)⟩
  have d2 := own_cell hs2 _ _ hx2
  have d3 := own_cell hs2 _ _ hx3
  have hs3 := own_set hs2 (b * 2) (.int .i8 (rainZ zs a)) (by rw [hL2]; omega)
  have hs4 := own_set hs3 (b * 2 + 1) (.int .i8 (warmZ zs a)) (by rw [List.length_set, hL2]; omega)
  have HR := Lib.hid (ownsRow_low hs4 hz1)
  have hg9w : w2.heap.size ≤ g9 := by omega
  have hb10 := (((hb9.setCell (p := ⟨g9, a * 2, none⟩) hg9w (.int .i8 (rainZ zs b))).setCell (p := ⟨g9, a * 2 + 1, none⟩) hg9w (.int .i8 (warmZ zs b))).setCell (p := ⟨g9, b * 2, none⟩) hg9w (.int .i8 (rainZ zs a))).setCell (p := ⟨g9, b * 2 + 1, none⟩) hg9w (.int .i8 (warmZ zs a))
  have HBB := Lib.hid hb10
  clear hown' hgrow hat hO9 hb9 hs1 hs2 hs3 hs4 hO10 hL2 hx2 hx3 za0 za1 zb0 zb1 HO1 HM1 hb1 hb10
  go_wp2_with fail
  go_ret2
  exact ⟨⟨_, rfl, HR.out⟩, HBB.out⟩
set_option maxRecDepth 100000 in
set_option maxHeartbeats 4000000 in
theorem clone_any (B N : Nat) (v : Value) (hN : N ≤ 2000000) (h0 : 0 < N) (zs : List Int) (hz : zs.length = N * 2) (w : World) (ho : w.ownsRow B 40 2 v N (intsV .i8 zs)) :
    Calls Try.prog 68 #[v] w fun e w' => (∃ u, e = .returned u ∧ w'.ownsRow w.heap.size 40 2 u N (intsV .i8 zs)) ∧ Below w.heap.size w w' := by
  obtain ⟨g, cv, rfl, hBg, hg⟩ := own_form ho (by omega)
  have HO := Lib.hid ho
  have HL := Lib.hid (show (intsV .i8 zs).length = N * 2 by simp [intsV, hz])
  have HM1 := Lib.hid (World.ownsRow_made (e := 40) (size := 2) w #[] 0 (Nat.le_refl w.heap.size) (by simp [maxLen]) rfl)
  clear ho hz
  obtain ⟨i0, hi, hq0, hq1, hq2⟩ := info_parts wInfo
  have q22 : (binOp .eql 27 (.slice (some ⟨g, 0, none⟩) N cv) (.slice none 0 0)).run Try.prog w = .ok (.bool false) w := by have := Lib.run_eql_slice_nil w _ _ (some ⟨g, 0, none⟩) N cv 0 0 Try.underlying27; exact this
  go_enter Try.func68, Try.ntmps68
  go_wp2_with (at_builtin; refine wpList_append_own_at _ rfl _ _ 27 rfl w.heap.size 40 i0 (.agg #[.int .i8 0, .int .i8 0]) 2 2 Try.underlying27 hi hq0 hq1 hq2 rfl (by decide) _ _ _ rfl HM1.out ⟨g, 0, none⟩ N cv (intsV .i8 zs) rfl HL.out ?c1 ?c2 ?c3 ?c4 ?c5 ?_)
  case c1 => exact fun j u hu => by rw [addr_at]; exact own_cell (HO.out.alloc (.cells #[] 40)) j u hu
  case c2 => intro z hz; simp only [intsV, List.mem_map] at hz; obtain ⟨y, -, rfl⟩ := hz; rfl
  case c3 => unfold maxLen; omega
  case c4 => omega
  case c5 => simp
  intro v' w9 hown' hgrow _ hat
  have hb9 : Below w.heap.size w w9 := ((Below.refl w.heap.size w).alloc (Nat.le_refl _) _).grown hgrow (by simp) (fun k hk => by simp [Value.ownBlock] at hk; omega)
  obtain ⟨g9, c9, rfl, hB9, hg9⟩ := own_form hown' (by omega)
  have HR := Lib.hid hown'
  clear hown' hgrow hat
  go_wp2_with fail
  go_ret
  exact ⟨⟨_, rfl, HR.out⟩, hb9⟩

set_option maxRecDepth 100000 in
set_option maxHeartbeats 8000000 in
theorem implSwap_any (B N : Nat) (v : Value) (hN : N ≤ 2000000) (zs : List Int) (hz : zs.length = N * 2) (hzr : ∀ z ∈ zs, -128 ≤ z ∧ z ≤ 127) (hm : FirstNo (dayP zs) N N) (a b : Nat) (ha : a < N) (hb : b < N) (w : World) (ho : w.ownsRow B 40 2 v N (intsV .i8 zs)) :
    Calls Try.prog 44 #[v, .int .i64 a, .int .i64 b] w fun e w' => (∃ u, e = .returned (.tuple #[u, .int .i64 0]) ∧ w'.ownsRow w.heap.size 40 2 u N (swapV zs a b)) ∧ Below w.heap.size w w' := by
  have hK := implValidW_any B N v hN zs hz hzr N hm w ho
  rw [decide_eq_true (rfl : N = N)] at hK
  have HK := Lib.hid hK
  have h30 := ((first_all hm).1 rfl).1
  have HC := Lib.hid (fun W hW => clone_any B N v hN (by omega) zs hz W hW)
  obtain ⟨g, cv, rfl, hBg, hg⟩ := own_form ho (by omega)
  have e1 : wrap64 ((N : Int) - 1) = N - 1 := by unfold wrap64; omega
  have h1 : upB (a : Int) (N - 1) = true := by simp [upB]; omega
  have h2 : upB (b : Int) (N - 1) = true := by simp [upB]; omega
  have HO := Lib.hid ho
  have HZ := Lib.hid (show ∀ i, i < N → zs[i * 2]? = some (rainZ zs i) ∧ zs[i * 2 + 1]? = some (warmZ zs i) from fun i hi => ⟨by simp [rainZ, List.getElem?_eq_getElem (show i * 2 < zs.length by omega)], by simp [warmZ, List.getElem?_eq_getElem (show i * 2 + 1 < zs.length by omega)]⟩)
  have HL := Lib.hid (show (intsV .i8 zs).length = N * 2 by simp [intsV, hz])
  clear ho hm hz hzr hK
  go_enter Try.func44, Try.ntmps44
  go_wp2_with fail
  refine HK.out.mono ?_
  rintro e w1 ⟨rfl, hb1⟩
  go_wp2_with (first | (go_at_call 65; ((with_reducible refine (upto64_is a _ _ h1 _).mono ?_); rintro e w2 ⟨rfl, rfl⟩)) | (go_at_call 65; ((with_reducible refine (upto64_is b _ _ h2 _).mono ?_); rintro e w2 ⟨rfl, rfl⟩)))
  refine (HC.out _ (own_below HO.out hb1)).mono ?_
  rintro e w3 ⟨⟨u, rfl, hown'⟩, hb2⟩
  have hz1 := hb1.size
  have hO9 := own_below (own_below HO.out hb1) hb2
  have hb9 := below_onto hb1 hb2
  have hgw := (own_below HO.out hb1).lt g rfl
  obtain ⟨g9, c9, rfl, hB9, hg9⟩ := own_form hown' (by omega)
  obtain ⟨za0, za1⟩ := HZ.out a ha
  obtain ⟨zb0, zb1⟩ := HZ.out b hb
  have p0 := own_cell hO9 _ _ (intsV_get (k := .i8) zb0)
  have p1 := own_cell hO9 _ _ (intsV_get (k := .i8) zb1)
  have q0 := own_cell hO9 _ _ (intsV_get (k := .i8) za0)
  have q1 := own_cell hO9 _ _ (intsV_get (k := .i8) za1)
  have f0 := own_free hown' (a * 2)
  have f1 := own_free hown' (a * 2 + 1)
  have d0 := own_cell hown' _ _ (intsV_get (k := .i8) za0)
  have d1 := own_cell hown' _ _ (intsV_get (k := .i8) za1)
  have hs1 := own_set hown' (a * 2) (.int .i8 (rainZ zs b)) (by rw [HL.out]; omega)
  have hs2 := own_set hs1 (a * 2 + 1) (.int .i8 (warmZ zs b)) (by rw [List.length_set, HL.out]; omega)
  have hL2 : (((intsV .i8 zs).set (a * 2) (.int .i8 (rainZ zs b))).set (a * 2 + 1) (.int .i8 (warmZ zs b))).length = N * 2 := by simp [HL.out]
  have f2 := own_free hs2 (b * 2)
  have f3 := own_free hs2 (b * 2 + 1)
  obtain ⟨x2, hx2⟩ : ∃ x, (((intsV .i8 zs).set (a * 2) (.int .i8 (rainZ zs b))).set (a * 2 + 1) (.int .i8 (warmZ zs b)))[b * 2]? = some x := ⟨_, List.getElem?_eq_getElem (by rw [hL2]; omega)⟩
  obtain ⟨x3, hx3⟩ : ∃ x, (((intsV .i8 zs).set (a * 2) (.int .i8 (rainZ zs b))).set (a * 2 + 1) (.int .i8 (warmZ zs b)))[b * 2 + 1]? = some x := ⟨_, List.getElem?_eq_getElem (by rw [hL2]; omega)⟩
  have d2 := own_cell hs2 _ _ hx2
  have d3 := own_cell hs2 _ _ hx3
  have hs3 := own_set hs2 (b * 2) (.int .i8 (rainZ zs a)) (by rw [hL2]; omega)
  have hs4 := own_set hs3 (b * 2 + 1) (.int .i8 (warmZ zs a)) (by rw [List.length_set, hL2]; omega)
  have HR := Lib.hid (ownsRow_low hs4 hz1)
  have hg9w : w.heap.size ≤ g9 := by omega
  have hb10 := (((hb9.setCell (p := ⟨g9, a * 2, none⟩) hg9w (.int .i8 (rainZ zs b))).setCell (p := ⟨g9, a * 2 + 1, none⟩) hg9w (.int .i8 (warmZ zs b))).setCell (p := ⟨g9, b * 2, none⟩) hg9w (.int .i8 (rainZ zs a))).setCell (p := ⟨g9, b * 2 + 1, none⟩) hg9w (.int .i8 (warmZ zs a))
  have HBB := Lib.hid hb10
  have b1 : (a : Int) < (N : Int) := by omega
  have b2 : (b : Int) < (N : Int) := by omega
  clear hown' hO9 hb9 hs1 hs2 hs3 hs4 hL2 hx2 hx3 za0 za1 zb0 zb1 hb1 hb2 hb10 HC HK h1 h2
  go_wp2_with fail
  go_region
  go_wp2_with fail
  go_ret2
  exact ⟨⟨_, rfl, HR.out⟩, HBB.out.os, HBB.out.tape, HBB.out.output, HBB.out.size, HBB.out.block⟩
end Go.Proofs.Ytbcbokpdcliimaa
