/- SeedDays: which days are too dry or too cold. -/
import Derived.Test.YtbcbokpdcliimaaWettest
import Derived.Test.YtbcbokpdcliimaaRunH
import Derived.Laws.EntriesVeiled
namespace Go.Proofs.Ytbcbokpdcliimaa
open Go.RowKit
set_option linter.unusedVariables false
set_option linter.unusedSimpArgs false

def poorB (zs : List Int) (rain warm : Int) (i : Nat) : Bool := decide (rainZ zs i < rain) || decide (warmZ zs i < warm)

set_option maxRecDepth 100000 in
theorem poor_is (x y rain warm : Int) (hx : -128 ≤ x ∧ x ≤ 127) (hy : -128 ≤ y ∧ y ≤ 127) (b1 b2 : Nat) (p : Bool) (h : (decide (x < rain) || decide (y < warm)) = p) (w : World) (h1 : Holds w b1 #[.int .i64 rain]) (h2 : Holds w b2 #[.int .i64 warm]) :
    Calls Try.prog 66 #[.agg #[.int .i8 x, .int .i8 y], .pointer (some ⟨b1, 0, none⟩), .pointer (some ⟨b2, 0, none⟩)] w fun e w' => e = .returned (.bool p) ∧ Below w.heap.size w w' := by
  have w1 : wrap64 x = x := by unfold wrap64; omega
  have w2 : wrap64 y = y := by unfold wrap64; omega
  have hb := (Below.refl w.heap.size w).alloc (Nat.le_refl _) (.cells #[.int .i8 x, .int .i8 y] 40)
  have c1 := (h1.alloc (.cells #[.int .i8 x, .int .i8 y] 40)).cell 0
  have c2 := (h2.alloc (.cells #[.int .i8 x, .int .i8 y] 40)).cell 0
  cases d1 : decide (x < rain)
  · have HV := Lib.hid (show p = decide (y < warm) by rw [← h, d1, Bool.false_or])
    clear h
    go_enter Try.func66, Try.ntmps66
    go_wp2_with fail
    go_ret
    exact ⟨by rw [HV.out]; rfl, hb⟩
  · have HV := Lib.hid (show p = true by rw [← h, d1, Bool.true_or])
    clear h
    go_enter Try.func66, Try.ntmps66
    go_wp2_with fail
    go_ret
    exact ⟨by rw [HV.out]; rfl, hb⟩

set_option maxRecDepth 100000 in
set_option maxHeartbeats 1000000 in
theorem indexPoor_any (B N g cv : Nat) (zs : List Int) (hzr : ∀ i, i < N → (zs[i * 2]? = some (rainZ zs i) ∧ zs[i * 2 + 1]? = some (warmZ zs i)) ∧ (-128 ≤ rainZ zs i ∧ rainZ zs i ≤ 127) ∧ -128 ≤ warmZ zs i ∧ warmZ zs i ≤ 127) (k d c : Nat) (hd : d ≤ 30) (hkd : k + d ≤ N) (rain warm : Int) (b1 b2 : Nat) (w : World) (ho : w.ownsRow B 40 2 (.slice (some ⟨g, 0, none⟩) N cv) N (intsV .i8 zs)) (h1 : Holds w b1 #[.int .i64 rain]) (h2 : Holds w b2 #[.int .i64 warm]) :
    Calls Try.prog 77 #[.slice (some ⟨g, k * 2, none⟩) d c, .func (.func 66) #[] #[.pointer (some ⟨b1, 0, none⟩), .pointer (some ⟨b2, 0, none⟩)]] w fun e w' => (∃ x : Int, e = .returned (.int .i64 x) ∧ decide (0 ≤ x) = (List.range d).any (fun j => poorB zs rain warm (k + j))) ∧ Below w.heap.size w w' := by
  have HO := Lib.hid ho
  have HZ := Lib.hid hzr
  have HB := Lib.hid (And.intro (And.intro h1 h1.lt) (And.intro h2 h2.lt))
  clear ho hzr h1 h2
  go_enter Try.func77, Try.ntmps77
  go_wp2_with fail
  go_loopw [8] (fun i wr => ∃ j : Nat, j ≤ d ∧ i = .int .i64 j ∧ (∀ i, i < j → poorB zs rain warm (k + i) = false) ∧ Below w.heap.size w wr) (fun i _ => d - (intOf i).toNat)
  case atStart => exact ⟨0, by omega, rfl, fun i h => by omega, Below.refl _ _⟩
  case round =>
    obtain ⟨j, hj, rfl, hall, hb⟩ := hrel
    have HL := Lib.hid hall
    clear hall
    by_cases hlt : j < d
    · have hdd : decide ((j : Int) < (d : Int)) = true := by simp; omega
      have ho := own_below HO.out hb
      obtain ⟨⟨z0, z1⟩, r1, r2⟩ := HZ.out (k + j) (by omega)
      have c0 := own_cell ho _ _ (intsV_get (k := .i8) z0)
      have c1 := own_cell ho _ _ (intsV_get (k := .i8) z1)
      rw [Nat.add_mul] at c0 c1
      obtain ⟨p, hp⟩ : ∃ p, poorB zs rain warm (k + j) = p := ⟨_, rfl⟩
      have HP := Lib.hid hp
      have k1 := HB.out.1.1.below hb HB.out.1.2
      have k2 := HB.out.2.1.below hb HB.out.2.2
      have HK := Lib.hid (poor_is _ _ rain warm r1 r2 b1 b2 p hp wr k1 k2)
      clear ho z0 z1 hp k1 k2
      go_wp2_with fail
      refine HK.out.mono ?_
      rintro e w2 ⟨rfl, hb2⟩
      have hb3 := hb.trans (hb2.mono hb.size)
      clear c0 c1 HK hb hb2
      cases p
      · go_wp2_with fail
        go_roundw
        case rel => exact ⟨j + 1, by omega, by go_num, fun i hi => by
          by_cases e : i = j
          · subst e; exact HP.out
          · exact HL.out i (by omega), hb3⟩
        case measure => simp [intOf]; omega
      · have HF := Lib.hid (show (List.range d).any (fun j => poorB zs rain warm (k + j)) = true by
          rw [List.any_eq_true]
          exact ⟨j, by simpa using hlt, HP.out⟩)
        go_wp2_with fail
        go_ret
        exact ⟨⟨j, rfl, by rw [HF.out]; simp⟩, hb3⟩
    · have hdd : decide ((j : Int) < (d : Int)) = false := by simp; omega
      obtain rfl : j = d := by omega
      have HF := Lib.hid (show (List.range j).any (fun j => poorB zs rain warm (k + j)) = false by
        rw [List.any_eq_false]
        intro i hi
        rw [HL.out i (by simpa using hi)]
        decide)
      go_wp2_with fail
      go_ret
      exact ⟨⟨-1, rfl, by rw [HF.out]; rfl⟩, hb⟩

theorem containsPoor_any (B N g cv : Nat) (zs : List Int) (hzr : ∀ i, i < N → (zs[i * 2]? = some (rainZ zs i) ∧ zs[i * 2 + 1]? = some (warmZ zs i)) ∧ (-128 ≤ rainZ zs i ∧ rainZ zs i ≤ 127) ∧ -128 ≤ warmZ zs i ∧ warmZ zs i ≤ 127) (k d c : Nat) (hd : d ≤ 30) (hkd : k + d ≤ N) (rain warm : Int) (b1 b2 : Nat) (p : Bool) (hp : (List.range d).any (fun j => poorB zs rain warm (k + j)) = p) (w : World) (ho : w.ownsRow B 40 2 (.slice (some ⟨g, 0, none⟩) N cv) N (intsV .i8 zs)) (h1 : Holds w b1 #[.int .i64 rain]) (h2 : Holds w b2 #[.int .i64 warm]) :
    Calls Try.prog 67 #[.slice (some ⟨g, k * 2, none⟩) d c, .func (.func 66) #[] #[.pointer (some ⟨b1, 0, none⟩), .pointer (some ⟨b2, 0, none⟩)]] w fun e w' => e = .returned (.bool p) ∧ Below w.heap.size w w' := by
  have HI := Lib.hid (indexPoor_any B N g cv zs hzr k d c hd hkd rain warm b1 b2 w ho h1 h2)
  have HP := Lib.hid hp
  clear ho h1 h2 hp hzr
  go_enter Try.func67, Try.ntmps67
  go_wp2_with fail
  refine HI.out.mono ?_
  rintro e w2 ⟨⟨x, rfl, hx⟩, hb⟩
  rw [HP.out] at hx
  go_wp2_with fail
  go_ret
  first
    | exact ⟨rfl, hb⟩
    | exact ⟨by rw [← hx]; rfl, hb⟩

def seedF (days rain warm : Int) : Bool := spanF days && upB rain 50 && upB warm 40
def richB (zs : List Int) (rain warm : Int) (d k : Nat) : Bool := !(List.range d).any (fun j => poorB zs rain warm (k + j))
def seedL (zs : List Int) (rain warm : Int) (d : Nat) (l : List Nat) : List Int := (l.filter (richB zs rain warm d)).map fun (k : Nat) => (k : Int)
theorem seedL_on {zs : List Int} {rain warm : Int} {d : Nat} {l : List Nat} {k : Nat} (h : richB zs rain warm d k = true) : seedL zs rain warm d (l ++ [k]) = seedL zs rain warm d l ++ [(k : Int)] := by simp [seedL, h]
theorem seedL_off {zs : List Int} {rain warm : Int} {d : Nat} {l : List Nat} {k : Nat} (h : richB zs rain warm d k = false) : seedL zs rain warm d (l ++ [k]) = seedL zs rain warm d l := by simp [seedL, h]
theorem seedL_le (zs : List Int) (rain warm : Int) (d : Nat) (l : List Nat) : (seedL zs rain warm d l).length ≤ l.length := by simp [seedL]; exact List.length_filter_le _ _
theorem richB_step (zs : List Int) (rain warm : Int) (j k : Nat) : richB zs rain warm (j + 1) k = (richB zs rain warm j k && !poorB zs rain warm (k + j)) := by simp [richB, List.range_succ, List.any_append]

set_option maxRecDepth 100000 in
set_option maxHeartbeats 4000000 in
theorem specSeed_bad (B N : Nat) (v : Value) (hN : N ≤ 2000000) (zs : List Int) (hz : zs.length = N * 2) (hzr : ∀ z ∈ zs, -128 ≤ z ∧ z ≤ 127) (m : Nat) (hm : FirstNo (dayP zs) N m) (days rain warm : Int) (hne : askB N m (seedF days rain warm) = false) (w : World) (ho : w.ownsRow B 40 2 v N (intsV .i8 zs)) :
    Calls Try.prog 41 #[v, .int .i64 days, .int .i64 rain, .int .i64 warm] w fun e w' => (∃ u, e = .returned (.tuple #[u, .int .i64 (askC N m (seedF days rain warm))]) ∧ w'.ownsRow w.heap.size 2 1 u 0 []) ∧ Below w.heap.size w w' := by
  obtain ⟨W, hW⟩ : ∃ W, w.alloc (.cells #[] 2) = W := ⟨_, rfl⟩
  have hb0 : Below w.heap.size w W := by rw [← hW]; exact (Below.refl _ _).alloc (Nat.le_refl _) _
  have HM := Lib.hid (show W.ownsRow w.heap.size 2 1 (.slice (some ⟨w.heap.size, 0, none⟩) 0 0) 0 [] by rw [← hW]; exact World.ownsRow_made w #[] 0 (Nat.le_refl _) (by simp [maxLen]) rfl)
  have HK := Lib.hid (fun fine => l03Asked_any B N v hN zs hz hzr m hm fine W (own_below ho hb0))
  obtain ⟨av, cv, rfl⟩ := own_slice ho
  have k1 : ∀ v, upB rain 50 = v → (decide (0 ≤ rain) && decide (rain ≤ 50)) = v := fun v h => h
  have k2 : ∀ v, upB warm 40 = v → (decide (0 ≤ warm) && decide (warm ≤ 40)) = v := fun v h => h
  have hc := ask_bad hne
  clear ho hm hz hzr hne
  unfold seedF at hc ⊢
  cases h1 : spanF days <;> cases h2 : upB rain 50 <;> cases h3 : upB warm 40 <;> simp only [h1, h2, h3, Bool.and_true, Bool.and_false, Bool.true_and, Bool.false_and] at hc ⊢ <;> rcases hc with hc | hc <;> rw [hc]
  all_goals
    have HC := Lib.hid hc
    clear hc
    go_enter Try.func41, Try.ntmps41
    go_wp2_with (first | (go_at_call 61; ((with_reducible refine (l03Span_is days _ h1 _).mono ?_); rintro e w2 ⟨rfl, hw⟩; rw [hw]; clear hw)) | (go_at_call 64; ((with_reducible refine (l00In_is rain _ _ _ (k1 _ h2) _).mono ?_); rintro e w2 ⟨rfl, hw⟩; rw [hw]; clear hw)) | (go_at_call 64; ((with_reducible refine (l00In_is warm _ _ _ (k2 _ h3) _).mono ?_); rintro e w2 ⟨rfl, hw⟩; rw [hw]; clear hw)))
    refine (HK.out _).mono ?_
    rintro e w1 ⟨rfl, hb1⟩
    rw [HC.out]
    have hb2 := below_onto hb0 hb1
    have HR0 := Lib.hid (own_below HM.out hb1)
    clear hW
    go_wp2_with fail
    go_ret2
    exact ⟨⟨_, rfl, HR0.out⟩, hb2⟩

set_option maxRecDepth 100000 in
set_option maxHeartbeats 4000000 in
theorem specSeed_any (B N : Nat) (v : Value) (zs : List Int) (hz : zs.length = N * 2) (hzr : ∀ z ∈ zs, -128 ≤ z ∧ z ≤ 127) (hm : FirstNo (dayP zs) N N) (d : Nat) (rain warm : Int) (hf : seedF d rain warm = true) (w : World) (ho : w.ownsRow B 40 2 v N (intsV .i8 zs)) :
    Calls Try.prog 41 #[v, .int .i64 d, .int .i64 rain, .int .i64 warm] w fun e w' => (∃ u, e = .returned (.tuple #[u, .int .i64 0]) ∧ w'.ownsRow w.heap.size 2 1 u (seedL zs rain warm d (List.range (N + 1 - d))).length (intsV .i64 (seedL zs rain warm d (List.range (N + 1 - d))))) ∧ Below w.heap.size w w' := by
  have h30 := ((first_all hm).1 rfl).1
  obtain ⟨W, hW⟩ : ∃ W, w.alloc (.cells #[] 2) = W := ⟨_, rfl⟩
  have hb0 : Below w.heap.size w W := by rw [← hW]; exact (Below.refl _ _).alloc (Nat.le_refl _) _
  have HM := Lib.hid (show W.ownsRow w.heap.size 2 1 (.slice (some ⟨w.heap.size, 0, none⟩) 0 0) 0 [] by rw [← hW]; exact World.ownsRow_made w #[] 0 (Nat.le_refl _) (by simp [maxLen]) rfl)
  have hK := l03Asked_any B N v (by omega) zs hz hzr N hm true W (own_below ho hb0)
  rw [show askC N N true = 0 by simp [askC]] at hK
  have HK := Lib.hid hK
  have HO := Lib.hid (own_below ho hb0)
  have HLW := Lib.hid (fun k (hk : v.ownBlock = some k) => (ho.lt k hk).2)
  have HZ := Lib.hid (show ∀ i, i < N → (zs[i * 2]? = some (rainZ zs i) ∧ zs[i * 2 + 1]? = some (warmZ zs i)) ∧ (-128 ≤ rainZ zs i ∧ rainZ zs i ≤ 127) ∧ -128 ≤ warmZ zs i ∧ warmZ zs i ≤ 127 from fun i hi => by
    have e0 : zs[i * 2]? = some (rainZ zs i) := by simp [rainZ, List.getElem?_eq_getElem (show i * 2 < zs.length by omega)]
    have e1 : zs[i * 2 + 1]? = some (warmZ zs i) := by simp [warmZ, List.getElem?_eq_getElem (show i * 2 + 1 < zs.length by omega)]
    exact ⟨⟨e0, e1⟩, hzr _ (List.mem_of_getElem? e0), hzr _ (List.mem_of_getElem? e1)⟩)
  obtain ⟨av, cv, rfl⟩ := own_slice ho
  have k1 : ∀ v, upB rain 50 = v → (decide (0 ≤ rain) && decide (rain ≤ 50)) = v := fun v h => h
  have k2 : ∀ v, upB warm 40 = v → (decide (0 ≤ warm) && decide (warm ≤ 40)) = v := fun v h => h
  simp only [seedF, Bool.and_eq_true] at hf
  obtain ⟨⟨h1, h2⟩, h3⟩ := hf
  have hd1 : 1 ≤ d ∧ d ≤ 30 := by simp [spanF] at h1; omega
  clear ho hm hz hzr hK
  obtain ⟨i0, hi, hq0, hq1, hq2⟩ := info_parts i64Info
  go_enter Try.func41, Try.ntmps41
  go_wp2_with (first | (go_at_call 61; ((with_reducible refine (l03Span_is d _ h1 _).mono ?_); rintro e w2 ⟨rfl, hw⟩; rw [hw]; clear hw)) | (go_at_call 64; ((with_reducible refine (l00In_is rain _ _ _ (k1 _ h2) _).mono ?_); rintro e w2 ⟨rfl, hw⟩; rw [hw]; clear hw)) | (go_at_call 64; ((with_reducible refine (l00In_is warm _ _ _ (k2 _ h3) _).mono ?_); rintro e w2 ⟨rfl, hw⟩; rw [hw]; clear hw)))
  refine HK.out.mono ?_
  rintro e w1 ⟨rfl, hb1⟩
  have hb2 := below_onto hb0 hb1
  have HM1 := Lib.hid (own_below HM.out hb1)
  have HO1 := Lib.hid (own_below HO.out hb1)
  clear HM HO HK hW hb0 hb1 h1 h2 h3 k1 k2
  go_wp2_with fail
  go_loopw [10, 12] (fun u i wr => ∃ k : Nat, k ≤ N + 1 - d ∧ i = .int .i64 k ∧ wr.ownsRow w.heap.size 2 1 u (seedL zs rain warm d (List.range k)).length (intsV .i64 (seedL zs rain warm d (List.range k))) ∧ wr.ownsRow B 40 2 (.slice av N cv) N (intsV .i8 zs) ∧ Below w.heap.size w wr) (fun _ i _ => 31 - (intOf i).toNat)
  case atStart => exact ⟨0, by omega, rfl, HM1.out, HO1.out, hb2⟩
  case round =>
    obtain ⟨k, hk, rfl, hu, ho, hb⟩ := hrel
    have HU := Lib.hid hu
    have HOk := Lib.hid ho
    clear hu HM1 HO1
    by_cases hlt : k + d ≤ N
    · have hd : decide ((k : Int) + (d : Int) ≤ (N : Int)) = true := by simp; omega
      clear ho
      go_wp2_with fail
      go_loopw [13, 14] (fun f i wi => ∃ j : Nat, j ≤ d ∧ i = .int .i64 j ∧ f = .bool (richB zs rain warm j k) ∧ Below wr.heap.size wr wi) (fun _ i _ => d - (intOf i).toNat)
      case atStart => exact ⟨0, by omega, rfl, by simp [richB], Below.refl _ _⟩
      case round =>
        obtain ⟨j, hj, rfl, rfl, hbi⟩ := hrel
        by_cases hlj : j < d
        · have hd2 : decide ((j : Int) < (d : Int)) = true := by simp; omega
          have ho := own_below HOk.out hbi
          obtain ⟨g, cap, he, hBg, hg⟩ := own_form ho (by omega)
          simp only [Value.slice.injEq, true_and] at he
          obtain ⟨rfl, rfl⟩ := he
          obtain ⟨⟨z0, z1⟩, r1, r2⟩ := HZ.out (k + j) (by omega)
          have c0 := own_cell ho _ _ (intsV_get (k := .i8) z0)
          have c1 := own_cell ho _ _ (intsV_get (k := .i8) z1)
          have hst := richB_step zs rain warm j k
          have hpb : poorB zs rain warm (k + j) = (decide (rainZ zs (k + j) < rain) || decide (warmZ zs (k + j) < warm)) := rfl
          obtain ⟨r, hr⟩ : ∃ r, rainZ zs (k + j) = r := ⟨_, rfl⟩
          obtain ⟨t, ht⟩ : ∃ t, warmZ zs (k + j) = t := ⟨_, rfl⟩
          rw [hr] at c0 r1 hpb
          rw [ht] at c1 r2 hpb
          have w1' : wrap64 r = r := by unfold wrap64; omega
          have w2' : wrap64 t = t := by unfold wrap64; omega
          have hkj : (k : Int) + (j : Int) < (N : Int) := by omega
          have hbj := hbi.alloc hbi.size (.cells #[.int .i8 r, .int .i8 t] 40)
          rw [hpb] at hst
          have HST := Lib.hid hst
          clear ho z0 z1 hst hpb hr ht r1 r2
          cases hrb : richB zs rain warm j k
          · have HV := Lib.hid (show richB zs rain warm (j + 1) k = false by rw [HST.out, hrb, Bool.false_and])
            clear hrb
            go_wp2_with fail
            go_roundw
            case rel => exact ⟨j + 1, by omega, by go_num, by rw [HV.out], hbj⟩
            case measure => simp [intOf]; omega
          · by_cases q1 : r < rain
            · have d1 : decide (rain ≤ r) = false := by simp; omega
              have HV := Lib.hid (show richB zs rain warm (j + 1) k = false by rw [HST.out, hrb, decide_eq_true q1]; rfl)
              clear hrb q1
              go_wp2_with fail
              go_roundw
              case rel => exact ⟨j + 1, by omega, by go_num, by rw [HV.out], hbj⟩
              case measure => simp [intOf]; omega
            · have d1 : decide (rain ≤ r) = true := by simp; omega
              by_cases q2 : t < warm
              · have d2 : decide (warm ≤ t) = false := by simp; omega
                have HV := Lib.hid (show richB zs rain warm (j + 1) k = false by rw [HST.out, hrb, decide_eq_false q1, decide_eq_true q2]; rfl)
                clear hrb q1 q2
                go_wp2_with fail
                go_roundw
                case rel => exact ⟨j + 1, by omega, by go_num, by rw [HV.out], hbj⟩
                case measure => simp [intOf]; omega
              · have d2 : decide (warm ≤ t) = true := by simp; omega
                have HV := Lib.hid (show richB zs rain warm (j + 1) k = true by rw [HST.out, hrb, decide_eq_false q1, decide_eq_false q2]; rfl)
                clear hrb q1 q2
                go_wp2_with fail
                go_roundw
                case rel => exact ⟨j + 1, by omega, by go_num, by rw [HV.out], hbj⟩
                case measure => simp [intOf]; omega
        · have hd2 : decide ((j : Int) < (d : Int)) = false := by simp; omega
          obtain rfl : j = d := by omega
          have HU2 := Lib.hid (own_below HU.out hbi)
          have HO2 := Lib.hid (own_below HOk.out hbi)
          have hb4 := hb.trans (hbi.mono hb.size)
          have hrg : List.range (k + 1) = List.range k ++ [k] := List.range_succ
          have hle := seedL_le zs rain warm j (List.range k)
          rw [List.length_range] at hle
          clear HU HOk hb hbi
          cases hrb : richB zs rain warm j k
          · have HS := Lib.hid (show seedL zs rain warm j (List.range (k + 1)) = seedL zs rain warm j (List.range k) by rw [hrg, seedL_off hrb])
            clear hrb hrg
            go_wp2_with fail
            go_roundw
            case rel => exact ⟨k + 1, by omega, by go_num, by rw [HS.out]; exact HU2.out, HO2.out, hb4⟩
            case measure => simp [intOf]; omega
          · have HS := Lib.hid (show seedL zs rain warm j (List.range (k + 1)) = seedL zs rain warm j (List.range k) ++ [(k : Int)] by rw [hrg, seedL_on hrb])
            clear hrb hrg
            go_wp2_with (at_builtin; refine wpList_append_own_at _ rfl _ _ 24 rfl w.heap.size 2 i0 (.int .i64 0) 1 8 Try.underlying24 hi hq0 hq1 hq2 rfl (by decide) _ _ _ rfl (HU2.out.alloc _) ⟨wr.heap.size, 0, none⟩ 1 1 [.int .i64 k] rfl rfl ?c1 ?c2 ?c3 ?c4 ?c5 ?_)
            case c1 =>
              intro j z hj
              match j, hj with
              | 0, hj => simp at hj; subst hj; exact (Holds.new wr #[.int .i64 k] 2).cell 0
            case c2 => intro z hz; simp at hz; subst hz; rfl
            case c3 => unfold maxLen; omega
            case c4 => omega
            case c5 => have := hb4.size; simp; omega
            intro u9 w9 hown9 hgrow9 _ hat9
            have hb9 := (hb4.alloc hb4.size (.cells #[.int .i64 k] 2)).grown hgrow9 (by have := hb4.size; simp; omega) (fun k hk => by have := own_far HU2.out k hk; omega)
            have HO9 := Lib.hid ((HO2.out.alloc (.cells #[.int .i64 k] 2)).kept hgrow9 (own_apart_low HU2.out HLW.out))
            have HR9 := Lib.hid (show w9.ownsRow w.heap.size 2 1 u9 ((seedL zs rain warm j (List.range k)).length + 1) (intsV .i64 (seedL zs rain warm j (List.range k) ++ [(k : Int)])) by simpa [intsV] using hown9)
            clear hown9 hgrow9 hat9 HU2 HO2 hb4
            go_wp2_with fail
            go_roundw
            case rel => exact ⟨k + 1, by omega, by go_num, by rw [HS.out]; simpa using HR9.out, HO9.out, hb9⟩
            case measure => simp [intOf]; omega
    · have hd : decide ((k : Int) + (d : Int) ≤ (N : Int)) = false := by simp; omega
      obtain rfl : k = N + 1 - d := by omega
      have HUU := Lib.hid HU.out
      obtain ⟨au, cu, rfl⟩ := own_slice HU.out
      clear HU HOk ho
      go_wp2_with fail
      go_ret2
      exact ⟨⟨_, rfl, HUU.out⟩, hb⟩

section
open Go.Shelf
attribute [local go_sem] Oper.semAt_some
set_option maxRecDepth 100000 in
set_option maxHeartbeats 4000000 in
theorem implSeed_bad (B N : Nat) (v : Value) (hN : N ≤ 2000000) (zs : List Int) (hz : zs.length = N * 2) (hzr : ∀ z ∈ zs, -128 ≤ z ∧ z ≤ 127) (m : Nat) (hm : FirstNo (dayP zs) N m) (days rain warm : Int) (hne : askB N m (seedF days rain warm) = false) (w : World) (ho : w.ownsRow B 40 2 v N (intsV .i8 zs)) :
    Calls Try.prog 42 #[v, .int .i64 days, .int .i64 rain, .int .i64 warm] w fun e w' => (∃ u, e = .returned (.tuple #[u, .int .i64 (askC N m (seedF days rain warm))]) ∧ w'.ownsRow w.heap.size 2 1 u 0 []) ∧ Below w.heap.size w w' := by
  obtain ⟨W, hW⟩ : ∃ W, (w.alloc (.cells #[.int .i64 rain] 2)).alloc (.cells #[.int .i64 warm] 2) = W := ⟨_, rfl⟩
  have hb0 : Below w.heap.size w W := by rw [← hW]; exact ((Below.refl _ _).alloc (Nat.le_refl _) _).alloc (by simp) _
  have HB := Lib.hid (show (Holds W w.heap.size #[.int .i64 rain] ∧ Holds W (w.heap.size + 1) #[.int .i64 warm]) ∧ w.heap.size + 1 < W.heap.size by
    rw [← hW]
    exact ⟨⟨(Holds.new _ _ _).alloc _, Holds.new' _ _ _ _ (by simp)⟩, by simp⟩)
  have hK := implValidW_any B N v hN zs hz hzr m hm W (own_below ho hb0)
  obtain ⟨av, cv, rfl⟩ := own_slice ho
  clear ho hm hz hzr
  by_cases hmN : m = N
  · rw [decide_eq_true hmN] at hK
    have HK := Lib.hid hK
    have hf : seedF days rain warm = false := by simpa [askB, hmN] using hne
    have HC := Lib.hid (show askC N m (seedF days rain warm) = 2 by rw [askC, if_pos hmN, hf]; rfl)
    unfold seedF at hf
    clear hK hne hmN
    cases h1 : spanF days <;> cases h2 : upB rain 50 <;> cases h3 : upB warm 40 <;> rw [h1, h2, h3] at hf <;> first | exact absurd hf (by decide) | skip
    all_goals
      clear hf
      refine (callsIn_wide (n := 9)).1 ?_
      refine callsIn_of_wp_marks Try.func42 rfl trivial ?_ rfl
      simp only [Try.ntmps42, List.size_toArray, List.length_cons, List.length_nil, Nat.reduceAdd, Nat.reduceSub, Array.replicate_succ, Array.replicate_zero, List.push_toArray, List.append_toArray, List.nil_append, List.cons_append]
      gi_wp2_with fail
      refine ⟨trivial, (callsIn_wide.2 HK.out).mono ?_⟩
      rintro e w1 ⟨rfl, hb1⟩
      have c0 := (HB.out.1.1.below hb1 (by have := HB.out.2; omega)).cell 0
      have c1 := (HB.out.1.2.below hb1 HB.out.2).cell 0
      have hb2 := below_onto hb0 hb1
      clear hW hb0
      gi_wp2_with (first | (refine ⟨trivial, ?_⟩; gi_at_call 62; refine (callsIn_wide.2 (isSpan_is _ _ h1 _)).mono ?_; rintro e w2 ⟨rfl, hw⟩; rw [hw]; clear hw) | (refine ⟨trivial, ?_⟩; gi_at_call 65; (with_reducible refine (callsIn_wide.2 (upto64_is rain _ _ h2 _)).mono ?_); rintro e w2 ⟨rfl, hw⟩; rw [hw]; clear hw) | (refine ⟨trivial, ?_⟩; gi_at_call 65; (with_reducible refine (callsIn_wide.2 (upto64_is warm _ _ h3 _)).mono ?_); rintro e w2 ⟨rfl, hw⟩; rw [hw]; clear hw) | (refine ⟨trivial, ?_⟩; gi_at_call 63; refine (eachSpan_in _ _ _ _ _ _).mono ?_; rintro e w3 ⟨rfl, rfl⟩) | refine ⟨trivial, ?_⟩)
      refine ⟨.tuple #[.slice none 0 0, .int .i64 2], ?_, ⟨⟨_, by rw [HC.out], World.ownsRow_nil _ _ _ _⟩, hb2⟩⟩
      simp [results, Try.f42, go_sem]
  · rw [decide_eq_false hmN] at hK
    have HK := Lib.hid hK
    have HC := Lib.hid (show askC N m (seedF days rain warm) = 1 by rw [askC, if_neg hmN])
    clear hK hne hmN
    refine (callsIn_wide (n := 9)).1 ?_
    refine callsIn_of_wp_marks Try.func42 rfl trivial ?_ rfl
    simp only [Try.ntmps42, List.size_toArray, List.length_cons, List.length_nil, Nat.reduceAdd, Nat.reduceSub, Array.replicate_succ, Array.replicate_zero, List.push_toArray, List.append_toArray, List.nil_append, List.cons_append]
    gi_wp2_with fail
    refine ⟨trivial, (callsIn_wide.2 HK.out).mono ?_⟩
    rintro e w1 ⟨rfl, hb1⟩
    have hb2 := below_onto hb0 hb1
    clear hW hb0
    gi_wp2_with fail
    refine ⟨.tuple #[.slice none 0 0, .int .i64 1], ?_, ⟨⟨_, by rw [HC.out], World.ownsRow_nil _ _ _ _⟩, hb2⟩⟩
    simp [results, Try.f42, go_sem]

end
end Go.Proofs.Ytbcbokpdcliimaa
