/- The heights and the clippings of a plan, of the program. -/
import Derived.Test.YtbcbokpdcliimaaRunH
namespace Go.Proofs.Ytbcbokpdcliimaa
open Go.RowKit
set_option linter.unusedVariables false
set_option linter.unusedSimpArgs false

def high2 (a b : Int) : Bool := upB a 200 && upB b 200
theorem high2_all (a b : Int) : [a, b].all (upB · 200) = high2 a b := by simp [high2]
theorem high2_range {a b : Int} (h : high2 a b = true) : (0 ≤ a ∧ a ≤ 200) ∧ 0 ≤ b ∧ b ≤ 200 := by
  simp only [high2, upB, Bool.and_eq_true, decide_eq_true_eq] at h
  exact ⟨h.1, h.2⟩
theorem high2_own (w : World) (a b : Int) : (w.alloc (.cells #[.int .i64 a, .int .i64 b] 2)).ownsRow w.heap.size 2 1 (.slice (some ⟨w.heap.size, 0, none⟩) 2 2) 2 (intsV .i64 [a, b]) :=
  ⟨rfl, .inr ⟨w.heap.size, 2, _, rfl, Nat.le_refl _, heap_alloc_new w _, Nat.le_refl _, by simp [maxLen], rfl, rfl⟩⟩

set_option maxRecDepth 100000 in
set_option maxHeartbeats 4000000 in
theorem follow_bad (B N : Nat) (v : Value) (hN : N ≤ 2000000) (zs : List Int) (hz : zs.length = N * 2) (hzr : ∀ z ∈ zs, -128 ≤ z ∧ z ≤ 127) (m : Nat) (hm : FirstNo (dayP zs) N m) (B2 H : Nat) (x : Value) (hH : H ≤ 2000000) (ps : List Int) (hl : ps.length = H) (start cut : Int) (hne : askB N m (high2 start cut) = false) (w : World) (ho : w.ownsRow B 40 2 v N (intsV .i8 zs)) (hx : w.ownsRow B2 2 1 x H (intsV .i64 ps)) :
    Calls Try.prog 55 #[.int .i64 start, .int .i64 cut, v, x] w fun e w' => e = .returned (.tuple #[.slice none 0 0, .slice none 0 0, .int .i64 (askC N m (high2 start cut))]) ∧ Below w.heap.size w w' := by
  obtain ⟨W, hW⟩ : ∃ W, w.alloc (.cells #[.int .i64 start, .int .i64 cut] 2) = W := ⟨_, rfl⟩
  have hG := growthsFrom_any B N v hN zs hz hzr m hm w.heap.size 2 (by omega) _ [start, cut] rfl W (by rw [← hW]; exact ho.alloc _) (by rw [← hW]; exact high2_own w start cut)
  rw [high2_all] at hG
  have hb0 : Below w.heap.size w W := by rw [← hW]; exact (Below.refl _ _).alloc (Nat.le_refl _) _
  have HK := Lib.hid hG
  obtain ⟨av, cv, rfl⟩ := own_slice ho
  obtain ⟨ax, cx, rfl⟩ := own_slice hx
  have hc := ask_bad hne
  clear ho hx hm hz hzr hne hG hl
  rcases hc with hc | hc <;> rw [hc] at HK ⊢
  all_goals
    clear hc
    go_enter Try.func55, Try.ntmps55
    go_wp2_with fail
    refine HK.out.mono ?_
    rintro e w1 ⟨⟨u, rfl, hu⟩, hb1⟩
    have hb2 := below_onto hb0 hb1
    clear hb1 hu HK hW hb0
    go_wp2_with fail
    go_ret3
    exact ⟨rfl, hb2⟩

set_option maxRecDepth 100000 in
set_option maxHeartbeats 4000000 in
theorem follow_plan (B N : Nat) (v : Value) (hN : N ≤ 2000000) (zs : List Int) (hz : zs.length = N * 2) (hzr : ∀ z ∈ zs, -128 ≤ z ∧ z ≤ 127) (m : Nat) (hm : FirstNo (dayP zs) N m) (B2 H : Nat) (x : Value) (hH : H ≤ 2000000) (ps : List Int) (hl : ps.length = H) (start cut : Int) (hf : askB N m (high2 start cut) = true) (q : Nat) (hq : FirstNo (goodB N ps) H q) (hqH : ¬ q = H) (w : World) (ho : w.ownsRow B 40 2 v N (intsV .i8 zs)) (hx : w.ownsRow B2 2 1 x H (intsV .i64 ps)) :
    Calls Try.prog 55 #[.int .i64 start, .int .i64 cut, v, x] w fun e w' => e = .returned (.tuple #[.slice none 0 0, .slice none 0 0, .int .i64 4]) ∧ Below w.heap.size w w' := by
  obtain ⟨W, hW⟩ : ∃ W, w.alloc (.cells #[.int .i64 start, .int .i64 cut] 2) = W := ⟨_, rfl⟩
  have hG := growthsFrom_any B N v hN zs hz hzr m hm w.heap.size 2 (by omega) _ [start, cut] rfl W (by rw [← hW]; exact ho.alloc _) (by rw [← hW]; exact high2_own w start cut)
  rw [high2_all] at hG
  have hb0 : Below w.heap.size w W := by rw [← hW]; exact (Below.refl _ _).alloc (Nat.le_refl _) _
  have hn : askN N m (high2 start cut) = N := by rw [askN, if_pos hf]
  rw [hn, (ask_good hf).2.2] at hG
  have HK := Lib.hid hG
  obtain ⟨av, cv, rfl⟩ := own_slice ho
  have HX := Lib.hid hx
  obtain ⟨ax, cx, rfl⟩ := own_slice hx
  have HPL := Lib.hid (fun W hW => isPlan_any B2 H (.slice ax H cx) hH ps hl N q hq W hW)
  rw [decide_eq_false hqH] at HPL
  have HXW := Lib.hid (own_below hx hb0)
  clear ho hx hm hz hzr hf hG hl hn hq hqH
  go_enter Try.func55, Try.ntmps55
  go_wp2_with fail
  refine HK.out.mono ?_
  rintro e w1 ⟨⟨u, rfl, hu⟩, hb1⟩
  have hb2 := below_onto hb0 hb1
  have HX1 := Lib.hid (own_below HXW.out hb1)
  obtain ⟨au, cu, rfl⟩ := own_slice hu
  clear hb1 hu HK hW hb0
  go_wp2_with fail
  refine (HPL.out _ HX1.out).mono ?_
  rintro e w2 ⟨rfl, rfl⟩
  go_wp2_with fail
  go_ret3
  exact ⟨rfl, hb2⟩

set_option maxRecDepth 100000 in
set_option maxHeartbeats 4000000 in
theorem follow_any (B N : Nat) (v : Value) (hN : N ≤ 2000000) (zs : List Int) (hz : zs.length = N * 2) (hzr : ∀ z ∈ zs, -128 ≤ z ∧ z ≤ 127) (m : Nat) (hm : FirstNo (dayP zs) N m) (B2 H : Nat) (x : Value) (hH : H ≤ 2000000) (ps : List Int) (hl : ps.length = H) (start cut : Int) (hf : askB N m (high2 start cut) = true) (hq : FirstNo (goodB N ps) H H) (w : World) (ho : w.ownsRow B 40 2 v N (intsV .i8 zs)) (hx : w.ownsRow B2 2 1 x H (intsV .i64 ps)) :
    Calls Try.prog 55 #[.int .i64 start, .int .i64 cut, v, x] w fun e w' => (∃ u y, e = .returned (.tuple #[u, y, .int .i64 0]) ∧ w'.ownsRow w.heap.size 2 1 u N (intsV .i64 (runL zs ps cut start N)) ∧ w'.ownsRow w.heap.size 2 1 y (runC zs ps cut start N).length (intsV .i64 (runC zs ps cut start N))) ∧ Below w.heap.size w w' := by
  obtain ⟨W, hW⟩ : ∃ W, w.alloc (.cells #[.int .i64 start, .int .i64 cut] 2) = W := ⟨_, rfl⟩
  have hG := growthsFrom_any B N v hN zs hz hzr m hm w.heap.size 2 (by omega) _ [start, cut] rfl W (by rw [← hW]; exact ho.alloc _) (by rw [← hW]; exact high2_own w start cut)
  rw [high2_all] at hG
  have hb0 : Below w.heap.size w W := by rw [← hW]; exact (Below.refl _ _).alloc (Nat.le_refl _) _
  have hn : askN N m (high2 start cut) = N := by rw [askN, if_pos hf]
  have hn2 : askV zs N m (high2 start cut) = intsV .i64 (growL zs N) := by rw [askV, if_pos hf]
  obtain ⟨rfl, hfine, hc0⟩ := ask_good hf
  rw [hn, hn2, hc0] at hG
  have HK := Lib.hid hG
  obtain ⟨av, cv, rfl⟩ := own_slice ho
  have HC := Lib.hid (fun d c hc W hW => contains_any B2 H x hH ps hl d c hc W hW)
  obtain ⟨ax, cx, rfl⟩ := own_slice hx
  have HPL := Lib.hid (fun W hW => isPlan_any B2 H (.slice ax H cx) hH ps hl m H hq W hW)
  rw [decide_eq_true (rfl : H = H)] at HPL
  have HXW := Lib.hid (own_below hx hb0)
  have hall := (first_all hm).1 rfl
  have HALL := Lib.hid hall.2
  have h30 := hall.1
  have HR := Lib.hid (high2_range hfine)
  obtain ⟨i0, hi, hq0, hq1, hq2⟩ := info_parts i64Info
  clear ho hx hm hz hzr hf hG hl hn hn2 hq hall hfine hc0
  go_enter Try.func55, Try.ntmps55
  go_wp2_with fail
  refine HK.out.mono ?_
  rintro e w1 ⟨⟨u, rfl, hu⟩, hb1⟩
  have hb2 := below_onto hb0 hb1
  have HX1 := Lib.hid (own_below HXW.out hb1)
  have HG1 := Lib.hid (ownsRow_low hu hb0.size)
  obtain ⟨au, cu, rfl⟩ := own_slice hu
  have HLW := Lib.hid (And.intro (fun k hk => (hu.lt k hk).2) (fun k hk => (HX1.out.lt k hk).2))
  clear hb1 hu HK hW hb0 HXW
  go_wp2_with fail
  refine (HPL.out _ HX1.out).mono ?_
  rintro e w2 ⟨rfl, rfl⟩
  clear HPL
  go_wp2_with fail
  go_loopw [8, 9, 12, 35] (fun u y h i wr => ∃ k : Nat, k ≤ m ∧ i = .int .i64 k ∧ h = .int .i64 (runH zs ps cut start k) ∧ wr.ownsRow w2.heap.size 2 1 u k (intsV .i64 (runL zs ps cut start k)) ∧ wr.ownsRow w2.heap.size 2 1 y (runC zs ps cut start k).length (intsV .i64 (runC zs ps cut start k)) ∧ (u.ownBlock = none ∨ u.ownBlock ≠ y.ownBlock) ∧ wr.ownsRow w.heap.size 2 1 (.slice au m cu) m (intsV .i64 (growL zs m)) ∧ wr.ownsRow B2 2 1 (.slice ax H cx) H (intsV .i64 ps) ∧ Below w2.heap.size w2 wr) (fun _ _ _ i _ => m - (intOf i).toNat)
  case atStart => exact ⟨0, by omega, rfl, rfl, World.ownsRow_nil _ _ _ _, World.ownsRow_nil _ _ _ _, .inl rfl, HG1.out, HX1.out, Below.refl _ _⟩
  case round =>
    obtain ⟨k, hk, rfl, rfl, hu, hy, hap, ho, hx, hb⟩ := hrel
    have HU := Lib.hid hu
    have HY := Lib.hid hy
    have HAP := Lib.hid hap
    have HO1 := Lib.hid ho
    have HX2 := Lib.hid hx
    clear hu hy hap hx HG1 HX1
    by_cases hlt : k < m
    · have hd : decide ((k : Int) < (m : Int)) = true := by simp; omega
      obtain ⟨g, cap, he, hBg, hg⟩ := own_form ho (by omega)
      simp only [Value.slice.injEq, true_and] at he
      obtain ⟨rfl, rfl⟩ := he
      have c0 := own_cell ho _ _ (intsV_get (k := .i64) (show (growL zs m)[k]? = some (growZ zs k) by simp [growL, hlt]))
      have hHr := runH_range (ps := ps) HR.out.1 HR.out.2 k (fun j hj => HALL.out j (by omega))
      have hGr := growZ_range (HALL.out k hlt)
      have hS : runH zs ps cut start (k + 1) = (if ps.contains (k : Int) then minZ (runH zs ps cut start k) cut else runH zs ps cut start k) + growZ zs k := rfl
      have hCS : runC zs ps cut start (k + 1) = runC zs ps cut start k ++ (if ps.contains (k : Int) then [runH zs ps cut start k - minZ (runH zs ps cut start k) cut] else []) := rfl
      have hLS := runL_succ zs ps cut start k
      have hCl := runC_le zs ps cut start k
      obtain ⟨h, hh⟩ : ∃ h, runH zs ps cut start k = h := ⟨_, rfl⟩
      obtain ⟨gz, hgz⟩ : ∃ gz, growZ zs k = gz := ⟨_, rfl⟩
      rw [hh] at hHr hS hCS ⊢
      rw [hgz] at hGr hS c0
      cases hcn : ps.contains (k : Int)
      · rw [hcn] at hS hCS
        simp only [Bool.false_eq_true, if_false, List.append_nil] at hS hCS
        have e1 : wrap64 (h + gz) = h + gz := by unfold wrap64; omega
        rw [hS] at hLS
        have HI := Lib.hid (And.intro hS (And.intro hCS hLS))
        clear hHr hGr hS hCS hLS hh hgz ho
        go_wp2_with fail
        refine (HC.out k _ hcn _ HX2.out).mono ?_
        rintro e w3 ⟨rfl, rfl⟩
        clear c0 hcn
        go_wp2_with (at_builtin; refine wpList_append_own_at _ rfl _ _ 24 rfl w2.heap.size 2 i0 (.int .i64 0) 1 8 Try.underlying24 hi hq0 hq1 hq2 rfl (by decide) _ _ _ rfl (HU.out.alloc _) ⟨w3.heap.size, 0, none⟩ 1 1 [.int .i64 (h + gz)] rfl rfl ?c1 ?c2 ?c3 ?c4 ?c5 ?_)
        case c1 =>
          intro j z hj
          match j, hj with
          | 0, hj => simp at hj; subst hj; exact (Holds.new w3 #[.int .i64 (h + gz)] 2).cell 0
        case c2 => intro z hz; simp at hz; subst hz; rfl
        case c3 => unfold maxLen; omega
        case c4 => omega
        case c5 => have := hb.size; simp; omega
        intro u9 w9 hown9 hgrow9 _ hat9
        have hb9 := (hb.alloc hb.size (.cells #[.int .i64 (h + gz)] 2)).grown hgrow9 (by have := hb.size; simp; omega) (fun k hk => by have := own_far HU.out k hk; omega)
        have HO9 := Lib.hid ((HO1.out.alloc (.cells #[.int .i64 (h + gz)] 2)).kept hgrow9 (own_apart_low HU.out HLW.out.1))
        have HX9 := Lib.hid ((HX2.out.alloc (.cells #[.int .i64 (h + gz)] 2)).kept hgrow9 (own_apart_low HU.out HLW.out.2))
        have HS9 := Lib.hid ((HY.out.alloc (.cells #[.int .i64 (h + gz)] 2)).kept hgrow9 (apart_flip HAP.out))
        have HR9 := Lib.hid (show w9.ownsRow w2.heap.size 2 1 u9 (k + 1) (intsV .i64 (runL zs ps cut start k ++ [h + gz])) by simpa [intsV] using hown9)
        have HP9 := Lib.hid (own_apart_new HY.out hat9 (by simp) HAP.out)
        clear hown9 hgrow9 hat9 HU HY HO1 HX2 hb
        go_wp2_with fail
        go_roundw
        case rel => exact ⟨k + 1, by omega, by go_num, by rw [HI.out.1], by rw [HI.out.2.2]; exact HR9.out, by rw [HI.out.2.1]; exact HS9.out, HP9.out, HO9.out, HX9.out, hb9⟩
        case measure => simp [intOf]; omega
      · rw [hcn] at hS hCS
        simp only [if_true] at hS hCS
        obtain ⟨m2, hm2⟩ : ∃ m2, minZ h cut = m2 := ⟨_, rfl⟩
        have hmr : 0 ≤ m2 ∧ m2 ≤ h := by have := HR.out.2.1; rw [← hm2, minZ]; split <;> omega
        have hmin : (if cut < h then cut else h) = m2 := by rw [← hm2, minZ]; split <;> split <;> omega
        rw [hm2] at hS hCS
        have e1 : wrap64 (m2 + gz) = m2 + gz := by have := hmr.1; have := hmr.2; unfold wrap64; omega
        have e2 : wrap64 (h - m2) = h - m2 := by have := hmr.1; have := hmr.2; unfold wrap64; omega
        rw [hS] at hLS
        have HI := Lib.hid (And.intro hS (And.intro hCS hLS))
        clear hHr hGr hS hCS hLS hh hgz ho hmr hm2
        go_wp2_with fail
        refine (HC.out k _ hcn _ HX2.out).mono ?_
        rintro e w3 ⟨rfl, rfl⟩
        clear c0 hcn
        go_wp2_with (at_builtin; refine wpList_append_own_at _ rfl _ _ 24 rfl w2.heap.size 2 i0 (.int .i64 0) 1 8 Try.underlying24 hi hq0 hq1 hq2 rfl (by decide) _ _ _ rfl (HY.out.alloc _) ⟨w3.heap.size, 0, none⟩ 1 1 [.int .i64 (h - m2)] rfl rfl ?c1 ?c2 ?c3 ?c4 ?c5 ?_)
        case c1 =>
          intro j z hj
          match j, hj with
          | 0, hj => simp at hj; subst hj; exact (Holds.new w3 #[.int .i64 (h - m2)] 2).cell 0
        case c2 => intro z hz; simp at hz; subst hz; rfl
        case c3 => unfold maxLen; omega
        case c4 => omega
        case c5 => have := hb.size; simp; omega
        intro y8 w8 hown8 hgrow8 _ hat8
        have hb8 := (hb.alloc hb.size (.cells #[.int .i64 (h - m2)] 2)).grown hgrow8 (by have := hb.size; simp; omega) (fun k hk => by have := own_far HY.out k hk; omega)
        have HO8 := Lib.hid ((HO1.out.alloc (.cells #[.int .i64 (h - m2)] 2)).kept hgrow8 (own_apart_low HY.out HLW.out.1))
        have HX8 := Lib.hid ((HX2.out.alloc (.cells #[.int .i64 (h - m2)] 2)).kept hgrow8 (own_apart_low HY.out HLW.out.2))
        have HS8 := Lib.hid ((HU.out.alloc (.cells #[.int .i64 (h - m2)] 2)).kept hgrow8 HAP.out)
        have HR8 := Lib.hid (show w8.ownsRow w2.heap.size 2 1 y8 ((runC zs ps cut start k).length + 1) (intsV .i64 (runC zs ps cut start k ++ [h - m2])) by simpa [intsV] using hown8)
        have HP8 := Lib.hid (own_apart_new HU.out hat8 (by simp) (apart_flip HAP.out))
        clear hown8 hgrow8 hat8 HY HU HO1 HX2 hb
        go_wp2_with (at_builtin; refine wpList_append_own_at _ rfl _ _ 24 rfl w2.heap.size 2 i0 (.int .i64 0) 1 8 Try.underlying24 hi hq0 hq1 hq2 rfl (by decide) _ _ _ rfl (HS8.out.alloc _) ⟨w8.heap.size, 0, none⟩ 1 1 [.int .i64 (m2 + gz)] rfl rfl ?c1 ?c2 ?c3 ?c4 ?c5 ?_)
        case c1 =>
          intro j z hj
          match j, hj with
          | 0, hj => simp at hj; subst hj; exact (Holds.new w8 #[.int .i64 (m2 + gz)] 2).cell 0
        case c2 => intro z hz; simp at hz; subst hz; rfl
        case c3 => unfold maxLen; omega
        case c4 => omega
        case c5 => have := hb8.size; simp; omega
        intro u9 w9 hown9 hgrow9 _ hat9
        have hb9 := (hb8.alloc hb8.size (.cells #[.int .i64 (m2 + gz)] 2)).grown hgrow9 (by have := hb8.size; simp; omega) (fun k hk => by have := own_far HS8.out k hk; omega)
        have HO9 := Lib.hid ((HO8.out.alloc (.cells #[.int .i64 (m2 + gz)] 2)).kept hgrow9 (own_apart_low HS8.out HLW.out.1))
        have HX9 := Lib.hid ((HX8.out.alloc (.cells #[.int .i64 (m2 + gz)] 2)).kept hgrow9 (own_apart_low HS8.out HLW.out.2))
        have HS9 := Lib.hid ((HR8.out.alloc (.cells #[.int .i64 (m2 + gz)] 2)).kept hgrow9 HP8.out)
        have HR9 := Lib.hid (show w9.ownsRow w2.heap.size 2 1 u9 (k + 1) (intsV .i64 (runL zs ps cut start k ++ [m2 + gz])) by simpa [intsV] using hown9)
        have HP9 := Lib.hid (own_apart_new HR8.out hat9 (by simp) (apart_flip HP8.out))
        clear hown9 hgrow9 hat9 HS8 HR8 HO8 HX8 hb8
        go_wp2_with fail
        go_roundw
        case rel => exact ⟨k + 1, by omega, by go_num, by rw [HI.out.1], by rw [HI.out.2.2]; exact HR9.out, by rw [HI.out.2.1]; simpa using HS9.out, HP9.out, HO9.out, HX9.out, hb9⟩
        case measure => simp [intOf]; omega
    · have hd : decide ((k : Int) < (m : Int)) = false := by simp; omega
      obtain rfl : k = m := by omega
      have HU2 := Lib.hid (ownsRow_low HU.out hb2.size)
      have HY2 := Lib.hid (ownsRow_low HY.out hb2.size)
      have hb3 := below_onto hb2 hb
      obtain ⟨au, cu, rfl⟩ := own_slice HU.out
      obtain ⟨ay, cy, rfl⟩ := own_slice HY.out
      clear ho HAP HO1 HX2 hb
      go_wp2_with fail
      go_ret3
      exact ⟨⟨_, _, rfl, HU2.out, HY2.out⟩, hb3⟩
end Go.Proofs.Ytbcbokpdcliimaa
