/- The heights and the clippings of a plan, of the program and of the model. -/
import Derived.Test.YtbcbokpdcliimaaPlan
namespace Go.Proofs.Ytbcbokpdcliimaa
open Go.RowKit
set_option linter.unusedVariables false
set_option linter.unusedSimpArgs false

def runH (zs ps : List Int) (cut start : Int) : Nat → Int
  | 0 => start
  | k + 1 => (if ps.contains (k : Int) then minZ (runH zs ps cut start k) cut else runH zs ps cut start k) + growZ zs k
def runL (zs ps : List Int) (cut start : Int) (n : Nat) : List Int := (List.range n).map fun k => runH zs ps cut start (k + 1)
def runC (zs ps : List Int) (cut start : Int) : Nat → List Int
  | 0 => []
  | k + 1 => runC zs ps cut start k ++ (if ps.contains (k : Int) then [runH zs ps cut start k - minZ (runH zs ps cut start k) cut] else [])
theorem runL_succ (zs ps : List Int) (cut start : Int) (k : Nat) : runL zs ps cut start (k + 1) = runL zs ps cut start k ++ [runH zs ps cut start (k + 1)] := by simp [runL, List.range_succ]
theorem runL_length (zs ps : List Int) (cut start : Int) (k : Nat) : (runL zs ps cut start k).length = k := by simp [runL]
theorem runC_le (zs ps : List Int) (cut start : Int) : ∀ k, (runC zs ps cut start k).length ≤ k
  | 0 => by simp [runC]
  | k + 1 => by
    have := runC_le zs ps cut start k
    rw [runC, List.length_append]
    split <;> simp <;> omega
theorem runH_range {zs ps : List Int} {cut start : Int} (h1 : 0 ≤ start ∧ start ≤ 200) (h2 : 0 ≤ cut ∧ cut ≤ 200) : ∀ k, (∀ j, j < k → dayB zs j = true) → 0 ≤ runH zs ps cut start k ∧ runH zs ps cut start k ≤ 200 + 24 * k
  | 0, _ => by simpa [runH] using h1
  | k + 1, hd => by
    have hr := runH_range (ps := ps) h1 h2 k (fun j h => hd j (by omega))
    have g := growZ_range (hd k (by omega))
    rw [runH, minZ]
    split <;> (try split) <;> omega

theorem own_apart_low {W : World} {A : Nat} {e : TypeId} {size n : Nat} {xs : List Value} {r : Value} (hr : W.ownsRow A e size r n xs) {v : Value} (hv : ∀ k, v.ownBlock = some k → k < A) : v.ownBlock = none ∨ v.ownBlock ≠ r.ownBlock := by
  cases h : v.ownBlock with
  | none => exact .inl rfl
  | some k => exact .inr fun e => by have := (hr.lt k e.symm).1; have := hv k h; omega
theorem own_apart_new {W : World} {A s : Nat} {e : TypeId} {size n : Nat} {xs : List Value} {r r' y : Value} (hy : W.ownsRow A e size y n xs) (hat : r'.ownBlock = r.ownBlock ∨ r'.ownBlock = some s) (hs : W.heap.size ≤ s) (hap : r.ownBlock = none ∨ r.ownBlock ≠ y.ownBlock) : r'.ownBlock = none ∨ r'.ownBlock ≠ y.ownBlock := by
  rcases hat with h | h
  · rw [h]; exact hap
  · right; rw [h]; intro e; have := (hy.lt _ e.symm).2; omega
theorem apart_flip {r y : Value} (h : r.ownBlock = none ∨ r.ownBlock ≠ y.ownBlock) : y.ownBlock = none ∨ y.ownBlock ≠ r.ownBlock := by
  rcases h with h | h
  · cases hy : y.ownBlock with
    | none => exact .inl rfl
    | some k => exact .inr (by rw [h]; simp)
  · exact .inr (Ne.symm h)

set_option maxRecDepth 100000 in
set_option maxHeartbeats 4000000 in
theorem l03Run_any (B N : Nat) (v : Value) (hN : N ≤ 2000000) (zs : List Int) (hz : zs.length = N * 2) (hm : FirstNo (dayP zs) N N) (B2 H : Nat) (x : Value) (hH : H ≤ 2000000) (ps : List Int) (hl : ps.length = H) (start cut : Int) (hs : 0 ≤ start ∧ start ≤ 200) (hc : 0 ≤ cut ∧ cut ≤ 200) (w : World) (ho : w.ownsRow B 40 2 v N (intsV .i8 zs)) (hx : w.ownsRow B2 2 1 x H (intsV .i64 ps)) :
    Calls Try.prog 54 #[.int .i64 start, .int .i64 cut, v, x] w fun e w' => (∃ u y, e = .returned (.tuple #[u, y]) ∧ w'.ownsRow w.heap.size 2 1 u N (intsV .i64 (runL zs ps cut start N)) ∧ w'.ownsRow w.heap.size 2 1 y (runC zs ps cut start N).length (intsV .i64 (runC zs ps cut start N))) ∧ Below w.heap.size w w' := by
  have hall := (first_all hm).1 rfl
  have HALL := Lib.hid hall.2
  have h30 := hall.1
  have HZ := Lib.hid (show ∀ i, i < N → zs[i * 2]? = some (rainZ zs i) ∧ zs[i * 2 + 1]? = some (warmZ zs i) from fun i hi => ⟨by simp [rainZ, List.getElem?_eq_getElem (show i * 2 < zs.length by omega)], by simp [warmZ, List.getElem?_eq_getElem (show i * 2 + 1 < zs.length by omega)]⟩)
  have HH := Lib.hid (fun d c hc W hW => l00Has_any B2 H x hH ps hl d c hc W hW)
  have HR := Lib.hid (And.intro hs hc)
  obtain ⟨av, cv, rfl⟩ := own_slice ho
  obtain ⟨ax, cx, rfl⟩ := own_slice hx
  obtain ⟨W0, hW0⟩ : ∃ W0, (w.alloc (.cells #[] 2)).alloc (.cells #[] 2) = W0 := ⟨_, rfl⟩
  have hz0 : W0.heap.size = w.heap.size + 2 := by rw [← hW0]; simp
  have hb0 : Below w.heap.size w W0 := by rw [← hW0]; exact ((Below.refl w.heap.size w).alloc (Nat.le_refl _) _).alloc (by simp) _
  have HO := Lib.hid (own_below ho hb0)
  have HX := Lib.hid (own_below hx hb0)
  have HLW := Lib.hid (And.intro (fun k hk => (ho.lt k hk).2) (fun k hk => (hx.lt k hk).2))
  have HM0 := Lib.hid (show W0.ownsRow w.heap.size 2 1 (.slice (some ⟨w.heap.size, 0, none⟩) 0 0) 0 [] ∧ W0.ownsRow w.heap.size 2 1 (.slice (some ⟨w.heap.size + 1, 0, none⟩) 0 0) 0 [] by
    rw [← hW0]
    refine ⟨(World.ownsRow_made w #[] 0 (Nat.le_refl _) (by simp [maxLen]) rfl).alloc _, ?_⟩
    have := World.ownsRow_made (base := w.heap.size) (e := 2) (size := 1) (w.alloc (.cells #[] 2)) #[] 0 (by simp) (by simp [maxLen]) rfl
    simpa using this)
  clear ho hx hz hm hall hs hc
  obtain ⟨i0, hi, hq0, hq1, hq2⟩ := info_parts i64Info
  go_enter Try.func54, Try.ntmps54
  go_wp2_with fail
  clear hW0
  go_loopw [0, 10, 11, 12] (fun h u y i wr => ∃ k : Nat, k ≤ N ∧ i = .int .i64 k ∧ h = .int .i64 (runH zs ps cut start k) ∧ wr.ownsRow w.heap.size 2 1 u k (intsV .i64 (runL zs ps cut start k)) ∧ wr.ownsRow w.heap.size 2 1 y (runC zs ps cut start k).length (intsV .i64 (runC zs ps cut start k)) ∧ (u.ownBlock = none ∨ u.ownBlock ≠ y.ownBlock) ∧ wr.ownsRow B 40 2 (.slice av N cv) N (intsV .i8 zs) ∧ wr.ownsRow B2 2 1 (.slice ax H cx) H (intsV .i64 ps) ∧ Below w.heap.size w wr) (fun _ _ _ i _ => N - (intOf i).toNat)
  case atStart => exact ⟨0, by omega, rfl, rfl, HM0.out.1, HM0.out.2, .inr (by simp [Value.ownBlock]), HO.out, HX.out, hb0⟩
  case round =>
    obtain ⟨k, hk, rfl, rfl, hu, hy, hap, ho, hx, hb⟩ := hrel
    have HU := Lib.hid hu
    have HY := Lib.hid hy
    have HAP := Lib.hid hap
    have HO1 := Lib.hid ho
    have HX1 := Lib.hid hx
    clear hu hy hap hx HO HX HM0
    by_cases hlt : k < N
    · have hd : decide ((k : Int) < (N : Int)) = true := by simp; omega
      obtain ⟨g, cap, he, hBg, hg⟩ := own_form ho (by omega)
      simp only [Value.slice.injEq, true_and] at he
      obtain ⟨rfl, rfl⟩ := he
      obtain ⟨z0, z1⟩ := HZ.out k hlt
      have hHr := runH_range (ps := ps) HR.out.1 HR.out.2 k (fun j hj => HALL.out j (by omega))
      have hGr := growZ_range (HALL.out k hlt)
      obtain ⟨r1, r2⟩ := dayB_range (HALL.out k hlt)
      have hS : runH zs ps cut start (k + 1) = (if ps.contains (k : Int) then minZ (runH zs ps cut start k) cut else runH zs ps cut start k) + growZ zs k := rfl
      have hCS : runC zs ps cut start (k + 1) = runC zs ps cut start k ++ (if ps.contains (k : Int) then [runH zs ps cut start k - minZ (runH zs ps cut start k) cut] else []) := rfl
      have hLS := runL_succ zs ps cut start k
      have hCl := runC_le zs ps cut start k
      obtain ⟨h, hh⟩ : ∃ h, runH zs ps cut start k = h := ⟨_, rfl⟩
      obtain ⟨gz, hgz⟩ : ∃ gz, growZ zs k = gz := ⟨_, rfl⟩
      have hgz2 : (rainZ zs k / 10 + 1) * (warmZ zs k / 10) = gz := hgz
      rw [hh] at hHr hS hCS ⊢
      rw [hgz] at hGr hS
      have HZ2 := Lib.hid (And.intro z0 z1)
      have HRR := Lib.hid (And.intro r1 r2)
      cases hcn : ps.contains (k : Int)
      · rw [hcn] at hS hCS
        simp only [Bool.false_eq_true, if_false, List.append_nil] at hS hCS
        have e1 : wrap64 (h + gz) = h + gz := by unfold wrap64; omega
        rw [hS] at hLS
        have HI := Lib.hid (And.intro hS (And.intro hCS hLS))
        clear hHr hGr hS hCS hLS hh hgz ho r1 r2 z0 z1
        go_wp2_with fail
        refine (HH.out k _ hcn _ HX1.out).mono ?_
        rintro e w2 ⟨rfl, rfl⟩
        have c0 := own_cell HO1.out _ _ (intsV_get (k := .i8) HZ2.out.1)
        have c1 := own_cell HO1.out _ _ (intsV_get (k := .i8) HZ2.out.2)
        go_wp2_with fail
        refine (l03Growth_is _ _ HRR.out.1 HRR.out.2 _).mono ?_
        rintro e w3 ⟨rfl, hb3⟩
        rw [hgz2]
        have hb4 := hb.trans (hb3.mono hb.size)
        have HU2 := Lib.hid (own_below HU.out hb3)
        have HY2 := Lib.hid (own_below HY.out hb3)
        have HO2 := Lib.hid (own_below HO1.out hb3)
        have HX2 := Lib.hid (own_below HX1.out hb3)
        clear c0 c1 hb3 hb HU HY HO1 HX1 hgz2
        go_wp2_with (at_builtin; refine wpList_append_own_at _ rfl _ _ 24 rfl w.heap.size 2 i0 (.int .i64 0) 1 8 Try.underlying24 hi hq0 hq1 hq2 rfl (by decide) _ _ _ rfl (HU2.out.alloc _) ⟨w3.heap.size, 0, none⟩ 1 1 [.int .i64 (h + gz)] rfl rfl ?c1 ?c2 ?c3 ?c4 ?c5 ?_)
        case c1 =>
          intro j z hj
          match j, hj with
          | 0, hj => simp at hj; subst hj; exact (Holds.new w3 #[.int .i64 (h + gz)] 2).cell 0
        case c2 => intro z hz; simp at hz; subst hz; rfl
        case c3 => unfold maxLen; omega
        case c4 => omega
        case c5 => have := hb4.size; simp; omega
        intro u9 w9 hown9 hgrow9 _ hat9
        have hb9 := (hb4.alloc hb4.size (.cells #[.int .i64 (h + gz)] 2)).grown hgrow9 (by have := hb4.size; simp; omega) (fun k hk => by have := own_far HU2.out k hk; omega)
        have HO9 := Lib.hid ((HO2.out.alloc (.cells #[.int .i64 (h + gz)] 2)).kept hgrow9 (own_apart_low HU2.out HLW.out.1))
        have HX9 := Lib.hid ((HX2.out.alloc (.cells #[.int .i64 (h + gz)] 2)).kept hgrow9 (own_apart_low HU2.out HLW.out.2))
        have HS9 := Lib.hid ((HY2.out.alloc (.cells #[.int .i64 (h + gz)] 2)).kept hgrow9 (apart_flip HAP.out))
        have HR9 := Lib.hid (show w9.ownsRow w.heap.size 2 1 u9 (k + 1) (intsV .i64 (runL zs ps cut start k ++ [h + gz])) by simpa [intsV] using hown9)
        have HP9 := Lib.hid (own_apart_new HY2.out hat9 (by simp) HAP.out)
        clear hown9 hgrow9 hat9 HU2 HY2 HO2 HX2 hb4
        go_wp2_with fail
        go_roundw
        case rel => exact ⟨k + 1, by omega, by go_num, by rw [HI.out.1], by rw [HI.out.2.2]; exact HR9.out, by rw [HI.out.2.1]; exact HS9.out, HP9.out, HO9.out, HX9.out, hb9⟩
        case measure => simp [intOf]; omega
      · rw [hcn] at hS hCS
        simp only [if_true] at hS hCS
        obtain ⟨m2, hm2⟩ : ∃ m2, minZ h cut = m2 := ⟨_, rfl⟩
        have hmr : 0 ≤ m2 ∧ m2 ≤ h := by have := HR.out.2.1; rw [← hm2, minZ]; split <;> omega
        rw [hm2] at hS hCS
        have e1 : wrap64 (m2 + gz) = m2 + gz := by have := hmr.1; have := hmr.2; unfold wrap64; omega
        have e2 : wrap64 (h - m2) = h - m2 := by have := hmr.1; have := hmr.2; unfold wrap64; omega
        rw [hS] at hLS
        have HI := Lib.hid (And.intro hS (And.intro hCS hLS))
        clear hHr hGr hS hCS hLS hh hgz ho r1 r2 z0 z1 hmr
        go_wp2_with fail
        refine (HH.out k _ hcn _ HX1.out).mono ?_
        rintro e w2 ⟨rfl, rfl⟩
        go_wp2_with fail
        refine (l00Min_is h cut _).mono ?_
        rintro e w3 ⟨rfl, rfl⟩
        rw [hm2]
        clear hm2 hcn
        go_wp2_with (at_builtin; refine wpList_append_own_at _ rfl _ _ 24 rfl w.heap.size 2 i0 (.int .i64 0) 1 8 Try.underlying24 hi hq0 hq1 hq2 rfl (by decide) _ _ _ rfl (HY.out.alloc _) ⟨w3.heap.size, 0, none⟩ 1 1 [.int .i64 (h - m2)] rfl rfl ?c1 ?c2 ?c3 ?c4 ?c5 ?_)
        case c1 =>
          intro j z hj
          match j, hj with
          | 0, hj => simp at hj; subst hj; exact (Holds.new w3 #[.int .i64 (h - m2)] 2).cell 0
        case c2 => intro z hz; simp at hz; subst hz; rfl
        case c3 => unfold maxLen; omega
        case c4 => omega
        case c5 => have := hb.size; simp; omega
        intro y8 w8 hown8 hgrow8 _ hat8
        have hb8 := (hb.alloc hb.size (.cells #[.int .i64 (h - m2)] 2)).grown hgrow8 (by have := hb.size; simp; omega) (fun k hk => by have := own_far HY.out k hk; omega)
        have HO8 := Lib.hid ((HO1.out.alloc (.cells #[.int .i64 (h - m2)] 2)).kept hgrow8 (own_apart_low HY.out HLW.out.1))
        have HX8 := Lib.hid ((HX1.out.alloc (.cells #[.int .i64 (h - m2)] 2)).kept hgrow8 (own_apart_low HY.out HLW.out.2))
        have HS8 := Lib.hid ((HU.out.alloc (.cells #[.int .i64 (h - m2)] 2)).kept hgrow8 HAP.out)
        have HR8 := Lib.hid (show w8.ownsRow w.heap.size 2 1 y8 ((runC zs ps cut start k).length + 1) (intsV .i64 (runC zs ps cut start k ++ [h - m2])) by simpa [intsV] using hown8)
        have HP8 := Lib.hid (own_apart_new HU.out hat8 (by simp) (apart_flip HAP.out))
        clear hown8 hgrow8 hat8 HY HU HO1 HX1 hb
        have c0 := own_cell HO8.out _ _ (intsV_get (k := .i8) HZ2.out.1)
        have c1 := own_cell HO8.out _ _ (intsV_get (k := .i8) HZ2.out.2)
        go_wp2_with fail
        refine (l03Growth_is _ _ HRR.out.1 HRR.out.2 _).mono ?_
        rintro e w5 ⟨rfl, hb5⟩
        rw [hgz2]
        have hb6 := hb8.trans (hb5.mono hb8.size)
        have HU2 := Lib.hid (own_below HS8.out hb5)
        have HY2 := Lib.hid (own_below HR8.out hb5)
        have HO2 := Lib.hid (own_below HO8.out hb5)
        have HX2 := Lib.hid (own_below HX8.out hb5)
        clear c0 c1 hb5 hb8 HR8 HS8 HO8 HX8 hgz2
        go_wp2_with (at_builtin; refine wpList_append_own_at _ rfl _ _ 24 rfl w.heap.size 2 i0 (.int .i64 0) 1 8 Try.underlying24 hi hq0 hq1 hq2 rfl (by decide) _ _ _ rfl (HU2.out.alloc _) ⟨w5.heap.size, 0, none⟩ 1 1 [.int .i64 (m2 + gz)] rfl rfl ?c1 ?c2 ?c3 ?c4 ?c5 ?_)
        case c1 =>
          intro j z hj
          match j, hj with
          | 0, hj => simp at hj; subst hj; exact (Holds.new w5 #[.int .i64 (m2 + gz)] 2).cell 0
        case c2 => intro z hz; simp at hz; subst hz; rfl
        case c3 => unfold maxLen; omega
        case c4 => omega
        case c5 => have := hb6.size; simp; omega
        intro u9 w9 hown9 hgrow9 _ hat9
        have hb9 := (hb6.alloc hb6.size (.cells #[.int .i64 (m2 + gz)] 2)).grown hgrow9 (by have := hb6.size; simp; omega) (fun k hk => by have := own_far HU2.out k hk; omega)
        have HO9 := Lib.hid ((HO2.out.alloc (.cells #[.int .i64 (m2 + gz)] 2)).kept hgrow9 (own_apart_low HU2.out HLW.out.1))
        have HX9 := Lib.hid ((HX2.out.alloc (.cells #[.int .i64 (m2 + gz)] 2)).kept hgrow9 (own_apart_low HU2.out HLW.out.2))
        have HS9 := Lib.hid ((HY2.out.alloc (.cells #[.int .i64 (m2 + gz)] 2)).kept hgrow9 HP8.out)
        have HR9 := Lib.hid (show w9.ownsRow w.heap.size 2 1 u9 (k + 1) (intsV .i64 (runL zs ps cut start k ++ [m2 + gz])) by simpa [intsV] using hown9)
        have HP9 := Lib.hid (own_apart_new HY2.out hat9 (by simp) (apart_flip HP8.out))
        clear hown9 hgrow9 hat9 HU2 HY2 HO2 HX2 hb6
        go_wp2_with fail
        go_roundw
        case rel => exact ⟨k + 1, by omega, by go_num, by rw [HI.out.1], by rw [HI.out.2.2]; exact HR9.out, by rw [HI.out.2.1]; simpa using HS9.out, HP9.out, HO9.out, HX9.out, hb9⟩
        case measure => simp [intOf]; omega
    · have hd : decide ((k : Int) < (N : Int)) = false := by simp; omega
      obtain rfl : k = N := by omega
      obtain ⟨au, cu, rfl⟩ := own_slice HU.out
      obtain ⟨ay, cy, rfl⟩ := own_slice HY.out
      clear ho HAP HO1 HX1
      go_wp2_with fail
      go_ret2
      exact ⟨⟨_, _, rfl, HU.out, HY.out⟩, hb⟩
end Go.Proofs.Ytbcbokpdcliimaa
