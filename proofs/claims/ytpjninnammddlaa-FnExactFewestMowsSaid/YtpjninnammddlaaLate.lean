/- LatePlan, of the program and of the model. -/
import Derived.Test.YtpjninnammddlaaAsked
namespace Go.Proofs.Ytpjninnammddlaa
open Go.RowKit
set_option linter.unusedVariables false
set_option linter.unusedSimpArgs false

/-- The height behind a day, if grass is mown when it would be too high. -/
def lateG (cut most h g : Int) : Int := (if most < h + g then minZ h cut else h) + g
def lateH (zs : List Int) (cut most start : Int) : Nat → Int
  | 0 => start
  | k + 1 => lateG cut most (lateH zs cut most start k) (growZ zs k)
def lateP (zs : List Int) (cut most start : Int) : Nat → List Int
  | 0 => []
  | k + 1 => lateP zs cut most start k ++ (if most < lateH zs cut most start k + growZ zs k then [(k : Int)] else [])
def lateB (zs : List Int) (cut most start : Int) (k : Nat) : Bool := decide (lateH zs cut most start (k + 1) ≤ most)
theorem lateP_le (zs : List Int) (cut most start : Int) : ∀ k, (lateP zs cut most start k).length ≤ k
  | 0 => by simp [lateP]
  | k + 1 => by
    have := lateP_le zs cut most start k
    rw [lateP, List.length_append]
    split <;> simp <;> omega
theorem lateH_range {zs : List Int} {cut most start : Int} (h1 : 0 ≤ start ∧ start ≤ 200) (h2 : 0 ≤ cut) (h3 : most ≤ 200) : ∀ k, (∀ j, j < k → dayB zs j = true) → (∀ j, j < k → lateB zs cut most start j = true) → 0 ≤ lateH zs cut most start k ∧ lateH zs cut most start k ≤ 200
  | 0, _, _ => h1
  | k + 1, hd, hl => by
    have hr := lateH_range h1 h2 h3 k (fun j h => hd j (by omega)) (fun j h => hl j (by omega))
    have h4 := hl k (by omega)
    simp only [lateB, decide_eq_true_eq] at h4
    have g := growZ_range (hd k (by omega))
    refine ⟨?_, by omega⟩
    rw [lateH, lateG, minZ]
    split <;> (try split) <;> omega
def lateN (zs : List Int) (cut most start : Int) (N q : Nat) : Nat := if q = N then (lateP zs cut most start N).length else 0
def lateV (zs : List Int) (cut most start : Int) (N q : Nat) : List Value := if q = N then intsV .i64 (lateP zs cut most start N) else []
def lateC (N q : Nat) : Int := if q = N then 0 else 6

set_option maxRecDepth 100000 in
set_option maxHeartbeats 2000000 in
theorem l03Late_any (B N : Nat) (v : Value) (hN : N ≤ 2000000) (zs : List Int) (hz : zs.length = N * 2) (hm : FirstNo (dayP zs) N N) (start cut most : Int) (hs : 0 ≤ start ∧ start ≤ 200) (hc : 0 ≤ cut ∧ cut ≤ 200) (hmo : 0 ≤ most ∧ most ≤ 200) (q : Nat) (hq : FirstNo (lateB zs cut most start) N q) (w : World) (ho : w.ownsRow B 46 2 v N (intsV .i8 zs)) :
    Calls Try.prog 21 #[.int .i64 start, .int .i64 cut, .int .i64 most, v] w fun e w' => (∃ u, e = .returned (.tuple #[u, .bool (decide (q = N))]) ∧ w'.ownsRow w.heap.size 2 1 u (lateN zs cut most start N q) (lateV zs cut most start N q)) ∧ Below w.heap.size w w' := by
  obtain ⟨av, cv, hve⟩ := own_slice ho
  have hall := (first_all hm).1 rfl
  have HALL := Lib.hid hall.2
  have h30 := hall.1
  have HQ := Lib.hid hq
  have HZ := Lib.hid (show ∀ i, i < N → zs[i * 2]? = some (rainZ zs i) ∧ zs[i * 2 + 1]? = some (warmZ zs i) from fun i hi => ⟨by simp [rainZ, List.getElem?_eq_getElem (show i * 2 < zs.length by omega)], by simp [warmZ, List.getElem?_eq_getElem (show i * 2 + 1 < zs.length by omega)]⟩)
  have hb0 := (Below.refl w.heap.size w).alloc (Nat.le_refl _) (.cells #[] 2)
  have HO := Lib.hid (ho.alloc (.cells #[] 2))
  have hm0 : (w.alloc (.cells #[] 2)).ownsRow w.heap.size 2 1 (.slice (some ⟨w.heap.size, 0, none⟩) 0 0) 0 [] := World.ownsRow_made w #[] 0 (Nat.le_refl _) (by simp [maxLen]) rfl
  have HM0 := Lib.hid hm0
  have hlow := fun k (hk : v.ownBlock = some k) => (ho.lt k hk).2
  have HLW := Lib.hid hlow
  have HR := Lib.hid (And.intro hs (And.intro hc hmo))
  clear hm0 ho hz hm hlow hall hq hs hc hmo
  obtain ⟨i0, hi, hq0, hq1, hq2⟩ := info_parts i64Info
  subst hve
  go_enter Try.func21, Try.ntmps21
  go_wp2_with fail
  go_loopw [0, 10, 11] (fun h u i wr => ∃ k : Nat, k ≤ N ∧ i = .int .i64 k ∧ h = .int .i64 (lateH zs cut most start k) ∧ (∀ j, j < k → lateB zs cut most start j = true) ∧ wr.ownsRow w.heap.size 2 1 u (lateP zs cut most start k).length (intsV .i64 (lateP zs cut most start k)) ∧ wr.ownsRow B 46 2 (.slice av N cv) N (intsV .i8 zs) ∧ Below w.heap.size w wr) (fun _ _ i _ => N - (intOf i).toNat)
  case atStart => exact ⟨0, by omega, rfl, rfl, fun j hj => by omega, by simpa [lateP, intsV] using HM0.out, HO.out, hb0⟩
  case round =>
    obtain ⟨k, hk, rfl, rfl, hla, hu, ho, hb⟩ := hrel
    have HU := Lib.hid hu
    have HOk := Lib.hid ho
    have HLA := Lib.hid hla
    clear hu HM0 HO hla
    by_cases hlt : k < N
    · have hd : decide ((k : Int) < (N : Int)) = true := by simp; omega
      obtain ⟨g, cap, he, hBg, hg⟩ := own_form ho (by omega)
      simp only [Value.slice.injEq, true_and] at he
      obtain ⟨rfl, rfl⟩ := he
      obtain ⟨z0, z1⟩ := HZ.out k hlt
      have c0 := own_cell ho _ _ (intsV_get (k := .i8) z0)
      have c1 := own_cell ho _ _ (intsV_get (k := .i8) z1)
      obtain ⟨r1, r2⟩ := dayB_range (HALL.out k hlt)
      clear ho z0 z1
      go_wp2_with fail
      refine (l03Growth_is _ _ r1 r2 _).mono ?_
      rintro e w2 ⟨rfl, hb3⟩
      have hb4 := hb.trans (hb3.mono hb.size)
      have HU2 := Lib.hid (own_below HU.out hb3)
      have HO2 := Lib.hid (own_below HOk.out hb3)
      clear c0 c1 hb3 hb r1 r2 HU HOk
      obtain ⟨⟨s1, s2⟩, ⟨t1, t2⟩, m1, m2⟩ := HR.out
      obtain ⟨hr1, hr2⟩ := lateH_range ⟨s1, s2⟩ t1 m2 k (fun j hj => HALL.out j (by omega)) HLA.out
      obtain ⟨gr1, gr2⟩ := growZ_range (HALL.out k hlt)
      have hHs : lateH zs cut most start (k + 1) = lateG cut most (lateH zs cut most start k) (growZ zs k) := rfl
      have hPs : lateP zs cut most start (k + 1) = lateP zs cut most start k ++ (if most < lateH zs cut most start k + growZ zs k then [(k : Int)] else []) := rfl
      have hle := lateP_le zs cut most start k
      obtain ⟨gz, hgz⟩ : ∃ gz, (rainZ zs k / 10 + 1) * (warmZ zs k / 10) = gz := ⟨_, rfl⟩
      have hgz2 : growZ zs k = gz := hgz
      rw [hgz]
      rw [hgz2] at gr1 gr2 hHs hPs
      obtain ⟨h, hh⟩ : ∃ h, lateH zs cut most start k = h := ⟨_, rfl⟩
      rw [hh] at hr1 hr2 hHs hPs ⊢
      have e1 : wrap64 (h + gz) = h + gz := by unfold wrap64; omega
      have HF := Lib.hid (show lateB zs cut most start k = decide (lateG cut most h gz ≤ most) by rw [lateB, hHs])
      by_cases hcut : most < h + gz
      · have hdc : decide (most < h + gz) = true := by simpa using hcut
        obtain ⟨y, hy⟩ : ∃ y, minZ h cut = y := ⟨_, rfl⟩
        have hyr : 0 ≤ y ∧ y ≤ 200 := by rw [← hy, minZ]; split <;> omega
        have e2 : wrap64 (y + gz) = y + gz := by have := hyr.1; have := hyr.2; unfold wrap64; omega
        rw [if_pos hcut] at hPs
        have hG : lateG cut most h gz = y + gz := by rw [lateG, if_pos hcut, hy]
        rw [hG] at HF hHs
        have HI := Lib.hid (And.intro hHs hPs)
        clear hgz hgz2 hh hG hHs hPs s1 s2 t1 t2 m1 m2 hr1 hr2 gr1 gr2 hyr hcut
        go_wp2_with fail
        refine (l00Min_is h cut _).mono ?_
        rintro e w3 ⟨rfl, rfl⟩
        rw [hy]
        clear hy
        go_wp2_with (at_builtin; refine wpList_append_own_at _ rfl _ _ 24 rfl w.heap.size 2 i0 (.int .i64 0) 1 8 Try.underlying24 hi hq0 hq1 hq2 rfl (by decide) _ _ _ rfl (HU2.out.alloc _) ⟨w3.heap.size, 0, none⟩ 1 1 [.int .i64 k] rfl rfl ?c1 ?c2 ?c3 ?c4 ?c5 ?_)
        case c1 =>
          intro j z hj
          match j, hj with
          | 0, hj => simp at hj; subst hj; exact (Holds.new w3 #[.int .i64 k] 2).cell 0
        case c2 => intro z hz; simp at hz; subst hz; rfl
        case c3 => unfold maxLen; omega
        case c4 => omega
        case c5 => have := hb4.size; simp; omega
        intro v' w9 hown' hgrow _ hat
        have hb9 : Below w.heap.size w w9 := (hb4.alloc hb4.size _).grown hgrow (by have := hb4.size; simp; omega) (fun k hk => by have := own_far HU2.out k hk; omega)
        have HO9 := Lib.hid ((HO2.out.alloc (.cells #[.int .i64 k] 2)).kept hgrow (.inr (by
          intro e
          have h1 := HLW.out g (by simp [Value.ownBlock])
          have h2 := own_far HU2.out g e.symm
          omega)))
        have HU9 := Lib.hid (show w9.ownsRow w.heap.size 2 1 v' (lateP zs cut most start (k + 1)).length (intsV .i64 (lateP zs cut most start (k + 1))) by
          rw [HI.out.2]
          simpa [intsV] using hown')
        clear hown' hgrow hat hb4 HU2 HO2
        by_cases hmost : most < y + gz
        · have hdm : decide (most < y + gz) = true := by simpa using hmost
          obtain rfl : q = k := firstNo_at HQ.out HLA.out hlt (by rw [HF.out]; simp; omega)
          have hne : ¬ q = N := by omega
          have HV := Lib.hid (show lateN zs cut most start N q = 0 ∧ lateV zs cut most start N q = [] ∧ decide (q = N) = false from ⟨by rw [lateN, if_neg hne], by rw [lateV, if_neg hne], by simpa using hne⟩)
          have hb10 := hb9.alloc hb9.size (.cells #[] 2)
          have HR0 := Lib.hid (ownsRow_low (World.ownsRow_made (e := 2) (size := 1) w9 #[] 0 (Nat.le_refl _) (by simp [maxLen]) rfl) hb9.size)
          clear hmost hne
          go_wp2_with fail
          go_ret2
          rw [HV.out.1, HV.out.2.1, HV.out.2.2]
          exact ⟨⟨_, rfl, HR0.out⟩, hb10⟩
        · have hdm : decide (most < y + gz) = false := by simpa using hmost
          have HB := Lib.hid (show lateB zs cut most start k = true by rw [HF.out]; simp; omega)
          clear hmost
          go_wp2_with fail
          go_roundw
          case rel => exact ⟨k + 1, by omega, by go_num, by rw [HI.out.1, e2], fun j hj => by
            by_cases e : j = k
            · subst e; exact HB.out
            · exact HLA.out j (by omega), HU9.out, HO9.out, hb9⟩
          case measure => simp [intOf]; omega
      · have hdc : decide (most < h + gz) = false := by simpa using hcut
        rw [if_neg hcut, List.append_nil] at hPs
        have hG : lateG cut most h gz = h + gz := by rw [lateG, if_neg hcut]
        rw [hG] at HF hHs
        have HI := Lib.hid (And.intro hHs hPs)
        have HB := Lib.hid (show lateB zs cut most start k = true by rw [HF.out]; simp; omega)
        clear hgz hgz2 hh hG hHs hPs s1 s2 t1 t2 m1 m2 hr1 hr2 gr1 gr2 hcut
        go_wp2_with fail
        go_roundw
        case rel => exact ⟨k + 1, by omega, by go_num, by rw [HI.out.1, e1], fun j hj => by
          by_cases e : j = k
          · subst e; exact HB.out
          · exact HLA.out j (by omega), by rw [HI.out.2]; exact HU2.out, HO2.out, hb4⟩
        case measure => simp [intOf]; omega
    · have hd : decide ((k : Int) < (N : Int)) = false := by simp; omega
      obtain rfl : k = N := by omega
      have e : q = k := by
        have h1 := HQ.out.le
        rcases Nat.lt_or_ge q k with h' | h'
        · have h2 := HQ.out.stop h'; rw [HLA.out q h'] at h2; cases h2
        · omega
      subst e
      have HV := Lib.hid (show lateN zs cut most start q q = (lateP zs cut most start q).length ∧ lateV zs cut most start q q = intsV .i64 (lateP zs cut most start q) from ⟨by rw [lateN, if_pos rfl], by rw [lateV, if_pos rfl]⟩)
      obtain ⟨au, cu, rfl⟩ := own_slice HU.out
      clear HOk ho
      go_wp2_with fail
      go_ret2
      rw [HV.out.1, HV.out.2]
      exact ⟨⟨_, rfl, HU.out⟩, hb⟩

def high3 (a b c : Int) : Bool := upB a 200 && upB b 200 && upB c 200
theorem high3_all (a b c : Int) : [a, b, c].all (upB · 200) = high3 a b c := by simp [high3, Bool.and_assoc]
theorem high3_range {a b c : Int} (h : high3 a b c = true) : (0 ≤ a ∧ a ≤ 200) ∧ (0 ≤ b ∧ b ≤ 200) ∧ 0 ≤ c ∧ c ≤ 200 := by
  simp only [high3, upB, Bool.and_eq_true, decide_eq_true_eq] at h
  exact ⟨h.1.1, h.1.2, h.2⟩



end Go.Proofs.Ytpjninnammddlaa
