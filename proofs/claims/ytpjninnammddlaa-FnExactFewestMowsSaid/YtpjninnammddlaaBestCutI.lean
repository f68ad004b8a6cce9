/- BestCut, of the program. -/
import Derived.Test.YtpjninnammddlaaIFewM
namespace Go.Proofs.Ytpjninnammddlaa
open Go.RowKit
set_option linter.unusedVariables false
set_option linter.unusedSimpArgs false

def fewVM (bm bg bk bc bt : Nat) : Value := .func (.func 34) #[] #[.pointer (some ⟨bm, 0, none⟩), .pointer (some ⟨bg, 0, none⟩), .pointer (some ⟨bk, 0, none⟩), .pointer (some ⟨bc, 0, none⟩), .pointer (some ⟨bt, 0, none⟩)]
set_option maxRecDepth 100000 in
set_option maxHeartbeats 4000000 in
theorem fewFrom_any (cut most : Int) (N : Nat) (G : List Int) (B : Nat) (av : Option Addr) (cv : Nat) (w : World) (ho : w.ownsRow B 2 1 (.slice av N cv) N (intsV .i64 G)) :
    Calls Try.prog 25 #[.int .i64 cut, .int .i64 most, .slice av N cv] w fun e w' => (∃ s, s = w.heap.size ∧ e = .returned (fewVM (s + 1) (s + 2) (s + 4) s (s + 5)) ∧ FewS cut most G B (.slice av N cv) N (s + 1) (s + 2) (s + 4) s (s + 5) (s + 3) w') ∧ Below w.heap.size w w' := by
  have HO := Lib.hid ho
  clear ho
  obtain ⟨s, hs⟩ : ∃ s, w.heap.size = s := ⟨_, rfl⟩
  have hmk := fun w => run_makeMap (P := Try.prog) 58 w
  go_enter Try.func25, Try.ntmps25
  go_wp2_with fail
  go_ret
  refine ⟨⟨s, hs.symm, rfl, ⟨?_, ?_, ?_, ?_, ?_, ?_, ⟨[], ?_, GoodM.nil⟩⟩⟩, ?_⟩
  · exact ((((Holds.new' _ _ _ _ (by simp; omega)).alloc _).alloc _).alloc _).alloc _
  · exact (((Holds.new' _ _ _ _ (by simp; omega)).alloc _).alloc _).alloc _
  · exact (Holds.new' _ _ _ _ (by simp; omega)).alloc _
  · exact (((((Holds.new' _ _ _ _ (by omega)).alloc _).alloc _).alloc _).alloc _).alloc _
  · exact Holds.new' _ _ _ _ (by simp; omega)
  · exact (((((HO.out.alloc _).alloc _).alloc _).alloc _).alloc _).alloc _
  · have := MapIs.made (enc := pairK) (val := Value.int .i64) (((w.alloc (.cells #[.int .i64 cut] 2)).alloc (.cells #[.int .i64 most] 2)).alloc (.cells #[.slice av N cv] 24))
    rw [show (((w.alloc (.cells #[.int .i64 cut] 2)).alloc (.cells #[.int .i64 most] 2)).alloc (.cells #[.slice av N cv] 24)).heap.size = s + 3 by simp [hs]] at this
    exact (this.alloc _).alloc _
  · exact ((((((Below.refl w.heap.size w).alloc (by omega) _).alloc (by simp <;> omega) _).alloc (by simp <;> omega) _).alloc (by simp <;> omega) _).alloc (by simp <;> omega) _).alloc (by simp <;> omega) _

/-- The closure of a new cut, asked from the first day on. -/
theorem fewAsk_any (cut most : Int) (hc : 0 ≤ cut ∧ cut ≤ 200) (hmo : 0 ≤ most ∧ most ≤ 200) (N : Nat) (hN : N ≤ 30) (G : List Int) (hG : G.length = N) (hg : ∀ (j : Nat) g, G[j]? = some g → 0 ≤ g ∧ g ≤ 24) (B : Nat) (av : Option Addr) (cv s : Nat) (hbG : ∀ z, (Value.slice av N cv).ownBlock = some z → z < s) (k : Nat) (hk : k ≤ N) (h : Int) (h0 : 0 ≤ h) (h1 : h ≤ 224) (h2 : k = 0 → h ≤ 200) (w : World) (hS : FewS cut most G B (.slice av N cv) N (s + 1) (s + 2) (s + 4) s (s + 5) (s + 3) w) :
    Calls Try.prog 34 #[.int .i64 (k : Int), .int .i64 h, .pointer (some ⟨s + 1, 0, none⟩), .pointer (some ⟨s + 2, 0, none⟩), .pointer (some ⟨s + 4, 0, none⟩), .pointer (some ⟨s, 0, none⟩), .pointer (some ⟨s + 5, 0, none⟩)] w fun e w' => e = .returned (.int .i64 (fewR cut most G k h)) ∧ Below s w w' ∧ FewS cut most G B (.slice av N cv) N (s + 1) (s + 2) (s + 4) s (s + 5) (s + 3) w' := by
  refine (few_try cut most hc hmo N hN G hG hg B av cv (s + 1) (s + 2) (s + 4) s (s + 5) (s + 3) (by omega) (by omega) (by omega) (by omega) (by omega) (fun z hz => by have := hbG z hz; omega) (N - k) k (by omega) h h0 h1 h2 w hS).mono ?_
  rintro e w' ⟨rfl, hO, hS'⟩
  have := hS.c.lt
  exact ⟨rfl, hO.toBelow (by simp) (by omega), hS'⟩

/-- Search from a number down to 0. -/
def cutF (P : Nat → Bool) : Nat → Int × Int
  | 0 => (0, 6)
  | c + 1 => if P c = true then ((c : Int), 0) else cutF P c
/-- A cut with which so many days are enough. -/
def cutB (G : List Int) (start most mows : Int) (c : Nat) : Bool := decide (fewW (c : Int) most G start ≤ mows)

def high2 (a b : Int) : Bool := upB a 200 && upB b 200
theorem high2_all (a b : Int) : [a, b].all (upB · 200) = high2 a b := by simp [high2]
theorem high2_range {a b : Int} (h : high2 a b = true) : (0 ≤ a ∧ a ≤ 200) ∧ 0 ≤ b ∧ b ≤ 200 := by
  simp only [high2, upB, Bool.and_eq_true, decide_eq_true_eq] at h
  omega
def cutQ (a b m : Int) : Bool := high2 a b && upB m 30
theorem growL_range {zs : List Int} {N : Nat} (h : ∀ j, j < N → dayB zs j = true) : ∀ (j : Nat) g, (growL zs N)[j]? = some g → 0 ≤ g ∧ g ≤ 24 := fun j g hg => by
  have hj : j < N := by have := (List.getElem?_eq_some_iff.1 hg).1; rwa [growL_length] at this
  rw [growL_at zs hj] at hg
  rw [← Option.some.inj hg]
  exact growZ_range (h j hj)

set_option maxRecDepth 100000 in
set_option maxHeartbeats 4000000 in
theorem implBestCut_bad (B N : Nat) (v : Value) (hN : N ≤ 2000000) (zs : List Int) (hz : zs.length = N * 2) (hzr : ∀ z ∈ zs, -128 ≤ z ∧ z ≤ 127) (m : Nat) (hm : FirstNo (dayP zs) N m) (start most mows : Int) (hne : askB N m (cutQ start most mows) = false) (w : World) (ho : w.ownsRow B 46 2 v N (intsV .i8 zs)) :
    Calls Try.prog 16 #[.int .i64 start, .int .i64 most, v, .int .i64 mows] w fun e w' => e = .returned (.tuple #[.int .i64 0, .int .i64 (askC N m (cutQ start most mows))]) ∧ Below w.heap.size w w' := by
  obtain ⟨W, hW⟩ : ∃ W, w.alloc (.cells #[.int .i64 start, .int .i64 most] 2) = W := ⟨_, rfl⟩
  have hoh : W.ownsRow w.heap.size 2 1 (.slice (some ⟨w.heap.size, 0, none⟩) 2 2) 2 (intsV .i64 [start, most]) := by
    rw [← hW]
    exact ⟨rfl, .inr ⟨w.heap.size, 2, _, rfl, Nat.le_refl _, heap_alloc_new w _, Nat.le_refl _, by simp [maxLen], rfl, rfl⟩⟩
  have hG := growthsFrom_any B N v hN zs hz hzr m hm w.heap.size 2 (by omega) _ [start, most] rfl W (by rw [← hW]; exact ho.alloc _) hoh
  rw [high2_all] at hG
  have HK := Lib.hid hG
  have hb0 : Below w.heap.size w W := by rw [← hW]; exact (Below.refl _ _).alloc (Nat.le_refl _) _
  obtain ⟨av, cv, rfl⟩ := own_slice ho
  cases hh : askB N m (high2 start most) with
  | false =>
    have hc := ask_bad hh
    have he : askC N m (cutQ start most mows) = askC N m (high2 start most) := by
      unfold askC
      by_cases e : m = N
      · rw [if_pos e, if_pos e]
        have : high2 start most = false := by simpa [askB, e] using hh
        unfold cutQ
        rw [this]
        rfl
      · rw [if_neg e, if_neg e]
    rw [he]
    clear ho hm hz hzr hne hG hoh hh he
    rcases hc with hc | hc <;> rw [hc] at HK ⊢
    all_goals
      clear hc
      go_enter Try.func16, Try.ntmps16
      go_wp2_with fail
      refine HK.out.mono ?_
      rintro e w1 ⟨⟨u, rfl, hu⟩, hb1⟩
      have hb2 := below_onto hb0 hb1
      clear hb1 hu HK hW hb0
      go_wp2_with fail
      go_ret2
      exact ⟨rfl, hb2⟩
  | true =>
    obtain ⟨e1, e2, e3⟩ := ask_good hh
    have hmw : upB mows 30 = false := by
      simp only [askB, cutQ, e1, e2, decide_true, Bool.true_and] at hne
      exact hne
    have he : askC N m (cutQ start most mows) = 2 := by
      unfold askC cutQ
      rw [if_pos e1, hmw, Bool.and_false]
      rfl
    rw [he]
    rw [e3] at HK
    have HU := Lib.hid (fun w => upto64_is mows 30 false hmw w)
    clear ho hm hz hzr hne hG hoh hh he e1 e2 e3 hmw
    go_enter Try.func16, Try.ntmps16
    go_wp2_with fail
    refine HK.out.mono ?_
    rintro e w1 ⟨⟨u, rfl, hu⟩, hb1⟩
    have hb2 := below_onto hb0 hb1
    clear hb1 hu HK hW hb0
    go_wp2_with fail
    refine (HU.out _).mono ?_
    rintro e w2 ⟨rfl, rfl⟩
    go_wp2_with fail
    go_ret2
    exact ⟨rfl, hb2⟩

set_option maxRecDepth 100000 in
set_option maxHeartbeats 4000000 in
theorem implBestCut_any (B N : Nat) (v : Value) (hN : N ≤ 2000000) (zs : List Int) (hz : zs.length = N * 2) (hzr : ∀ z ∈ zs, -128 ≤ z ∧ z ≤ 127) (hm : FirstNo (dayP zs) N N) (start most mows : Int) (hh : high2 start most = true) (hmw : upB mows 30 = true) (w : World) (ho : w.ownsRow B 46 2 v N (intsV .i8 zs)) :
    Calls Try.prog 16 #[.int .i64 start, .int .i64 most, v, .int .i64 mows] w fun e w' => e = .returned (.tuple #[.int .i64 (cutF (cutB (growL zs N) start most mows) 201).1, .int .i64 (cutF (cutB (growL zs N) start most mows) 201).2]) ∧ Below w.heap.size w w' := by
  obtain ⟨W, hW⟩ : ∃ W, w.alloc (.cells #[.int .i64 start, .int .i64 most] 2) = W := ⟨_, rfl⟩
  have hoh : W.ownsRow w.heap.size 2 1 (.slice (some ⟨w.heap.size, 0, none⟩) 2 2) 2 (intsV .i64 [start, most]) := by
    rw [← hW]
    exact ⟨rfl, .inr ⟨w.heap.size, 2, _, rfl, Nat.le_refl _, heap_alloc_new w _, Nat.le_refl _, by simp [maxLen], rfl, rfl⟩⟩
  have hG := growthsFrom_any B N v hN zs hz hzr N hm w.heap.size 2 (by omega) _ [start, most] rfl W (by rw [← hW]; exact ho.alloc _) hoh
  rw [high2_all, hh] at hG
  rw [show askC N N true = 0 by simp [askC], show askN N N true = N by simp [askN, askB], show askV zs N N true = intsV .i64 (growL zs N) by simp [askV, askB]] at hG
  have HK := Lib.hid hG
  have hb0 : Below w.heap.size w W := by rw [← hW]; exact (Below.refl _ _).alloc (Nat.le_refl _) _
  obtain ⟨av, cv, rfl⟩ := own_slice ho
  have hall := (first_all hm).1 rfl
  have h30 := hall.1
  obtain ⟨⟨s1, s2⟩, m1, m2⟩ := high2_range hh
  have HU := Lib.hid (fun w => upto64_is mows 30 true hmw w)
  have HGL := Lib.hid (growL_length zs N)
  have HGR := Lib.hid (growL_range hall.2)
  obtain ⟨G, hGe⟩ : ∃ G, growL zs N = G := ⟨_, rfl⟩
  rw [hGe] at HGL HGR HK ⊢
  have hR0 : ∀ c : Nat, fewR (c : Int) most G 0 start = fewW (c : Int) most G start := fun c => by
    unfold fewR
    rw [if_neg (fun hx => Nat.lt_irrefl 0 hx.1), List.drop_zero]
  have HFA := Lib.hid (show ∀ (c : Nat), c ≤ 200 → ∀ (au : Option Addr) (cu s : Nat) (B' : Nat), (∀ z, (Value.slice au N cu).ownBlock = some z → z < s) → ∀ w, FewS (c : Int) most G B' (.slice au N cu) N (s + 1) (s + 2) (s + 4) s (s + 5) (s + 3) w → Calls Try.prog 34 #[.int .i64 0, .int .i64 start, .pointer (some ⟨s + 1, 0, none⟩), .pointer (some ⟨s + 2, 0, none⟩), .pointer (some ⟨s + 4, 0, none⟩), .pointer (some ⟨s, 0, none⟩), .pointer (some ⟨s + 5, 0, none⟩)] w fun e w' => e = .returned (.int .i64 (fewW (c : Int) most G start)) ∧ Below s w w' from fun c hc au cu s B' hb w hS => by
    have := fewAsk_any (c : Int) most ⟨by omega, by omega⟩ ⟨m1, m2⟩ N h30 G HGL.out HGR.out B' au cu s hb 0 (Nat.zero_le _) start s1 (by omega) (fun _ => s2) w hS
    rw [hR0] at this
    exact this.mono fun e w' ⟨h1, h2, _⟩ => ⟨h1, h2⟩)
  obtain ⟨P, hP⟩ : ∃ P, cutB G start most mows = P := ⟨_, rfl⟩
  have HP : Hid (∀ c, P c = decide (fewW (c : Int) most G start ≤ mows)) := Lib.hid (fun c => by rw [← hP]; rfl)
  rw [hP]
  have HF : Hid (∀ c, cutF P (c + 1) = if P c = true then ((c : Int), 0) else cutF P c) := Lib.hid (fun c => rfl)
  have HF0 : Hid (cutF P 0 = (0, 6)) := Lib.hid rfl
  obtain ⟨F, hF⟩ : ∃ F, cutF P = F := ⟨_, rfl⟩
  rw [hF] at HF HF0 ⊢
  obtain ⟨a, ha⟩ : ∃ a, F 201 = a := ⟨_, rfl⟩
  have HA := Lib.hid ha
  rw [ha]
  obtain ⟨a1, a2⟩ := a
  dsimp only
  have HE := few_enters
  clear ho hm hz hzr hG hoh hh hmw hall hGe hR0 hP hF ha
  go_enter Try.func16, Try.ntmps16
  go_wp2_with fail
  refine HK.out.mono ?_
  rintro e w1 ⟨⟨u, rfl, hu⟩, hb1⟩
  have hb2 := below_onto hb0 hb1
  have hWs := hb0.size
  obtain ⟨au, cu, rfl⟩ := own_slice hu
  have HUF := Lib.hid (fun z (hz : (Value.slice au N cu).ownBlock = some z) => (hu.lt z hz).2)
  have HG1 := Lib.hid hu
  clear hb1 hu HK hW hb0
  go_wp2_with fail
  refine (HU.out _).mono ?_
  rintro e w2 ⟨rfl, hw2⟩
  rw [hw2]
  clear hw2
  go_wp2_with fail
  go_loopw [12] (fun x wr => ∃ (n : Nat) (z : Int), x = .int .i64 z ∧ z = (n : Int) - 1 ∧ n ≤ 201 ∧ F n = (a1, a2) ∧ Below w1.heap.size w1 wr) (fun x _ => (intOf x + 1).toNat)
  case atStart => exact ⟨201, 200, rfl, by omega, by omega, HA.out, Below.refl _ _⟩
  case round =>
    obtain ⟨n, z, rfl, hz, hn, hFn, hb⟩ := hrel
    have HFn := Lib.hid hFn
    clear hFn
    cases n with
    | zero =>
      have hd : decide (0 ≤ z) = false := by simp; omega
      have HV := Lib.hid (show a1 = 0 ∧ a2 = 6 by have := HFn.out; rw [HF0.out] at this; simp only [Prod.mk.injEq] at this; omega)
      have hbf := below_onto hb2 hb
      go_wp2_with fail
      go_ret2
      exact ⟨by rw [HV.out.1, HV.out.2]; rfl, hbf⟩
    | succ c =>
      have hzc : z = (c : Int) := by omega
      have hd : decide (0 ≤ z) = true := by simp; omega
      have HC := Lib.hid (fewFrom_any z most N G w.heap.size au cu wr (own_below (ownsRow_low HG1.out (by have := hb2.size; omega)) hb))
      have hPc := HP.out c
      obtain ⟨fz, hfz⟩ : ∃ fz, fewW (c : Int) most G start = fz := ⟨_, rfl⟩
      have HFC := Lib.hid (HFA.out c (by omega) au cu)
      rw [hfz] at hPc HFC
      obtain ⟨pc, hpc⟩ : ∃ pc, P c = pc := ⟨_, rfl⟩
      have HFn2 := Lib.hid (show (if pc = true then ((c : Int), 0) else F c) = (a1, a2) by rw [← hpc, ← HF.out c]; exact HFn.out)
      rw [hpc] at hPc
      have hd2 : decide (fz ≤ mows) = pc := hPc.symm
      have hw1 : wrap64 (z - 1) = z - 1 := by unfold wrap64; omega
      have HZC := Lib.hid hzc
      have hsz := hb.size
      rw [← hzc] at HFC
      clear hPc hfz hpc hzc hz HF HP HA HFn
      go_wp2_with fail
      refine HC.out.mono ?_
      rintro e w3 ⟨⟨s, hs, rfl, hS⟩, hb3⟩
      have hs1 : w1.heap.size ≤ s := by omega
      clear hs
      have hb4 := hb.trans (hb3.mono hsz)
      have HFS := Lib.hid (HFC.out s w.heap.size (fun z hz => by have := HUF.out z hz; omega) w3 hS)
      have hsl := hS.c.lt
      simp only [fewVM]
      clear hS HC HFC hb hb3
      go_wp2_with fail
      refine HFS.out.mono ?_
      rintro e w4 ⟨rfl, hb5⟩
      have hb6 := hb4.trans (hb5.mono (by omega))
      clear hb4 hb5 HFS
      cases pc with
      | true =>
        have HV := Lib.hid (show a1 = z ∧ a2 = 0 by have := HFn2.out; rw [if_pos rfl] at this; simp only [Prod.mk.injEq] at this; have := HZC.out; omega)
        have hbf := below_onto hb2 hb6
        go_wp2_with fail
        go_ret2
        exact ⟨by rw [HV.out.1, HV.out.2]; rfl, hbf⟩
      | false =>
        have HV := Lib.hid (show F c = (a1, a2) from HFn2.out)
        go_wp2_with fail
        go_roundw
        case rel => exact ⟨c, z - 1, by rw [hw1], by have := HZC.out; omega, by omega, HV.out, hb6⟩
        case measure =>
          have := HZC.out
          simp only [intOf, hw1]
          omega
end Go.Proofs.Ytpjninnammddlaa
