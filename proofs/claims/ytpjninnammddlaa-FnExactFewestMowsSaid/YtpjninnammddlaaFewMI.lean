/- FewestMows, of the program. -/
import Derived.Test.YtpjninnammddlaaBestCutI
import Derived.Test.YtpjninnammddlaaFewPl
namespace Go.Proofs.Ytpjninnammddlaa
open Go.RowKit
set_option linter.unusedVariables false
set_option linter.unusedSimpArgs false

theorem FewS.grown {cut most : Int} {G : List Int} {B : Nat} {vG : Value} {N bm bg bk bc bt b : Nat} {w w' : World} {row : Option Nat} (h : FewS cut most G B vG N bm bg bk bc bt b w) (hg : w.grownBy w' row)
    (hr : ∀ z, row = some z → (z ≠ bm ∧ z ≠ bg ∧ z ≠ bk) ∧ (z ≠ bc ∧ z ≠ bt ∧ z ≠ b) ∧ vG.ownBlock ≠ some z) : FewS cut most G B vG N bm bg bk bc bt b w' := by
  have hold : ∀ {k : Nat} {cs : Array Value}, Holds w k cs → (∀ z, row = some z → z ≠ k) → Holds w' k cs := fun {k cs} hh hne => by
    have hl := hh.lt
    obtain ⟨t, ht⟩ := hh
    exact ⟨t, (hg.block k hl (fun e => hne k e.symm rfl)).trans ht⟩
  refine ⟨hold h.m (fun z e => (hr z e).1.1), hold h.g (fun z e => (hr z e).1.2.1), hold h.k (fun z e => (hr z e).1.2.2), hold h.c (fun z e => (hr z e).2.1.1), hold h.t (fun z e => (hr z e).2.1.2.1), ?_, ?_⟩
  · refine h.own.kept hg ?_
    cases hv : vG.ownBlock with
    | none => exact .inl rfl
    | some z => exact .inr fun e => (hr z e.symm).2.2 hv
  · obtain ⟨l, h1, h2⟩ := h.map
    exact ⟨l, h1.block (hg.block b h1.lt (fun e => (hr b e.symm).2.1.2.2 rfl)), h2⟩
theorem fm_nonneg {cut most start : Int} {G : List Int} (hs : 0 ≤ start) (hc : 0 ≤ cut) (hg : ∀ (j : Nat) g, G[j]? = some g → 0 ≤ g ∧ g ≤ 24) : ∀ k, k ≤ G.length → 0 ≤ fmH cut most G start k
  | 0, _ => hs
  | k + 1, hk => by
    have h1 : 0 ≤ fmH cut most G start k := fm_nonneg hs hc hg k (by omega)
    have h2 := hg k _ (List.getElem?_eq_getElem (show k < G.length by omega))
    have e : G.getD k 0 = G[k]'(by omega) := by simp [List.getD_eq_getElem?_getD, List.getElem?_eq_getElem (show k < G.length by omega)]
    rw [fmH, e]
    split
    · unfold minZ; split <;> omega
    · omega
theorem fewR_at {cut most : Int} {G : List Int} {k : Nat} {h : Int} (hk : 0 < k → h ≤ most) : fewR cut most G k h = fewW cut most (G.drop k) h := by
  unfold fewR
  rw [if_neg (fun hx => by have := hk hx.1; omega)]
theorem fewR_next (cut most : Int) (G : List Int) (k : Nat) (h : Int) : fewR cut most G (k + 1) h = fewC cut most (G.drop (k + 1)) h := by
  unfold fewR fewC
  by_cases hx : most < h
  · rw [if_pos ⟨by omega, hx⟩, if_pos hx]
  · rw [if_neg (fun hh => hx hh.2), if_neg hx]

/-- What the closure answers, whatever it has found so far. -/
def FewAsk (cut most : Int) (G : List Int) (N : Nat) (B : Nat) (vG : Value) (s : Nat) : Prop :=
  ∀ (k : Nat) (h : Int), k ≤ N → 0 ≤ h → h ≤ 224 → (k = 0 → h ≤ 200) → ∀ w, FewS cut most G B vG N (s + 1) (s + 2) (s + 4) s (s + 5) (s + 3) w → Calls Try.prog 34 #[.int .i64 (k : Int), .int .i64 h, .pointer (some ⟨s + 1, 0, none⟩), .pointer (some ⟨s + 2, 0, none⟩), .pointer (some ⟨s + 4, 0, none⟩), .pointer (some ⟨s, 0, none⟩), .pointer (some ⟨s + 5, 0, none⟩)] w fun e w' => e = .returned (.int .i64 (fewR cut most G k h)) ∧ Only [s + 3] w w' ∧ FewS cut most G B vG N (s + 1) (s + 2) (s + 4) s (s + 5) (s + 3) w'

set_option maxRecDepth 100000 in
set_option maxHeartbeats 8000000 in
theorem implFewest_any (B N : Nat) (v : Value) (hN : N ≤ 2000000) (zs : List Int) (hz : zs.length = N * 2) (hzr : ∀ z ∈ zs, -128 ≤ z ∧ z ≤ 127) (hm : FirstNo (dayP zs) N N) (start cut most : Int) (hh : high3 start cut most = true) (w : World) (ho : w.ownsRow B 46 2 v N (intsV .i8 zs)) :
    Calls Try.prog 9 #[.int .i64 start, .int .i64 cut, .int .i64 most, v] w fun e w' => (∃ u, e = .returned (.tuple #[u, .int .i64 (if fewW cut most (growL zs N) start ≤ 30 then 0 else 6)]) ∧ w'.ownsRow w.heap.size 2 1 u (if fewW cut most (growL zs N) start ≤ 30 then (fmP cut most (growL zs N) start N).length else 0) (if fewW cut most (growL zs N) start ≤ 30 then intsV .i64 (fmP cut most (growL zs N) start N) else [])) ∧ Below w.heap.size w w' := by
  obtain ⟨W, hW⟩ : ∃ W, w.alloc (.cells #[.int .i64 start, .int .i64 cut, .int .i64 most] 2) = W := ⟨_, rfl⟩
  have hoh : W.ownsRow w.heap.size 2 1 (.slice (some ⟨w.heap.size, 0, none⟩) 3 3) 3 (intsV .i64 [start, cut, most]) := by
    rw [← hW]
    exact ⟨rfl, .inr ⟨w.heap.size, 3, _, rfl, Nat.le_refl _, heap_alloc_new w _, Nat.le_refl _, by simp [maxLen], rfl, rfl⟩⟩
  have hG := growthsFrom_any B N v hN zs hz hzr N hm w.heap.size 3 (by omega) _ [start, cut, most] rfl W (by rw [← hW]; exact ho.alloc _) hoh
  rw [high3_all, hh] at hG
  rw [show askC N N true = 0 by simp [askC], show askN N N true = N by simp [askN, askB], show askV zs N N true = intsV .i64 (growL zs N) by simp [askV, askB]] at hG
  have HK := Lib.hid hG
  have hb0 : Below w.heap.size w W := by rw [← hW]; exact (Below.refl _ _).alloc (Nat.le_refl _) _
  obtain ⟨av, cv, rfl⟩ := own_slice ho
  have hall := (first_all hm).1 rfl
  have h30 := hall.1
  obtain ⟨⟨s1, s2⟩, ⟨t1, t2⟩, m1, m2⟩ := high3_range hh
  have HGL := Lib.hid (growL_length zs N)
  have HGR := Lib.hid (growL_range hall.2)
  obtain ⟨G, hGe⟩ : ∃ G, growL zs N = G := ⟨_, rfl⟩
  rw [hGe] at HGL HGR HK ⊢
  have HFA := Lib.hid (show ∀ (au : Option Addr) (cu s : Nat), (∀ z, (Value.slice au N cu).ownBlock = some z → z < s) → FewAsk cut most G N w.heap.size (.slice au N cu) s from fun au cu s hb k h hk h0 h1 h2 w hS =>
    few_try cut most ⟨t1, t2⟩ ⟨m1, m2⟩ N h30 G HGL.out HGR.out _ au cu (s + 1) (s + 2) (s + 4) s (s + 5) (s + 3) (by omega) (by omega) (by omega) (by omega) (by omega) (fun z hz => by have := hb z hz; omega) (N - k) k (by omega) h h0 h1 h2 w hS)
  have HR0 : Hid (fewR cut most G 0 start = fewW cut most G start) := Lib.hid (by rw [fewR_at (fun h => absurd h (Nat.lt_irrefl 0)), List.drop_zero])
  have HGOOD := Lib.hid (show fewW cut most G start ≤ 30 → ∀ k, k ≤ G.length → fewW cut most (G.drop k) (fmH cut most G start k) ≤ 30 ∧ (0 < k → fmH cut most G start k ≤ most) from fun h => fm_good h)
  have HNN := Lib.hid (fm_nonneg (cut := cut) (most := most) s1 t1 HGR.out)
  obtain ⟨FH, hFH⟩ : ∃ f, fmH cut most G start = f := ⟨_, rfl⟩
  obtain ⟨FP, hFP⟩ : ∃ f, fmP cut most G start = f := ⟨_, rfl⟩
  have HFS : Hid (∀ (k : Nat) gk, G[k]? = some gk → ∃ mb : Bool, ((1 + fewC cut most (G.drop (k + 1)) (minZ (FH k) cut + gk)) == fewW cut most (G.drop k) (FH k)) = mb ∧ FH (k + 1) = (if mb = true then minZ (FH k) cut + gk else FH k + gk) ∧ FP (k + 1) = FP k ++ (if mb = true then [(k : Int)] else [])) := Lib.hid fun k gk hgk => by
    have e : G.getD k 0 = gk := by rw [List.getD_eq_getElem?_getD, hgk]; rfl
    refine ⟨fmB cut most G k (FH k), by unfold fmB; rw [e], ?_, ?_⟩
    · rw [← hFH, fmH, e]
    · rw [← hFP, ← hFH, fmP]
  have HFL : Hid (∀ k, (FP k).length ≤ k) := Lib.hid fun k => by rw [← hFP]; exact fmP_le k
  have HF00 : Hid (FH 0 = start ∧ FP 0 = []) := Lib.hid ⟨by rw [← hFH]; rfl, by rw [← hFP]; rfl⟩
  rw [hFH] at HGOOD HNN
  rw [hFP]
  obtain ⟨F0, hF0⟩ : ∃ F0, fewW cut most G start = F0 := ⟨_, rfl⟩
  rw [hF0] at HR0 HGOOD ⊢
  have HE := few_enters
  obtain ⟨i0, hi, hq0, hq1, hq2⟩ := info_parts i64Info
  have HI := Lib.hid (show Try.prog.info? 2 = some i0 ∧ i0.zero = some (.int .i64 0) ∧ i0.size = 1 ∧ i0.bytes = 8 from ⟨hi, hq0, hq1, hq2⟩)
  clear ho hm hz hzr hG hoh hh hall hGe hF0 hi hq0 hq1 hq2 hFH hFP
  go_enter Try.func9, Try.ntmps9
  go_wp2_with fail
  refine HK.out.mono ?_
  rintro e w1 ⟨⟨u, rfl, hu⟩, hb1⟩
  have hWs := hb0.size
  have hb2 := below_onto hb0 hb1
  obtain ⟨au, cu, rfl⟩ := own_slice hu
  have HUF := Lib.hid (fun z (hz : (Value.slice au N cu).ownBlock = some z) => (hu.lt z hz).2)
  have HC := Lib.hid (fewFrom_any cut most N G w.heap.size au cu w1 (ownsRow_low hu hWs))
  have hsz := hb1.size
  clear hb1 hu HK hW hb0
  go_wp2_with fail
  refine HC.out.mono ?_
  rintro e w3 ⟨⟨s, hs, rfl, hS⟩, hb3⟩
  have hs1 : w1.heap.size = s := hs.symm
  have HSZ := Lib.hid hs
  have hb4 := below_onto hb2 hb3
  have HAK := Lib.hid (HFA.out au cu s (fun z hz => by have := HUF.out z hz; omega))
  have HFS := Lib.hid (HAK.out 0 start (Nat.zero_le _) s1 (by omega) (fun _ => s2) w3 hS)
  rw [HR0.out] at HFS
  have hsl := hS.t.lt
  have hws : w.heap.size ≤ s := by omega
  simp only [fewVM]
  clear hs hs1 hS HC hb3 HFA hsz
  go_wp2_with fail
  refine HFS.out.mono ?_
  rintro e w4 ⟨rfl, hO5, hS5⟩
  have hb5 : Below w.heap.size w w4 := hb4.trans (hO5.toBelow (by simp; omega) (by omega))
  have hsl2 := hS5.t.lt
  clear hb4 hO5 HFS
  by_cases hF : 30 < F0
  · have hd : decide (30 < F0) = true := by simpa using hF
    have HV := Lib.hid (show ¬ F0 ≤ 30 by omega)
    clear hS5
    go_wp2_with fail
    go_ret2
    exact ⟨⟨_, rfl, World.ownsRow_nil _ _ _ _⟩, hb5⟩
  · have hd : decide (30 < F0) = false := by simp; omega
    have HV := Lib.hid (show F0 ≤ 30 by omega)
    have HS5 := Lib.hid hS5
    clear hS5 hF
    go_wp2_with fail
    obtain ⟨P0, hP0⟩ : ∃ P0, w4.heap.size = P0 := ⟨_, rfl⟩
    rw [hP0] at hsl2
    have HP0 := Lib.hid hP0
    have hgs : ∀ z, (Value.slice au N cu).ownBlock = some z → z < s := fun z hz => by have := HUF.out z hz; have := HSZ.out; omega
    have HGS := Lib.hid hgs
    have HGD := Lib.hid (HGOOD.out HV.out)
    clear hP0 hgs HGOOD
    go_loopw [13, 14, 41] (fun p h i wr => ∃ k : Nat, k ≤ N ∧ i = .int .i64 k ∧ h = .int .i64 (FH k) ∧ wr.ownsRow P0 2 1 p (FP k).length (intsV .i64 (FP k)) ∧ FewS cut most G w.heap.size (.slice au N cu) N (s + 1) (s + 2) (s + 4) s (s + 5) (s + 3) wr ∧ Below w.heap.size w wr ∧ P0 ≤ wr.heap.size) (fun _ _ i _ => N - (intOf i).toNat)
    case atStart => exact ⟨0, by omega, rfl, by rw [HF00.out.1], by rw [HF00.out.2]; exact World.ownsRow_nil _ _ _ _, HS5.out, hb5, by have := HP0.out; omega⟩
    case round =>
      obtain ⟨k, hk, rfl, rfl, hp, hS, hb, hPz⟩ := hrel
      have HP := Lib.hid hp
      have HS := Lib.hid hS
      clear hp HS5 hb5
      by_cases hlt : k < N
      · have hd0 : decide ((k : Int) < (N : Int)) = true := by simp; omega
        obtain ⟨gk, hgk⟩ : ∃ g, G[k]? = some g := ⟨_, List.getElem?_eq_getElem (by rw [HGL.out]; exact hlt)⟩
        have hgr := HGR.out k gk hgk
        have hGc : (intsV .i64 G)[k]? = some (.int .i64 gk) := intsV_get (k := .i64) hgk
        obtain ⟨ga, capg, he, hBg, hgw⟩ := own_form hS.own (by omega)
        simp only [Value.slice.injEq, true_and] at he
        obtain ⟨rfl, rfl⟩ := he
        have cgk := own_cell hS.own k _ hGc
        obtain ⟨mb, hmb, hmH, hmP⟩ := HFS.out k gk hgk
        have hnn := HNN.out k (by rw [HGL.out]; exact hk)
        have hgd := HGD.out k (by rw [HGL.out]; exact hk)
        have hk200 : FH k ≤ 200 := by
          rcases Nat.eq_zero_or_pos k with e | e
          · rw [e, HF00.out.1]; exact s2
          · have := hgd.2 e; omega
        obtain ⟨h, hh⟩ : ∃ h, FH k = h := ⟨_, rfl⟩
        rw [hh] at hmb hmH hnn hgd hk200 ⊢
        have HHH := Lib.hid hh
        obtain ⟨y, hy⟩ : ∃ y, minZ h cut = y := ⟨_, rfl⟩
        have hyr : 0 ≤ y ∧ y ≤ 200 := by rw [← hy, minZ]; split <;> omega
        have hmin : (if cut < h then cut else h) = y := by rw [← hy, minZ]; split <;> split <;> omega
        rw [hy] at hmb hmH
        have e1 : wrap64 (y + gk) = y + gk := by unfold wrap64; omega
        have e2 : wrap64 (h + gk) = h + gk := by unfold wrap64; omega
        have HCA := Lib.hid (HAK.out (k + 1) (y + gk) (by omega) (by omega) (by omega) (fun e => by omega))
        have HCB := Lib.hid (HAK.out k h hk hnn (by omega) (fun _ => hk200))
        have hk1 : ((k + 1 : Nat) : Int) = (k : Int) + 1 := by omega
        rw [hk1, fewR_next] at HCA
        rw [fewR_at hgd.2] at HCB
        have rA := fewC_range (cut := cut) (most := most) (G.drop (k + 1)) (y + gk)
        obtain ⟨RA, hRA⟩ : ∃ x, fewC cut most (G.drop (k + 1)) (y + gk) = x := ⟨_, rfl⟩
        obtain ⟨RB, hRB⟩ : ∃ x, fewW cut most (G.drop k) h = x := ⟨_, rfl⟩
        rw [hRA] at HCA rA hmb
        rw [hRB] at HCB hmb
        have e4 : wrap64 (1 + RA) = 1 + RA := by unfold wrap64; omega
        have HM := Lib.hid (And.intro hmH hmP)
        have hle := HFL.out k
        clear hgk hGc hh hy hmH hmP hk1 hRA hRB hgd hS
        go_wp2_with fail
        refine (HCA.out wr HS.out).mono ?_
        rintro e w6 ⟨rfl, hO6, hS6⟩
        have HP6 := Lib.hid (hO6.own HP.out (fun z hz => by have := own_far HP.out z hz; simp; omega))
        have hb6 : Below w.heap.size w w6 := hb.trans (hO6.toBelow (by simp; omega) (by omega))
        have hPz6 : P0 ≤ w6.heap.size := Nat.le_trans hPz hO6.size
        have HS6 := Lib.hid hS6
        clear hO6 hS6 HP HS hb hPz cgk HCA
        go_wp2_with fail
        refine (HCB.out w6 HS6.out).mono ?_
        rintro e w7 ⟨rfl, hO7, hS7⟩
        have HP7 := Lib.hid (hO7.own HP6.out (fun z hz => by have := own_far HP6.out z hz; simp; omega))
        have hb7 : Below w.heap.size w w7 := hb6.trans (hO7.toBelow (by simp; omega) (by omega))
        have hPz7 : P0 ≤ w7.heap.size := Nat.le_trans hPz6 hO7.size
        have HS7 := Lib.hid hS7
        clear hO7 hS7 HP6 HS6 hb6 hPz6 HCB
        cases mb with
        | false =>
          have HM2 := Lib.hid (show FH (k + 1) = h + gk ∧ FP (k + 1) = FP k from ⟨HM.out.1, by rw [HM.out.2]; exact List.append_nil _⟩)
          clear hmin
          go_wp2_with fail
          go_roundw
          case rel => exact ⟨k + 1, by omega, by go_num, by rw [HM2.out.1], by rw [HM2.out.2]; exact HP7.out, HS7.out, hb7, hPz7⟩
          case measure => simp [intOf]; omega
        | true =>
          have HM2 := Lib.hid (show FH (k + 1) = y + gk ∧ FP (k + 1) = FP k ++ [(k : Int)] from ⟨HM.out.1, HM.out.2⟩)
          obtain ⟨pl, hpl⟩ : ∃ pl, (FP k).length = pl := ⟨_, rfl⟩
          rw [hpl] at HP7 hle
          have HPL := Lib.hid hpl
          obtain ⟨ap, cp, rfl⟩ := own_slice HP7.out
          clear hmin hpl
          go_wp2_with (at_builtin; refine wpList_append_own_at _ rfl _ _ 24 rfl P0 2 i0 (.int .i64 0) 1 8 Try.underlying24 HI.out.1 HI.out.2.1 HI.out.2.2.1 HI.out.2.2.2 rfl (by decide) _ _ _ rfl (HP7.out.alloc _) ⟨w7.heap.size, 0, none⟩ 1 1 [.int .i64 k] rfl rfl ?c1 ?c2 ?c3 ?c4 ?c5 ?_)
          case c1 =>
            intro j z hj
            match j, hj with
            | 0, hj => simp at hj; subst hj; exact (Holds.new w7 #[.int .i64 k] 2).cell 0
          case c2 => intro z hz; simp at hz; subst hz; rfl
          case c3 => unfold maxLen; omega
          case c4 => omega
          case c5 => simp; omega
          intro v' w9 hown' hgrow _ hat
          have hU9 : w9.ownsRow P0 2 1 v' (FP (k + 1)).length (intsV .i64 (FP (k + 1))) := by
            rw [HM2.out.2, List.length_append, HPL.out]
            have e : intsV .i64 (FP k ++ [(k : Int)]) = intsV .i64 (FP k) ++ [.int .i64 (k : Int)] := by simp [intsV]
            rw [e]
            exact hown'
          have hS9 := (HS7.out.alloc (.cells #[.int .i64 (k : Int)] 2)).grown hgrow (fun z hz => by
            have h1 := own_far HP7.out z hz
            exact ⟨by omega, by omega, fun e => by have := HGS.out z e; omega⟩)
          have hb9 : Below w.heap.size w w9 := (hb7.alloc (by omega) _).grown hgrow (by simp; omega) (fun z hz => by have h1 := own_far HP7.out z hz; omega)
          have hPz9 : P0 ≤ w9.heap.size := by have := hgrow.size; simp at this; omega
          have HU9 := Lib.hid hU9
          have HS9 := Lib.hid hS9
          clear hown' hgrow hat hU9 hS9 hb7
          go_wp2_with fail
          go_roundw
          case rel => exact ⟨k + 1, by omega, by go_num, by rw [HM2.out.1], HU9.out, HS9.out, hb9, hPz9⟩
          case measure => simp [intOf]; omega
      · have hd0 : decide ((k : Int) < (N : Int)) = false := by simp; omega
        have hkN : k = N := by omega
        have HKN := Lib.hid hkN
        clear hkN hS
        go_wp2_with fail
        go_ret2
        exact ⟨⟨_, rfl, by rw [← HKN.out]; exact ownsRow_low HP.out (by omega)⟩, hb⟩

set_option maxRecDepth 100000 in
set_option maxHeartbeats 4000000 in
theorem implFewest_bad (B N : Nat) (v : Value) (hN : N ≤ 2000000) (zs : List Int) (hz : zs.length = N * 2) (hzr : ∀ z ∈ zs, -128 ≤ z ∧ z ≤ 127) (m : Nat) (hm : FirstNo (dayP zs) N m) (start cut most : Int) (hne : askB N m (high3 start cut most) = false) (w : World) (ho : w.ownsRow B 46 2 v N (intsV .i8 zs)) :
    Calls Try.prog 9 #[.int .i64 start, .int .i64 cut, .int .i64 most, v] w fun e w' => (∃ u, e = .returned (.tuple #[u, .int .i64 (askC N m (high3 start cut most))]) ∧ w'.ownsRow w.heap.size 2 1 u 0 []) ∧ Below w.heap.size w w' := by
  obtain ⟨W, hW⟩ : ∃ W, w.alloc (.cells #[.int .i64 start, .int .i64 cut, .int .i64 most] 2) = W := ⟨_, rfl⟩
  have hoh : W.ownsRow w.heap.size 2 1 (.slice (some ⟨w.heap.size, 0, none⟩) 3 3) 3 (intsV .i64 [start, cut, most]) := by
    rw [← hW]
    exact ⟨rfl, .inr ⟨w.heap.size, 3, _, rfl, Nat.le_refl _, heap_alloc_new w _, Nat.le_refl _, by simp [maxLen], rfl, rfl⟩⟩
  have hG := growthsFrom_any B N v hN zs hz hzr m hm w.heap.size 3 (by omega) _ [start, cut, most] rfl W (by rw [← hW]; exact ho.alloc _) hoh
  rw [high3_all] at hG
  have HK := Lib.hid hG
  have hb0 : Below w.heap.size w W := by rw [← hW]; exact (Below.refl _ _).alloc (Nat.le_refl _) _
  obtain ⟨av, cv, rfl⟩ := own_slice ho
  have hc := ask_bad hne
  clear ho hm hz hzr hne hG hoh
  rcases hc with hc | hc <;> rw [hc] at HK ⊢
  all_goals
    clear hc
    go_enter Try.func9, Try.ntmps9
    go_wp2_with fail
    refine HK.out.mono ?_
    rintro e w1 ⟨⟨u, rfl, hu⟩, hb1⟩
    have hb2 := below_onto hb0 hb1
    clear hb1 hu HK hW hb0
    go_wp2_with fail
    go_ret2
    exact ⟨⟨_, rfl, World.ownsRow_nil _ _ _ _⟩, hb2⟩

end Go.Proofs.Ytpjninnammddlaa
