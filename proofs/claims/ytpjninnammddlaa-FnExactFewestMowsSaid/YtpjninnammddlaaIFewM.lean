/- The fewest days to mow, of the program: a closure that calls itself and keeps what it has found. -/
import Derived.Test.YtpjninnammddlaaFewD
import Derived.Test.YtpjninnammddlaaGrowI
import Derived.Test.YtpjninnammddlaaKeyD
import Derived.Deep.CutRange
import Derived.Laws.EntriesVeiled
namespace Go.Proofs.Ytpjninnammddlaa
open Go.RowKit
set_option linter.unusedVariables false
set_option linter.unusedSimpArgs false

section
variable (cut most : Int) (G : List Int)
/-- What the closure answers for day k and a height. -/
def fewR (k : Nat) (h : Int) : Int := if 0 < k ∧ most < h then 31 else fewW cut most (G.drop k) h
def GoodM (l : List ((Int × Int) × Int)) : Prop := ∀ (k : Nat) (h v : Int), alLook l ((k : Int), h) = some v → v = fewW cut most (G.drop k) h
end
section
variable {cut most : Int} {G : List Int}
theorem fewR_range (k : Nat) (h : Int) : 0 ≤ fewR cut most G k h ∧ fewR cut most G k h ≤ 31 := by
  unfold fewR; split; omega; exact fewW_range _ _
theorem fewR_step {k : Nat} {g : Int} (hg : G[k]? = some g) (h : Int) : fewW cut most (G.drop k) h = minZ (1 + fewR cut most G (k + 1) (minZ h cut + g)) (fewR cut most G (k + 1) (h + g)) := by
  have hk := (List.getElem?_eq_some_iff.1 hg).1
  have e : G.drop k = g :: G.drop (k + 1) := by
    rw [List.drop_eq_getElem_cons hk]
    rw [List.getElem?_eq_getElem hk] at hg
    rw [Option.some.inj hg]
  rw [e, fewW_cons]
  have c : ∀ x, fewC cut most (G.drop (k + 1)) x = fewR cut most G (k + 1) x := fun x => by
    unfold fewC fewR
    by_cases hx : most < x
    · rw [if_pos hx, if_pos ⟨by omega, hx⟩]
    · rw [if_neg hx, if_neg (fun hh => hx hh.2)]
  rw [c, c]
theorem GoodM.nil : GoodM cut most G [] := fun k h v e => by simp [alLook] at e
theorem GoodM.put {l : List ((Int × Int) × Int)} (hl : GoodM cut most G l) (k : Nat) (h : Int) : GoodM cut most G (alPut l ((k : Int), h) (fewW cut most (G.drop k) h)) := fun k' h' v e => by
  rw [alLook_put] at e
  split at e
  · rename_i he
    simp only [Prod.mk.injEq] at he
    obtain ⟨h1, rfl⟩ := he
    obtain rfl : k' = k := by omega
    exact (Option.some.inj e).symm
  · exact hl k' h' v e
end
/-- The boxes that the closure looks at, the growths, and what it has found. -/
structure FewS (cut most : Int) (G : List Int) (B : Nat) (vG : Value) (N bm bg bk bc bt b : Nat) (w : World) : Prop where
  m : Holds w bm #[.int .i64 most]
  g : Holds w bg #[vG]
  k : Holds w bk #[.map (some b)]
  c : Holds w bc #[.int .i64 cut]
  t : Holds w bt #[.func (.func 34) #[] #[.pointer (some ⟨bm, 0, none⟩), .pointer (some ⟨bg, 0, none⟩), .pointer (some ⟨bk, 0, none⟩), .pointer (some ⟨bc, 0, none⟩), .pointer (some ⟨bt, 0, none⟩)]]
  own : w.ownsRow B 2 1 vG N (intsV .i64 G)
  map : ∃ l, MapIs w b pairK (Value.int .i64) l ∧ GoodM cut most G l
theorem FewS.drew {cut most : Int} {G : List Int} {B : Nat} {vG : Value} {N bm bg bk bc bt b : Nat} {w : World} (h : FewS cut most G B vG N bm bg bk bc bt b w) : FewS cut most G B vG N bm bg bk bc bt b w.drew :=
  ⟨h.m.drewN 1, h.g.drewN 1, h.k.drewN 1, h.c.drewN 1, h.t.drewN 1, h.own, h.map⟩
theorem FewS.alloc {cut most : Int} {G : List Int} {B : Nat} {vG : Value} {N bm bg bk bc bt b : Nat} {w : World} (h : FewS cut most G B vG N bm bg bk bc bt b w) (o : Obj) : FewS cut most G B vG N bm bg bk bc bt b (w.alloc o) :=
  ⟨h.m.alloc _, h.g.alloc _, h.k.alloc _, h.c.alloc _, h.t.alloc _, h.own.alloc _, by obtain ⟨l, h1, h2⟩ := h.map; exact ⟨l, h1.alloc _, h2⟩⟩

theorem intZ (w : World) : (zeroValue 2).run Try.prog w = .ok (.int .i64 0) w := by kernel_rfl
theorem few_enters (args : Array Value) (w : World) : (callFunc 34 args).run Try.prog w = .ok (.enter 34 args) w := by kernel_rfl

set_option maxRecDepth 100000 in
set_option maxHeartbeats 8000000 in
theorem few_step (cut most : Int) (hc : 0 ≤ cut ∧ cut ≤ 200) (hmo : 0 ≤ most ∧ most ≤ 200) (N : Nat) (hN : N ≤ 30) (G : List Int) (hG : G.length = N) (hg : ∀ (j : Nat) g, G[j]? = some g → 0 ≤ g ∧ g ≤ 24) (B : Nat) (ag : Option Addr) (cg bm bg bk bc bt b : Nat) (hbm : b ≠ bm) (hbg : b ≠ bg) (hbk : b ≠ bk) (hbc : b ≠ bc) (hbt : b ≠ bt) (hbG : ∀ z, (Value.slice ag N cg).ownBlock = some z → z ≠ b)
    (k : Nat) (hk : k ≤ N) (h : Int) (h0 : 0 ≤ h) (h1 : h ≤ 224) (h2 : k = 0 → h ≤ 200) (w : World) (hS : FewS cut most G B (.slice ag N cg) N bm bg bk bc bt b w)
    (HIH : Hid (k < N → ∀ (x : Int), 0 ≤ x → x ≤ 224 → ∀ (w : World), FewS cut most G B (.slice ag N cg) N bm bg bk bc bt b w → Calls Try.prog 34 #[.int .i64 ((k + 1 : Nat) : Int), .int .i64 x, .pointer (some ⟨bm, 0, none⟩), .pointer (some ⟨bg, 0, none⟩), .pointer (some ⟨bk, 0, none⟩), .pointer (some ⟨bc, 0, none⟩), .pointer (some ⟨bt, 0, none⟩)] w fun e w' => e = .returned (.int .i64 (fewR cut most G (k + 1) x)) ∧ Only [b] w w' ∧ FewS cut most G B (.slice ag N cg) N bm bg bk bc bt b w')) :
    Calls Try.prog 34 #[.int .i64 (k : Int), .int .i64 h, .pointer (some ⟨bm, 0, none⟩), .pointer (some ⟨bg, 0, none⟩), .pointer (some ⟨bk, 0, none⟩), .pointer (some ⟨bc, 0, none⟩), .pointer (some ⟨bt, 0, none⟩)] w fun e w' => e = .returned (.int .i64 (fewR cut most G k h)) ∧ Only [b] w w' ∧ FewS cut most G B (.slice ag N cg) N bm bg bk bc bt b w' := by
  have HS := Lib.hid hS
  obtain ⟨T, hT⟩ : ∃ T, decide (0 < k ∧ most < h) = T := ⟨_, rfl⟩
  have HT : Hid (T = true ↔ (0 < k ∧ most < h)) := Lib.hid (by rw [← hT]; exact decide_eq_true_iff)
  have HR : Hid (fewR cut most G k h = if T = true then 31 else fewW cut most (G.drop k) h) := Lib.hid (by
    unfold fewR
    rw [← hT]
    simp only [decide_eq_true_eq])
  have HG := Lib.hid hg
  have HGl := Lib.hid hG
  have HbG := Lib.hid hbG
  have HST := Lib.hid (fun g (h : G[k]? = some g) => fewR_step (cut := cut) (most := most) h)
  have cm := hS.m.cell 0
  have cG := hS.g.cell 0
  have ck := hS.k.cell 0
  rw [HR.out]
  clear hT hS hg hG hbG
  go_enter Try.func34, Try.ntmps34
  go_upto_region 1 with fail
  go_cut [21] from 15 to 66 (fun x wx => x = .bool T ∧ wx = w)
  case first =>
    by_cases hk0 : 0 < k
    · have hd : decide ((0 : Int) < (k : Int)) = true := by simp; omega
      have HTT := Lib.hid (show decide (most < h) = T from by rw [Bool.eq_iff_iff, HT.out, decide_eq_true_iff]; exact ⟨fun x => ⟨hk0, x⟩, fun x => x.2⟩)
      go_wp2_with fail
      go_meet
      case rel => exact ⟨by rw [HTT.out], rfl⟩
    · have hd : decide ((0 : Int) < (k : Int)) = false := by simp; omega
      have HTT := Lib.hid (show false = T from by cases T with | false => rfl | true => exact absurd (HT.out.1 rfl).1 hk0)
      go_wp2_with fail
      go_meet
      case rel => exact ⟨by rw [HTT.out], rfl⟩
  case rest =>
    obtain ⟨rfl, rfl⟩ := hcut
    cases T with
    | true =>
      go_wp2_with fail
      go_ret
      exact ⟨rfl, Only.refl _ _, HS.out⟩
    | false =>
      by_cases hkN : k = N
      · have hd : ((k : Int) == (N : Int)) = true := by simp; omega
        have HW0 := Lib.hid (show fewW cut most (G.drop k) h = 0 by rw [List.drop_eq_nil_of_le (by rw [HGl.out]; omega)]; rfl)
        clear hkN
        go_wp2_with fail
        go_ret
        exact ⟨by rw [HW0.out]; rfl, Only.refl _ _, HS.out⟩
      · have hd : ((k : Int) == (N : Int)) = false := by simp; omega
        have hlt : k < N := by omega
        obtain ⟨p, hp⟩ : ∃ p, wc.heap.size = p := ⟨_, rfl⟩
        obtain ⟨W5, hW5⟩ : ∃ W5, wc.alloc (.cells #[.int .i64 (k : Int), .int .i64 h] 57) = W5 := ⟨_, rfl⟩
        have hS5 : FewS cut most G B (.slice ag N cg) N bm bg bk bc bt b W5 := by rw [← hW5]; exact HS.out.alloc _
        have hp5 : Holds W5 p #[.int .i64 (k : Int), .int .i64 h] := by rw [← hW5]; exact Holds.new' _ _ _ _ hp.symm
        have HO5 : Hid (Only [b] wc W5) := Lib.hid (by rw [← hW5]; exact (Only.refl _ _).alloc _)
        obtain ⟨l, hm, hgo⟩ := hS5.map
        have hbp : b < p := by have := HS.out.map.choose_spec.1.lt; omega
        have hlk := (hm.look pairKey Try.underlying58 intZ ((k : Int), h)).2
        have HGO := Lib.hid hgo
        have ck5 := hS5.k.cell 0
        obtain ⟨pr, pf, pc, pz, pl⟩ := hp5.facts
        have HS5 := Lib.hid hS5
        have HP5 := Lib.hid hp5
        cases ho : alLook l ((k : Int), h) with
        | some v =>
          rw [ho] at hlk
          simp only [pairK, Option.getD_some, Option.isSome_some] at hlk
          have HV := Lib.hid (HGO.out k h v ho)
          clear ho hm hgo hS5 hp5
          go_wp2_with fail
          go_ret
          exact ⟨by rw [← HV.out]; rfl, HO5.out, HS5.out⟩
        | none =>
          rw [ho] at hlk
          simp only [pairK, Option.getD_none, Option.isSome_none] at hlk
          clear ho hm hgo hS5 hp5
          obtain ⟨gk, hgk⟩ : ∃ g, G[k]? = some g := ⟨_, List.getElem?_eq_getElem (by rw [HGl.out]; exact hlt)⟩
          have hgr := HG.out k gk hgk
          have HSg := Lib.hid (HST.out gk hgk)
          have hGc : (intsV .i64 G)[k]? = some (.int .i64 gk) := intsV_get (k := .i64) hgk
          obtain ⟨ga, capg, he, hBg, hgw⟩ := own_form HS5.out.own (by omega)
          simp only [Value.slice.injEq, true_and] at he
          obtain ⟨rfl, rfl⟩ := he
          have hhk : h ≤ 200 := by
            rcases Nat.eq_zero_or_pos k with e | e
            · exact h2 e
            · have : ¬ most < h := fun hh => by have := HT.out.2 ⟨e, hh⟩; cases this
              omega
          have cgk := own_cell HS5.out.own k _ hGc
          have cg5 := HS5.out.g.cell 0
          have cc5 := HS5.out.c.cell 0
          obtain ⟨y, hy⟩ : ∃ y, minZ h cut = y := ⟨_, rfl⟩
          have hyr : 0 ≤ y ∧ y ≤ 200 := by rw [← hy, minZ]; split <;> omega
          have hmin : (if cut < h then cut else h) = y := by rw [← hy, minZ]; split <;> split <;> omega
          have e1 : wrap64 (y + gk) = y + gk := by unfold wrap64; omega
          have e2 : wrap64 (h + gk) = h + gk := by unfold wrap64; omega
          have HSh := Lib.hid (HSg.out h)
          rw [hy] at HSh
          clear hgk hGc hy
          go_wp2_with fail
          go_region
          have HS6 := Lib.hid HS5.out.drew
          have HP6 := Lib.hid (HP5.out.drewN 1)
          have HO6 : Hid (Only [b] wc W5.drew) := Lib.hid HO5.out.drew
          obtain ⟨W6, hW6⟩ : ∃ W6, W5.drew = W6 := ⟨_, rfl⟩
          have HP6' : Hid (Holds W6 p #[.int .i64 (k : Int), .int .i64 h]) := by rw [← hW6]; exact HP6
          rw [hW6] at HS6 HO6 ⊢
          clear hW6 HP6 cgk cg5 cc5 hmin e1 e2 hlk ck5 pr pf pc pz pl HS5 HP5 HO5
          have hE := few_enters
          obtain ⟨RA, hRA⟩ : ∃ x, fewR cut most G (k + 1) (y + gk) = x := ⟨_, rfl⟩
          obtain ⟨RB, hRB⟩ : ∃ x, fewR cut most G (k + 1) (h + gk) = x := ⟨_, rfl⟩
          have rA := fewR_range (cut := cut) (most := most) (G := G) (k + 1) (y + gk)
          have rB := fewR_range (cut := cut) (most := most) (G := G) (k + 1) (h + gk)
          have HCA := Lib.hid (HIH.out hlt (y + gk) (by omega) (by omega))
          have HCB := Lib.hid (HIH.out hlt (h + gk) (by omega) (by omega))
          rw [hRA] at HSh rA HCA
          rw [hRB] at HSh rB HCB
          have hk1 : ((k + 1 : Nat) : Int) = (k : Int) + 1 := by omega
          rw [hk1] at HCA HCB
          clear hk1
          have e4 : wrap64 (1 + RA) = 1 + RA := by unfold wrap64; omega
          obtain ⟨Z, hZ⟩ : ∃ Z, fewW cut most (G.drop k) h = Z := ⟨_, rfl⟩
          rw [hZ] at HSh
          have hminZ : (if RB < 1 + RA then RB else 1 + RA) = Z := by rw [HSh.out, minZ]; split <;> split <;> omega
          have HZ := Lib.hid hZ
          clear hRA hRB hZ
          go_wp2_with fail
          refine GI.wp_region_growI 12 (fun w' => Only [b] W6 w' ∧ FewS cut most G B (.slice (some ⟨ga, 0, none⟩) N cg) N bm bg bk bc bt b w') (by kernel_rfl) (by kernel_rfl) ⟨(Only.refl _ _).drew, HS6.out.drew⟩ ?_
          simp only [List.take_succ_cons, List.take_zero, List.drop_succ_cons, List.drop_zero]
          iterate 4
            apply GI.wpGrow_plain rfl
            · intro w' hw' K hK
              have ct := hw'.2.t.cell 0
              have HW := Lib.hid hw'
              clear hw'
              go_wp2_with fail
              exact hK _ _ rfl HW.out
            simp only [Act.put, List.setIfInBounds_toArray, List.set_cons_succ, List.set_cons_zero]
          apply GI.wpGrow_plain rfl
          · intro w' hw' K hK
            have HW := Lib.hid hw'
            clear hw'
            go_wp2_with fail
            refine (HCA.out w' HW.out.2).mono ?_
            rintro e w1 ⟨rfl, hO, hS⟩
            exact hK _ _ rfl ⟨HW.out.1.trans hO, hS⟩
          simp only [Act.put, List.setIfInBounds_toArray, List.set_cons_succ, List.set_cons_zero]
          iterate 5
            apply GI.wpGrow_plain rfl
            · intro w' hw' K hK
              have ct := hw'.2.t.cell 0
              have HW := Lib.hid hw'
              clear hw'
              go_wp2_with fail
              exact hK _ _ rfl HW.out
            simp only [Act.put, List.setIfInBounds_toArray, List.set_cons_succ, List.set_cons_zero]
          apply GI.wpGrow_plain rfl
          · intro w' hw' K hK
            have HW := Lib.hid hw'
            clear hw'
            go_wp2_with fail
            refine (HCB.out w' HW.out.2).mono ?_
            rintro e w1 ⟨rfl, hO, hS⟩
            exact hK _ _ rfl ⟨HW.out.1.trans hO, hS⟩
          simp only [Act.put, List.setIfInBounds_toArray, List.set_cons_succ, List.set_cons_zero]
          iterate 1
            apply GI.wpGrow_plain rfl
            · intro w' hw' K hK
              have ct := hw'.2.t.cell 0
              have HW := Lib.hid hw'
              clear hw'
              go_wp2_with fail
              exact hK _ _ rfl HW.out
            simp only [Act.put, List.setIfInBounds_toArray, List.set_cons_succ, List.set_cons_zero]
          refine GI.wpGrow_nil ?_
          intro W7 hW7
          have HW7 := Lib.hid hW7
          obtain ⟨l7, hm7, hg7⟩ := hW7.2.map
          obtain ⟨o, hrun, hm8⟩ := hm7.put pairKey Try.underlying58 ((k : Int), h) Z
          simp only [pairK] at hrun
          have HM8 := Lib.hid hm8
          have hG8 : Hid (GoodM cut most G (alPut l7 ((k : Int), h) Z)) := Lib.hid (by rw [← HZ.out]; exact hg7.put k h)
          have hp7 := hW7.1.holds HP6'.out (by simp; omega)
          have ck7 := hW7.2.k.cell 0
          obtain ⟨pr, pf, pc, pz, pl⟩ := hp7.facts
          have hO8 : Only [b] W7 (W7.putObj b o) := (Only.refl [b] W7).grown (grownBy_putObj' W7 b o) (fun z e => .inl (by cases e; simp))
          have HO8 := Lib.hid hO8
          have HS8 : Hid (FewS cut most G B (.slice (some ⟨ga, 0, none⟩) N cg) N bm bg bk bc bt b (W7.putObj b o)) := Lib.hid
            ⟨hO8.holds hW7.2.m (by simp; omega), hO8.holds hW7.2.g (by simp; omega), hO8.holds hW7.2.k (by simp; omega), hO8.holds hW7.2.c (by simp; omega), hO8.holds hW7.2.t (by simp; omega), hO8.own hW7.2.own (fun z hz => by have := HbG.out z hz; simpa using this), _, HM8.out, hG8.out⟩
          clear hW7 hm7 hg7 hm8 hp7 hO8
          go_wp2_with fail
          go_ret
          exact ⟨by rw [← HZ.out]; rfl, (HO6.out.trans HW7.out.1).trans HO8.out, HS8.out⟩

/-- What the closure answers. -/
theorem few_try (cut most : Int) (hc : 0 ≤ cut ∧ cut ≤ 200) (hmo : 0 ≤ most ∧ most ≤ 200) (N : Nat) (hN : N ≤ 30) (G : List Int) (hG : G.length = N) (hg : ∀ (j : Nat) g, G[j]? = some g → 0 ≤ g ∧ g ≤ 24) (B : Nat) (ag : Option Addr) (cg bm bg bk bc bt b : Nat) (hbm : b ≠ bm) (hbg : b ≠ bg) (hbk : b ≠ bk) (hbc : b ≠ bc) (hbt : b ≠ bt) (hbG : ∀ z, (Value.slice ag N cg).ownBlock = some z → z ≠ b) :
    ∀ (n k : Nat), k + n = N → ∀ (h : Int), 0 ≤ h → h ≤ 224 → (k = 0 → h ≤ 200) → ∀ (w : World), FewS cut most G B (.slice ag N cg) N bm bg bk bc bt b w →
    Calls Try.prog 34 #[.int .i64 (k : Int), .int .i64 h, .pointer (some ⟨bm, 0, none⟩), .pointer (some ⟨bg, 0, none⟩), .pointer (some ⟨bk, 0, none⟩), .pointer (some ⟨bc, 0, none⟩), .pointer (some ⟨bt, 0, none⟩)] w fun e w' => e = .returned (.int .i64 (fewR cut most G k h)) ∧ Only [b] w w' ∧ FewS cut most G B (.slice ag N cg) N bm bg bk bc bt b w' := by
  intro n
  induction n with
  | zero =>
    intro k hk h h0 h1 h2 w hS
    exact few_step cut most hc hmo N hN G hG hg B ag cg bm bg bk bc bt b hbm hbg hbk hbc hbt hbG k (by omega) h h0 h1 h2 w hS (Lib.hid fun hlt => absurd hlt (by omega))
  | succ n ih =>
    intro k hk h h0 h1 h2 w hS
    exact few_step cut most hc hmo N hN G hG hg B ag cg bm bg bk bc bt b hbm hbg hbk hbc hbt hbG k (by omega) h h0 h1 h2 w hS (Lib.hid fun hlt x x0 x1 w' hS' => ih (k + 1) (by omega) x x0 x1 (fun e => by omega) w' hS')
end Go.Proofs.Ytpjninnammddlaa
