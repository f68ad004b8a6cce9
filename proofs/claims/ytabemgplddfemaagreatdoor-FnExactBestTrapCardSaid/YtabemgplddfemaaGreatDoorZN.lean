/- A night of a mole, of the program. A night, of the program: levels and mole. passNights, of the program. -/
import Derived.Test.YtabemgplddfemaaGreatDoorMoleP
import Derived.Test.YtabemgplddfemaaGreatDoorVLev
import Derived.Test.YtabemgplddfemaaGreatDoorZH
namespace Go.Proofs.YtabemgplddfemaaGreatDoor
open Go.RowKit Go.Shelf
set_option linter.unusedVariables false
set_option linter.unusedSimpArgs false
attribute [local go_sem ↓] loadRow loadGrid loadLawn loadMirror storeRow storeGrid storeLawn allocRow allocGrid allocLawn buildZero buildSides loadR8 loadL8 loadLv storeR8 storeLv allocR8 allocLv buildZLv

def moleV (q bf : Q10) : Array Value := #[.int .i8 q.1.val, .int .i8 q.2.val, .int .i8 bf.1.val, .int .i8 bf.2.val]

set_option maxRecDepth 100000 in
theorem back_is (x y : Nat) (q bf : Q10) (b : Nat) (w : World) (hb : Holds w b (moleV q bf)) (d : Q10) (hx : d.1.val = x) (hy : d.2.val = y) (r : Bool) (hr : (d == bf) = r) :
    Calls Tryz.prog 66 #[.agg #[.int .i8 x, .int .i8 y], .pointer (some ⟨b, 0, none⟩)] w fun e w' => e = .returned (.bool r) ∧ Below w.heap.size w w' := by
  have hl := hb.lt
  have k0 := hb.alloc (.cells #[.int .i8 x, .int .i8 y] 30)
  have c2 := (k0.cell 2).trans (show _ = some (.int .i8 bf.1.val) from rfl)
  have c3 := (k0.cell 3).trans (show _ = some (.int .i8 bf.2.val) from rfl)
  have hb0 : Below w.heap.size w (w.alloc (.cells #[.int .i8 x, .int .i8 y] 30)) := (Below.refl _ _).alloc (Nat.le_refl _) _
  obtain ⟨bx, hbx⟩ : ∃ bx : Nat, bf.1.val = bx := ⟨_, rfl⟩
  obtain ⟨by', hby⟩ : ∃ y : Nat, bf.2.val = y := ⟨_, rfl⟩
  have hr2 : ((x : Int) == bx && (y : Int) == by') = r := by
    rw [← hr, Bool.eq_iff_iff]
    obtain ⟨⟨d1, _⟩, ⟨d2, _⟩⟩ := d
    obtain ⟨⟨f1, _⟩, ⟨f2, _⟩⟩ := bf
    simp only [Bool.and_eq_true, beq_iff_eq, Prod.mk.injEq, Fin.mk.injEq] at *
    omega
  rw [hbx] at c2
  rw [hby] at c3
  clear hb k0 hr hx hy hbx hby
  by_cases h1 : (x : Int) = bx
  · by_cases h2 : (y : Int) = by'
    · have hR : r = true := by rw [← hr2]; simp [h1, h2]
      subst hR
      rw [← h1] at c2
      rw [← h2] at c3
      clear h1 h2 hr2
      go_enter Tryz.func66, Tryz.ntmps66
      go_wp2_with fail
      go_ret
      exact ⟨rfl, hb0⟩
    · have hR : r = false := by rw [← hr2]; simp [h2]
      subst hR
      rw [← h1] at c2
      clear h1 hr2
      go_enter Tryz.func66, Tryz.ntmps66
      go_wp2_with fail
      go_ret
      exact ⟨rfl, hb0⟩
  · have hR : r = false := by rw [← hr2]; simp [h1]
    subst hR
    clear hr2
    go_enter Tryz.func66, Tryz.ntmps66
    go_wp2_with fail
    go_ret
    exact ⟨rfl, hb0⟩

set_option maxRecDepth 100000 in
set_option maxHeartbeats 1000000 in
theorem low_is (g : Nat → Nat → Int) (b : Nat) (x y x' y' : Nat) (hx : x < 10) (hy : y < 10) (hx' : x' < 10) (hy' : y' < 10) (w : World) (hb : Holds w b (levV g)) :
    Calls Tryz.prog 67 #[.agg #[.int .i8 x, .int .i8 y], .agg #[.int .i8 x', .int .i8 y'], .pointer (some ⟨b, 0, none⟩)] w fun e w' => e = .returned (.bool (decide (g y x < g y' x'))) ∧ Below w.heap.size w w' := by
  have HN := Lib.hid (level_any g x y hx hy)
  have HN2 := Lib.hid (level_any g x' y' hx' hy')
  have c0 := (Holds.new w #[.int .i8 x, .int .i8 y] 30).alloc (.cells #[.int .i8 x', .int .i8 y'] 30)
  have c1 := Holds.new' (w.alloc (.cells #[.int .i8 x, .int .i8 y] 30)) #[.int .i8 x', .int .i8 y'] 30 (w.heap.size + 1) (by simp)
  have b1 := (hb.alloc (.cells #[.int .i8 x, .int .i8 y] 30)).alloc (.cells #[.int .i8 x', .int .i8 y'] 30)
  have hb0 := ((Below.refl w.heap.size w).alloc (Nat.le_refl _) (.cells #[.int .i8 x, .int .i8 y] 30)).alloc (by simp) (.cells #[.int .i8 x', .int .i8 y'] 30)
  obtain ⟨W0, hW0⟩ : ∃ W0, (w.alloc (.cells #[.int .i8 x, .int .i8 y] 30)).alloc (.cells #[.int .i8 x', .int .i8 y'] 30) = W0 := ⟨_, rfl⟩
  rw [hW0] at c0 b1 c1 hb0
  go_enter Tryz.func67, Tryz.ntmps67
  go_wp2_with fail
  clear hW0
  obtain ⟨r0, -⟩ := b1.later
  obtain ⟨-, s0⟩ := c0.later
  obtain ⟨-, s1⟩ := c1.later
  refine wp_region_grow 7 (by kernel_rfl) (by kernel_rfl) ?_
  simp only [List.take_succ_cons, List.take_zero, List.drop_succ_cons, List.drop_zero]
  iterate 7
    apply wpGrow_plain rfl
    · intro w' hw' K hK
      have e0 := s0 _ hw'
      have e1 := s1 _ hw'
      have e2 := r0 _ hw'
      go_wp2_with (first | (go_at_call 58; with_reducible refine (HN.out _).mono ?_; rintro e w1 ⟨rfl, hb1⟩) | (go_at_call 58; with_reducible refine (HN2.out _).mono ?_; rintro e w1 ⟨rfl, hb1⟩))
      first | exact hK _ _ rfl hw' | exact hK _ _ rfl (below_onto hw' hb1)
    simp only [Act.put, List.setIfInBounds_toArray, List.set_cons_succ, List.set_cons_zero]
  refine wpGrow_nil ?_
  intro W1 hW
  have hb2 := below_onto hb0 hW
  clear r0 s0 s1 b1 c1 c0 hW hb0
  go_wp2_with fail
  go_ret
  exact ⟨rfl, hb2⟩

set_option maxRecDepth 100000 in
set_option maxHeartbeats 4000000 in
theorem next_any (L : Lawn) (hL : L.Fits) (hV : validB L = true) (g : Nat → Nat → Int) (q bf : Q10) (w : World) :
    Calls Tryz.prog 46 #[.agg (moleV q bf), .agg L.cells, .agg (levV g)] w fun e w' => e = .returned (.agg (moleV (nextQ L g q bf) q)) ∧ Below w.heap.size w w' := by
  obtain ⟨ci, hi, hz0, hz1, hz2⟩ := info_parts cellInfo
  have HCI := Lib.hid (show Tryz.prog.info? 30 = some ci ∧ ci.zero = some (.agg #[.int .i8 0, .int .i8 0]) ∧ ci.size = 2 ∧ ci.bytes = 2 from ⟨hi, hz0, hz1, hz2⟩)
  have HG := Lib.hid (show ∀ (c : Pt) (w : World), Calls Tryz.prog 40 #[.agg L.cells, .agg #[.int .i8 c.1, .int .i8 c.2]] w fun e w' => e = .returned (.bool (grassP L c)) ∧ Below w.heap.size w w' from fun c w => isGrass_any L hV hL c.1 c.2 w)
  have HNR := Lib.hid (fun c h => grassP_near (L := L) hV c h)
  have HK1 := Lib.hid (fun k (c : Pt) => wayK_hit (L := L) (q := q) (k := k) (c := c))
  have HK0 := Lib.hid (fun k (c : Pt) => wayK_miss (L := L) (q := q) (k := k) (c := c))
  have HKL := Lib.hid (fun k => wayK_le L q k)
  have HE1 := Lib.hid (show ∀ args w, (callFunc 66 args).run Tryz.prog w = .ok (.enter 66 args) w from fun args w => enters_of Tryz.func66 (by kernel_rfl) rfl args w)
  have HE2 := Lib.hid (show ∀ args w, (callFunc 67 args).run Tryz.prog w = .ok (.enter 67 args) w from fun args w => enters_of Tryz.func67 (by kernel_rfl) rfl args w)
  have hK0 : wayK L q 0 = [] := rfl
  have HNQ := Lib.hid (show nextQ L g q bf = (bestL (ltQ g) (leftQ L q bf) (leftQ L q bf).length).getD q from rfl)
  have HLQ := Lib.hid (show leftQ L q bf = if 1 < (wayK L q 4).length then (wayK L q 4).filter (fun c => c != bf) else wayK L q 4 from rfl)
  obtain ⟨Y, hY⟩ : ∃ Y : Nat → List Q10, wayK L q = Y := ⟨_, rfl⟩
  rw [hY] at HK1 HK0 HKL hK0 HLQ
  clear hi hz0 hz1 hz2 hY hL hV
  obtain ⟨s, hs⟩ : ∃ s, w.heap.size = s := ⟨_, rfl⟩
  obtain ⟨W0, hW0⟩ : ∃ W0, (((w.alloc (.cells (moleV q bf) 91)).alloc (.cells L.cells 33)).alloc (.cells (levV g) 35)).alloc (.cells #[.int .i8 0, .int .i8 0, .int .i8 0, .int .i8 0] 91) = W0 := ⟨_, rfl⟩
  have g0 : Holds W0 s (moleV q bf) := by rw [← hW0]; exact (((Holds.new' _ _ _ _ hs.symm).alloc _).alloc _).alloc _
  have g1 : Holds W0 (s + 1) L.cells := by rw [← hW0]; exact ((Holds.new' _ _ _ _ (by simp; omega)).alloc _).alloc _
  have g2 : Holds W0 (s + 1 + 1) (levV g) := by rw [← hW0]; exact (Holds.new' _ _ _ _ (by simp; omega)).alloc _
  have g3 : Holds W0 (s + 1 + 1 + 1) #[.int .i8 0, .int .i8 0, .int .i8 0, .int .i8 0] := by rw [← hW0]; exact Holds.new' _ _ _ _ (by simp; omega)
  have hb : Below s w W0 := by rw [← hW0]; exact ((((Below.refl s w).alloc (by omega) _).alloc (by simp; omega) _).alloc (by simp; omega) _).alloc (by simp; omega) _
  have hz : W0.heap.size = s + 4 := by rw [← hW0]; simp; omega
  have HS := Lib.hid hs
  rw [hs]
  go_enter Tryz.func46, Tryz.ntmps46
  go_wp2_with fail
  clear hW0
  refine (sides_any _).mono ?_
  rintro e w1 ⟨rfl, hb1⟩
  have k0 := g0.below hb1 g0.lt
  have k1 := g1.below hb1 g1.lt
  have k2 := g2.below hb1 g2.lt
  have k3 := g3.below hb1 g3.lt
  have hb2 : Below s w w1 := hb.trans (hb1.mono (by omega))
  obtain ⟨B1, hB1⟩ : ∃ B1, w1.heap.size = B1 := ⟨_, rfl⟩
  have hz1 : s + 4 ≤ B1 := by have := hb1.size; omega
  have hBr0 : Below B1 w1 w1 := Below.refl _ _
  have HB1 := Lib.hid hB1
  clear g0 g1 g2 g3 hb hb1 hz hB1
  go_wp2_with fail
  go_loopw [7, 14] (fun v x wr => ∃ k : Nat, k ≤ 4 ∧ x = .int .i64 k ∧ wr.ownsRow B1 30 2 v (Y k).length (flatV (Y k)) ∧ Below B1 w1 wr) (fun _ x _ => 4 - (intOf x).toNat)
  case atStart => exact ⟨0, by omega, rfl, by rw [hK0]; exact World.ownsRow_nil _ _ _ _, hBr0⟩
  case round =>
    obtain ⟨k, hk, rfl, ho, hbr⟩ := hrel
    have HO := Lib.hid ho
    have m0 := k0.below hbr (by have := k0.lt; have := HB1.out; omega)
    have m1 := k1.below hbr (by have := k1.lt; have := HB1.out; omega)
    have m2 := k2.below hbr (by have := k2.lt; have := HB1.out; omega)
    have m3 := k3.below hbr (by have := k3.lt; have := HB1.out; omega)
    have HBR := Lib.hid hbr
    have hbs : Below s w _ := hb2.trans (hbr.mono (by omega))
    have hzr := hbr.size
    rw [HB1.out] at hzr
    clear ho k0 k1 k2 k3 hb2 hbr hBr0
    by_cases hlt : k < 4
    · have hdk : decide ((k : Int) < (4 : Int)) = true := by simp; omega
      obtain ⟨c, hc⟩ : ∃ c, (beside (ptQ q))[k]? = some c := ⟨_, List.getElem?_eq_getElem (by simpa [beside] using hlt)⟩
      have HC := Lib.hid hc
      have HSd := Lib.hid (side_any k hlt (ptQ q) c hc ⟨⟨by simp [ptQ], by simp [ptQ]; have := q.1.isLt; omega⟩, by simp [ptQ], by simp [ptQ]; have := q.2.isLt; omega⟩)
      have hix := fun w => sides_index k hlt w
      have hEs := side_enters k hlt
      obtain ⟨gv, hgv⟩ : ∃ gv, grassP L c = gv := ⟨_, rfl⟩
      have HGV := Lib.hid hgv
      have HGC := Lib.hid (fun w => hgv ▸ HG.out c w)
      have c00 := (m0.cell 0).trans (show _ = some (.int .i8 q.1.val) from rfl)
      have c01 := (m0.cell 1).trans (show _ = some (.int .i8 q.2.val) from rfl)
      have l0 := m0.lt
      clear hc hgv
      go_wp2_with fail
      refine (HSd.out _).mono ?_
      rintro e w2 ⟨rfl, hb3⟩
      have M1 := m1.below hb3 m1.lt
      have hbb := Lib.hid hb3
      obtain ⟨Wc, hWc⟩ : ∃ Wc, w2.alloc (.cells #[.int .i8 c.1, .int .i8 c.2] 30) = Wc := ⟨_, rfl⟩
      have hbc : Below w2.heap.size w2 Wc := by rw [← hWc]; exact (Below.refl _ _).alloc (Nat.le_refl _) _
      have hcc : Holds Wc w2.heap.size #[.int .i8 c.1, .int .i8 c.2] := by rw [← hWc]; exact Holds.new _ _ _
      have M1c := M1.below hbc M1.lt
      obtain ⟨r1, -, -, -, l1⟩ := M1c.facts
      have d0 := (hcc.cell 0).trans (show _ = some (.int .i8 c.1) from rfl)
      have d1 := (hcc.cell 1).trans (show _ = some (.int .i8 c.2) from rfl)
      clear c00 c01 l0 hix hEs
      go_wp2_with fail
      try rw [hWc]
      refine (HGC.out _).mono ?_
      rintro e w3 ⟨rfl, hb4⟩
      have hb5 : Below wr.heap.size wr w3 := below_onto (below_onto hbb.out hbc) hb4
      have HO3 := Lib.hid (own_below HO.out hb5)
      have hcc3 := hcc.below hb4 hcc.lt
      have hb6 : Below B1 w1 w3 := HBR.out.trans (hb5.mono hzr)
      have hle := HKL.out k
      have d0 := (hcc3.cell 0).trans (show _ = some (.int .i8 c.1) from rfl)
      have d1 := (hcc3.cell 1).trans (show _ = some (.int .i8 c.2) from rfl)
      have hz3 := hb5.size
      clear hWc hb4 M1 M1c r1 l1 hcc hcc3 hb5 HO
      cases gv
      · have HN := Lib.hid (HK0.out k c HC.out HGV.out)
        go_wp2_with fail
        go_roundw
        case rel => exact ⟨k + 1, by omega, by go_num, by rw [HN.out]; exact HO3.out, hb6⟩
        case measure => simp [intOf]; omega
      · have HN := Lib.hid (HK1.out k c HC.out HGV.out)
        have HPT := Lib.hid (ptQ_toQ (HNR.out c HGV.out))
        have hbw : Below B1 w1 (w3.alloc (.cells #[.int .i8 c.1, .int .i8 c.2] 30)) := hb6.alloc (by omega) _
        go_wp2_with (at_builtin; refine wpList_append_own_at _ rfl _ _ 47 rfl B1 30 ci (.agg #[.int .i8 0, .int .i8 0]) 2 2 Tryz.underlying47 HCI.out.1 HCI.out.2.1 HCI.out.2.2.1 HCI.out.2.2.2 rfl (by decide) _ _ _ rfl (HO3.out.alloc _) ⟨w3.heap.size, 0, none⟩ 1 1 [.int .i8 c.1, .int .i8 c.2] rfl rfl ?c1 ?c2 ?c3 ?c4 ?c5 ?_)
        case c1 =>
          intro m z hz
          match m, hz with
          | 0, hz => simp at hz; subst hz; exact (Holds.new w3 #[.int .i8 c.1, .int .i8 c.2] 30).cell 0
          | 1, hz => simp at hz; subst hz; exact (Holds.new w3 #[.int .i8 c.1, .int .i8 c.2] 30).cell 1
        case c2 => intro z hz; simp at hz; rcases hz with rfl | rfl <;> rfl
        case c3 => unfold maxLen; omega
        case c4 => omega
        case c5 => simp; omega
        intro v' w9 hown' hgrow _ hat
        have ho9 : w9.ownsRow B1 30 2 v' (Y (k + 1)).length (flatV (Y (k + 1))) := by
          rw [HN.out, flatV_append, List.length_append]
          have e : flatV [toQ c] = [.int .i8 c.1, .int .i8 c.2] := by
            have := HPT.out
            simp only [ptQ, Prod.ext_iff] at this
            simp only [flatV, List.flatMap_cons, List.flatMap_nil, List.append_nil, this.1, this.2]
          rw [e]
          exact hown'
        have hb9 : Below B1 w1 w9 := hbw.grown hgrow (by simp; omega) (fun z hz => own_far HO3.out z hz)
        have HO9 := Lib.hid ho9
        clear hown' hgrow hat ho9 hbw hb6 d0 d1
        go_wp2_with fail
        go_roundw
        case rel => exact ⟨k + 1, by omega, by go_num, HO9.out, hb9⟩
        case measure => simp [intOf]; omega
    · have hdk : decide ((k : Int) < (4 : Int)) = false := by simp; omega
      have hk4 : k = 4 := by omega
      rw [hk4] at HO
      obtain ⟨av, cv, hve⟩ := own_slice HO.out
      subst hve
      obtain ⟨ws, hws⟩ : ∃ ws, Y 4 = ws := ⟨_, rfl⟩
      have hl4 := HKL.out 4
      rw [hws] at HO HLQ hl4 ⊢
      obtain ⟨n, hn⟩ : ∃ n, ws.length = n := ⟨_, rfl⟩
      have HN := Lib.hid hn
      rw [hn] at HO HLQ hl4 ⊢
      have HBK := Lib.hid (show ∀ (w' : World), Holds w' s (moleV q bf) → ∀ d : Q10, Calls Tryz.prog 66 #[.agg #[.int .i8 d.1.val, .int .i8 d.2.val], .pointer (some ⟨s, 0, none⟩)] w' fun e w'' => e = .returned (.bool (!(d != bf))) ∧ Below w'.heap.size w' w'' from fun w' hh d => back_is d.1.val d.2.val q bf s w' hh d rfl rfl _ (by simp [bne]))
      have HLW := Lib.hid (show ∀ (w' : World), Holds w' (s + 1 + 1) (levV g) → ∀ c d : Q10, Calls Tryz.prog 67 #[.agg #[.int .i8 c.1.val, .int .i8 c.2.val], .agg #[.int .i8 d.1.val, .int .i8 d.2.val], .pointer (some ⟨s + 1 + 1, 0, none⟩)] w' fun e w'' => e = .returned (.bool (ltQ g c d)) ∧ Below w'.heap.size w' w'' from fun w' hh c d => low_is g (s + 1 + 1) c.1.val c.2.val d.1.val d.2.val c.1.isLt c.2.isLt d.1.isLt d.2.isLt w' hh)
      clear hk4 hws hn
      by_cases h1 : 1 < n
      · have hd1 : decide ((1 : Int) < (n : Int)) = true := by simp; omega
        rw [if_pos h1] at HLQ
        go_wp2_with fail
        refine (deleteC_any (fun d => d != bf) _ #[.pointer (some ⟨s, 0, none⟩)] HE1.out B1 n _ (by omega) ws HN.out _ HO.out (fun d w4 hb5 => HBK.out w4 (m0.below hb5 (by have := m0.lt; omega)) d) hzr).mono ?_
        obtain ⟨LQ, hlq0⟩ : ∃ LQ, ws.filter (fun c => c != bf) = LQ := ⟨_, rfl⟩
        rw [hlq0] at HLQ ⊢
        have hlq := HLQ.out
        have hml : LQ.length ≤ 4 := by rw [← hlq0]; exact Nat.le_trans (List.length_filter_le _ _) (by have := HN.out; omega)
        obtain ⟨m, hm⟩ : ∃ m, LQ.length = m := ⟨_, rfl⟩
        rw [hm] at hml ⊢
        rintro e w3 ⟨⟨v2, rfl, hv2⟩, hb3⟩
        have HV2 := Lib.hid hv2
        have x0 := m0.below hb3 (by omega)
        have x2 := m2.below hb3 (by omega)
        have x3 := m3.below hb3 (by omega)
        have hbx : Below s w w3 := hbs.trans (hb3.mono (by omega))
        clear hv2 hb3 hbs m0 m1 m2 m3 HO hlq0
        have hm4 : m ≤ 100 := by omega
        have HM := Lib.hid hm
        obtain ⟨ao, co, hoe⟩ := own_slice HV2.out
        subst hoe
        go_wp2_with fail
        refine (bestC_any (ltQ g) _ #[.pointer (some ⟨s + 1 + 1, 0, none⟩)] HE2.out B1 m _ hm4 LQ HM.out _ (fun c d w4 hb5 => HLW.out w4 (x2.below hb5 x2.lt) c d) HV2.out).mono ?_
        obtain ⟨o, ho⟩ : ∃ o, bestL (ltQ g) LQ m = o := ⟨_, rfl⟩
        have hdo : decide (0 < m) = o.isSome := by
          cases o with
          | none =>
            have := bestL_none (ltQ g) LQ (by rw [HM.out]; exact ho)
            have h0 := HM.out
            rw [this] at h0
            simp at h0
            simp [← h0]
          | some b =>
            have := bestL_mem (ltQ g) LQ b (by rw [HM.out]; exact ho)
            have h0 : 0 < LQ.length := List.length_pos_of_mem this
            simp
            have := HM.out
            omega
        have HNX := Lib.hid (show nextQ L g q bf = o.getD q by rw [HNQ.out, hlq, HM.out, ho])
        rw [ho, hdo]
        clear ho hdo hlq hm
        rintro e w4 ⟨rfl, hb6⟩
        have y0 := x0.below hb6 x0.lt
        have y3 := x3.below hb6 x3.lt
        have hb7 : Below s w w4 := hbx.trans (hb6.mono (by have := x0.lt; omega))
        have q00 := (y0.cell 0).trans (show _ = some (.int .i8 q.1.val) from rfl)
        have q01 := (y0.cell 1).trans (show _ = some (.int .i8 q.2.val) from rfl)
        have ly := y0.lt
        obtain ⟨-, -, cy, zy, ly3⟩ := y3.facts
        have cy0 := (cy 0).trans (show _ = some (.int .i8 0) from rfl)
        have cy1 := (cy 1).trans (show _ = some (.int .i8 0) from rfl)
        have cy2 := (cy 2).trans (show _ = some (.int .i8 0) from rfl)
        have cy3 := (cy 3).trans (show _ = some (.int .i8 0) from rfl)
        have zy0 := zy 0
        have zy1 := zy 1
        have zy2 := zy 2
        have zy3 := zy 3
        clear x0 x2 x3 hbx hb6 cy zy HV2
        cases o
        · simp only [cellO, Option.isSome_none]
          go_wp2_with fail
          exact bodyPost_ret (v := .agg (moleV q q)) (results_cell_holds (n := 4) rfl (by kernel_rfl) _ rfl (((((y3.setCell 0 (.int .i8 q.1.val)).setCell 1 (.int .i8 q.2.val)).setCell 2 (.int .i8 q.1.val)).setCell 3 (.int .i8 q.2.val)).alloc _) rfl) rfl ⟨by rw [HNX.out]; rfl, ((((hb7.setCell (p := ⟨s + 1 + 1 + 1, 0, none⟩) (by dsimp only; omega) _).setCell (p := ⟨s + 1 + 1 + 1, 1, none⟩) (by dsimp only; omega) _).setCell (p := ⟨s + 1 + 1 + 1, 2, none⟩) (by dsimp only; omega) _).setCell (p := ⟨s + 1 + 1 + 1, 3, none⟩) (by dsimp only; omega) _).alloc (by simp; omega) _⟩
        · rename_i bq
          simp only [cellO, Option.isSome_some]
          go_wp2_with fail
          exact bodyPost_ret (v := .agg (moleV bq q)) (results_cell_holds (n := 4) rfl (by kernel_rfl) _ rfl (((((y3.setCell 0 (.int .i8 bq.1.val)).setCell 1 (.int .i8 bq.2.val)).setCell 2 (.int .i8 q.1.val)).setCell 3 (.int .i8 q.2.val)).alloc _) rfl) rfl ⟨by rw [HNX.out]; rfl, ((((hb7.setCell (p := ⟨s + 1 + 1 + 1, 0, none⟩) (by dsimp only; omega) _).setCell (p := ⟨s + 1 + 1 + 1, 1, none⟩) (by dsimp only; omega) _).setCell (p := ⟨s + 1 + 1 + 1, 2, none⟩) (by dsimp only; omega) _).setCell (p := ⟨s + 1 + 1 + 1, 3, none⟩) (by dsimp only; omega) _).alloc (by simp; omega) _⟩
      · have hd1 : decide ((1 : Int) < (n : Int)) = false := by simp; omega
        rw [if_neg h1] at HLQ
        obtain ⟨LQ, m, hLm⟩ : ∃ (LQ : List Q10) (m : Nat), LQ = ws ∧ m = n := ⟨_, _, rfl, rfl⟩
        obtain ⟨hl1, hm1⟩ := hLm
        rw [← hl1] at HLQ HN HO
        rw [← hm1] at HN HO hl4 hd1 ⊢
        have hlq := HLQ.out
        have hml := hl4
        have hm := HN.out
        have HV2 := HO
        have x0 := m0
        have x2 := m2
        have x3 := m3
        have hbx := hbs
        clear hbs m0 m1 m2 m3 HO hl1 hm1 h1
        have hm4 : m ≤ 100 := by omega
        have HM := Lib.hid hm
        go_wp2_with fail
        refine (bestC_any (ltQ g) _ #[.pointer (some ⟨s + 1 + 1, 0, none⟩)] HE2.out B1 m _ hm4 LQ HM.out _ (fun c d w4 hb5 => HLW.out w4 (x2.below hb5 x2.lt) c d) HV2.out).mono ?_
        obtain ⟨o, ho⟩ : ∃ o, bestL (ltQ g) LQ m = o := ⟨_, rfl⟩
        have hdo : decide (0 < m) = o.isSome := by
          cases o with
          | none =>
            have := bestL_none (ltQ g) LQ (by rw [HM.out]; exact ho)
            have h0 := HM.out
            rw [this] at h0
            simp at h0
            simp [← h0]
          | some b =>
            have := bestL_mem (ltQ g) LQ b (by rw [HM.out]; exact ho)
            have h0 : 0 < LQ.length := List.length_pos_of_mem this
            simp
            have := HM.out
            omega
        have HNX := Lib.hid (show nextQ L g q bf = o.getD q by rw [HNQ.out, hlq, HM.out, ho])
        rw [ho, hdo]
        clear ho hdo hlq hm
        rintro e w4 ⟨rfl, hb6⟩
        have y0 := x0.below hb6 x0.lt
        have y3 := x3.below hb6 x3.lt
        have hb7 : Below s w w4 := hbx.trans (hb6.mono (by have := x0.lt; omega))
        have q00 := (y0.cell 0).trans (show _ = some (.int .i8 q.1.val) from rfl)
        have q01 := (y0.cell 1).trans (show _ = some (.int .i8 q.2.val) from rfl)
        have ly := y0.lt
        obtain ⟨-, -, cy, zy, ly3⟩ := y3.facts
        have cy0 := (cy 0).trans (show _ = some (.int .i8 0) from rfl)
        have cy1 := (cy 1).trans (show _ = some (.int .i8 0) from rfl)
        have cy2 := (cy 2).trans (show _ = some (.int .i8 0) from rfl)
        have cy3 := (cy 3).trans (show _ = some (.int .i8 0) from rfl)
        have zy0 := zy 0
        have zy1 := zy 1
        have zy2 := zy 2
        have zy3 := zy 3
        clear x0 x2 x3 hbx hb6 cy zy HV2
        cases o
        · simp only [cellO, Option.isSome_none]
          go_wp2_with fail
          exact bodyPost_ret (v := .agg (moleV q q)) (results_cell_holds (n := 4) rfl (by kernel_rfl) _ rfl (((((y3.setCell 0 (.int .i8 q.1.val)).setCell 1 (.int .i8 q.2.val)).setCell 2 (.int .i8 q.1.val)).setCell 3 (.int .i8 q.2.val)).alloc _) rfl) rfl ⟨by rw [HNX.out]; rfl, ((((hb7.setCell (p := ⟨s + 1 + 1 + 1, 0, none⟩) (by dsimp only; omega) _).setCell (p := ⟨s + 1 + 1 + 1, 1, none⟩) (by dsimp only; omega) _).setCell (p := ⟨s + 1 + 1 + 1, 2, none⟩) (by dsimp only; omega) _).setCell (p := ⟨s + 1 + 1 + 1, 3, none⟩) (by dsimp only; omega) _).alloc (by simp; omega) _⟩
        · rename_i bq
          simp only [cellO, Option.isSome_some]
          go_wp2_with fail
          exact bodyPost_ret (v := .agg (moleV bq q)) (results_cell_holds (n := 4) rfl (by kernel_rfl) _ rfl (((((y3.setCell 0 (.int .i8 bq.1.val)).setCell 1 (.int .i8 bq.2.val)).setCell 2 (.int .i8 q.1.val)).setCell 3 (.int .i8 q.2.val)).alloc _) rfl) rfl ⟨by rw [HNX.out]; rfl, ((((hb7.setCell (p := ⟨s + 1 + 1 + 1, 0, none⟩) (by dsimp only; omega) _).setCell (p := ⟨s + 1 + 1 + 1, 1, none⟩) (by dsimp only; omega) _).setCell (p := ⟨s + 1 + 1 + 1, 2, none⟩) (by dsimp only; omega) _).setCell (p := ⟨s + 1 + 1 + 1, 3, none⟩) (by dsimp only; omega) _).alloc (by simp; omega) _⟩
end Go.Proofs.YtabemgplddfemaaGreatDoor

namespace Go.Proofs.YtabemgplddfemaaGreatDoor
open Go.RowKit Go.Shelf
set_option linter.unusedVariables false
set_option linter.unusedSimpArgs false
attribute [local go_sem ↓] loadRow loadGrid loadLawn loadMirror storeRow storeGrid storeLawn allocRow allocGrid allocLawn buildZero buildSides loadR8 loadL8 loadLv storeR8 storeLv allocR8 allocLv buildZLv

theorem results_cells2 {P : Program} {fn : Func} {p u : Tmp} {t1 t2 : TypeId} {n m : Nat} (h : fn.results = #[.cell p t1, .cell u t2]) (hw1 : wideB P t1 n = true) (hw2 : wideB P t2 m = true) (tmps : Array Value) {w : World} {g k : Nat} {cs ds : Array Value}
    (hp : tmps.getD p undef = .pointer (some ⟨g, 0, none⟩)) (hu : tmps.getD u undef = .pointer (some ⟨k, 0, none⟩)) (hg : Holds w g cs) (hn : cs.size = n) (hk : Holds w k ds) (hm : ds.size = m) : (results fn tmps).run P w = .ok (.tuple #[.agg cs, .agg ds]) w := by
  have hp' : tmps[p]?.getD undef = .pointer (some ⟨g, 0, none⟩) := by simpa using hp
  have hu' : tmps[u]?.getD undef = .pointer (some ⟨k, 0, none⟩) := by simpa using hu
  simp [results, h, hp', hu', asAddr, (wide_of hw1).loadVar hg hn, (wide_of hw2).loadVar hk hm]
theorem wideMole : wideB Tryz.prog 91 4 = true := by kernel_rfl
theorem moleV_size (q bf : Q10) : (moleV q bf).size = 4 := rfl

set_option maxRecDepth 100000 in
set_option maxHeartbeats 4000000 in
theorem night_any (L : Lawn) (hL : L.Fits) (g : Nat → Nat → Int) (hv : levB L g = true) (q bf : Q10) (w : World) :
    Calls Tryz.prog 23 #[.agg L.cells, .agg (levV g), .agg (moleV q bf)] w fun e w' => e = .returned (.tuple #[.agg (levV (nightG g (nextQ L g q bf))), .agg (moleV (nextQ L g q bf) q)]) ∧ Below w.heap.size w w' := by
  have HNX := Lib.hid (fun w => next_any L hL (levB_true hv).1 g q bf w)
  obtain ⟨n, hn⟩ : ∃ n, nextQ L g q bf = n := ⟨_, rfl⟩
  rw [hn] at HNX ⊢
  have hgr := lev_range hv n.2.val n.1.val n.2.isLt n.1.isLt
  obtain ⟨G, hG⟩ : ∃ G, g n.2.val n.1.val = G := ⟨_, rfl⟩
  rw [hG] at hgr
  obtain ⟨M, hM⟩ : ∃ M, min (G + 1) 9 = M := ⟨_, rfl⟩
  have HNG := Lib.hid (show nightG g n = upd g n.2.val n.1.val M by unfold nightG; rw [hG, hM])
  have hw1 : IntKind.i8.wrap (G + 1) = G + 1 := IntWalk.i8_in _ (by omega)
  have hmm : (if (9 : Int) < G + 1 then 9 else G + 1) = M := by rw [← hM]; split <;> omega
  obtain ⟨x, hx⟩ : ∃ x : Nat, n.1.val = x := ⟨_, rfl⟩
  obtain ⟨y, hy⟩ : ∃ y : Nat, n.2.val = y := ⟨_, rfl⟩
  have hx10 : x < 10 := by have := n.1.isLt; omega
  have hy10 : y < 10 := by have := n.2.isLt; omega
  have HXY := Lib.hid (And.intro hx hy)
  rw [hx, hy] at hG HNG
  clear hL hv hn hM
  obtain ⟨s, hs⟩ : ∃ s, w.heap.size = s := ⟨_, rfl⟩
  obtain ⟨W0, hW0⟩ : ∃ W0, ((((w.alloc (.cells L.cells 33)).alloc (.cells (levV g) 35)).alloc (.cells (moleV q bf) 91)).alloc (.cells (levV fun _ _ => 0) 35)).alloc (.cells #[.int .i8 0, .int .i8 0, .int .i8 0, .int .i8 0] 91) = W0 := ⟨_, rfl⟩
  have g0 : Holds W0 s L.cells := by rw [← hW0]; exact ((((Holds.new' _ _ _ _ hs.symm).alloc _).alloc _).alloc _).alloc _
  have g1 : Holds W0 (s + 1) (levV g) := by rw [← hW0]; exact (((Holds.new' _ _ _ _ (by simp; omega)).alloc _).alloc _).alloc _
  have g2 : Holds W0 (s + 1 + 1) (moleV q bf) := by rw [← hW0]; exact ((Holds.new' _ _ _ _ (by simp; omega)).alloc _).alloc _
  have g3 : Holds W0 (s + 1 + 1 + 1) (levV fun _ _ => 0) := by rw [← hW0]; exact (Holds.new' _ _ _ _ (by simp; omega)).alloc _
  have g4 : Holds W0 (s + 1 + 1 + 1 + 1) #[.int .i8 0, .int .i8 0, .int .i8 0, .int .i8 0] := by rw [← hW0]; exact Holds.new' _ _ _ _ (by simp; omega)
  have hb : Below s w W0 := by rw [← hW0]; exact (((((Below.refl s w).alloc (by omega) _).alloc (by simp; omega) _).alloc (by simp; omega) _).alloc (by simp; omega) _).alloc (by simp; omega) _
  rw [hs]
  obtain ⟨r0, -, -, -, l0⟩ := g0.facts
  obtain ⟨r1, -, -, -, l1⟩ := g1.facts
  have e0 := (g2.cell 0).trans (show _ = some (.int .i8 q.1.val) from rfl)
  have e1 := (g2.cell 1).trans (show _ = some (.int .i8 q.2.val) from rfl)
  have e2 := (g2.cell 2).trans (show _ = some (.int .i8 bf.1.val) from rfl)
  have e3 := (g2.cell 3).trans (show _ = some (.int .i8 bf.2.val) from rfl)
  have l2 := g2.lt
  go_enter Tryz.func23, Tryz.ntmps23
  go_wp2_with fail
  clear hW0 r0 l0 r1 l1 e0 e1 e2 e3 l2
  refine (HNX.out _).mono ?_
  rintro e w1 ⟨rfl, hb1⟩
  have k1 := g1.below hb1 g1.lt
  have k2 := g2.below hb1 g2.lt
  have k3 := g3.below hb1 g3.lt
  have k4 := g4.below hb1 g4.lt
  have hb2 : Below s w w1 := hb.trans (hb1.mono (by have := g0.lt; omega))
  obtain ⟨-, -, c2, z2, l2⟩ := k2.facts
  have c20 := (c2 0).trans (show _ = some (.int .i8 q.1.val) from rfl)
  have c21 := (c2 1).trans (show _ = some (.int .i8 q.2.val) from rfl)
  have c22 := (c2 2).trans (show _ = some (.int .i8 bf.1.val) from rfl)
  have c23 := (c2 3).trans (show _ = some (.int .i8 bf.2.val) from rfl)
  have z20 := z2 0
  have z21 := z2 1
  have z22 := z2 2
  have z23 := z2 3
  clear g0 g1 g2 g3 g4 hb hb1 c2 z2
  simp only [moleV]
  rw [HXY.out.1, HXY.out.2]
  go_wp2_with fail
  obtain ⟨W2, hW2⟩ : ∃ W2, (((w1.setCell ⟨s + 1 + 1, 0, none⟩ (.int .i8 x)).setCell ⟨s + 1 + 1, 1, none⟩ (.int .i8 y)).setCell ⟨s + 1 + 1, 2, none⟩ (.int .i8 q.1.val)).setCell ⟨s + 1 + 1, 3, none⟩ (.int .i8 q.2.val) = W2 := ⟨_, rfl⟩
  have o1 : ∀ {b : Nat} {cs : Array Value}, Holds w1 b cs → b ≠ s + 1 + 1 → Holds W2 b cs := fun h hne => by rw [← hW2]; exact (((h.setCell_other _ _ (by dsimp only; omega)).setCell_other _ _ (by dsimp only; omega)).setCell_other _ _ (by dsimp only; omega)).setCell_other _ _ (by dsimp only; omega)
  have m1 := o1 k1 (by omega)
  have m3 := o1 k3 (by omega)
  have m4 := o1 k4 (by omega)
  have m2 : Holds W2 (s + 1 + 1) #[.int .i8 x, .int .i8 y, .int .i8 q.1.val, .int .i8 q.2.val] := by rw [← hW2]; exact (((k2.setCell 0 _).setCell 1 _).setCell 2 _).setCell 3 _
  have hb3 : Below s w W2 := by rw [← hW2]; exact (((hb2.setCell (p := ⟨s + 1 + 1, 0, none⟩) (by dsimp only; omega) _).setCell (p := ⟨s + 1 + 1, 1, none⟩) (by dsimp only; omega) _).setCell (p := ⟨s + 1 + 1, 2, none⟩) (by dsimp only; omega) _).setCell (p := ⟨s + 1 + 1, 3, none⟩) (by dsimp only; omega) _
  try rw [hW2]
  clear hW2 o1 k1 k2 k3 k4 hb2 c20 c21 c22 c23 z20 z21 z22 z23 l2
  obtain ⟨-, -, c1, z1, l1⟩ := m1.facts
  have c1v := (c1 (y * 10 + x)).trans (by rw [levV_get g y x hy10 hx10, hG] : _ = some (.int .i8 G))
  have z1v := z1 (y * 10 + x)
  have c20 := (m2.cell 0).trans (show _ = some (.int .i8 x) from rfl)
  have c21 := (m2.cell 1).trans (show _ = some (.int .i8 y) from rfl)
  have l2 := m2.lt
  clear c1 z1
  go_region
  obtain ⟨W3, hW3⟩ : ∃ W3, (W2.setCell ⟨s + 1, y * 10 + x, none⟩ (.int .i8 M)).drew = W3 := ⟨_, rfl⟩
  have o2 : ∀ {b : Nat} {cs : Array Value}, Holds W2 b cs → b ≠ s + 1 → Holds W3 b cs := fun {b cs} h hne => by
    have h2 := h.setCell_other ⟨s + 1, y * 10 + x, none⟩ (.int .i8 M) (by dsimp only; omega)
    rw [← hW3]
    exact h2.below (Below.refl _ _).drew h2.lt
  have u1 : Holds W3 (s + 1) (levV (nightG g n)) := by
    rw [← hW3, HNG.out, ← levV_set _ _ _ _ hy10 hx10]
    exact (m1.setCell (y * 10 + x) (.int .i8 M)).below (Below.refl _ _).drew (m1.setCell (y * 10 + x) (.int .i8 M)).lt
  have u2 := o2 m2 (by omega)
  have u3 := o2 m3 (by omega)
  have u4 := o2 m4 (by omega)
  have hb4 : Below s w W3 := by rw [← hW3]; exact (hb3.setCell (p := ⟨s + 1, y * 10 + x, none⟩) (by dsimp only; omega) _).drew
  rw [hW3]
  clear hW3 o2 m1 m2 m3 m4 hb3 c1v z1v c20 c21 l2 l1
  obtain ⟨r1, -, -, -, l1⟩ := u1.facts
  have c20 := (u2.cell 0).trans (show _ = some (.int .i8 x) from rfl)
  have c21 := (u2.cell 1).trans (show _ = some (.int .i8 y) from rfl)
  have c22 := (u2.cell 2).trans (show _ = some (.int .i8 q.1.val) from rfl)
  have c23 := (u2.cell 3).trans (show _ = some (.int .i8 q.2.val) from rfl)
  have l2 := u2.lt
  obtain ⟨r3, f3, -, -, l3⟩ := u3.facts
  obtain ⟨-, -, c4, z4, l4⟩ := u4.facts
  have c40 := (c4 0).trans (show _ = some (.int .i8 0) from rfl)
  have c41 := (c4 1).trans (show _ = some (.int .i8 0) from rfl)
  have c42 := (c4 2).trans (show _ = some (.int .i8 0) from rfl)
  have c43 := (c4 3).trans (show _ = some (.int .i8 0) from rfl)
  have z40 := z4 0
  have z41 := z4 1
  have z42 := z4 2
  have z43 := z4 3
  clear c4 z4
  go_wp2_with fail
  go_region
  have F := u3.setRow (levV (nightG g n))
  have F2 := (((F.setCell_other ⟨s + 1 + 1 + 1 + 1, 0, none⟩ (.int .i8 x) (by dsimp only; omega)).setCell_other ⟨s + 1 + 1 + 1 + 1, 1, none⟩ (.int .i8 y) (by dsimp only; omega)).setCell_other ⟨s + 1 + 1 + 1 + 1, 2, none⟩ (.int .i8 q.1.val) (by dsimp only; omega)).setCell_other ⟨s + 1 + 1 + 1 + 1, 3, none⟩ (.int .i8 q.2.val) (by dsimp only; omega)
  have M0 := ((Only.refl [s + 1 + 1 + 1] W3).setRow (g := s + 1 + 1 + 1) (.inl (by simp)) (levV (nightG g n))).holds u4 (by simp)
  have M2 := (((M0.setCell 0 (.int .i8 x)).setCell 1 (.int .i8 y)).setCell 2 (.int .i8 q.1.val)).setCell 3 (.int .i8 q.2.val)
  have hb5 := ((((below_setRow' hb4 (g := s + 1 + 1 + 1) (by omega) (levV (nightG g n))).setCell (p := ⟨s + 1 + 1 + 1 + 1, 0, none⟩) (by dsimp only; omega) (.int .i8 x)).setCell (p := ⟨s + 1 + 1 + 1 + 1, 1, none⟩) (by dsimp only; omega) (.int .i8 y)).setCell (p := ⟨s + 1 + 1 + 1 + 1, 2, none⟩) (by dsimp only; omega) (.int .i8 q.1.val)).setCell (p := ⟨s + 1 + 1 + 1 + 1, 3, none⟩) (by dsimp only; omega) (.int .i8 q.2.val)
  have F3 := F2.below (Below.refl _ _).drew F2.lt
  have M3 := M2.below (Below.refl _ _).drew M2.lt
  have hb6 := hb5.drew
  have HFM := Lib.hid (And.intro F3 (And.intro M3 hb6))
  clear F F2 M0 M2 hb5 F3 M3 hb6
  all_goals go_wp2_with fail
  all_goals exact bodyPost_ret (results_cells2 rfl wideLv wideMole _ rfl rfl HFM.out.1 (by simp) HFM.out.2.1 rfl) rfl ⟨by unfold moleV; rw [HXY.out.1, HXY.out.2]; rfl, HFM.out.2.2⟩
end Go.Proofs.YtabemgplddfemaaGreatDoor

namespace Go.Proofs.YtabemgplddfemaaGreatDoor
open Go.RowKit Go.Shelf
set_option linter.unusedVariables false
set_option linter.unusedSimpArgs false
attribute [local go_sem ↓] loadRow loadGrid loadLawn loadMirror storeRow storeGrid storeLawn allocRow allocGrid allocLawn buildZero buildSides loadR8 loadL8 loadLv storeR8 storeLv allocR8 allocLv buildZLv

/-- Levels, the mole's cell and the one before, behind k nights. -/
def stQ (L : Lawn) (g : Nat → Nat → Int) (q : Q10) : Nat → (Nat → Nat → Int) × Q10 × Q10
  | 0 => (g, q, q)
  | k + 1 => (nightG (stQ L g q k).1 (nextQ L (stQ L g q k).1 (stQ L g q k).2.1 (stQ L g q k).2.2), nextQ L (stQ L g q k).1 (stQ L g q k).2.1 (stQ L g q k).2.2, (stQ L g q k).2.1)
theorem stQ_fine {L : Lawn} {g : Nat → Nat → Int} (hv : levB L g = true) {q : Q10} (hq : grassP L (ptQ q) = true) : ∀ k, levB L (stQ L g q k).1 = true ∧ grassP L (ptQ (stQ L g q k).2.1) = true
  | 0 => ⟨hv, hq⟩
  | k + 1 => by
    obtain ⟨h1, h2⟩ := stQ_fine hv hq k
    have h3 := nextQ_grass (levB_true hv).1 (stQ L g q k).1 (stQ L g q k).2.1 (stQ L g q k).2.2 h2
    exact ⟨night_fine h1 h3, h3⟩
/-- The cells at which it is. -/
def pathQ (L : Lawn) (g : Nat → Nat → Int) (q : Q10) (k : Nat) : List Q10 := (List.range (k + 1)).map fun i => (stQ L g q i).2.1
theorem pathQ_zero (L : Lawn) (g : Nat → Nat → Int) (q : Q10) : pathQ L g q 0 = [q] := rfl
theorem pathQ_succ (L : Lawn) (g : Nat → Nat → Int) (q : Q10) (k : Nat) : pathQ L g q (k + 1) = pathQ L g q k ++ [(stQ L g q (k + 1)).2.1] := by
  unfold pathQ
  rw [List.range_succ, List.map_append]
  rfl
theorem pathQ_length (L : Lawn) (g : Nat → Nat → Int) (q : Q10) (k : Nat) : (pathQ L g q k).length = k + 1 := by simp [pathQ]
theorem results_cell_own {P : Program} {fn : Func} {p u : Tmp} {ty : TypeId} {n : Nat} (h : fn.results = #[.cell p ty, .tmp u]) (hw : wideB P ty n = true) (tmps : Array Value) {w : World} {g : Nat} {cs : Array Value}
    (hp : tmps.getD p undef = .pointer (some ⟨g, 0, none⟩)) (hg : Holds w g cs) (hn : cs.size = n) {v : Value} (hv : tmps.getD u undef = v) : (results fn tmps).run P w = .ok (.tuple #[.agg cs, v]) w := hv ▸ results_cell_tmp_holds h hw tmps hp hg hn

set_option maxRecDepth 100000 in
set_option maxHeartbeats 4000000 in
theorem passNights_any (L : Lawn) (hL : L.Fits) (g : Nat → Nat → Int) (hv : levB L g = true) (q : Q10) (hq : grassP L (ptQ q) = true) (N : Nat) (hN : N ≤ 60) (w : World) :
    Calls Tryz.prog 22 #[.agg (levV g), .agg #[.int .i8 q.1.val, .int .i8 q.2.val], .int .i64 N, .func (.func 23) #[.agg L.cells] #[]] w fun e w' => (∃ v, e = .returned (.tuple #[.agg (levV (stQ L g q N).1), v]) ∧ w'.ownsRow w.heap.size 30 2 v (N + 1) (flatV (pathQ L g q N))) ∧ Below w.heap.size w w' := by
  obtain ⟨ci, hi, hz0, hz1, hz2⟩ := info_parts cellInfo
  have HCI := Lib.hid (show Tryz.prog.info? 30 = some ci ∧ ci.zero = some (.agg #[.int .i8 0, .int .i8 0]) ∧ ci.size = 2 ∧ ci.bytes = 2 from ⟨hi, hz0, hz1, hz2⟩)
  have HNI := Lib.hid (show ∀ (k : Nat) (w : World), Calls Tryz.prog 23 #[.agg L.cells, .agg (levV (stQ L g q k).1), .agg (moleV (stQ L g q k).2.1 (stQ L g q k).2.2)] w fun e w' => e = .returned (.tuple #[.agg (levV (stQ L g q (k + 1)).1), .agg (moleV (stQ L g q (k + 1)).2.1 (stQ L g q (k + 1)).2.2)]) ∧ Below w.heap.size w w' from fun k w => night_any L hL _ (stQ_fine hv hq k).1 _ _ w)
  have HE1 : ∀ args w, (callFunc 23 args).run Tryz.prog w = .ok (.enter 23 args) w := fun args w => enters_of Tryz.func23 (by kernel_rfl) rfl args w
  have HPS := Lib.hid (fun k => pathQ_succ L g q k)
  have HPL := Lib.hid (fun k => pathQ_length L g q k)
  have hP0 : pathQ L g q 0 = [q] := rfl
  have hS0 : (stQ L g q 0) = (g, q, q) := rfl
  obtain ⟨S, hS⟩ : ∃ S, stQ L g q = S := ⟨_, rfl⟩
  obtain ⟨P, hP⟩ : ∃ P, pathQ L g q = P := ⟨_, rfl⟩
  rw [hS] at HNI hS0 HPS ⊢
  rw [hP] at HPS HPL hP0 ⊢
  clear hi hz0 hz1 hz2 hS hP hv hq hL
  obtain ⟨s, hs⟩ : ∃ s, w.heap.size = s := ⟨_, rfl⟩
  obtain ⟨W0, hW0⟩ : ∃ W0, (((((w.alloc (.cells (levV g) 35)).alloc (.cells #[.int .i8 q.1.val, .int .i8 q.2.val] 30)).alloc (.cells (levV fun _ _ => 0) 35)).alloc (.cells #[.int .i8 q.1.val, .int .i8 q.2.val, .int .i8 q.1.val, .int .i8 q.2.val] 91)).alloc (.cells #[.int .i8 q.1.val, .int .i8 q.2.val] 30)) = W0 := ⟨_, rfl⟩
  have g0 : Holds W0 s (levV g) := by rw [← hW0]; exact ((((Holds.new' _ _ _ _ hs.symm).alloc _).alloc _).alloc _).alloc _
  have g2 : Holds W0 (s + 1 + 1) (levV fun _ _ => 0) := by rw [← hW0]; exact ((Holds.new' _ _ _ _ (by simp <;> omega)).alloc _).alloc _
  have g3 : Holds W0 (s + 1 + 1 + 1) (moleV q q) := by rw [← hW0]; exact (Holds.new' _ _ _ _ (by simp <;> omega)).alloc _
  have g4 : W0.ownsRow (s + 4) 30 2 (.slice (some ⟨s + 1 + 1 + 1 + 1, 0, none⟩) 1 1) 1 (flatV [q]) := by
    rw [← hW0]
    exact ⟨rfl, .inr ⟨s + 1 + 1 + 1 + 1, 1, #[.int .i8 q.1.val, .int .i8 q.2.val], rfl, by omega, by rw [show s + 1 + 1 + 1 + 1 = ((((w.alloc (.cells (levV g) 35)).alloc (.cells #[.int .i8 q.1.val, .int .i8 q.2.val] 30)).alloc (.cells (levV fun _ _ => 0) 35)).alloc (.cells #[.int .i8 q.1.val, .int .i8 q.2.val, .int .i8 q.1.val, .int .i8 q.2.val] 91)).heap.size by simp; omega]; exact heap_alloc_new _ _, Nat.le_refl _, by simp [maxLen], rfl, rfl⟩⟩
  have hb : Below s w W0 := by rw [← hW0]; exact (((((Below.refl s w).alloc (by omega) _).alloc (by simp; omega) _).alloc (by simp; omega) _).alloc (by simp; omega) _).alloc (by simp; omega) _
  rw [hs]
  go_enter Tryz.func22, Tryz.ntmps22
  go_wp2_with fail
  try rw [hW0]
  clear hW0
  go_loopw [11, 18] (fun v x wr => ∃ k : Nat, k ≤ N ∧ x = .int .i64 k ∧ Holds wr s (levV (S k).1) ∧ Holds wr (s + 1 + 1 + 1) (moleV (S k).2.1 (S k).2.2) ∧ Holds wr (s + 1 + 1) (levV fun _ _ => 0) ∧ wr.ownsRow (s + 4) 30 2 v (k + 1) (flatV (P k)) ∧ Below s w wr) (fun _ x _ => N - (intOf x).toNat)
  case atStart => exact ⟨0, by omega, rfl, by rw [hS0]; exact g0, by rw [hS0]; exact g3, g2, by rw [hP0]; exact g4, hb⟩
  case round =>
    obtain ⟨k, hk, rfl, k0, k3, k2, ho, hb⟩ := hrel
    have HO := Lib.hid ho
    clear ho g0 g2 g3 g4
    by_cases hlt : k < N
    · have hd : decide ((k : Int) < (N : Int)) = true := by simp; omega
      obtain ⟨r0, f0, -, z0, l0⟩ := k0.facts
      have c0 := (k3.cell 0).trans (show _ = some (.int .i8 (S k).2.1.1.val) from rfl)
      have c1 := (k3.cell 1).trans (show _ = some (.int .i8 (S k).2.1.2.val) from rfl)
      have c2 := (k3.cell 2).trans (show _ = some (.int .i8 (S k).2.2.1.val) from rfl)
      have c3 := (k3.cell 3).trans (show _ = some (.int .i8 (S k).2.2.2.val) from rfl)
      have l3 := k3.lt
      have HNK := Lib.hid (HNI.out k)
      have HPK := Lib.hid (HPS.out k)
      have HPN := Lib.hid (HPL.out k)
      obtain ⟨A, hA⟩ : ∃ A, S k = A := ⟨_, rfl⟩
      obtain ⟨C, hC⟩ : ∃ C, S (k + 1) = C := ⟨_, rfl⟩
      have HSC := Lib.hid hC
      rw [hA] at k0 k3 r0 c0 c1 c2 c3 HNK
      rw [hC] at HNK HPK
      clear hA hC
      go_wp2_with fail
      refine (HNK.out _).mono ?_
      rintro e w2 ⟨rfl, hb1⟩
      have m0 := k0.below hb1 k0.lt
      have m3 := k3.below hb1 k3.lt
      have m2 := k2.below hb1 k2.lt
      have HO2 := Lib.hid (own_below HO.out hb1)
      have hb2 : Below s w w2 := hb.trans (hb1.mono (by omega))
      have hz := m3.lt
      clear k0 k3 k2 hb hb1 HO r0 f0 z0 l0 c0 c1 c2 c3 l3
      obtain ⟨r0, f0, -, z0, l0⟩ := m0.facts
      have e1 : Holds (w2.setRow s (levV C.1)) (s + 1 + 1 + 1) (moleV A.2.1 A.2.2) := ((Only.refl [s] w2).setRow (g := s) (.inl (by simp)) (levV C.1)).holds m3 (by simp <;> omega)
      have e2 := e1.setCell 0 (.int .i8 C.2.1.1.val)
      have e3 := e2.setCell 1 (.int .i8 C.2.1.2.val)
      have e4 := e3.setCell 2 (.int .i8 C.2.2.1.val)
      have c30 := (e1.cell 0).trans (show _ = some (.int .i8 A.2.1.1.val) from rfl)
      have c31 := (e2.cell 1).trans (show _ = some (.int .i8 A.2.1.2.val) from rfl)
      have c32 := (e3.cell 2).trans (show _ = some (.int .i8 A.2.2.1.val) from rfl)
      have c33 := (e4.cell 3).trans (show _ = some (.int .i8 A.2.2.2.val) from rfl)
      have z30 := e1.free 0
      have z31 := e2.free 1
      have z32 := e3.free 2
      have z33 := e4.free 3
      clear e1 e2 e3 e4
      obtain ⟨W4, hW4⟩ : ∃ W4, ((((w2.setRow s (levV C.1)).setCell ⟨s + 1 + 1 + 1, 0, none⟩ (.int .i8 C.2.1.1.val)).setCell ⟨s + 1 + 1 + 1, 1, none⟩ (.int .i8 C.2.1.2.val)).setCell ⟨s + 1 + 1 + 1, 2, none⟩ (.int .i8 C.2.2.1.val)).setCell ⟨s + 1 + 1 + 1, 3, none⟩ (.int .i8 C.2.2.2.val) = W4 := ⟨_, rfl⟩
      have hO4 : Only [s, s + 1 + 1 + 1] w2 W4 := by rw [← hW4]; exact (((((Only.refl _ w2).setRow (.inl (by simp)) _).setCell (.inl (by simp)) _).setCell (.inl (by simp)) _).setCell (.inl (by simp)) _).setCell (.inl (by simp)) _
      have n0 : Holds W4 s (levV C.1) := by rw [← hW4]; exact ((((m0.setRow (levV C.1)).setCell_other _ _ (by dsimp only; omega)).setCell_other _ _ (by dsimp only; omega)).setCell_other _ _ (by dsimp only; omega)).setCell_other _ _ (by dsimp only; omega)
      have n3 : Holds W4 (s + 1 + 1 + 1) (moleV C.2.1 C.2.2) := by rw [← hW4]; exact ((((((Only.refl [s] w2).setRow (g := s) (.inl (by simp)) (levV C.1)).holds m3 (by simp <;> omega)).setCell 0 _).setCell 1 _).setCell 2 _).setCell 3 _
      have n2 := hO4.holds m2 (by simp <;> omega)
      have HO4 := Lib.hid (hO4.own HO2.out (fun z hz => by have := own_far HO2.out z hz; simp; omega))
      have hb4 : Below s w W4 := hb2.trans (hO4.toBelow (by simp; omega) (by omega))
      have hz4 := n3.lt
      have q0 := (n3.cell 0).trans (show _ = some (.int .i8 C.2.1.1.val) from rfl)
      have q1 := (n3.cell 1).trans (show _ = some (.int .i8 C.2.1.2.val) from rfl)
      simp only [moleV]
      clear m0 m2 m3 hb2 HO2 hO4
      go_wp2_with (at_builtin; refine wpList_append_own_at _ rfl _ _ 47 rfl (s + 4) 30 ci (.agg #[.int .i8 0, .int .i8 0]) 2 2 Tryz.underlying47 HCI.out.1 HCI.out.2.1 HCI.out.2.2.1 HCI.out.2.2.2 rfl (by decide) _ _ _ rfl (HO4.out.alloc _) ⟨W4.heap.size, 0, none⟩ 1 1 [.int .i8 C.2.1.1.val, .int .i8 C.2.1.2.val] rfl rfl ?c1 ?c2 ?c3 ?c4 ?c5 ?_)
      case c1 =>
        intro m z hz
        match m, hz with
        | 0, hz => simp at hz; subst hz; exact (Holds.new W4 #[.int .i8 C.2.1.1.val, .int .i8 C.2.1.2.val] 30).cell 0
        | 1, hz => simp at hz; subst hz; exact (Holds.new W4 #[.int .i8 C.2.1.1.val, .int .i8 C.2.1.2.val] 30).cell 1
      case c2 => intro z hz; simp at hz; rcases hz with rfl | rfl <;> rfl
      case c3 => unfold maxLen; omega
      case c4 => omega
      case c5 => simp; omega
      intro v' w9 hown' hgrow _ hat
      have ho9 : w9.ownsRow (s + 4) 30 2 v' (k + 1 + 1) (flatV (P (k + 1))) := by
        rw [HPK.out, flatV_append]
        exact hown'
      have p0 := held_grown (n0.alloc (.cells #[.int .i8 C.2.1.1.val, .int .i8 C.2.1.2.val] 30)) (HO4.out.alloc _) hgrow (by omega)
      have p2 := held_grown (n2.alloc (.cells #[.int .i8 C.2.1.1.val, .int .i8 C.2.1.2.val] 30)) (HO4.out.alloc _) hgrow (by omega)
      have p3 := held_grown (n3.alloc (.cells #[.int .i8 C.2.1.1.val, .int .i8 C.2.1.2.val] 30)) (HO4.out.alloc _) hgrow (by omega)
      have hb9 : Below s w w9 := (hb4.alloc (by omega) (.cells #[.int .i8 C.2.1.1.val, .int .i8 C.2.1.2.val] 30)).grown hgrow (by simp; omega) (fun z hz => by have := own_far HO4.out z hz; omega)
      have HO9 := Lib.hid ho9
      clear hown' hgrow hat ho9 n0 n2 n3 hb4 HO4 q0 q1
      go_wp2_with fail
      go_roundw
      case rel => exact ⟨k + 1, by omega, by go_num, by rw [HSC.out]; exact p0, by rw [HSC.out]; exact p3, p2, HO9.out, hb9⟩
      case measure => simp [intOf]; omega
    · have hd : decide ((k : Int) < (N : Int)) = false := by simp; omega
      have hkN : k = N := by omega
      rw [hkN] at HO k0
      obtain ⟨av, cv, hve⟩ := own_slice HO.out
      subst hve
      obtain ⟨r0, f0, -, z0, l0⟩ := k0.facts
      obtain ⟨r2, f2, -, z2, l2⟩ := k2.facts
      have q2 := k2.setRow (levV (S N).1)
      have HF := Lib.hid (show (wr.setRow (s + 1 + 1) (levV (S N).1)).ownsRow s 30 2 (.slice av (N + 1) cv) (N + 1) (flatV (P N)) from ownsRow_low (((Only.refl [s + 1 + 1] wr).setRow (.inl (by simp)) _).own HO.out (fun z hz => by have := own_far HO.out z hz; simp; omega)) (by omega))
      clear hkN k3
      go_wp2_with fail
      exact bodyPost_ret (results_cell_own (v := .slice av (N + 1) cv) rfl wideLv _ rfl q2 (by simp) rfl) rfl ⟨⟨_, rfl, HF.out⟩, below_setRow' hb (by omega) _⟩
end Go.Proofs.YtabemgplddfemaaGreatDoor
