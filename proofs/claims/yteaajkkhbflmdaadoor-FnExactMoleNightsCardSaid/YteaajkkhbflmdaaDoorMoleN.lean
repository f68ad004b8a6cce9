/- A night of a mole, of the program. -/
import Derived.Test.YteaajkkhbflmdaaDoorMoleP
import Derived.Test.YteaajkkhbflmdaaDoorVLev
namespace Go.Proofs.YteaajkkhbflmdaaDoor
open Go.RowKit Go.Shelf
set_option linter.unusedVariables false
set_option linter.unusedSimpArgs false
attribute [local go_sem ↓] loadRow loadGrid loadLawn loadMirror storeRow storeGrid storeLawn allocRow allocGrid allocLawn buildZero buildSides loadR8 loadL8 loadLv storeR8 storeLv allocR8 allocLv buildZLv

def moleV (q bf : Q10) : Array Value := #[.int .i8 q.1.val, .int .i8 q.2.val, .int .i8 bf.1.val, .int .i8 bf.2.val]

set_option maxRecDepth 100000 in
theorem back_is (x y : Nat) (q bf : Q10) (b : Nat) (w : World) (hb : Holds w b (moleV q bf)) (d : Q10) (hx : d.1.val = x) (hy : d.2.val = y) (r : Bool) (hr : (d == bf) = r) :
    Calls Tryd.prog 78 #[.agg #[.int .i8 x, .int .i8 y], .pointer (some ⟨b, 0, none⟩)] w fun e w' => e = .returned (.bool r) ∧ Below w.heap.size w w' := by
  have hl := hb.lt
  have k0 := hb.alloc (.cells #[.int .i8 x, .int .i8 y] 39)
  have c2 := (k0.cell 2).trans (show _ = some (.int .i8 bf.1.val) from rfl)
  have c3 := (k0.cell 3).trans (show _ = some (.int .i8 bf.2.val) from rfl)
  have hb0 : Below w.heap.size w (w.alloc (.cells #[.int .i8 x, .int .i8 y] 39)) := (Below.refl _ _).alloc (Nat.le_refl _) _
  obtain ⟨bx, hbx⟩ : ∃ bx : Nat, bf.1.val = bx := ⟨_, rfl⟩
  obtain ⟨by', hby⟩ : ∃ y : Nat, bf.2.val = y := ⟨_, rfl⟩
  have hr2 : ((x : Int) == bx && (y : Int) == by') = r := by
    rw [← hr, Bool.eq_iff_iff]
    obtain ⟨⟨d1, _⟩, ⟨d2, _⟩⟩ := d
    obtain ⟨⟨f1, _⟩, ⟨f2, _⟩⟩ := bf
    simp only [Bool.and_eq_true, beq_iff_eq, Prod.mk.injEq, Fin.mk.injEq] at *
    omega
  rw [hbx] at c2
  rw [hby] at c3
  clear hb k0 hr hx hy hbx hby
  by_cases h1 : (x : Int) = bx
  · by_cases h2 : (y : Int) = by'
    · have hR : r = true := by rw [← hr2]; simp [h1, h2]
      subst hR
      rw [← h1] at c2
      rw [← h2] at c3
      clear h1 h2 hr2
      go_enter Tryd.func78, Tryd.ntmps78
      go_wp2_with fail
      go_ret
      exact ⟨rfl, hb0⟩
    · have hR : r = false := by rw [← hr2]; simp [h2]
      subst hR
      rw [← h1] at c2
      clear h1 hr2
      go_enter Tryd.func78, Tryd.ntmps78
      go_wp2_with fail
      go_ret
      exact ⟨rfl, hb0⟩
  · have hR : r = false := by rw [← hr2]; simp [h1]
    subst hR
    clear hr2
    go_enter Tryd.func78, Tryd.ntmps78
    go_wp2_with fail
    go_ret
    exact ⟨rfl, hb0⟩

set_option maxRecDepth 100000 in
set_option maxHeartbeats 1000000 in
theorem low_is (g : Nat → Nat → Int) (b : Nat) (x y x' y' : Nat) (hx : x < 10) (hy : y < 10) (hx' : x' < 10) (hy' : y' < 10) (w : World) (hb : Holds w b (levV g)) :
    Calls Tryd.prog 80 #[.agg #[.int .i8 x, .int .i8 y], .agg #[.int .i8 x', .int .i8 y'], .pointer (some ⟨b, 0, none⟩)] w fun e w' => e = .returned (.bool (decide (g y x < g y' x'))) ∧ Below w.heap.size w w' := by
  have HN := Lib.hid (level_any g x y hx hy)
  have HN2 := Lib.hid (level_any g x' y' hx' hy')
  have c0 := (Holds.new w #[.int .i8 x, .int .i8 y] 39).alloc (.cells #[.int .i8 x', .int .i8 y'] 39)
  have c1 := Holds.new' (w.alloc (.cells #[.int .i8 x, .int .i8 y] 39)) #[.int .i8 x', .int .i8 y'] 39 (w.heap.size + 1) (by simp)
  have b1 := (hb.alloc (.cells #[.int .i8 x, .int .i8 y] 39)).alloc (.cells #[.int .i8 x', .int .i8 y'] 39)
  have hb0 := ((Below.refl w.heap.size w).alloc (Nat.le_refl _) (.cells #[.int .i8 x, .int .i8 y] 39)).alloc (by simp) (.cells #[.int .i8 x', .int .i8 y'] 39)
  obtain ⟨W0, hW0⟩ : ∃ W0, (w.alloc (.cells #[.int .i8 x, .int .i8 y] 39)).alloc (.cells #[.int .i8 x', .int .i8 y'] 39) = W0 := ⟨_, rfl⟩
  rw [hW0] at c0 b1 c1 hb0
  go_enter Tryd.func80, Tryd.ntmps80
  go_wp2_with fail
  clear hW0
  obtain ⟨r0, -⟩ := b1.later
  obtain ⟨-, s0⟩ := c0.later
  obtain ⟨-, s1⟩ := c1.later
  refine wp_region_grow 7 (by kernel_rfl) (by kernel_rfl) ?_
  simp only [List.take_succ_cons, List.take_zero, List.drop_succ_cons, List.drop_zero]
  iterate 7
    apply wpGrow_plain rfl
    · intro w' hw' K hK
      have e0 := s0 _ hw'
      have e1 := s1 _ hw'
      have e2 := r0 _ hw'
      go_wp2_with (first | (go_at_call 57; with_reducible refine (HN.out _).mono ?_; rintro e w1 ⟨rfl, hb1⟩) | (go_at_call 57; with_reducible refine (HN2.out _).mono ?_; rintro e w1 ⟨rfl, hb1⟩))
      first | exact hK _ _ rfl hw' | exact hK _ _ rfl (below_onto hw' hb1)
    simp only [Act.put, List.setIfInBounds_toArray, List.set_cons_succ, List.set_cons_zero]
  refine wpGrow_nil ?_
  intro W1 hW
  have hb2 := below_onto hb0 hW
  clear r0 s0 s1 b1 c1 c0 hW hb0
  go_wp2_with fail
  go_ret
  exact ⟨rfl, hb2⟩

set_option maxRecDepth 100000 in
set_option maxHeartbeats 4000000 in
theorem next_any (L : Lawn) (hL : L.Fits) (hV : validB L = true) (g : Nat → Nat → Int) (q bf : Q10) (w : World) :
    Calls Tryd.prog 65 #[.agg (moleV q bf), .agg L.cells, .agg (levV g)] w fun e w' => e = .returned (.agg (moleV (nextQ L g q bf) q)) ∧ Below w.heap.size w w' := by
  obtain ⟨ci, hi, hz0, hz1, hz2⟩ := info_parts cellInfo
  have HCI := Lib.hid (show Tryd.prog.info? 39 = some ci ∧ ci.zero = some (.agg #[.int .i8 0, .int .i8 0]) ∧ ci.size = 2 ∧ ci.bytes = 2 from ⟨hi, hz0, hz1, hz2⟩)
  have HG := Lib.hid (show ∀ (c : Pt) (w : World), Calls Tryd.prog 55 #[.agg L.cells, .agg #[.int .i8 c.1, .int .i8 c.2]] w fun e w' => e = .returned (.bool (grassP L c)) ∧ Below w.heap.size w w' from fun c w => isGrass_any L hV hL c.1 c.2 w)
  have HNR := Lib.hid (fun c h => grassP_near (L := L) hV c h)
  have HK1 := Lib.hid (fun k (c : Pt) => wayK_hit (L := L) (q := q) (k := k) (c := c))
  have HK0 := Lib.hid (fun k (c : Pt) => wayK_miss (L := L) (q := q) (k := k) (c := c))
  have HKL := Lib.hid (fun k => wayK_le L q k)
  have HE1 := Lib.hid (show ∀ args w, (callFunc 78 args).run Tryd.prog w = .ok (.enter 78 args) w from fun args w => enters_of Tryd.func78 (by kernel_rfl) rfl args w)
  have HE2 := Lib.hid (show ∀ args w, (callFunc 80 args).run Tryd.prog w = .ok (.enter 80 args) w from fun args w => enters_of Tryd.func80 (by kernel_rfl) rfl args w)
  have hK0 : wayK L q 0 = [] := rfl
  have HNQ := Lib.hid (show nextQ L g q bf = (bestL (ltQ g) (leftQ L q bf) (leftQ L q bf).length).getD q from rfl)
  have HLQ := Lib.hid (show leftQ L q bf = if 1 < (wayK L q 4).length then (wayK L q 4).filter (fun c => c != bf) else wayK L q 4 from rfl)
  obtain ⟨Y, hY⟩ : ∃ Y : Nat → List Q10, wayK L q = Y := ⟨_, rfl⟩
  rw [hY] at HK1 HK0 HKL hK0 HLQ
  clear hi hz0 hz1 hz2 hY hL hV
  obtain ⟨s, hs⟩ : ∃ s, w.heap.size = s := ⟨_, rfl⟩
  obtain ⟨W0, hW0⟩ : ∃ W0, (((w.alloc (.cells (moleV q bf) 86)).alloc (.cells L.cells 36)).alloc (.cells (levV g) 33)).alloc (.cells #[.int .i8 0, .int .i8 0, .int .i8 0, .int .i8 0] 86) = W0 := ⟨_, rfl⟩
  have g0 : Holds W0 s (moleV q bf) := by rw [← hW0]; exact (((Holds.new' _ _ _ _ hs.symm).alloc _).alloc _).alloc _
  have g1 : Holds W0 (s + 1) L.cells := by rw [← hW0]; exact ((Holds.new' _ _ _ _ (by simp; omega)).alloc _).alloc _
  have g2 : Holds W0 (s + 1 + 1) (levV g) := by rw [← hW0]; exact (Holds.new' _ _ _ _ (by simp; omega)).alloc _
  have g3 : Holds W0 (s + 1 + 1 + 1) #[.int .i8 0, .int .i8 0, .int .i8 0, .int .i8 0] := by rw [← hW0]; exact Holds.new' _ _ _ _ (by simp; omega)
  have hb : Below s w W0 := by rw [← hW0]; exact ((((Below.refl s w).alloc (by omega) _).alloc (by simp; omega) _).alloc (by simp; omega) _).alloc (by simp; omega) _
  have hz : W0.heap.size = s + 4 := by rw [← hW0]; simp; omega
  have HS := Lib.hid hs
  rw [hs]
  go_enter Tryd.func65, Tryd.ntmps65
  go_wp2_with fail
  clear hW0
  refine (sides_any _).mono ?_
  rintro e w1 ⟨rfl, hb1⟩
  have k0 := g0.below hb1 g0.lt
  have k1 := g1.below hb1 g1.lt
  have k2 := g2.below hb1 g2.lt
  have k3 := g3.below hb1 g3.lt
  have hb2 : Below s w w1 := hb.trans (hb1.mono (by omega))
  obtain ⟨B1, hB1⟩ : ∃ B1, w1.heap.size = B1 := ⟨_, rfl⟩
  have hz1 : s + 4 ≤ B1 := by have := hb1.size; omega
  have hBr0 : Below B1 w1 w1 := Below.refl _ _
  have HB1 := Lib.hid hB1
  clear g0 g1 g2 g3 hb hb1 hz hB1
  go_wp2_with fail
  go_loopw [7, 14] (fun v x wr => ∃ k : Nat, k ≤ 4 ∧ x = .int .i64 k ∧ wr.ownsRow B1 39 2 v (Y k).length (flatV (Y k)) ∧ Below B1 w1 wr) (fun _ x _ => 4 - (intOf x).toNat)
  case atStart => exact ⟨0, by omega, rfl, by rw [hK0]; exact World.ownsRow_nil _ _ _ _, hBr0⟩
  case round =>
    obtain ⟨k, hk, rfl, ho, hbr⟩ := hrel
    have HO := Lib.hid ho
    have m0 := k0.below hbr (by have := k0.lt; have := HB1.out; omega)
    have m1 := k1.below hbr (by have := k1.lt; have := HB1.out; omega)
    have m2 := k2.below hbr (by have := k2.lt; have := HB1.out; omega)
    have m3 := k3.below hbr (by have := k3.lt; have := HB1.out; omega)
    have HBR := Lib.hid hbr
    have hbs : Below s w _ := hb2.trans (hbr.mono (by omega))
    have hzr := hbr.size
    rw [HB1.out] at hzr
    clear ho k0 k1 k2 k3 hb2 hbr hBr0
    by_cases hlt : k < 4
    · have hdk : decide ((k : Int) < (4 : Int)) = true := by simp; omega
      obtain ⟨c, hc⟩ : ∃ c, (beside (ptQ q))[k]? = some c := ⟨_, List.getElem?_eq_getElem (by simpa [beside] using hlt)⟩
      have HC := Lib.hid hc
      have HSd := Lib.hid (side_any k hlt (ptQ q) c hc ⟨⟨by simp [ptQ], by simp [ptQ]; have := q.1.isLt; omega⟩, by simp [ptQ], by simp [ptQ]; have := q.2.isLt; omega⟩)
      have hix := fun w => sides_index k hlt w
      have hEs := side_enters k hlt
      obtain ⟨gv, hgv⟩ : ∃ gv, grassP L c = gv := ⟨_, rfl⟩
      have HGV := Lib.hid hgv
      have HGC := Lib.hid (fun w => hgv ▸ HG.out c w)
      have c00 := (m0.cell 0).trans (show _ = some (.int .i8 q.1.val) from rfl)
      have c01 := (m0.cell 1).trans (show _ = some (.int .i8 q.2.val) from rfl)
      have l0 := m0.lt
      clear hc hgv
      go_wp2_with fail
      refine (HSd.out _).mono ?_
      rintro e w2 ⟨rfl, hb3⟩
      have M1 := m1.below hb3 m1.lt
      have hbb := Lib.hid hb3
      obtain ⟨Wc, hWc⟩ : ∃ Wc, w2.alloc (.cells #[.int .i8 c.1, .int .i8 c.2] 39) = Wc := ⟨_, rfl⟩
      have hbc : Below w2.heap.size w2 Wc := by rw [← hWc]; exact (Below.refl _ _).alloc (Nat.le_refl _) _
      have hcc : Holds Wc w2.heap.size #[.int .i8 c.1, .int .i8 c.2] := by rw [← hWc]; exact Holds.new _ _ _
      have M1c := M1.below hbc M1.lt
      obtain ⟨r1, -, -, -, l1⟩ := M1c.facts
      have d0 := (hcc.cell 0).trans (show _ = some (.int .i8 c.1) from rfl)
      have d1 := (hcc.cell 1).trans (show _ = some (.int .i8 c.2) from rfl)
      clear c00 c01 l0 hix hEs
      go_wp2_with fail
      try rw [hWc]
      refine (HGC.out _).mono ?_
      rintro e w3 ⟨rfl, hb4⟩
      have hb5 : Below wr.heap.size wr w3 := below_onto (below_onto hbb.out hbc) hb4
      have HO3 := Lib.hid (own_below HO.out hb5)
      have hcc3 := hcc.below hb4 hcc.lt
      have hb6 : Below B1 w1 w3 := HBR.out.trans (hb5.mono hzr)
      have hle := HKL.out k
      have d0 := (hcc3.cell 0).trans (show _ = some (.int .i8 c.1) from rfl)
      have d1 := (hcc3.cell 1).trans (show _ = some (.int .i8 c.2) from rfl)
      have hz3 := hb5.size
      clear hWc hb4 M1 M1c r1 l1 hcc hcc3 hb5 HO
      cases gv
      · have HN := Lib.hid (HK0.out k c HC.out HGV.out)
        go_wp2_with fail
        go_roundw
        case rel => exact ⟨k + 1, by omega, by go_num, by rw [HN.out]; exact HO3.out, hb6⟩
        case measure => simp [intOf]; omega
      · have HN := Lib.hid (HK1.out k c HC.out HGV.out)
        have HPT := Lib.hid (ptQ_toQ (HNR.out c HGV.out))
        have hbw : Below B1 w1 (w3.alloc (.cells #[.int .i8 c.1, .int .i8 c.2] 39)) := hb6.alloc (by omega) _
        go_wp2_with (at_builtin; refine wpList_append_own_at _ rfl _ _ 57 rfl B1 39 ci (.agg #[.int .i8 0, .int .i8 0]) 2 2 Tryd.underlying57 HCI.out.1 HCI.out.2.1 HCI.out.2.2.1 HCI.out.2.2.2 rfl (by decide) _ _ _ rfl (HO3.out.alloc _) ⟨w3.heap.size, 0, none⟩ 1 1 [.int .i8 c.1, .int .i8 c.2] rfl rfl ?c1 ?c2 ?c3 ?c4 ?c5 ?_)
        case c1 =>
          intro m z hz
          match m, hz with
          | 0, hz => simp at hz; subst hz; exact (Holds.new w3 #[.int .i8 c.1, .int .i8 c.2] 39).cell 0
          | 1, hz => simp at hz; subst hz; exact (Holds.new w3 #[.int .i8 c.1, .int .i8 c.2] 39).cell 1
        case c2 => intro z hz; simp at hz; rcases hz with rfl | rfl <;> rfl
        case c3 => unfold maxLen; omega
        case c4 => omega
        case c5 => simp; omega
        intro v' w9 hown' hgrow _ hat
        have ho9 : w9.ownsRow B1 39 2 v' (Y (k + 1)).length (flatV (Y (k + 1))) := by
          rw [HN.out, flatV_append, List.length_append]
          have e : flatV [toQ c] = [.int .i8 c.1, .int .i8 c.2] := by
            have := HPT.out
            simp only [ptQ, Prod.ext_iff] at this
            simp only [flatV, List.flatMap_cons, List.flatMap_nil, List.append_nil, this.1, this.2]
          rw [e]
          exact hown'
        have hb9 : Below B1 w1 w9 := hbw.grown hgrow (by simp; omega) (fun z hz => own_far HO3.out z hz)
        have HO9 := Lib.hid ho9
        clear hown' hgrow hat ho9 hbw hb6 d0 d1
        go_wp2_with fail
        go_roundw
        case rel => exact ⟨k + 1, by omega, by go_num, HO9.out, hb9⟩
        case measure => simp [intOf]; omega
    · have hdk : decide ((k : Int) < (4 : Int)) = false := by simp; omega
      have hk4 : k = 4 := by omega
      rw [hk4] at HO
      obtain ⟨av, cv, hve⟩ := own_slice HO.out
      subst hve
      obtain ⟨ws, hws⟩ : ∃ ws, Y 4 = ws := ⟨_, rfl⟩
      have hl4 := HKL.out 4
      rw [hws] at HO HLQ hl4 ⊢
      obtain ⟨n, hn⟩ : ∃ n, ws.length = n := ⟨_, rfl⟩
      have HN := Lib.hid hn
      rw [hn] at HO HLQ hl4 ⊢
      have HBK := Lib.hid (show ∀ (w' : World), Holds w' s (moleV q bf) → ∀ d : Q10, Calls Tryd.prog 78 #[.agg #[.int .i8 d.1.val, .int .i8 d.2.val], .pointer (some ⟨s, 0, none⟩)] w' fun e w'' => e = .returned (.bool (!(d != bf))) ∧ Below w'.heap.size w' w'' from fun w' hh d => back_is d.1.val d.2.val q bf s w' hh d rfl rfl _ (by simp [bne]))
      have HLW := Lib.hid (show ∀ (w' : World), Holds w' (s + 1 + 1) (levV g) → ∀ c d : Q10, Calls Tryd.prog 80 #[.agg #[.int .i8 c.1.val, .int .i8 c.2.val], .agg #[.int .i8 d.1.val, .int .i8 d.2.val], .pointer (some ⟨s + 1 + 1, 0, none⟩)] w' fun e w'' => e = .returned (.bool (ltQ g c d)) ∧ Below w'.heap.size w' w'' from fun w' hh c d => low_is g (s + 1 + 1) c.1.val c.2.val d.1.val d.2.val c.1.isLt c.2.isLt d.1.isLt d.2.isLt w' hh)
      clear hk4 hws hn
      by_cases h1 : 1 < n
      · have hd1 : decide ((1 : Int) < (n : Int)) = true := by simp; omega
        rw [if_pos h1] at HLQ
        go_wp2_with fail
        refine (deleteC_any (fun d => d != bf) _ #[.pointer (some ⟨s, 0, none⟩)] HE1.out B1 n _ (by omega) ws HN.out _ HO.out (fun d w4 hb5 => HBK.out w4 (m0.below hb5 (by have := m0.lt; omega)) d) hzr).mono ?_
        obtain ⟨LQ, hlq0⟩ : ∃ LQ, ws.filter (fun c => c != bf) = LQ := ⟨_, rfl⟩
        rw [hlq0] at HLQ ⊢
        have hlq := HLQ.out
        have hml : LQ.length ≤ 4 := by rw [← hlq0]; exact Nat.le_trans (List.length_filter_le _ _) (by have := HN.out; omega)
        obtain ⟨m, hm⟩ : ∃ m, LQ.length = m := ⟨_, rfl⟩
        rw [hm] at hml ⊢
        rintro e w3 ⟨⟨v2, rfl, hv2⟩, hb3⟩
        have HV2 := Lib.hid hv2
        have x0 := m0.below hb3 (by omega)
        have x2 := m2.below hb3 (by omega)
        have x3 := m3.below hb3 (by omega)
        have hbx : Below s w w3 := hbs.trans (hb3.mono (by omega))
        clear hv2 hb3 hbs m0 m1 m2 m3 HO hlq0
        have hm4 : m ≤ 100 := by omega
        have HM := Lib.hid hm
        obtain ⟨ao, co, hoe⟩ := own_slice HV2.out
        subst hoe
        go_wp2_with fail
        refine (bestC_any (ltQ g) _ #[.pointer (some ⟨s + 1 + 1, 0, none⟩)] HE2.out B1 m _ hm4 LQ HM.out _ (fun c d w4 hb5 => HLW.out w4 (x2.below hb5 x2.lt) c d) HV2.out).mono ?_
        obtain ⟨o, ho⟩ : ∃ o, bestL (ltQ g) LQ m = o := ⟨_, rfl⟩
        have hdo : decide (0 < m) = o.isSome := by
          cases o with
          | none =>
            have := bestL_none (ltQ g) LQ (by rw [HM.out]; exact ho)
            have h0 := HM.out
            rw [this] at h0
            simp at h0
            simp [← h0]
          | some b =>
            have := bestL_mem (ltQ g) LQ b (by rw [HM.out]; exact ho)
            have h0 : 0 < LQ.length := List.length_pos_of_mem this
            simp
            have := HM.out
            omega
        have HNX := Lib.hid (show nextQ L g q bf = o.getD q by rw [HNQ.out, hlq, HM.out, ho])
        rw [ho, hdo]
        clear ho hdo hlq hm
        rintro e w4 ⟨rfl, hb6⟩
        have y0 := x0.below hb6 x0.lt
        have y3 := x3.below hb6 x3.lt
        have hb7 : Below s w w4 := hbx.trans (hb6.mono (by have := x0.lt; omega))
        have q00 := (y0.cell 0).trans (show _ = some (.int .i8 q.1.val) from rfl)
        have q01 := (y0.cell 1).trans (show _ = some (.int .i8 q.2.val) from rfl)
        have ly := y0.lt
        obtain ⟨-, -, cy, zy, ly3⟩ := y3.facts
        have cy0 := (cy 0).trans (show _ = some (.int .i8 0) from rfl)
        have cy1 := (cy 1).trans (show _ = some (.int .i8 0) from rfl)
        have cy2 := (cy 2).trans (show _ = some (.int .i8 0) from rfl)
        have cy3 := (cy 3).trans (show _ = some (.int .i8 0) from rfl)
        have zy0 := zy 0
        have zy1 := zy 1
        have zy2 := zy 2
        have zy3 := zy 3
        clear x0 x2 x3 hbx hb6 cy zy HV2
        cases o
        · simp only [cellO, Option.isSome_none]
          go_wp2_with fail
          exact bodyPost_ret (v := .agg (moleV q q)) (results_cell_holds (n := 4) rfl (by kernel_rfl) _ rfl (((((y3.setCell 0 (.int .i8 q.1.val)).setCell 1 (.int .i8 q.2.val)).setCell 2 (.int .i8 q.1.val)).setCell 3 (.int .i8 q.2.val)).alloc _) rfl) rfl ⟨by rw [HNX.out]; rfl, ((((hb7.setCell (p := ⟨s + 1 + 1 + 1, 0, none⟩) (by dsimp only; omega) _).setCell (p := ⟨s + 1 + 1 + 1, 1, none⟩) (by dsimp only; omega) _).setCell (p := ⟨s + 1 + 1 + 1, 2, none⟩) (by dsimp only; omega) _).setCell (p := ⟨s + 1 + 1 + 1, 3, none⟩) (by dsimp only; omega) _).alloc (by simp; omega) _⟩
        · rename_i bq
          simp only [cellO, Option.isSome_some]
          go_wp2_with fail
          exact bodyPost_ret (v := .agg (moleV bq q)) (results_cell_holds (n := 4) rfl (by kernel_rfl) _ rfl (((((y3.setCell 0 (.int .i8 bq.1.val)).setCell 1 (.int .i8 bq.2.val)).setCell 2 (.int .i8 q.1.val)).setCell 3 (.int .i8 q.2.val)).alloc _) rfl) rfl ⟨by rw [HNX.out]; rfl, ((((hb7.setCell (p := ⟨s + 1 + 1 + 1, 0, none⟩) (by dsimp only; omega) _).setCell (p := ⟨s + 1 + 1 + 1, 1, none⟩) (by dsimp only; omega) _).setCell (p := ⟨s + 1 + 1 + 1, 2, none⟩) (by dsimp only; omega) _).setCell (p := ⟨s + 1 + 1 + 1, 3, none⟩) (by dsimp only; omega) _).alloc (by simp; omega) _⟩
      · have hd1 : decide ((1 : Int) < (n : Int)) = false := by simp; omega
        rw [if_neg h1] at HLQ
        obtain ⟨LQ, m, hLm⟩ : ∃ (LQ : List Q10) (m : Nat), LQ = ws ∧ m = n := ⟨_, _, rfl, rfl⟩
        obtain ⟨hl1, hm1⟩ := hLm
        rw [← hl1] at HLQ HN HO
        rw [← hm1] at HN HO hl4 hd1 ⊢
        have hlq := HLQ.out
        have hml := hl4
        have hm := HN.out
        have HV2 := HO
        have x0 := m0
        have x2 := m2
        have x3 := m3
        have hbx := hbs
        clear hbs m0 m1 m2 m3 HO hl1 hm1 h1
        have hm4 : m ≤ 100 := by omega
        have HM := Lib.hid hm
        go_wp2_with fail
        refine (bestC_any (ltQ g) _ #[.pointer (some ⟨s + 1 + 1, 0, none⟩)] HE2.out B1 m _ hm4 LQ HM.out _ (fun c d w4 hb5 => HLW.out w4 (x2.below hb5 x2.lt) c d) HV2.out).mono ?_
        obtain ⟨o, ho⟩ : ∃ o, bestL (ltQ g) LQ m = o := ⟨_, rfl⟩
        have hdo : decide (0 < m) = o.isSome := by
          cases o with
          | none =>
            have := bestL_none (ltQ g) LQ (by rw [HM.out]; exact ho)
            have h0 := HM.out
            rw [this] at h0
            simp at h0
            simp [← h0]
          | some b =>
            have := bestL_mem (ltQ g) LQ b (by rw [HM.out]; exact ho)
            have h0 : 0 < LQ.length := List.length_pos_of_mem this
            simp
            have := HM.out
            omega
        have HNX := Lib.hid (show nextQ L g q bf = o.getD q by rw [HNQ.out, hlq, HM.out, ho])
        rw [ho, hdo]
        clear ho hdo hlq hm
        rintro e w4 ⟨rfl, hb6⟩
        have y0 := x0.below hb6 x0.lt
        have y3 := x3.below hb6 x3.lt
        have hb7 : Below s w w4 := hbx.trans (hb6.mono (by have := x0.lt; omega))
        have q00 := (y0.cell 0).trans (show _ = some (.int .i8 q.1.val) from rfl)
        have q01 := (y0.cell 1).trans (show _ = some (.int .i8 q.2.val) from rfl)
        have ly := y0.lt
        obtain ⟨-, -, cy, zy, ly3⟩ := y3.facts
        have cy0 := (cy 0).trans (show _ = some (.int .i8 0) from rfl)
        have cy1 := (cy 1).trans (show _ = some (.int .i8 0) from rfl)
        have cy2 := (cy 2).trans (show _ = some (.int .i8 0) from rfl)
        have cy3 := (cy 3).trans (show _ = some (.int .i8 0) from rfl)
        have zy0 := zy 0
        have zy1 := zy 1
        have zy2 := zy 2
        have zy3 := zy 3
        clear x0 x2 x3 hbx hb6 cy zy HV2
        cases o
        · simp only [cellO, Option.isSome_none]
          go_wp2_with fail
          exact bodyPost_ret (v := .agg (moleV q q)) (results_cell_holds (n := 4) rfl (by kernel_rfl) _ rfl (((((y3.setCell 0 (.int .i8 q.1.val)).setCell 1 (.int .i8 q.2.val)).setCell 2 (.int .i8 q.1.val)).setCell 3 (.int .i8 q.2.val)).alloc _) rfl) rfl ⟨by rw [HNX.out]; rfl, ((((hb7.setCell (p := ⟨s + 1 + 1 + 1, 0, none⟩) (by dsimp only; omega) _).setCell (p := ⟨s + 1 + 1 + 1, 1, none⟩) (by dsimp only; omega) _).setCell (p := ⟨s + 1 + 1 + 1, 2, none⟩) (by dsimp only; omega) _).setCell (p := ⟨s + 1 + 1 + 1, 3, none⟩) (by dsimp only; omega) _).alloc (by simp; omega) _⟩
        · rename_i bq
          simp only [cellO, Option.isSome_some]
          go_wp2_with fail
          exact bodyPost_ret (v := .agg (moleV bq q)) (results_cell_holds (n := 4) rfl (by kernel_rfl) _ rfl (((((y3.setCell 0 (.int .i8 bq.1.val)).setCell 1 (.int .i8 bq.2.val)).setCell 2 (.int .i8 q.1.val)).setCell 3 (.int .i8 q.2.val)).alloc _) rfl) rfl ⟨by rw [HNX.out]; rfl, ((((hb7.setCell (p := ⟨s + 1 + 1 + 1, 0, none⟩) (by dsimp only; omega) _).setCell (p := ⟨s + 1 + 1 + 1, 1, none⟩) (by dsimp only; omega) _).setCell (p := ⟨s + 1 + 1 + 1, 2, none⟩) (by dsimp only; omega) _).setCell (p := ⟨s + 1 + 1 + 1, 3, none⟩) (by dsimp only; omega) _).alloc (by simp; omega) _⟩
end Go.Proofs.YteaajkkhbflmdaaDoor
