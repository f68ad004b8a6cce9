/- MayBeFrom, of the program. -/
import Derived.Test.YtoengjabakcpjaaDoorMayBe
import Derived.Test.YtoengjabakcpjaaDoorGrowX
namespace Go.Proofs.YtoengjabakcpjaaDoor
open Go.RowKit
set_option linter.unusedVariables false
set_option linter.unusedSimpArgs false
attribute [local go_sem ↓] loadRow loadGrid loadLawn loadMirror storeRow storeGrid storeLawn allocRow allocGrid allocLawn buildZero buildSides loadWd storeWd allocWd buildZWd eqlWd neqWd neqWd'

set_option maxRecDepth 100000 in
set_option maxHeartbeats 4000000 in
theorem implMayBe_any (L : Lawn) (hL : L.Fits) (s t : Nat → Nat → Bool) (need : Int) (w : World) :
    Calls Tryd.prog 32 #[.agg L.cells, .agg (bV 10 s), .agg (bV 10 t), .int .i64 need] w fun e w' => e = .returned (.tuple #[.bool (mayR L s t need), .int .i64 (mayC L s t need)]) ∧ Below w.heap.size w w' := by
  obtain ⟨u, hu⟩ : ∃ u, w.heap.size = u := ⟨_, rfl⟩
  obtain ⟨W1, hW1⟩ : ∃ W1, ((w.alloc (.cells L.cells 31)).alloc (.cells (bV 10 s) 33)).alloc (.cells (bV 10 t) 33) = W1 := ⟨_, rfl⟩
  have g0 : Holds W1 u L.cells := by rw [← hW1]; exact ((Holds.new' _ _ _ _ hu.symm).alloc _).alloc _
  have g1 : Holds W1 (u + 1) (bV 10 s) := by rw [← hW1]; exact (Holds.new' _ _ _ _ (by simp; omega)).alloc _
  have g2 : Holds W1 (u + 2) (bV 10 t) := by rw [← hW1]; exact Holds.new' _ _ _ _ (by simp; omega)
  have hB1 : Below u w W1 := by rw [← hW1]; exact (((Below.refl u w).alloc (by omega) _).alloc (by simp; omega) _).alloc (by simp; omega) _
  have HU := Lib.hid hu
  obtain ⟨vn, hvn⟩ : ∃ vn, inB need 1 4 = vn := ⟨_, rfl⟩
  have HCS := Lib.hid (checkWeeds_nil L hL s)
  have HCT := Lib.hid (checkWeeds_any L hL t [(need, 1, 4)] (by simp))
  have HCC := Lib.hid (show mayC L s t need = told (weedB L s && weedB L t) vn by rw [mayC, hvn])
  have HRR := Lib.hid (show mayR L s t need = if weedB L s && weedB L t && vn then mayD t (dayS (soilS L) need.toNat s) else false by rw [mayR, hvn])
  have HNB := Lib.hid (show vn = true → 1 ≤ need ∧ need ≤ 4 from fun h => inB_true (hvn.trans h))
  have hlm : [(need, (1 : Int), (4 : Int))].all limB = vn := by rw [← hvn]; simp only [List.all_cons, List.all_nil, Bool.and_true, limB]
  rw [hlm] at HCT
  obtain ⟨vs, hvs⟩ : ∃ vs, weedB L s = vs := ⟨_, rfl⟩
  obtain ⟨vt, hvt⟩ : ∃ vt, weedB L t = vt := ⟨_, rfl⟩
  rw [hvs] at HCS
  rw [hvt] at HCT
  rw [hvs, hvt] at HCC HRR
  have HVS := Lib.hid hvs
  have HVT := Lib.hid hvt
  have HL := Lib.hid hL
  clear hL hvn hvs hvt hlm
  go_enter Tryd.func32, Tryd.ntmps32
  obtain ⟨r0, -, -, -, l0⟩ := g0.facts
  obtain ⟨r1, -, -, -, l1⟩ := g1.facts
  go_wp2_with fail
  try simp only [hu, Nat.add_assoc, Nat.reduceAdd]
  try rw [hW1]
  clear hW1 hu r0 r1 l0 l1
  refine (HCS.out _).mono ?_
  rintro e W2 ⟨⟨x, rfl, hx⟩, hb2⟩
  have j0 := g0.below hb2 g0.lt
  have j1 := g1.below hb2 g1.lt
  have j2 := g2.below hb2 g2.lt
  have hB2 : Below u w W2 := hB1.trans (hb2.mono (by have := g0.lt; omega))
  clear hb2 g0 g1 g2 hB1 HCS
  cases vs
  case false =>
    rcases hx with ⟨-, hc⟩ | ⟨hc, ty, a, rfl, hr⟩
    · simp [told] at hc
    have HR := Lib.hid hr
    have hE := HRR.out
    have HE := Lib.hid (show mayR L s t need = false by rw [hE]; rfl)
    have HE2 := Lib.hid (show mayC L s t need = told false true by rw [HCC.out]; rfl)
    clear hE HRR HCC hc hr
    go_wp2_with fail
    refine (HR.out _).mono ?_
    rintro e w2 ⟨rfl, hb3⟩
    go_wp2_with fail
    go_ret2
    exact ⟨by rw [HE.out, HE2.out]; rfl, by rw [HU.out]; exact hB2.trans (hb3.mono (by have := j0.lt; omega))⟩
  case true =>
  rcases hx with ⟨rfl, -⟩ | ⟨hc, -⟩
  rotate_left
  · simp [told] at hc
  obtain ⟨r0, -⟩ := j0.later
  obtain ⟨r2, -⟩ := j2.later
  go_wp2_with fail
  refine wp_region_growMP 5 4 [] (fun p w' => Holds w' p (limV [(need, 1, 4)])) (fun p a b h hb => h.below hb h.lt)
    (fun p => [.agg L.cells, .agg (bV 10 t), .int .i64 need, .agg #[.int .i64 need, .int .i64 1, .int .i64 4], .slice (some ⟨p, 0, none⟩) 1 1]) ?hv (by kernel_rfl) (by decide) (by kernel_rfl) (by kernel_rfl) (by kernel_rfl) ?_
  case hv =>
    intro p p' j h1 h2
    match j with
    | 0 => rfl
    | 1 => rfl
    | 2 => rfl
    | 3 => rfl
    | 4 => exact absurd rfl h1
    | j + 5 => rfl
  intro p
  simp only [List.take_succ_cons, List.take_zero, List.drop_succ_cons, List.drop_zero]
  refine seqP_free rfl rfl rfl (v := .agg L.cells) rfl ?_ ?_
  · intro w' hw' K hK
    go_wp2_with fail
    exact hK _ _ rfl (Below.refl _ _)
  simp only [Act.put, List.setIfInBounds_toArray, List.set_cons_succ, List.set_cons_zero]
  refine seqP_free rfl rfl rfl (v := .agg (bV 10 t)) rfl ?_ ?_
  · intro w' hw' K hK
    go_wp2_with fail
    exact hK _ _ rfl (Below.refl _ _)
  simp only [Act.put, List.setIfInBounds_toArray, List.set_cons_succ, List.set_cons_zero]
  refine seqP_free rfl rfl rfl (v := .int .i64 need) rfl ?_ ?_
  · intro w' hw' K hK
    go_wp2_with fail
    exact hK _ _ rfl (Below.refl _ _)
  simp only [Act.put, List.setIfInBounds_toArray, List.set_cons_succ, List.set_cons_zero]
  refine seqP_free rfl rfl rfl (v := .agg #[.int .i64 need, .int .i64 1, .int .i64 4]) rfl ?_ ?_
  · intro w' hw' K hK
    go_wp2_with fail
    refine (needed_any need _).mono ?_
    rintro e w5 ⟨rfl, hb5⟩
    go_wp2_with fail
    exact hK _ _ rfl hb5
  simp only [Act.put, List.setIfInBounds_toArray, List.set_cons_succ, List.set_cons_zero]
  refine seqP_call rfl rfl (v := .slice (some ⟨p, 0, none⟩) 1 1) rfl ?_ ?_
  · rintro w' hw' rfl K hK
    go_wp2_with fail
    exact hK _ _ rfl ((Below.refl _ _).alloc (Nat.le_refl _) _) (Holds.new _ _ _)
  simp only [Act.put, List.setIfInBounds_toArray, List.set_cons_succ, List.set_cons_zero]
  intro W3 _ hW3 hp
  have k0 := j0.below hW3 j0.lt
  have k1 := j1.below hW3 j1.lt
  have k2 := j2.below hW3 j2.lt
  have hB3 : Below u w W3 := hB2.trans (hW3.mono (by have := j0.lt; omega))
  clear hW3 j0 j1 j2 hB2 r0 r2
  go_wp2_with fail
  refine (HCT.out _ _ hp).mono ?_
  rintro e W4 ⟨⟨x, rfl, hx⟩, hb4⟩
  have i0 := k0.below hb4 k0.lt
  have i1 := k1.below hb4 k1.lt
  have i2 := k2.below hb4 k2.lt
  have hB4 : Below u w W4 := hB3.trans (hb4.mono (by have := k0.lt; omega))
  clear hb4 k0 k1 k2 hB3 hp HCT
  rcases hx with ⟨rfl, hc⟩ | ⟨hc, ty, a, rfl, hr⟩
  rotate_left
  · have HR := Lib.hid hr
    have hE := HRR.out
    have HE := Lib.hid (show mayR L s t need = false by rw [hE]; cases vt <;> cases vn <;> first | rfl | simp [told] at hc)
    have HE2 := Lib.hid (show mayC L s t need = told vt vn by rw [HCC.out]; rfl)
    clear hE HRR HCC hc hr
    go_wp2_with fail
    refine (HR.out _).mono ?_
    rintro e w2 ⟨rfl, hb3⟩
    go_wp2_with fail
    go_ret2
    exact ⟨by rw [HE.out, HE2.out]; rfl, by rw [HU.out]; exact hB4.trans (hb3.mono (by have := i0.lt; omega))⟩
  obtain ⟨rfl, rfl⟩ : vt = true ∧ vn = true := by cases vt <;> cases vn <;> simp [told] at hc ⊢
  clear hc
  have hnb := HNB.out (by trivial)
  obtain ⟨n, rfl⟩ : ∃ n : Nat, need = n := ⟨need.toNat, by omega⟩
  obtain ⟨hv1, hv2, -⟩ := validB_true (weedB_true HVS.out).1
  obtain ⟨H, hH⟩ : ∃ H : Nat, L.high = H := ⟨L.high.toNat, by omega⟩
  have HE2 := Lib.hid (show mayC L s t n = 0 by rw [HCC.out]; rfl)
  have hE : mayR L s t n = mayD t (dayS (soilS L) n s) := by rw [HRR.out]; simp
  have HSO := Lib.hid (spreadingOn_any L (weedB_true HVS.out).1 HL.out n)
  have HLA := Lib.hid (fun a b w ha hb => later_any (soilS L) n (by omega) (by omega) s a b w ha hb)
  have HTK := Lib.hid (fun (r : Nat) (hr : r < H) w => taken_any L (weedB_true HVS.out).1 HL.out r (by omega) true w)
  have HVD := Lib.hid (weedB_day HVS.out n)
  have HLh := Lib.hid (show L.cells[1]? = some (.int .i8 (H : Int)) by rw [← hH]; exact Lawn.cells_1 L)
  have HH := Lib.hid hH
  have hH10 : H ≤ 10 := by omega
  have hE1 : ∀ args w, (callFunc 86 args).run Tryd.prog w = .ok (.enter 86 args) w := fun args w => by kernel_rfl
  obtain ⟨d, hd⟩ : ∃ d, dayS (soilS L) n s = d := ⟨_, rfl⟩
  rw [hd] at hE HLA HVD
  have HE := Lib.hid hE
  clear hnb hE hd HRR HCC HNB hv1 hv2 hH
  obtain ⟨r0, -⟩ := i0.later
  obtain ⟨r1, -⟩ := i1.later
  go_wp2_with fail
  refine wp_region_growX 6 [fun _ => .agg L.cells, fun _ => .int .i64 n, fun k => .func (.func 86) #[] #[.pointer (some ⟨k, 0, none⟩), .pointer (some ⟨k + 1, 0, none⟩)], fun _ => .agg (bV 10 s), fun _ => .agg (bV 10 d), fun p => .pointer (some ⟨p, 0, none⟩)] [fun _ _ => True, fun _ _ => True, fun k w' => Holds w' k (bV 10 (soilS L)) ∧ Holds w' (k + 1) #[.int .i64 n], fun _ _ => True, fun _ _ => True, fun p w' => W4.heap.size ≤ p ∧ Holds w' p (bV 10 fun _ _ => false)] [[], [], [], [], [2], []] ?hI (by kernel_rfl) (by kernel_rfl) (by kernel_rfl) ?_
  case hI =>
    intro j p a b h hb
    match j with
    | 0 => exact trivial
    | 1 => exact trivial
    | 2 => exact ⟨h.1.below hb h.1.lt, h.2.below hb h.2.lt⟩
    | 3 => exact trivial
    | 4 => exact trivial
    | 5 => exact ⟨h.1, h.2.below hb h.2.lt⟩
    | j + 6 => exact trivial
  intro sx
  simp only [List.take_succ_cons, List.take_zero, List.drop_succ_cons, List.drop_zero]
  refine seqX_lit rfl (v := .agg L.cells) (fun _ => rfl) (fun _ _ => trivial) ?_ ?_
  · intro w' hw' hd K hK
    go_wp2_with fail
    exact hK _ _ rfl (Below.refl _ _)
  simp only [Act.put, List.setIfInBounds_toArray, List.set_cons_succ, List.set_cons_zero]
  refine seqX_lit rfl (v := .int .i64 n) (fun _ => rfl) (fun _ _ => trivial) ?_ ?_
  · intro w' hw' hd K hK
    go_wp2_with fail
    exact hK _ _ rfl (Below.refl _ _)
  simp only [Act.put, List.setIfInBounds_toArray, List.set_cons_succ, List.set_cons_zero]
  refine seqX_num rfl (v := fun k => .func (.func 86) #[] #[.pointer (some ⟨k, 0, none⟩), .pointer (some ⟨k + 1, 0, none⟩)]) (fun _ => rfl) ?_ ?_
  · intro w' hw' hd K hK
    go_wp2_with fail
    refine (HSO.out _).mono ?_
    rintro e w5 ⟨⟨f, rfl, q, hq, rfl, qa, qb⟩, hb5⟩
    go_wp2_with fail
    exact hK q _ _ rfl hb5 ⟨qa, qb⟩
  simp only [Act.put, List.setIfInBounds_toArray, List.set_cons_succ, List.set_cons_zero]
  refine seqX_lit rfl (v := .agg (bV 10 s)) (fun _ => rfl) (fun _ _ => trivial) ?_ ?_
  · intro w' hw' hd K hK
    go_wp2_with fail
    exact hK _ _ rfl (Below.refl _ _)
  simp only [Act.put, List.setIfInBounds_toArray, List.set_cons_succ, List.set_cons_zero]
  refine seqX_lit rfl (v := .agg (bV 10 d)) (fun _ => rfl) (fun _ _ => trivial) ?_ ?_
  · intro w' hw' hd K hK
    obtain ⟨qa, qb⟩ : Holds w' (sx 2) (bV 10 (soilS L)) ∧ Holds w' (sx 2 + 1) #[.int .i64 n] := hd 2 (by decide)
    go_wp2_with fail
    refine (HLA.out _ _ _ qa qb).mono ?_
    rintro e w5 ⟨rfl, hb5⟩
    go_wp2_with fail
    exact hK _ _ rfl hb5
  simp only [Act.put, List.setIfInBounds_toArray, List.set_cons_succ, List.set_cons_zero]
  refine seqX_num rfl (v := fun p => .pointer (some ⟨p, 0, none⟩)) (fun _ => rfl) ?_ ?_
  · intro w' hw' hd K hK
    go_wp2_with fail
    exact hK _ _ _ rfl ((Below.refl _ _).alloc (Nat.le_refl _) _) ⟨hw'.size, Holds.new _ _ _⟩
  simp only [Act.put, List.setIfInBounds_toArray, List.set_cons_succ, List.set_cons_zero]
  refine seqX_nil ?_
  intro W5 hW5 hall
  obtain ⟨p, hsp⟩ : ∃ p, sx 5 = p := ⟨_, rfl⟩
  obtain ⟨hpl, hp⟩ : W4.heap.size ≤ sx 5 ∧ Holds W5 (sx 5) (bV 10 fun _ _ => false) := hall 5 (by omega)
  rw [hsp] at hpl hp ⊢
  have m0 := i0.below hW5 i0.lt
  have m2 := i2.below hW5 i2.lt
  have hB5 : Below u w W5 := hB4.trans (hW5.mono (by have := i0.lt; omega))
  have hpu : u + 3 ≤ p := by have := i2.lt; omega
  clear hW5 hall hsp i0 i1 i2 hB4 r0 r1 HSO HLA
  have n0 : Holds (W5.setRow p (bV 10 d)) u L.cells := m0.setRow_other _ (by omega)
  have n2 : Holds (W5.setRow p (bV 10 d)) (u + 2) (bV 10 t) := m2.setRow_other _ (by omega)
  have np := hp.setRow (bV 10 d)
  have hB6 : Below u w (W5.setRow p (bV 10 d)) := below_setRow' hB5 (by omega) _
  obtain ⟨rp, fp, -, zp, lp⟩ := hp.facts
  go_wp2_with fail
  obtain ⟨W6, hW6⟩ : ∃ W6, W5.setRow p (bV 10 d) = W6 := ⟨_, rfl⟩
  rw [hW6] at n0 n2 np hB6 ⊢
  clear hW6 m0 m2 hp rp fp zp lp hB5
  obtain ⟨c2, -⟩ := n2.later
  obtain ⟨cp, -⟩ := np.later
  refine wp_region_grow 4 (by kernel_rfl) (by kernel_rfl) ?_
  simp only [List.take_succ_cons, List.take_zero, List.drop_succ_cons, List.drop_zero]
  apply wpGrow_plain rfl
  · intro w' hw' K hK
    go_wp2_with fail
    exact hK _ _ rfl hw'
  simp only [Act.put, List.setIfInBounds_toArray, List.set_cons_succ, List.set_cons_zero]
  apply wpGrow_plain rfl
  · intro w' hw' K hK
    go_wp2_with fail
    exact hK _ _ rfl hw'
  simp only [Act.put, List.setIfInBounds_toArray, List.set_cons_succ, List.set_cons_zero]
  apply wpGrow_plain rfl
  · intro w' hw' K hK
    go_wp2_with fail
    exact hK _ _ rfl hw'
  simp only [Act.put, List.setIfInBounds_toArray, List.set_cons_succ, List.set_cons_zero]
  apply wpGrow_plain rfl
  · intro w' hw' K hK
    go_wp2_with fail
    refine (wdWithin_any _ _ _).mono ?_
    rintro e w5 ⟨rfl, hb5⟩
    go_wp2_with fail
    exact hK _ _ rfl (below_onto hw' hb5)
  simp only [Act.put, List.setIfInBounds_toArray, List.set_cons_succ, List.set_cons_zero]
  refine wpGrow_nil ?_
  intro W7 hW7
  have o0 := n0.below hW7 n0.lt
  have o2 := n2.below hW7 n2.lt
  have op := np.below hW7 np.lt
  have hB7 : Below u w W7 := hB6.trans (hW7.mono (by have := n0.lt; omega))
  clear hW7 n0 n2 np hB6 c2 cp
  have HB := Lib.hid (show bEq 10 t (fun y x => t y x && d y x) = false → mayD t d = false from fun h => by unfold mayD; rw [h]; rfl)
  have HT := Lib.hid (fun h (r : Nat) (hr : r < 10) h2 => may_hit (L := L) (t := t) (d := d) h (r := r) hr h2)
  have HM := Lib.hid (fun h => may_miss HVT.out HVD.out HH.out h)
  obtain ⟨B, hB⟩ : ∃ B, bEq 10 t (fun y x => t y x && d y x) = B := ⟨_, rfl⟩
  rw [hB] at HB HT
  have hneq : ∀ x y w, opNeq Tryd.prog 33 x y (.agg (bV 10 t)) (.agg (bV 10 fun y x => t y x && d y x)) w = .ok (.value (.bool (!B))) w := fun x y w => by rw [neqWd_at, hB]
  clear hB
  cases B
  case false =>
    have HF := Lib.hid (HB.out (by trivial))
    clear HB HT HM
    go_wp2_with fail
    go_ret2
    exact ⟨by rw [HE.out, HE2.out, HF.out]; rfl, by rw [HU.out]; exact hB7⟩
  case true =>
  clear HB
  obtain ⟨r0, -, c0, -, l0⟩ := o0.facts
  have ch := (c0 1).trans HLh.out
  have e1 : IntKind.i64.wrap (H : Int) = H := IntWalk.i64_in _ (by omega)
  clear c0
  go_wp2_with fail
  clear ch r0 l0
  go_loopw [13, 14, 45] (fun _ _ x wr => ∃ k : Nat, k ≤ H ∧ x = .int .i64 k ∧ (∀ r, r < k → bEq 10 (offS L r t) (offS L r d) = false) ∧ Holds wr u L.cells ∧ Holds wr (u + 2) (bV 10 t) ∧ Holds wr p (bV 10 d) ∧ Below u w wr) (fun _ _ x _ => H - (intOf x).toNat)
  case atStart => exact ⟨0, by omega, rfl, fun r hr => by omega, o0, o2, op, hB7⟩
  case round =>
    obtain ⟨k, hk, rfl, hall, h0, h2, hp, hb⟩ := hrel
    have HALL := Lib.hid hall
    clear hall
    by_cases hlt : k < H
    · have hd : decide ((k : Int) < (H : Int)) = true := by simp; omega
      have HTKk := Lib.hid (HTK.out k hlt)
      obtain ⟨r0, -, -, -, l0⟩ := h0.facts
      go_wp2_with fail
      refine (HTKk.out _).mono ?_
      rintro e W8 ⟨rfl, hb8⟩
      have j0 := h0.below hb8 h0.lt
      have j2 := h2.below hb8 h2.lt
      have jp := hp.below hb8 hp.lt
      have hB8 : Below u w W8 := hb.trans (hb8.mono (by have := h0.lt; omega))
      clear hb8 h0 h2 hp hb r0 l0 HTKk
      obtain ⟨z, hz⟩ : ∃ z, W8.heap.size = z := ⟨_, rfl⟩
      have i0 := j0.alloc (.cells (bV 10 (takeS L k true)) 33)
      have i2 := j2.alloc (.cells (bV 10 (takeS L k true)) 33)
      have ip := jp.alloc (.cells (bV 10 (takeS L k true)) 33)
      have iz := Holds.new' W8 (bV 10 (takeS L k true)) 33 z hz.symm
      have hB9 : Below u w (W8.alloc (.cells (bV 10 (takeS L k true)) 33)) := hB8.alloc (by have := j0.lt; omega) _
      go_wp2_with fail
      obtain ⟨W9, hW9⟩ : ∃ W9, W8.alloc (.cells (bV 10 (takeS L k true)) 33) = W9 := ⟨_, rfl⟩
      try simp only [hz]
      rw [hW9] at i0 i2 ip iz hB9 ⊢
      clear hW9 hz j0 j2 jp hB8
      obtain ⟨c2, -⟩ := i2.later
      obtain ⟨cp, -⟩ := ip.later
      obtain ⟨cz, -⟩ := iz.later
      refine wp_region_grow 6 (by kernel_rfl) (by kernel_rfl) ?_
      simp only [List.take_succ_cons, List.take_zero, List.drop_succ_cons, List.drop_zero]
      apply wpGrow_plain rfl
      · intro w' hw' K hK
        go_wp2_with fail
        exact hK _ _ rfl hw'
      simp only [Act.put, List.setIfInBounds_toArray, List.set_cons_succ, List.set_cons_zero]
      apply wpGrow_plain rfl
      · intro w' hw' K hK
        go_wp2_with fail
        exact hK _ _ rfl hw'
      simp only [Act.put, List.setIfInBounds_toArray, List.set_cons_succ, List.set_cons_zero]
      apply wpGrow_plain rfl
      · intro w' hw' K hK
        go_wp2_with fail
        refine (show Calls Tryd.prog 57 #[.agg (bV 10 t), .agg (bV 10 (takeS L k true))] _ (fun e w'' => e = .returned (.agg (bV 10 (offS L k t))) ∧ Below _ _ w'') from wdWithout_any _ _ _).mono ?_
        rintro e w5 ⟨rfl, hb5⟩
        go_wp2_with fail
        exact hK _ _ rfl (below_onto hw' hb5)
      simp only [Act.put, List.setIfInBounds_toArray, List.set_cons_succ, List.set_cons_zero]
      apply wpGrow_plain rfl
      · intro w' hw' K hK
        go_wp2_with fail
        exact hK _ _ rfl hw'
      simp only [Act.put, List.setIfInBounds_toArray, List.set_cons_succ, List.set_cons_zero]
      apply wpGrow_plain rfl
      · intro w' hw' K hK
        go_wp2_with fail
        exact hK _ _ rfl hw'
      simp only [Act.put, List.setIfInBounds_toArray, List.set_cons_succ, List.set_cons_zero]
      apply wpGrow_plain rfl
      · intro w' hw' K hK
        go_wp2_with fail
        refine (show Calls Tryd.prog 57 #[.agg (bV 10 d), .agg (bV 10 (takeS L k true))] _ (fun e w'' => e = .returned (.agg (bV 10 (offS L k d))) ∧ Below _ _ w'') from wdWithout_any _ _ _).mono ?_
        rintro e w5 ⟨rfl, hb5⟩
        go_wp2_with fail
        exact hK _ _ rfl (below_onto hw' hb5)
      simp only [Act.put, List.setIfInBounds_toArray, List.set_cons_succ, List.set_cons_zero]
      refine wpGrow_nil ?_
      intro W10 hW10
      have m0 := i0.below hW10 i0.lt
      have m2 := i2.below hW10 i2.lt
      have mp := ip.below hW10 ip.lt
      have hB10 : Below u w W10 := hB9.trans (hW10.mono (by have := i0.lt; omega))
      clear hW10 i0 i2 ip iz hB9 c2 cp cz
      have HHT := Lib.hid (fun h => HT.out (by trivial) k (by omega) h)
      obtain ⟨E, hE⟩ : ∃ E, bEq 10 (offS L k t) (offS L k d) = E := ⟨_, rfl⟩
      rw [hE] at HHT
      have heq : ∀ x y w, opEql Tryd.prog 33 x y (.agg (bV 10 (offS L k t))) (.agg (bV 10 (offS L k d))) w = .ok (.value (.bool E)) w := fun x y w => by rw [eqlWd_at, hE]
      have HEE := Lib.hid hE
      clear hE
      cases E
      · have HAL2 := Lib.hid (show ∀ r, r < k + 1 → bEq 10 (offS L r t) (offS L r d) = false from fun r hr => by
          rcases Nat.lt_or_ge r k with h | h
          · exact HALL.out r h
          · obtain rfl : r = k := by omega
            exact HEE.out)
        clear HHT HT HM
        go_wp2_with fail
        go_roundw
        case rel => exact ⟨k + 1, by omega, by go_num, HAL2.out, m0, m2, mp, hB10⟩
        case measure => simp [intOf]; omega
      · have HF := Lib.hid (HHT.out (by trivial))
        clear HHT HT HM
        go_wp2_with fail
        go_ret2
        exact ⟨by rw [HE.out, HE2.out, HF.out]; rfl, by rw [HU.out]; exact hB10⟩
    · obtain rfl : k = H := by omega
      have hd : decide ((k : Int) < (k : Int)) = false := by simp
      have HF := Lib.hid (HM.out HALL.out)
      clear HM HT
      go_wp2_with fail
      go_ret2
      exact ⟨by rw [HE.out, HE2.out, HF.out]; rfl, by rw [HU.out]; exact hb⟩
end Go.Proofs.YtoengjabakcpjaaDoor
