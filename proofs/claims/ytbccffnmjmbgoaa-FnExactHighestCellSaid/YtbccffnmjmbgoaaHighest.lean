/- HighestCell, of the program and of the model. -/
import Derived.Test.YtbccffnmjmbgoaaHills
import Derived.Test.YtbccffnmjmbgoaaGrowS
import Derived.Test.YtbccffnmjmbgoaaCellSt
namespace Go.Proofs.Ytbccffnmjmbgoaa
open Go.RowKit
set_option linter.unusedVariables false
set_option linter.unusedSimpArgs false
attribute [local go_sem ↓] loadRow loadGrid loadLawn loadMirror storeRow storeGrid storeLawn allocRow allocGrid allocLawn buildZero buildSides loadR8 loadL8 loadLv storeR8 storeLv allocR8 allocLv buildZLv storeCl

/-- Whether a cell is higher than another one. -/
def topLt {W H : Nat} (g : Nat → Nat → Int) (c d : Fin W × Fin H) : Bool := decide (g d.2.val d.1.val < g c.2.val c.1.val)
theorem results_cell_tmp2' {P : Program} {fn : Func} {p u v : Tmp} {ty : TypeId} {n : Nat} (h : fn.results = #[.cell p ty, .tmp u, .tmp v]) (hw : wideB P ty n = true) (tmps : Array Value) {w : World} {g : Nat} {cs : Array Value}
    (hp : tmps.getD p undef = .pointer (some ⟨g, 0, none⟩)) (hg : Holds w g cs) (hn : cs.size = n) : (results fn tmps).run P w = .ok (.tuple #[.agg cs, tmps.getD u undef, tmps.getD v undef]) w := by
  have hp' : tmps[p]?.getD undef = .pointer (some ⟨g, 0, none⟩) := by simpa using hp
  simp [results, h, hp', asAddr, (wide_of hw).loadVar hg hn]

set_option maxRecDepth 100000 in
set_option maxHeartbeats 1000000 in
theorem top_is (g : Nat → Nat → Int) (b : Nat) (x y x' y' : Nat) (hx : x < 10) (hy : y < 10) (hx' : x' < 10) (hy' : y' < 10) (w : World) (hb : Holds w b (levV g)) :
    Calls Try.prog 53 #[.agg #[.int .i8 x, .int .i8 y], .agg #[.int .i8 x', .int .i8 y'], .pointer (some ⟨b, 0, none⟩)] w fun e w' => e = .returned (.bool (decide (g y' x' < g y x))) ∧ Below w.heap.size w w' := by
  have HN := Lib.hid (level_any g x y hx hy)
  have HN2 := Lib.hid (level_any g x' y' hx' hy')
  have c0 := (Holds.new w #[.int .i8 x, .int .i8 y] 44).alloc (.cells #[.int .i8 x', .int .i8 y'] 44)
  have c1 := Holds.new' (w.alloc (.cells #[.int .i8 x, .int .i8 y] 44)) #[.int .i8 x', .int .i8 y'] 44 (w.heap.size + 1) (by simp)
  have b1 := (hb.alloc (.cells #[.int .i8 x, .int .i8 y] 44)).alloc (.cells #[.int .i8 x', .int .i8 y'] 44)
  have hb0 := ((Below.refl w.heap.size w).alloc (Nat.le_refl _) (.cells #[.int .i8 x, .int .i8 y] 44)).alloc (by simp) (.cells #[.int .i8 x', .int .i8 y'] 44)
  obtain ⟨W0, hW0⟩ : ∃ W0, (w.alloc (.cells #[.int .i8 x, .int .i8 y] 44)).alloc (.cells #[.int .i8 x', .int .i8 y'] 44) = W0 := ⟨_, rfl⟩
  rw [hW0] at c0 b1 c1 hb0
  go_enter Try.func53, Try.ntmps53
  go_wp2_with fail
  clear hW0
  obtain ⟨r0, -⟩ := b1.later
  obtain ⟨-, s0⟩ := c0.later
  obtain ⟨-, s1⟩ := c1.later
  refine wp_region_grow 7 (by kernel_rfl) (by kernel_rfl) ?_
  simp only [List.take_succ_cons, List.take_zero, List.drop_succ_cons, List.drop_zero]
  iterate 7
    apply wpGrow_plain rfl
    · intro w' hw' K hK
      have e0 := s0 _ hw'
      have e1 := s1 _ hw'
      have e2 := r0 _ hw'
      go_wp2_with (first | (go_at_call 41; with_reducible refine (HN.out _).mono ?_; rintro e w1 ⟨rfl, hb1⟩) | (go_at_call 41; with_reducible refine (HN2.out _).mono ?_; rintro e w1 ⟨rfl, hb1⟩))
      first | exact hK _ _ rfl hw' | exact hK _ _ rfl (below_onto hw' hb1)
    simp only [Act.put, List.setIfInBounds_toArray, List.set_cons_succ, List.set_cons_zero]
  refine wpGrow_nil ?_
  intro W1 hW
  have hb2 := below_onto hb0 hW
  clear r0 s0 s1 b1 c1 c0 hW hb0
  go_wp2_with fail
  go_ret
  exact ⟨rfl, hb2⟩

/-- What HighestCell answers of a list of the cells of grass. -/
def topX {W H : Nat} (o : Option (Fin W × Fin H)) : Int := match o with | none => 0 | some c => c.1.val
def topY {W H : Nat} (o : Option (Fin W × Fin H)) : Int := match o with | none => 0 | some c => c.2.val
def topZ {W H : Nat} (g : Nat → Nat → Int) (o : Option (Fin W × Fin H)) : Int := match o with | none => 0 | some c => g c.2.val c.1.val
def topC {W H : Nat} (o : Option (Fin W × Fin H)) : Int := match o with | none => 6 | some c => 0
def topO (L : Lawn) (g : Nat → Nat → Int) : Option (Fin L.wide.toNat × Fin L.high.toNat) := bestL (topLt g) (ofKind L L.wide.toNat L.high.toNat 0) (ofKind L L.wide.toNat L.high.toNat 0).length

set_option maxRecDepth 100000 in
set_option maxHeartbeats 1000000 in
theorem implHighest_bad (L : Lawn) (hL : L.Fits) (g : Nat → Nat → Int) (hv : levB L g = false) (w : World) :
    Calls Try.prog 23 #[.agg L.cells, .agg (levV g)] w fun e w' => e = .returned (.tuple #[.agg #[.int .i8 0, .int .i8 0], .int .i64 0, .int .i64 1]) ∧ Below w.heap.size w w' := by
  obtain ⟨W0, hW0⟩ : ∃ W0, ((w.alloc (.cells L.cells 30)).alloc (.cells (levV g) 32)).alloc (.cells #[.int .i8 0, .int .i8 0] 44) = W0 := ⟨_, rfl⟩
  have g0 : Holds W0 w.heap.size L.cells := by rw [← hW0]; exact ((Holds.new _ _ _).alloc _).alloc _
  have g1 : Holds W0 (w.heap.size + 1) (levV g) := by rw [← hW0]; exact (Holds.new' _ _ _ _ (by simp)).alloc _
  have g2 : Holds W0 (w.heap.size + 1 + 1) #[.int .i8 0, .int .i8 0] := by rw [← hW0]; exact Holds.new' _ _ _ _ (by simp)
  have hb0 : Below w.heap.size w W0 := by rw [← hW0]; exact (((Below.refl w.heap.size w).alloc (Nat.le_refl _) _).alloc (by simp) _).alloc (by simp; omega) _
  obtain ⟨r0, -, -, -, -⟩ := g0.facts
  obtain ⟨r1, -, -, -, -⟩ := g1.facts
  have HV := Lib.hid (implLevels_any L hL g)
  rw [hv] at HV
  clear hv hL
  go_enter Try.func23, Try.ntmps23
  go_wp2_with fail
  clear hW0 r0 r1
  refine (HV.out _).mono ?_
  rintro e w1 ⟨rfl, hb1⟩
  have hb2 := below_onto hb0 hb1
  have k2 := g2.below hb1 g2.lt
  obtain ⟨rr, fr, -, -, lr⟩ := k2.facts
  have HK := Lib.hid (k2.setRow #[.int .i8 0, .int .i8 0])
  have HB := Lib.hid hb2
  clear hb0 hb1 g0 g1 g2 hb2
  go_wp2_with fail
  exact bodyPost_ret (results_cell_tmp2' rfl (by kernel_rfl) _ rfl HK.out rfl) rfl ⟨rfl, below_setRow' HB.out (by omega) _⟩

set_option maxRecDepth 100000 in
set_option maxHeartbeats 2000000 in
theorem implHighest_good (L : Lawn) (hL : L.Fits) (g : Nat → Nat → Int) (hg : LevFits g) (hv : levB L g = true) (w : World) :
    Calls Try.prog 23 #[.agg L.cells, .agg (levV g)] w fun e w' => e = .returned (.tuple #[.agg #[.int .i8 (topX (topO L g)), .int .i8 (topY (topO L g))], .int .i64 (topZ g (topO L g)), .int .i64 (topC (topO L g))]) ∧ Below w.heap.size w w' := by
  obtain ⟨W0, hW0⟩ : ∃ W0, ((w.alloc (.cells L.cells 30)).alloc (.cells (levV g) 32)).alloc (.cells #[.int .i8 0, .int .i8 0] 44) = W0 := ⟨_, rfl⟩
  have g0 : Holds W0 w.heap.size L.cells := by rw [← hW0]; exact ((Holds.new _ _ _).alloc _).alloc _
  have g1 : Holds W0 (w.heap.size + 1) (levV g) := by rw [← hW0]; exact (Holds.new' _ _ _ _ (by simp)).alloc _
  have g2 : Holds W0 (w.heap.size + 1 + 1) #[.int .i8 0, .int .i8 0] := by rw [← hW0]; exact Holds.new' _ _ _ _ (by simp)
  have hb0 : Below w.heap.size w W0 := by rw [← hW0]; exact (((Below.refl w.heap.size w).alloc (Nat.le_refl _) _).alloc (by simp) _).alloc (by simp; omega) _
  obtain ⟨r0, -, -, -, -⟩ := g0.facts
  obtain ⟨r1, -, -, -, -⟩ := g1.facts
  have HV := Lib.hid (implLevels_any L hL g)
  have hV := (levB_true hv).1
  have hE : cellsL L 0 = ofKind L L.wide.toNat L.high.toNat 0 := by unfold cellsL; rw [hV]; rfl
  have HC := Lib.hid (implCells_any L hL 0)
  rw [hE, hV] at HC
  rw [hv] at HV
  obtain ⟨h1, h2, -⟩ := validB_true hV
  have HN := Lib.hid (ofKind_le (L := L) (W := L.wide.toNat) (H := L.high.toNat) (by omega) (by omega) 0)
  have HW10 : Hid (L.wide.toNat ≤ 10 ∧ L.high.toNat ≤ 10) := Lib.hid (by omega)
  have HTP := Lib.hid (fun (c d : Fin L.wide.toNat × Fin L.high.toNat) (b : Nat) (w : World) (hb : Holds w b (levV g)) => top_is g b c.1.val c.2.val d.1.val d.2.val (by have := c.1.isLt; have := HW10.out; omega) (by have := c.2.isLt; have := HW10.out; omega) (by have := d.1.isLt; have := HW10.out; omega) (by have := d.2.isLt; have := HW10.out; omega) w hb)
  have HLV := Lib.hid (fun (c : Fin L.wide.toNat × Fin L.high.toNat) (w : World) => level_any g c.1.val c.2.val (by have := c.1.isLt; have := HW10.out; omega) (by have := c.2.isLt; have := HW10.out; omega) w)
  have HGR := Lib.hid (fun (c : Fin L.wide.toNat × Fin L.high.toNat) => hg c.2.val c.1.val (by have := c.2.isLt; have := HW10.out; omega) (by have := c.1.isLt; have := HW10.out; omega))
  have hE2 := enters_of Try.func53 (by kernel_rfl) rfl
  have HO := Lib.hid (show topO L g = bestL (topLt g) (ofKind L L.wide.toNat L.high.toNat 0) (ofKind L L.wide.toNat L.high.toNat 0).length from rfl)
  obtain ⟨o, ho⟩ : ∃ o, topO L g = o := ⟨_, rfl⟩
  rw [ho] at HO ⊢
  obtain ⟨l, hl⟩ : ∃ l, ofKind L L.wide.toNat L.high.toNat 0 = l := ⟨_, rfl⟩
  rw [hl] at HC HN HO
  have HBST := Lib.hid (fun (B : Nat) (v : Value) (w3 : World) (h1 : Holds w3 (w.heap.size + 1) (levV g)) (ho : w3.ownsRow B 44 2 v l.length (flatV l)) => bestC_any (topLt g) _ #[.pointer (some ⟨w.heap.size + 1, 0, none⟩)] hE2 B l.length v HN.out l rfl w3 (fun c d w4 hb5 => HTP.out c d (w.heap.size + 1) w4 (h1.below hb5 h1.lt)) ho)
  rw [← HO.out] at HBST
  clear hv hL hg hV hE h1 h2 HW10 hl ho HTP
  go_enter Try.func23, Try.ntmps23
  go_wp2_with fail
  clear hW0 r0 r1
  refine (HV.out _).mono ?_
  rintro e w1 ⟨rfl, hb1⟩
  have hb2 := below_onto hb0 hb1
  have k0 := g0.below hb1 g0.lt
  have k1 := g1.below hb1 g1.lt
  have k2 := g2.below hb1 g2.lt
  clear hb0 hb1 g0 g1 g2 HV
  obtain ⟨r0, -, -, -, -⟩ := k0.facts
  go_wp2_with fail
  refine (HC.out _).mono ?_
  rintro e w3 ⟨⟨v, rfl, hv⟩, hb3⟩
  have hb4 := below_onto hb2 hb3
  have q1 := k1.below hb3 k1.lt
  have q2 := k2.below hb3 k2.lt
  have hsz := hb3.size
  obtain ⟨av, cv, rfl⟩ := own_slice hv
  have HVV := Lib.hid hv
  obtain ⟨B, hB⟩ : ∃ B, w1.heap.size = B := ⟨_, rfl⟩
  rw [hB] at HVV hsz
  clear hv hb2 hb3 k0 k1 k2 r0 hB HC
  go_wp2_with fail
  refine (HBST.out B _ w3 q1 HVV.out).mono ?_
  rintro e w5 ⟨rfl, hb5⟩
  have hb6 := below_onto hb4 hb5
  have k1 := q1.below hb5 q1.lt
  have k2 := q2.below hb5 q2.lt
  have hl1 := k1.lt
  have hl2 := k2.lt
  clear hb4 hb5 q1 q2 HVV HBST
  have n0 := Holds.new w5 #[.int .i8 0, .int .i8 0] 44
  have k1 := k1.alloc (.cells #[.int .i8 0, .int .i8 0] 44)
  have k2 := k2.alloc (.cells #[.int .i8 0, .int .i8 0] 44)
  have hb7 := hb6.alloc hb6.size (.cells #[.int .i8 0, .int .i8 0] 44)
  clear hb6
  obtain ⟨W1, hW1⟩ : ∃ W1, w5.alloc (.cells #[.int .i8 0, .int .i8 0] 44) = W1 := ⟨_, rfl⟩
  obtain ⟨s, hs⟩ : ∃ s, w5.heap.size = s := ⟨_, rfl⟩
  have hss : w.heap.size + 1 + 1 < s := by omega
  rw [hW1] at k1 k2 hb7
  have n0 : Holds W1 s #[.int .i8 0, .int .i8 0] := by rw [← hW1, ← hs]; exact n0
  obtain ⟨x, y, hxy⟩ : ∃ x y : Int, cellO o = #[.int .i8 x, .int .i8 y] := by
    cases o with
    | none => exact ⟨_, _, rfl⟩
    | some c => exact ⟨_, _, rfl⟩
  rw [hxy]
  have HXY := Lib.hid hxy
  clear hxy
  rcases Nat.eq_zero_or_pos l.length with hn0 | hn0
  · have hd : decide (0 < l.length) = false := by simp [hn0]
    have HRES : Hid (topX o = 0 ∧ topY o = 0 ∧ topZ g o = 0 ∧ topC o = 6) := Lib.hid (by
      rw [HO.out, hn0, bestL_zero]; exact ⟨rfl, rfl, rfl, rfl⟩)
    obtain ⟨rn, fn, -, -, ln⟩ := n0.facts
    have k3 := (k2.setRow_other (k := s) #[.int .i8 x, .int .i8 y] (by omega))
    obtain ⟨rr3, fr3, -, -, lr3⟩ := k3.facts
    have HK3 := Lib.hid (k3.setRow #[.int .i8 0, .int .i8 0])
    have HB := Lib.hid (below_setRow' (below_setRow' hb7 (g := s) (by omega) #[.int .i8 x, .int .i8 y]) (g := w.heap.size + 1 + 1) (by omega) #[.int .i8 0, .int .i8 0])
    rw [hd]
    clear k1 k2 k3 n0 hb7 hn0 hl1 hl2 hd
    go_wp2_with fail
    exact bodyPost_ret (results_cell_tmp2' rfl (by kernel_rfl) _ rfl HK3.out rfl) rfl ⟨by rw [HRES.out.1, HRES.out.2.1, HRES.out.2.2.1, HRES.out.2.2.2]; rfl, HB.out⟩
  · have hd : decide (0 < l.length) = true := by simpa using hn0
    obtain ⟨c, hc⟩ : ∃ c, o = some c := by rw [HO.out]; exact bestL_some (topLt g) hn0 (Nat.le_refl _)
    have HX : Hid (x = c.1.val ∧ y = c.2.val) := Lib.hid (by
      have := HXY.out
      rw [hc] at this
      simp [cellO] at this
      omega)
    have HRES : Hid (topX o = x ∧ topY o = y ∧ topZ g o = g c.2.val c.1.val ∧ topC o = 0) := Lib.hid (by
      rw [hc, HX.out.1, HX.out.2]; exact ⟨rfl, rfl, rfl, rfl⟩)
    have HLc := Lib.hid (HLV.out c)
    rw [← HX.out.1, ← HX.out.2] at HLc
    have hgr := HGR.out c
    have hwr : IntKind.i64.wrap (g c.2.val c.1.val) = g c.2.val c.1.val := IntWalk.i64_in _ (by omega)
    obtain ⟨z, hz⟩ : ∃ z, g c.2.val c.1.val = z := ⟨_, rfl⟩
    rw [hz] at HLc HRES hwr hgr
    rw [hd]
    obtain ⟨rn, fn, -, -, ln⟩ := n0.facts
    have HN1 := Lib.hid (n0.setRow #[.int .i8 x, .int .i8 y])
    have HQ1 := Lib.hid (k1.setRow_other (k := s) #[.int .i8 x, .int .i8 y] (by omega))
    have HQ2 := Lib.hid (k2.setRow_other (k := s) #[.int .i8 x, .int .i8 y] (by omega))
    have HB8 := Lib.hid (below_setRow' hb7 (g := s) (by omega) #[.int .i8 x, .int .i8 y])
    clear k1 k2 n0 hb7 hn0 hl1 hl2 hd hc hz
    go_wp2_with fail
    obtain ⟨W2, hW2⟩ : ∃ W2, W1.setRow s #[.int .i8 x, .int .i8 y] = W2 := ⟨_, rfl⟩
    rw [hW2] at HN1 HQ1 HQ2 HB8 ⊢
    clear hW2 hW1 rn fn ln
    refine wp_region_growS1 7 5 (w.heap.size + 1 + 1) #[.int .i8 0, .int .i8 0] #[.int .i8 x, .int .i8 y] [.agg #[.int .i8 x, .int .i8 y], .agg (levV g), .agg #[.int .i8 x, .int .i8 y], .int .i8 z, .int .i64 z, undef, .int .i64 z] (by kernel_rfl) (by kernel_rfl) (by decide) HQ2.out ?_
    simp only [List.take_succ_cons, List.take_zero, List.drop_succ_cons, List.drop_zero]
    refine seqS_other (v := .agg #[.int .i8 x, .int .i8 y]) rfl rfl rfl ?_ ?_
    · intro w' hw' K hK
      have e0 := (hw'.holds HN1.out (by simp; omega)).cell
      go_wp2_with fail
      exact hK _ _ rfl (Below.refl _ _)
    simp only [Act.put, List.setIfInBounds_toArray, List.set_cons_succ, List.set_cons_zero]
    refine seqS_other (v := .agg (levV g)) rfl rfl rfl ?_ ?_
    · intro w' hw' K hK
      have e0 := (hw'.holds HQ1.out (by simp)).row
      go_wp2_with fail
      exact hK _ _ rfl (Below.refl _ _)
    simp only [Act.put, List.setIfInBounds_toArray, List.set_cons_succ, List.set_cons_zero]
    refine seqS_other (v := .agg #[.int .i8 x, .int .i8 y]) rfl rfl rfl ?_ ?_
    · intro w' hw' K hK
      have e0 := (hw'.holds HN1.out (by simp; omega)).cell
      go_wp2_with fail
      exact hK _ _ rfl (Below.refl _ _)
    simp only [Act.put, List.setIfInBounds_toArray, List.set_cons_succ, List.set_cons_zero]
    refine seqS_other (v := .int .i8 z) rfl rfl rfl ?_ ?_
    · intro w' hw' K hK
      go_wp2_with (go_at_call 41; refine (HLc.out _).mono ?_; rintro e w1 ⟨rfl, hb1⟩)
      exact hK _ _ rfl hb1
    simp only [Act.put, List.setIfInBounds_toArray, List.set_cons_succ, List.set_cons_zero]
    refine seqS_other (v := .int .i64 z) rfl rfl rfl ?_ ?_
    · intro w' hw' K hK
      go_wp2_with fail
      exact hK _ _ rfl (Below.refl _ _)
    simp only [Act.put, List.setIfInBounds_toArray, List.set_cons_succ, List.set_cons_zero]
    refine seqS_store rfl rfl rfl ?_ ?_
    · intro w' hO hH K hK
      obtain ⟨rr, fr, -, -, lr⟩ := hH.facts
      go_wp2_with fail
      exact hK
    refine seqS_other (v := .int .i64 z) rfl rfl rfl ?_ ?_
    · intro w' hw' K hK
      go_wp2_with fail
      exact hK _ _ rfl (Below.refl _ _)
    simp only [Act.put, List.setIfInBounds_toArray, List.set_cons_succ, List.set_cons_zero]
    refine seqS_nil ?_
    intro w' hO hH
    have HH := Lib.hid hH
    have HB9 := Lib.hid (HB8.out.trans (hO.toBelow (B := w.heap.size) (by intro k hk; simp at hk; omega) HB8.out.size))
    clear hO hH
    go_wp2_with fail
    exact bodyPost_ret (results_cell_tmp2' rfl (by kernel_rfl) _ rfl HH.out rfl) rfl ⟨by rw [HRES.out.1, HRES.out.2.1, HRES.out.2.2.1, HRES.out.2.2.2]; rfl, HB9.out⟩

set_option maxRecDepth 100000 in
set_option maxHeartbeats 1000000 in
theorem specHighest_bad (L : Lawn) (hL : L.Fits) (g : Nat → Nat → Int) (hg : LevFits g) (hv : levB L g = false) (w : World) :
    Calls Try.prog 22 #[.agg L.cells, .agg (levV g)] w fun e w' => e = .returned (.tuple #[.agg #[.int .i8 0, .int .i8 0], .int .i64 0, .int .i64 1]) ∧ Below w.heap.size w w' := by
  obtain ⟨W0, hW0⟩ : ∃ W0, ((w.alloc (.cells L.cells 30)).alloc (.cells (levV g) 32)).alloc (.cells #[.int .i8 0, .int .i8 0] 44) = W0 := ⟨_, rfl⟩
  have g0 : Holds W0 w.heap.size L.cells := by rw [← hW0]; exact ((Holds.new _ _ _).alloc _).alloc _
  have g1 : Holds W0 (w.heap.size + 1) (levV g) := by rw [← hW0]; exact (Holds.new' _ _ _ _ (by simp)).alloc _
  have g2 : Holds W0 (w.heap.size + 1 + 1) #[.int .i8 0, .int .i8 0] := by rw [← hW0]; exact Holds.new' _ _ _ _ (by simp)
  have hb0 : Below w.heap.size w W0 := by rw [← hW0]; exact (((Below.refl w.heap.size w).alloc (Nat.le_refl _) _).alloc (by simp) _).alloc (by simp; omega) _
  have HV := Lib.hid (l06Ok_any L hL g hg _ _ _ g0 g1)
  rw [hv] at HV
  clear hv hL hg
  go_enter Try.func22, Try.ntmps22
  go_wp2_with fail
  clear hW0
  refine HV.out.mono ?_
  rintro e w1 ⟨rfl, hb1⟩
  have hb2 := below_onto hb0 hb1
  have k2 := g2.below hb1 g2.lt
  obtain ⟨rr, fr, -, -, lr⟩ := k2.facts
  have HK := Lib.hid (k2.setRow #[.int .i8 0, .int .i8 0])
  have HB := Lib.hid hb2
  clear hb0 hb1 g0 g1 g2 hb2 HV
  go_wp2_with fail
  exact bodyPost_ret (results_cell_tmp2' rfl (by kernel_rfl) _ rfl HK.out rfl) rfl ⟨rfl, below_setRow' HB.out (by omega) _⟩

set_option maxRecDepth 100000 in
set_option maxHeartbeats 2000000 in
theorem specHighest_good (L : Lawn) (hL : L.Fits) (g : Nat → Nat → Int) (hg : LevFits g) (hv : levB L g = true) (w : World) :
    Calls Try.prog 22 #[.agg L.cells, .agg (levV g)] w fun e w' => e = .returned (.tuple #[.agg #[.int .i8 (topX (topO L g)), .int .i8 (topY (topO L g))], .int .i64 (topZ g (topO L g)), .int .i64 (topC (topO L g))]) ∧ Below w.heap.size w w' := by
  obtain ⟨W0, hW0⟩ : ∃ W0, ((w.alloc (.cells L.cells 30)).alloc (.cells (levV g) 32)).alloc (.cells #[.int .i8 0, .int .i8 0] 44) = W0 := ⟨_, rfl⟩
  have g0 : Holds W0 w.heap.size L.cells := by rw [← hW0]; exact ((Holds.new _ _ _).alloc _).alloc _
  have g1 : Holds W0 (w.heap.size + 1) (levV g) := by rw [← hW0]; exact (Holds.new' _ _ _ _ (by simp)).alloc _
  have g2 : Holds W0 (w.heap.size + 1 + 1) #[.int .i8 0, .int .i8 0] := by rw [← hW0]; exact Holds.new' _ _ _ _ (by simp)
  have hb0 : Below w.heap.size w W0 := by rw [← hW0]; exact (((Below.refl w.heap.size w).alloc (Nat.le_refl _) _).alloc (by simp) _).alloc (by simp; omega) _
  have HV := Lib.hid (l06Ok_any L hL g hg _ _ _ g0 g1)
  rw [hv] at HV
  have hV := (levB_true hv).1
  obtain ⟨h1, h2, -⟩ := validB_true hV
  have HCE := Lib.hid (fun (w0 : World) (h : Holds w0 w.heap.size L.cells) => l01Cells_any L.wide.toNat L.high.toNat (by omega) (by omega) (by omega) (by omega) L hL (by omega) (by omega) 0 w.heap.size w0 h)
  have HN := ofKind_le (L := L) (W := L.wide.toNat) (H := L.high.toNat) (by omega) (by omega) 0
  have HW10 : Hid (L.wide.toNat ≤ 10 ∧ L.high.toNat ≤ 10) := Lib.hid (by omega)
  have HAT := Lib.hid (fun (c : Fin L.wide.toNat × Fin L.high.toNat) (w0 : World) (hb : Holds w0 (w.heap.size + 1) (levV g)) => l06At_any g (w.heap.size + 1) c.1.val c.2.val (by have := c.1.isLt; have := HW10.out; omega) (by have := c.2.isLt; have := HW10.out; omega) (hg _ _ (by have := c.2.isLt; have := HW10.out; omega) (by have := c.1.isLt; have := HW10.out; omega)) w0 hb)
  have HO := Lib.hid (show topO L g = bestL (topLt g) (ofKind L L.wide.toNat L.high.toNat 0) (ofKind L L.wide.toNat L.high.toNat 0).length from rfl)
  obtain ⟨o, ho⟩ : ∃ o, topO L g = o := ⟨_, rfl⟩
  rw [ho] at HO ⊢
  obtain ⟨l, hl⟩ : ∃ l, ofKind L L.wide.toNat L.high.toNat 0 = l := ⟨_, rfl⟩
  rw [hl] at HCE HN HO
  obtain ⟨n, hn⟩ : ∃ n, l.length = n := ⟨_, rfl⟩
  rw [hn] at HCE HN HO
  have HNN := Lib.hid hn
  clear hv hL hg hV h1 h2 HW10 hl ho hn
  go_enter Try.func22, Try.ntmps22
  go_wp2_with fail
  clear hW0
  refine HV.out.mono ?_
  rintro e w1 ⟨rfl, hb1⟩
  have hb2 := below_onto hb0 hb1
  have k0 := g0.below hb1 g0.lt
  have k1 := g1.below hb1 g1.lt
  have k2 := g2.below hb1 g2.lt
  clear hb0 hb1 g0 g1 g2 HV
  go_wp2_with fail
  refine (HCE.out _ k0).mono ?_
  rintro e w2 ⟨vA, rfl, hoA, hb3⟩
  have hb4 := below_onto hb2 hb3
  have q1 := k1.below hb3 k1.lt
  have q2 := k2.below hb3 k2.lt
  have hsz := hb3.size
  obtain ⟨aA, cA, rfl⟩ := own_slice hoA
  have HAo := Lib.hid hoA
  have hl2 := k2.lt
  obtain ⟨B, hB⟩ : ∃ B, w1.heap.size = B := ⟨_, rfl⟩
  rw [hB] at HAo hsz hl2
  clear hb2 hb3 k0 k1 k2 hoA hB HCE
  rcases Nat.eq_zero_or_pos n with hn0 | hn0
  · have hd : ((n : Int) == 0) = true := by simp [hn0]
    have HRES : Hid (topX o = 0 ∧ topY o = 0 ∧ topZ g o = 0 ∧ topC o = 6) := Lib.hid (by
      rw [HO.out, hn0, bestL_zero]; exact ⟨rfl, rfl, rfl, rfl⟩)
    obtain ⟨rr, fr, -, -, lr⟩ := q2.facts
    have HK3 := Lib.hid (q2.setRow #[.int .i8 0, .int .i8 0])
    have HB := Lib.hid (below_setRow' hb4 (g := w.heap.size + 1 + 1) (by omega) #[.int .i8 0, .int .i8 0])
    clear hb4 hn0 q1 q2
    go_wp2_with fail
    exact bodyPost_ret (results_cell_tmp2' rfl (by kernel_rfl) _ rfl HK3.out rfl) rfl ⟨by rw [HRES.out.1, HRES.out.2.1, HRES.out.2.2.1, HRES.out.2.2.2]; rfl, HB.out⟩
  · have hd : ((n : Int) == 0) = false := by simp; omega
    obtain ⟨ga, cap, he, hBg, hgw⟩ := own_form HAo.out hn0
    simp only [Value.slice.injEq, true_and] at he
    obtain ⟨rfl, rfl⟩ := he
    obtain ⟨c0, hc0⟩ : ∃ c, l[0]? = some c := ⟨_, List.getElem?_eq_getElem (by rw [HNN.out]; exact hn0)⟩
    obtain ⟨fa, fb⟩ := flatV_get _ _ _ hc0
    have ca := own_cell HAo.out _ _ fa
    have cb := own_cell HAo.out _ _ fb
    simp only [Nat.zero_mul, Nat.zero_add] at ca cb
    have H1 : Hid (bestL (topLt g) l 1 = some c0) := Lib.hid (by rw [bestL_succ _ hc0, bestL_zero]; rfl)
    have hin : decide ((0 : Int) < (n : Int)) = true := by simp; omega
    clear fa fb hc0
    have HQ1 := Lib.hid q1
    have HQ2 := Lib.hid q2
    have n0 := Holds.new w2 #[.int .i8 c0.1.val, .int .i8 c0.2.val] 44
    have q1 := q1.alloc (.cells #[.int .i8 c0.1.val, .int .i8 c0.2.val] 44)
    have q2 := q2.alloc (.cells #[.int .i8 c0.1.val, .int .i8 c0.2.val] 44)
    have hb5 := hb4.alloc (by omega) (.cells #[.int .i8 c0.1.val, .int .i8 c0.2.val] 44)
    have HA1 := Lib.hid (own_below HAo.out ((Below.refl w2.heap.size w2).alloc (Nat.le_refl _) (.cells #[.int .i8 c0.1.val, .int .i8 c0.2.val] 44)))
    go_wp2_with fail
    obtain ⟨W1, hW1⟩ : ∃ W1, w2.alloc (.cells #[.int .i8 c0.1.val, .int .i8 c0.2.val] 44) = W1 := ⟨_, rfl⟩
    obtain ⟨s, hs⟩ : ∃ s, w2.heap.size = s := ⟨_, rfl⟩
    rw [hW1] at n0 q1 q2 hb5 HA1 ⊢
    rw [hs] at n0 hgw hsz ⊢
    clear hW1 hs hb4 HQ1 HQ2 HAo ca cb hd hin
    go_loopw [9] (fun x wr => ∃ i : Nat, 1 ≤ i ∧ i ≤ n ∧ x = .int .i64 i ∧ (∃ c, bestL (topLt g) l i = some c ∧ Holds wr s #[.int .i8 c.1.val, .int .i8 c.2.val]) ∧ wr.ownsRow B 44 2 (.slice (some ⟨ga, 0, none⟩) n cA) n (flatV l) ∧ Holds wr (w.heap.size + 1) (levV g) ∧ Holds wr (w.heap.size + 1 + 1) #[.int .i8 0, .int .i8 0] ∧ Below w.heap.size w wr) (fun x _ => n - (intOf x).toNat)
    case atStart => exact ⟨1, by omega, by omega, rfl, ⟨c0, H1.out, n0⟩, HA1.out, q1, q2, hb5⟩
    case round =>
      obtain ⟨i, hi1, hi, rfl, ⟨d, hbd, k0⟩, hA, k1, k2, hb⟩ := hrel
      have HA2 := Lib.hid hA
      have HBD := Lib.hid hbd
      have hbs := hb.size
      clear n0 q1 q2 hb5 HA1 hA hbd H1
      by_cases hlt : i < n
      · have hd : decide ((i : Int) < (n : Int)) = true := by simp; omega
        obtain ⟨c, hc⟩ : ∃ c, l[i]? = some c := ⟨_, List.getElem?_eq_getElem (by rw [HNN.out]; exact hlt)⟩
        have HSU := Lib.hid (bestL_succ (topLt g) hc)
        rw [HBD.out] at HSU
        obtain ⟨fa, fb⟩ := flatV_get _ _ _ hc
        have FA := Lib.hid (And.intro fa fb)
        have HATc := Lib.hid (HAT.out c)
        have HATd := Lib.hid (HAT.out d)
        have HLT := Lib.hid (show topLt g c d = decide (g d.2.val d.1.val < g c.2.val c.1.val) from rfl)
        clear hc fa fb
        go_wp2_with fail
        refine wp_region_grow 7 (by kernel_rfl) (by kernel_rfl) ?_
        simp only [List.take_succ_cons, List.take_zero, List.drop_succ_cons, List.drop_zero]
        iterate 7
          apply wpGrow_plain rfl
          · intro w' hw' K hK
            have oa := own_below HA2.out hw'
            have ca := own_cell oa _ _ FA.out.1
            have cb := own_cell oa _ _ FA.out.2
            have c0' := (k0.below hw' k0.lt).cell
            have hl' := k1.below hw' k1.lt
            clear oa
            go_wp2_with (first | (go_at_call 47; with_reducible refine (HATc.out _ hl').mono ?_; rintro e w1 ⟨rfl, hb1⟩) | (go_at_call 47; with_reducible refine (HATd.out _ hl').mono ?_; rintro e w1 ⟨rfl, hb1⟩))
            first | exact hK _ _ rfl hw' | exact hK _ _ rfl (below_onto hw' hb1)
          simp only [Act.put, List.setIfInBounds_toArray, List.set_cons_succ, List.set_cons_zero]
        refine wpGrow_nil ?_
        intro W2 hW2
        have hb2 := below_onto hb hW2
        have j0 := k0.below hW2 k0.lt
        have j1 := k1.below hW2 k1.lt
        have j2 := k2.below hW2 k2.lt
        have oa := own_below HA2.out hW2
        have HA3 := Lib.hid oa
        have ca := own_cell oa _ _ FA.out.1
        have cb := own_cell oa _ _ FA.out.2
        obtain ⟨-, -, e0, f0, l0⟩ := j0.facts
        obtain ⟨r, hr⟩ : ∃ r, topLt g c d = r := ⟨_, rfl⟩
        rw [hr] at HLT
        have HR := Lib.hid hr
        have hcmp := HLT.out.symm
        clear hW2 hb k0 k1 k2 oa HA2 hr
        cases r
        · have HSU := Lib.hid (show bestL (topLt g) l (i + 1) = some d by rw [HSU.out]; simp only [pickL]; rw [HR.out]; rfl)
          go_wp2_with fail
          go_roundw
          case rel => exact ⟨i + 1, by omega, by omega, by go_num, ⟨d, HSU.out, j0⟩, HA3.out, j1, j2, hb2⟩
          case measure => simp [intOf]; omega
        · have HSU := Lib.hid (show bestL (topLt g) l (i + 1) = some c by rw [HSU.out]; simp only [pickL]; rw [HR.out]; rfl)
          have m0 := j0.setRow #[.int .i8 c.1.val, .int .i8 c.2.val]
          have r0 := j0.row
          have f1 := j0.isFree
          go_wp2_with fail
          go_roundw
          case rel => exact ⟨i + 1, by omega, by omega, by go_num, ⟨c, HSU.out, m0⟩, (Only.ofBelow (T := [s]) (Below.refl _ W2)).setRow (.inl (by simp)) _ |>.own HA3.out (by intro k hk; simp [Value.ownBlock] at hk; simp; omega), j1.setRow_other _ (by omega), j2.setRow_other _ (by omega), below_setRow' hb2 (by omega) _⟩
          case measure => simp [intOf]; omega
      · obtain rfl : i = n := by omega
        have hd : decide ((i : Int) < (i : Int)) = false := by simp
        have HRES : Hid (topX o = d.1.val ∧ topY o = d.2.val ∧ topZ g o = g d.2.val d.1.val ∧ topC o = 0) := Lib.hid (by
          rw [HO.out, HBD.out]; exact ⟨rfl, rfl, rfl, rfl⟩)
        have HATd := Lib.hid (HAT.out d)
        have HK0 := Lib.hid k0
        have HK1 := Lib.hid k1
        have HK2 := Lib.hid k2
        have HB8 := Lib.hid hb
        clear k0 k1 k2 hb HA2
        go_wp2_with fail
        refine wp_region_growS1 5 3 (w.heap.size + 1 + 1) #[.int .i8 0, .int .i8 0] #[.int .i8 d.1.val, .int .i8 d.2.val] [.agg #[.int .i8 d.1.val, .int .i8 d.2.val], .agg #[.int .i8 d.1.val, .int .i8 d.2.val], .int .i64 (g d.2.val d.1.val), undef, .int .i64 (g d.2.val d.1.val)] (by kernel_rfl) (by kernel_rfl) (by decide) HK2.out ?_
        simp only [List.take_succ_cons, List.take_zero, List.drop_succ_cons, List.drop_zero]
        iterate 2
          refine seqS_other (v := .agg #[.int .i8 d.1.val, .int .i8 d.2.val]) rfl rfl rfl ?_ ?_
          · intro w' hw' K hK
            have e0 := (hw'.holds HK0.out (by simp; omega)).cell
            go_wp2_with fail
            exact hK _ _ rfl (Below.refl _ _)
          simp only [Act.put, List.setIfInBounds_toArray, List.set_cons_succ, List.set_cons_zero]
        refine seqS_other (v := .int .i64 (g d.2.val d.1.val)) rfl rfl rfl ?_ ?_
        · intro w' hw' K hK
          have e0 := hw'.holds HK1.out (by simp)
          go_wp2_with (go_at_call 47; refine (HATd.out _ e0).mono ?_; rintro e w1 ⟨rfl, hb1⟩)
          exact hK _ _ rfl hb1
        simp only [Act.put, List.setIfInBounds_toArray, List.set_cons_succ, List.set_cons_zero]
        refine seqS_store rfl rfl rfl ?_ ?_
        · intro w' hO hH K hK
          obtain ⟨rr, fr, -, -, lr⟩ := hH.facts
          go_wp2_with fail
          exact hK
        refine seqS_other (v := .int .i64 (g d.2.val d.1.val)) rfl rfl rfl ?_ ?_
        · intro w' hw' K hK
          go_wp2_with fail
          exact hK _ _ rfl (Below.refl _ _)
        simp only [Act.put, List.setIfInBounds_toArray, List.set_cons_succ, List.set_cons_zero]
        refine seqS_nil ?_
        intro w' hO hH
        have HH := Lib.hid hH
        have HB9 := Lib.hid (HB8.out.trans (hO.toBelow (B := w.heap.size) (by intro k hk; simp at hk; omega) HB8.out.size))
        clear hO hH
        go_wp2_with fail
        exact bodyPost_ret (results_cell_tmp2' rfl (by kernel_rfl) _ rfl HH.out rfl) rfl ⟨by rw [HRES.out.1, HRES.out.2.1, HRES.out.2.2.1, HRES.out.2.2.2]; rfl, HB9.out⟩

/-- What both answer. -/
theorem highest_both (L : Lawn) (hL : L.Fits) (g : Nat → Nat → Int) (hg : LevFits g) : ∃ x y z m : Int, (∀ w : World, Calls Try.prog 23 #[.agg L.cells, .agg (levV g)] w fun e w' => e = .returned (.tuple #[.agg #[.int .i8 x, .int .i8 y], .int .i64 z, .int .i64 m]) ∧ Below w.heap.size w w') ∧
    (∀ w : World, Calls Try.prog 22 #[.agg L.cells, .agg (levV g)] w fun e w' => e = .returned (.tuple #[.agg #[.int .i8 x, .int .i8 y], .int .i64 z, .int .i64 m]) ∧ Below w.heap.size w w') := by
  cases hv : levB L g with
  | false => exact ⟨_, _, _, _, implHighest_bad L hL g hv, specHighest_bad L hL g hg hv⟩
  | true => exact ⟨_, _, _, _, implHighest_good L hL g hg hv, specHighest_good L hL g hg hv⟩
end Go.Proofs.Ytbccffnmjmbgoaa
