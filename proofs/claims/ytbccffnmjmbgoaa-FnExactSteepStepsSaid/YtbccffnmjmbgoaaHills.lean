/- HillsIn, of the program and of the model. -/
import Derived.Test.YtbccffnmjmbgoaaVLev
import Derived.Test.YtbccffnmjmbgoaaGenC
import Derived.Test.YtbccffnmjmbgoaaZE
namespace Go.Proofs.Ytbccffnmjmbgoaa
open Go.RowKit
set_option linter.unusedVariables false
set_option linter.unusedSimpArgs false
attribute [local go_sem ↓] loadRow loadGrid loadLawn loadMirror storeRow storeGrid storeLawn allocRow allocGrid allocLawn buildZero buildSides loadR8 loadL8 loadLv storeR8 storeLv allocR8 allocLv buildZLv

/-- Whether a cell is high. -/
def highB {W H : Nat} (g : Nat → Nat → Int) (least : Int) (c : Fin W × Fin H) : Bool := decide (least ≤ g c.2.val c.1.val)
def hillsL (L : Lawn) (g : Nat → Nat → Int) (least : Int) : List (Fin L.wide.toNat × Fin L.high.toNat) := if told (levB L g) (inB least (-9) 9) = 0 then (ofKind L L.wide.toNat L.high.toNat 0).filter (highB g least) else []
theorem ofKind_le {L : Lawn} {W H : Nat} (hW : W ≤ 10) (hH : H ≤ 10) (K : Int) : (ofKind L W H K).length ≤ 100 := by
  refine Nat.le_trans (List.length_filter_le _ _) ?_
  rw [allC_length]
  exact Nat.le_trans (Nat.mul_le_mul hH hW) (by omega)
theorem hills_le (L : Lawn) (g : Nat → Nat → Int) (least : Int) : (hillsL L g least).length ≤ 100 := by
  unfold hillsL
  split
  · rename_i h
    have hv : validB L = true := by
      cases e : levB L g with
      | true => exact (levB_true e).1
      | false => rw [e] at h; simp [told] at h
    obtain ⟨h1, h2, -⟩ := validB_true hv
    exact Nat.le_trans (List.length_filter_le _ _) (ofKind_le (by omega) (by omega) 0)
  · simp

set_option maxRecDepth 100000 in
set_option maxHeartbeats 1000000 in
theorem hill_is (g : Nat → Nat → Int) (hg : LevFits g) (least : Int) (b c : Nat) (x y : Nat) (hx : x < 10) (hy : y < 10) (d : Bool) (hd : decide (g y x < least) = d) (w : World) (hb : Holds w b (levV g)) (hc : Holds w c #[.int .i64 least]) :
    Calls Try.prog 51 #[.agg #[.int .i8 x, .int .i8 y], .pointer (some ⟨b, 0, none⟩), .pointer (some ⟨c, 0, none⟩)] w fun e w' => e = .returned (.bool d) ∧ Below w.heap.size w w' := by
  have HN := Lib.hid (level_any g x y hx hy)
  have hgv := hg y x hy hx
  have hwr : IntKind.i64.wrap (g y x) = g y x := IntWalk.i64_in _ (by omega)
  have c0 := Holds.new w #[.int .i8 x, .int .i8 y] 44
  have b1 := hb.alloc (.cells #[.int .i8 x, .int .i8 y] 44)
  have c1 := hc.alloc (.cells #[.int .i8 x, .int .i8 y] 44)
  have hb0 := (Below.refl w.heap.size w).alloc (Nat.le_refl _) (.cells #[.int .i8 x, .int .i8 y] 44)
  obtain ⟨W0, hW0⟩ : ∃ W0, w.alloc (.cells #[.int .i8 x, .int .i8 y] 44) = W0 := ⟨_, rfl⟩
  rw [hW0] at c0 b1 c1 hb0
  clear hg
  go_enter Try.func51, Try.ntmps51
  go_wp2_with fail
  clear hW0
  obtain ⟨r0, -⟩ := b1.later
  obtain ⟨-, s0⟩ := c0.later
  obtain ⟨-, s1⟩ := c1.later
  refine wp_region_grow 6 (by kernel_rfl) (by kernel_rfl) ?_
  simp only [List.take_succ_cons, List.take_zero, List.drop_succ_cons, List.drop_zero]
  iterate 6
    apply wpGrow_plain rfl
    · intro w' hw' K hK
      have e0 := s0 _ hw'
      have e1 := s1 _ hw'
      have e2 := r0 _ hw'
      go_wp2_with (go_at_call 41; refine (HN.out _).mono ?_; rintro e w1 ⟨rfl, hb1⟩)
      first | exact hK _ _ rfl hw' | exact hK _ _ rfl (below_onto hw' hb1)
    simp only [Act.put, List.setIfInBounds_toArray, List.set_cons_succ, List.set_cons_zero]
  refine wpGrow_nil ?_
  intro W1 hW
  have hb2 := below_onto hb0 hW
  clear r0 s0 s1 b1 c1 c0 hW hb0
  go_wp2_with fail
  go_ret
  exact ⟨rfl, hb2⟩

set_option maxRecDepth 100000 in
set_option maxHeartbeats 1000000 in
theorem implHills_any (L : Lawn) (hL : L.Fits) (g : Nat → Nat → Int) (hg : LevFits g) (least : Int) (w : World) :
    Calls Try.prog 18 #[.agg L.cells, .agg (levV g), .int .i64 least] w fun e w' => (∃ v, e = .returned (.tuple #[v, .int .i64 (told (levB L g) (inB least (-9) 9))]) ∧ w'.ownsRow w.heap.size 44 2 v (hillsL L g least).length (flatV (hillsL L g least))) ∧ Below w.heap.size w w' := by
  obtain ⟨W0, hW0⟩ : ∃ W0, ((w.alloc (.cells L.cells 30)).alloc (.cells (levV g) 32)).alloc (.cells #[.int .i64 least] 2) = W0 := ⟨_, rfl⟩
  have g0 : Holds W0 w.heap.size L.cells := by rw [← hW0]; exact ((Holds.new _ _ _).alloc _).alloc _
  have g1 : Holds W0 (w.heap.size + 1) (levV g) := by rw [← hW0]; exact (Holds.new' _ _ _ _ (by simp)).alloc _
  have g2 : Holds W0 (w.heap.size + 1 + 1) #[.int .i64 least] := by rw [← hW0]; exact Holds.new' _ _ _ _ (by simp)
  have hb0 : Below w.heap.size w W0 := by rw [← hW0]; exact (((Below.refl w.heap.size w).alloc (Nat.le_refl _) _).alloc (by simp) _).alloc (by simp; omega) _
  obtain ⟨r0, -, -, -, -⟩ := g0.facts
  obtain ⟨r1, -, -, -, -⟩ := g1.facts
  have HV := Lib.hid (implLevels_any L hL g)
  obtain ⟨d, hd⟩ : ∃ d, inB least (-9) 9 = d := ⟨_, rfl⟩
  have HD := Lib.hid (isLevel64_is least d hd)
  have HLL := Lib.hid (show hillsL L g least = if told (levB L g) (inB least (-9) 9) = 0 then (ofKind L L.wide.toNat L.high.toNat 0).filter (highB g least) else [] from rfl)
  rw [hd] at HLL ⊢
  clear hd
  cases hv : levB L g
  case false =>
    rw [hv] at HV HLL
    have HZ : hillsL L g least = [] := by rw [HLL.out]; simp [told]
    rw [HZ, show told false d = 1 from rfl]
    clear hv hL hg HLL HD HZ
    go_enter Try.func18, Try.ntmps18
    go_wp2_with fail
    clear hW0 r0 r1
    refine (HV.out _).mono ?_
    rintro e w1 ⟨rfl, hb1⟩
    have hb2 := below_onto hb0 hb1
    clear hb0 hb1 g0 g1 g2
    go_wp2_with fail
    go_ret2
    exact ⟨⟨_, rfl, World.ownsRow_nil _ _ _ _⟩, hb2⟩
  case true =>
    rw [hv] at HV HLL
    cases d
    case false =>
      have HZ : hillsL L g least = [] := by rw [HLL.out]; simp [told]
      rw [HZ, show told true false = 2 from rfl]
      clear hv hL hg HLL HZ
      go_enter Try.func18, Try.ntmps18
      go_wp2_with fail
      clear hW0 r0 r1
      refine (HV.out _).mono ?_
      rintro e w1 ⟨rfl, hb1⟩
      have hb2 := below_onto hb0 hb1
      have k2 := g2.below hb1 g2.lt
      clear hb0 hb1 g0 g1 g2
      obtain ⟨-, -, c2, -, -⟩ := k2.facts
      go_wp2_with (go_at_call 48; refine (HD.out _).mono ?_; rintro e w2 ⟨rfl, rfl⟩)
      go_ret2
      exact ⟨⟨_, rfl, World.ownsRow_nil _ _ _ _⟩, hb2⟩
    case true =>
      have hV := (levB_true hv).1
      have hE : cellsL L 0 = ofKind L L.wide.toNat L.high.toNat 0 := by unfold cellsL; rw [hV]; rfl
      have HC := Lib.hid (implCells_any L hL 0)
      rw [hE, hV] at HC
      obtain ⟨h1, h2, -⟩ := validB_true hV
      have HN := Lib.hid (ofKind_le (L := L) (W := L.wide.toNat) (H := L.high.toNat) (by omega) (by omega) 0)
      have HW10 : Hid (L.wide.toNat ≤ 10 ∧ L.high.toNat ≤ 10) := Lib.hid (by omega)
      have HLG : Hid (hillsL L g least = (ofKind L L.wide.toNat L.high.toNat 0).filter (highB g least)) := Lib.hid (by rw [HLL.out]; rfl)
      have HHL := Lib.hid (fun (c : Fin L.wide.toNat × Fin L.high.toNat) (b c' : Nat) (w : World) (hb : Holds w b (levV g)) (hc : Holds w c' #[.int .i64 least]) => hill_is g hg least b c' c.1.val c.2.val (by have := c.1.isLt; have := HW10.out; omega) (by have := c.2.isLt; have := HW10.out; omega) _ rfl w hb hc)
      have HHB := Lib.hid (show ∀ c : Fin L.wide.toNat × Fin L.high.toNat, decide (g c.2.val c.1.val < least) = !highB g least c from fun c => by unfold highB; rw [Bool.eq_iff_iff]; simp)
      have hE2 := enters_of Try.func51 (by kernel_rfl) rfl
      rw [HLG.out, show told true true = 0 from rfl]
      obtain ⟨l, hl⟩ : ∃ l, ofKind L L.wide.toNat L.high.toNat 0 = l := ⟨_, rfl⟩
      rw [hl] at HC HN ⊢
      clear hv hL hg HLL hV hE h1 h2 HW10 HLG hl
      go_enter Try.func18, Try.ntmps18
      go_wp2_with fail
      clear hW0 r0 r1
      refine (HV.out _).mono ?_
      rintro e w1 ⟨rfl, hb1⟩
      have hb2 := below_onto hb0 hb1
      have k0 := g0.below hb1 g0.lt
      have k1 := g1.below hb1 g1.lt
      have k2 := g2.below hb1 g2.lt
      clear hb0 hb1 g0 g1 g2
      obtain ⟨-, -, c2, -, -⟩ := k2.facts
      obtain ⟨r0, -, -, -, -⟩ := k0.facts
      go_wp2_with (go_at_call 48; refine (HD.out _).mono ?_; rintro e w2 ⟨rfl, hw2⟩; rw [hw2]; clear hw2)
      refine (HC.out _).mono ?_
      rintro e w3 ⟨⟨v, rfl, hv⟩, hb3⟩
      have hb4 := below_onto hb2 hb3
      have q1 := k1.below hb3 k1.lt
      have q2 := k2.below hb3 k2.lt
      have hsz := hb3.size
      have l2 := k2.lt
      have hsz0 := hb2.size
      obtain ⟨av, cv, rfl⟩ := own_slice hv
      have HVV := Lib.hid hv
      obtain ⟨B, hB⟩ : ∃ B, w1.heap.size = B := ⟨_, rfl⟩
      rw [hB] at HVV l2 hsz hsz0
      clear hv hb2 hb3 k0 k1 k2 c2 r0 hB
      simp only [told, if_true, inB, Int.le_refl, decide_true, Bool.and_true]
      go_wp2_with fail
      refine (deleteC_any (highB g least) _ _ hE2 B l.length _ HN.out l rfl w3 HVV.out (fun d w4 hb5 => ?_) hsz).mono ?_
      · have := HHL.out d (w.heap.size + 1) (w.heap.size + 1 + 1) w4 (q1.below hb5 (by omega)) (q2.below hb5 (by omega))
        rw [HHB.out] at this
        exact this
      rintro e w5 ⟨⟨u, rfl, hu⟩, hb5⟩
      have hb6 : Below w.heap.size w w5 := hb4.trans (hb5.mono (by omega))
      have HU := Lib.hid (ownsRow_low (A := w.heap.size) hu hsz0)
      clear hu hb4 hb5 q1 q2
      go_wp2_with fail
      go_ret2
      exact ⟨⟨_, rfl, HU.out⟩, hb6⟩

theorem filtTo_hit {α : Type} {p : α → Bool} {l : List α} {i : Nat} {c : α} (hc : l[i]? = some c) (hk : p c = true) : (l.take (i + 1)).filter p = (l.take i).filter p ++ [c] := by
  rw [List.take_add_one, hc, Option.toList_some, List.filter_append]; simp [hk]
theorem filtTo_miss {α : Type} {p : α → Bool} {l : List α} {i : Nat} {c : α} (hc : l[i]? = some c) (hk : p c = false) : (l.take (i + 1)).filter p = (l.take i).filter p := by
  rw [List.take_add_one, hc, Option.toList_some, List.filter_append]; simp [hk]
theorem filtTo_le {α : Type} (p : α → Bool) (l : List α) (i : Nat) : ((l.take i).filter p).length ≤ i := by
  refine Nat.le_trans (List.length_filter_le _ _) ?_
  simp; omega

set_option maxRecDepth 100000 in
set_option maxHeartbeats 2000000 in
theorem specHills_any (L : Lawn) (hL : L.Fits) (g : Nat → Nat → Int) (hg : LevFits g) (least : Int) (w : World) :
    Calls Try.prog 17 #[.agg L.cells, .agg (levV g), .int .i64 least] w fun e w' => (∃ v, e = .returned (.tuple #[v, .int .i64 (told (levB L g) (inB least (-9) 9))]) ∧ w'.ownsRow w.heap.size 44 2 v (hillsL L g least).length (flatV (hillsL L g least))) ∧ Below w.heap.size w w' := by
  obtain ⟨W0, hW0⟩ : ∃ W0, ((w.alloc (.cells L.cells 30)).alloc (.cells (levV g) 32)).alloc (.cells #[] 44) = W0 := ⟨_, rfl⟩
  have g0 : Holds W0 w.heap.size L.cells := by rw [← hW0]; exact ((Holds.new _ _ _).alloc _).alloc _
  have g1 : Holds W0 (w.heap.size + 1) (levV g) := by rw [← hW0]; exact (Holds.new' _ _ _ _ (by simp)).alloc _
  have hm : W0.ownsRow w.heap.size 44 2 (.slice (some ⟨w.heap.size + 1 + 1, 0, none⟩) 0 0) 0 [] := by
    rw [← hW0]
    have := World.ownsRow_made (base := w.heap.size) (e := 44) (size := 2) ((w.alloc (.cells L.cells 30)).alloc (.cells (levV g) 32)) #[] 0 (by simp; omega) (by simp [maxLen]) rfl
    simpa using this
  have hb0 : Below w.heap.size w W0 := by rw [← hW0]; exact (((Below.refl w.heap.size w).alloc (Nat.le_refl _) _).alloc (by simp) _).alloc (by simp; omega) _
  have hs0 : W0.heap.size = w.heap.size + 3 := by rw [← hW0]; simp
  obtain ⟨d, hd⟩ : ∃ d, inB least (-9) 9 = d := ⟨_, rfl⟩
  have HD := Lib.hid (l06Level_is least d hd)
  have HA := Lib.hid (l06Asked_any L hL g hg w.heap.size (w.heap.size + 1) d W0 g0 g1)
  have HLL := Lib.hid (show hillsL L g least = if told (levB L g) (inB least (-9) 9) = 0 then (ofKind L L.wide.toNat L.high.toNat 0).filter (highB g least) else [] from rfl)
  rw [hd] at HLL ⊢
  clear hd
  cases hv : levB L g
  case false =>
    rw [hv] at HA HLL
    have HZ : hillsL L g least = [] := by rw [HLL.out]; simp [told]
    rw [HZ]
    rw [show told false d = 1 from rfl] at HA ⊢
    clear hv hL hg HLL HZ
    go_enter Try.func17, Try.ntmps17
    go_wp2_with (go_at_call 45; refine (HD.out _).mono ?_; rintro e w2 ⟨rfl, hw2⟩; rw [hw2]; clear hw2)
    refine HA.out.mono ?_
    rintro e w1 ⟨rfl, hb1⟩
    have hb2 := below_onto hb0 hb1
    have HM := Lib.hid (own_below hm hb1)
    clear hb0 hb1 g0 g1 hm hW0 HA
    go_wp2_with fail
    go_ret2
    exact ⟨⟨_, rfl, HM.out⟩, hb2⟩
  case true =>
    rw [hv] at HA HLL
    cases d
    case false =>
      have HZ : hillsL L g least = [] := by rw [HLL.out]; simp [told]
      rw [HZ]
      rw [show told true false = 2 from rfl] at HA ⊢
      clear hv hL hg HLL HZ
      go_enter Try.func17, Try.ntmps17
      go_wp2_with (go_at_call 45; refine (HD.out _).mono ?_; rintro e w2 ⟨rfl, hw2⟩; rw [hw2]; clear hw2)
      refine HA.out.mono ?_
      rintro e w1 ⟨rfl, hb1⟩
      have hb2 := below_onto hb0 hb1
      have HM := Lib.hid (own_below hm hb1)
      clear hb0 hb1 g0 g1 hm hW0 HA
      go_wp2_with fail
      go_ret2
      exact ⟨⟨_, rfl, HM.out⟩, hb2⟩
    case true =>
      have hV := (levB_true hv).1
      obtain ⟨h1, h2, -⟩ := validB_true hV
      have HCE := Lib.hid (fun (w0 : World) (h : Holds w0 w.heap.size L.cells) => l01Cells_any L.wide.toNat L.high.toNat (by omega) (by omega) (by omega) (by omega) L hL (by omega) (by omega) 0 w.heap.size w0 h)
      have HN := ofKind_le (L := L) (W := L.wide.toNat) (H := L.high.toNat) (by omega) (by omega) 0
      have HW10 : Hid (L.wide.toNat ≤ 10 ∧ L.high.toNat ≤ 10) := Lib.hid (by omega)
      have HLG : Hid (hillsL L g least = (ofKind L L.wide.toNat L.high.toNat 0).filter (highB g least)) := Lib.hid (by rw [HLL.out]; rfl)
      have HAT := Lib.hid (fun (c : Fin L.wide.toNat × Fin L.high.toNat) (w0 : World) (hb : Holds w0 (w.heap.size + 1) (levV g)) => l06At_any g (w.heap.size + 1) c.1.val c.2.val (by have := c.1.isLt; have := HW10.out; omega) (by have := c.2.isLt; have := HW10.out; omega) (hg _ _ (by have := c.2.isLt; have := HW10.out; omega) (by have := c.1.isLt; have := HW10.out; omega)) w0 hb)
      have HHB := Lib.hid (show ∀ c : Fin L.wide.toNat × Fin L.high.toNat, decide (least ≤ g c.2.val c.1.val) = highB g least c from fun c => rfl)
      rw [HLG.out]
      rw [show told true true = 0 from rfl] at HA ⊢
      obtain ⟨l, hl⟩ : ∃ l, ofKind L L.wide.toNat L.high.toNat 0 = l := ⟨_, rfl⟩
      rw [hl] at HCE HN ⊢
      obtain ⟨i0, hi, hz0, hz1, hz2⟩ := info_parts cellInfo
      have HI := Lib.hid (show Try.prog.info? 44 = some i0 ∧ i0.zero = some (.agg #[.int .i8 0, .int .i8 0]) ∧ i0.size = 2 ∧ i0.bytes = 2 from ⟨hi, hz0, hz1, hz2⟩)
      clear hv hL hg HLL hV h1 h2 HW10 HLG hl hi hz0 hz1 hz2
      go_enter Try.func17, Try.ntmps17
      go_wp2_with (go_at_call 45; refine (HD.out _).mono ?_; rintro e w2 ⟨rfl, hw2⟩; rw [hw2]; clear hw2)
      refine HA.out.mono ?_
      rintro e w1 ⟨rfl, hb1⟩
      have hb2 := below_onto hb0 hb1
      have k0 := g0.below hb1 g0.lt
      have k1 := g1.below hb1 g1.lt
      have hm1 := own_below hm hb1
      have hs1 := hb1.size
      have hM3 : w.heap.size + 1 + 1 < w1.heap.size := by omega
      clear hb0 hb1 g0 g1 hm hW0 HA
      go_wp2_with fail
      refine (HCE.out _ k0).mono ?_
      rintro e w2 ⟨vA, rfl, hoA, hb3⟩
      have hb4 := below_onto hb2 hb3
      have k2 := k1.below hb3 k1.lt
      have hm2 := own_below hm1 hb3
      obtain ⟨aA, cA, rfl⟩ := own_slice hoA
      obtain ⟨n, hn⟩ : ∃ n, l.length = n := ⟨_, rfl⟩
      rw [hn] at hoA HN ⊢
      have HNN := Lib.hid hn
      have HAo := Lib.hid hoA
      have HM2 := Lib.hid hm2
      have HAP := Lib.hid (show (Value.slice (some ⟨w.heap.size + 1 + 1, 0, none⟩) 0 0).ownBlock = none ∨ (Value.slice (some ⟨w.heap.size + 1 + 1, 0, none⟩) 0 0).ownBlock ≠ (Value.slice aA n cA).ownBlock from .inr fun e => by
        have := own_far HAo.out (w.heap.size + 1 + 1) e.symm
        omega)
      obtain ⟨B, hB⟩ : ∃ B, w1.heap.size = B := ⟨_, rfl⟩
      rw [hB] at HAo
      clear hb2 hb3 k0 k1 hm1 hm2 hoA hn hM3 hs1 hs0 hB
      go_wp2_with fail
      go_loopw [8, 11] (fun v x wr => ∃ i : Nat, i ≤ n ∧ x = .int .i64 i ∧ wr.ownsRow w.heap.size 44 2 v ((l.take i).filter (highB g least)).length (flatV ((l.take i).filter (highB g least))) ∧ wr.ownsRow B 44 2 (.slice aA n cA) n (flatV l) ∧ (v.ownBlock = none ∨ v.ownBlock ≠ (Value.slice aA n cA).ownBlock) ∧ v.ownBlock ≠ some (w.heap.size + 1) ∧ Holds wr (w.heap.size + 1) (levV g) ∧ Below w.heap.size w wr) (fun _ x _ => n - (intOf x).toNat)
      case atStart => exact ⟨0, by omega, rfl, by simpa [flatV] using HM2.out, HAo.out, HAP.out, by simp [Value.ownBlock], k2, hb4⟩
      case round =>
        obtain ⟨i, hi, rfl, ho, hA, hv, hv1, hG, hb⟩ := hrel
        have HO := Lib.hid ho
        have HA2 := Lib.hid hA
        have HV := Lib.hid hv
        have HV1 := Lib.hid hv1
        clear ho hA hv hv1 HM2 HAP hb4 k2 HAo
        by_cases hlt : i < n
        · have hd : decide ((i : Int) < (n : Int)) = true := by simp; omega
          obtain ⟨c, hc⟩ : ∃ c, l[i]? = some c := ⟨_, List.getElem?_eq_getElem (by rw [HNN.out]; exact hlt)⟩
          have HC := Lib.hid hc
          obtain ⟨ga, cap, he, hBg, hgw⟩ := own_form HA2.out (by omega)
          simp only [Value.slice.injEq, true_and] at he
          obtain ⟨rfl, rfl⟩ := he
          obtain ⟨fa, fb⟩ := flatV_get _ _ _ hc
          have ca := own_cell HA2.out _ _ fa
          have cb := own_cell HA2.out _ _ fb
          have HATc := Lib.hid (HAT.out c)
          have HHc := Lib.hid (HHB.out c)
          have hsz := hb.size
          clear hc
          go_wp2_with fail
          refine (HATc.out _ hG).mono ?_
          rintro e w3 ⟨rfl, hb3⟩
          have hb4 : Below w.heap.size w w3 := below_onto hb hb3
          have HO2 := Lib.hid (own_below HO.out hb3)
          have HA3 := Lib.hid (own_below HA2.out hb3)
          have hG3 := hG.below hb3 hG.lt
          have hg2 : ga < w3.heap.size := Nat.lt_of_lt_of_le hgw hb3.size
          have hsz2 := hb4.size
          clear hb3 hb ca cb HO HA2 hsz hgw hG
          obtain ⟨k, hk⟩ : ∃ k, highB g least c = k := ⟨_, rfl⟩
          rw [hk] at HHc
          have HK := Lib.hid hk
          clear hk
          cases k
          · have ho3 := filtTo_miss HC.out HK.out
            rw [← ho3] at HO2
            have hkl := HHc.out
            clear ho3
            go_wp2_with fail
            go_roundw
            case rel => exact ⟨i + 1, by omega, by go_num, HO2.out, HA3.out, HV.out, HV1.out, hG3, hb4⟩
            case measure => simp [intOf]; omega
          · have ca := own_cell HA3.out _ _ fa
            have cb := own_cell HA3.out _ _ fb
            have hle := filtTo_le (highB g least) l i
            have hkl := HHc.out
            go_wp2_with (at_builtin; refine wpList_append_own_at _ rfl _ _ 37 rfl w.heap.size 44 i0 (.agg #[.int .i8 0, .int .i8 0]) 2 2 Try.underlying37 HI.out.1 HI.out.2.1 HI.out.2.2.1 HI.out.2.2.2 rfl (by decide) _ _ _ rfl (HO2.out.alloc _) ⟨w3.heap.size, 0, none⟩ 1 1 [.int .i8 c.1.val, .int .i8 c.2.val] rfl rfl ?c1 ?c2 ?c3 ?c4 ?c5 ?_)
            case c1 =>
              intro m u hu
              match m, hu with
              | 0, hu => simp at hu; subst hu; exact (Holds.new w3 #[.int .i8 c.1.val, .int .i8 c.2.val] 44).cell 0
              | 1, hu => simp at hu; subst hu; exact (Holds.new w3 #[.int .i8 c.1.val, .int .i8 c.2.val] 44).cell 1
            case c2 => intro u hu; simp at hu; rcases hu with rfl | rfl <;> rfl
            case c3 => unfold maxLen; omega
            case c4 => omega
            case c5 => simp; omega
            · intro v' w4 hown' hgrow _ hat
              have hb5 : Below w.heap.size w w4 := (hb4.alloc hsz2 _).grown hgrow (by simp; omega) (fun k hk => own_far HO2.out k hk)
              have ho3 : w4.ownsRow w.heap.size 44 2 v' ((l.take (i + 1)).filter (highB g least)).length (flatV ((l.take (i + 1)).filter (highB g least))) := by
                rw [filtTo_hit HC.out HK.out, flatV_append, List.length_append]
                exact hown'
              have hA4 := (HA3.out.alloc (.cells #[.int .i8 c.1.val, .int .i8 c.2.val] 44)).kept hgrow (by
                rcases HV.out with h | h
                · exact .inr (by rw [h]; simp [Value.ownBlock])
                · exact .inr (Ne.symm h))
              have hG4 : Holds w4 (w.heap.size + 1) (levV g) := by
                have h := hG3.alloc (.cells #[.int .i8 c.1.val, .int .i8 c.2.val] 44)
                have hl := h.lt
                obtain ⟨t, ht⟩ := h
                exact ⟨t, (hgrow.block _ hl (fun e => HV1.out e.symm)).trans ht⟩
              have hl3 := hG3.lt
              have hv3 : v'.ownBlock = none ∨ v'.ownBlock ≠ (Value.slice (some ⟨ga, 0, none⟩) n cA).ownBlock := by
                rcases hat with h | h
                · rw [h]; exact HV.out
                · rw [h]; exact .inr (by simp [Value.ownBlock]; omega)
              have hv4 : v'.ownBlock ≠ some (w.heap.size + 1) := by
                rcases hat with h | h
                · rw [h]; exact HV1.out
                · rw [h]; simp [Value.ownBlock]; omega
              have HO4 := Lib.hid ho3
              have HA4 := Lib.hid hA4
              have HV3 := Lib.hid hv3
              have HV4 := Lib.hid hv4
              clear hown' hgrow ho3 hA4 hv3 hv4 hat ca cb hb4 hG3
              go_wp2_with fail
              go_roundw
              case rel => exact ⟨i + 1, by omega, by go_num, HO4.out, HA4.out, HV3.out, HV4.out, hG4, hb5⟩
              case measure => simp [intOf]; omega
        · have hd : decide ((i : Int) < (n : Int)) = false := by simp; omega
          have HT := Lib.hid (show (l.take i).filter (highB g least) = l.filter (highB g least) by rw [List.take_of_length_le (by rw [HNN.out]; omega)])
          go_wp2_with fail
          go_ret2
          exact ⟨⟨_, rfl, by rw [← HT.out]; exact HO.out⟩, hb⟩
end Go.Proofs.Ytbccffnmjmbgoaa
