/- MirrorLevels: rows of levels that are reversed in place. -/
import Derived.Test.YtbccffnmjmbgoaaVLev
import Derived.Test.YtbccffnmjmbgoaaSoil
namespace Go.Proofs.Ytbccffnmjmbgoaa
open Go.RowKit
set_option linter.unusedVariables false
set_option linter.unusedSimpArgs false
attribute [local go_sem ↓] loadRow loadGrid loadLawn loadMirror storeRow storeGrid storeLawn allocRow allocGrid allocLawn buildZero buildSides loadR8 loadL8 loadLv storeR8 storeLv allocR8 allocLv buildZLv

/-- The levels when k cells from both ends of a row have been exchanged. -/
def revTo (g : Nat → Nat → Int) (y W k : Nat) : Nat → Nat → Int := fun y' x => if y' = y ∧ x < W ∧ (x < k ∨ W ≤ x + k) then g y (W - 1 - x) else g y' x
/-- The levels when a row has been reversed. -/
def revRow (g : Nat → Nat → Int) (y W : Nat) : Nat → Nat → Int := fun y' x => if y' = y ∧ x < W then g y (W - 1 - x) else g y' x
theorem revTo_zero (g : Nat → Nat → Int) (y W : Nat) : revTo g y W 0 = g := by
  funext y' x
  unfold revTo
  rw [if_neg (by omega)]
theorem revTo_succ (g : Nat → Nat → Int) (y W k : Nat) (hk : k + 1 ≤ W - 1 - k) : upd (upd (revTo g y W k) y k (g y (W - 1 - k))) y (W - 1 - k) (g y k) = revTo g y W (k + 1) := by
  funext y' x
  unfold upd revTo
  by_cases e : y' = y
  · subst e
    by_cases e1 : x = W - 1 - k
    · subst e1
      rw [if_pos ⟨rfl, rfl⟩, if_pos (by omega)]
      congr 1
      omega
    · rw [if_neg (by omega)]
      by_cases e2 : x = k
      · subst e2
        rw [if_pos ⟨rfl, rfl⟩, if_pos (by omega)]
      · rw [if_neg (by omega)]
        by_cases e3 : x < W ∧ (x < k ∨ W ≤ x + k)
        · rw [if_pos ⟨rfl, e3.1, e3.2⟩, if_pos (by omega)]
        · rw [if_neg (by omega), if_neg (by omega)]
  · rw [if_neg (by omega), if_neg (by omega), if_neg (by omega), if_neg (by omega)]
theorem revTo_end (g : Nat → Nat → Int) (y W k : Nat) (hk : W ≤ k + k + 1) : revTo g y W k = revRow g y W := by
  funext y' x
  unfold revTo revRow
  by_cases e : y' = y ∧ x < W
  · rw [if_pos e]
    by_cases e2 : x < k ∨ W ≤ x + k
    · rw [if_pos ⟨e.1, e.2, e2⟩]
    · rw [if_neg (by omega)]
      have : x = W - 1 - x := by omega
      rw [e.1, ← this]
  · rw [if_neg e, if_neg (by omega)]
theorem revTo_low (g : Nat → Nat → Int) (y W k x : Nat) (h1 : k ≤ x) (h2 : x + k < W) : revTo g y W k y x = g y x := by
  unfold revTo
  rw [if_neg (by omega)]

set_option maxRecDepth 100000 in
set_option maxHeartbeats 4000000 in
theorem reverse_any (g : Nat → Nat → Int) (b y W : Nat) (hy : y < 10) (hW : W ≤ 10) (h0 : 1 ≤ W) (w : World) (h : Holds w b (levV g)) :
    Calls Try.prog 67 #[.slice (some ⟨b, y * 10, none⟩) W W] w fun e w' => (∃ v, e = .returned v) ∧ Only [b] w w' ∧ Holds w' b (levV (revRow g y W)) := by
  have HH := Lib.hid h
  have HZ := Lib.hid (revTo_zero g y W)
  go_enter Try.func67, Try.ntmps67
  go_wp2_with fail
  go_loopw [2, 3] (fun p q wr => ∃ k : Nat, k + k ≤ W ∧ p = .int .i64 k ∧ q = .int .i64 ((W : Int) - 1 - k) ∧ Only [b] w wr ∧ Holds wr b (levV (revTo g y W k))) (fun p _ _ => 10 - (intOf p).toNat)
  case atStart => exact ⟨0, by omega, rfl, by simp, Only.refl _ _, by rw [HZ.out]; exact HH.out⟩
  case round =>
    obtain ⟨k, hk, rfl, rfl, hO, hh⟩ := hrel
    by_cases hlt : k + 1 ≤ W - 1 - k
    · have hd : decide ((k : Int) < (W : Int) - 1 - k) = true := by simp; omega
      obtain ⟨q, hq⟩ : ∃ q : Nat, W - 1 - k = q := ⟨_, rfl⟩
      have hq' : (W : Int) - 1 - k = q := by omega
      have HS := Lib.hid (revTo_succ g y W k hlt)
      rw [hq] at HS
      obtain ⟨-, -, cc, ff, ll⟩ := hh.facts
      have c1 : wr.cell? ⟨b, y * 10 + k, none⟩ = some (.int .i8 (g y k)) := by rw [cc, levV_get _ y k hy (by omega), revTo_low g y W k k (by omega) (by omega)]
      have c2 : wr.cell? ⟨b, y * 10 + q, none⟩ = some (.int .i8 (g y q)) := by rw [cc, levV_get _ y q hy (by omega), revTo_low g y W k q (by omega) (by omega)]
      rw [hq'] at hd ⊢
      have hqW : q < W := by omega
      have hkW : k < W := by omega
      clear cc hq
      go_wp2_with fail
      go_region
      have h1 := hh.setCell (y * 10 + k) (.int .i8 (g y q))
      rw [levV_set _ y k _ hy (by omega)] at h1
      have h2 := h1.setCell (y * 10 + q) (.int .i8 (g y k))
      rw [levV_set _ y q _ hy (by omega), HS.out] at h2
      have hO2 := (hO.setCell (a := ⟨b, y * 10 + k, none⟩) (.inl (by simp)) (.int .i8 (g y q))).setCell (a := ⟨b, y * 10 + q, none⟩) (.inl (by simp)) (.int .i8 (g y k))
      have HK := Lib.hid (And.intro hO2.drew h2.drew)
      clear c1 c2 ff h1 h2 hO2 hO hh
      go_wp2_with fail
      go_roundw
      case rel => exact ⟨k + 1, by omega, by go_num, by congr 1; omega, HK.out.1, HK.out.2⟩
      case measure => simp [intOf]; omega
    · have hd : decide ((k : Int) < (W : Int) - 1 - k) = false := by simp; omega
      go_wp2_with fail
      go_end0
      refine ⟨⟨_, rfl⟩, hO, ?_⟩
      rw [← revTo_end g y W k (by omega)]
      exact hh

set_option maxRecDepth 100000 in
set_option maxHeartbeats 1000000 in
theorem row_any (L : Lawn) (b y W : Nat) (hy : y < 10) (hW : W ≤ 10) (hLw : L.wide = W) (w : World) :
    Calls Try.prog 65 #[.pointer (some ⟨b, 0, none⟩), .agg L.cells, .int .i8 y] w fun e w' => e = .returned (.slice (some ⟨b, y * 10, none⟩) W W) ∧ Below w.heap.size w w' := by
  have g0 := Holds.new w L.cells 30
  have hb0 := (Below.refl w.heap.size w).alloc (Nat.le_refl _) (.cells L.cells 30)
  have c0 := (g0.cell 0).trans (Lawn.cells_0 L)
  rw [hLw] at c0
  have hy0 : (0 : Int) ≤ y := by omega
  have hy1 : (y : Int) < 10 := by omega
  have hW0 : (0 : Int) ≤ W := by omega
  have hW1 : (W : Int) ≤ 10 := by omega
  go_enter Try.func65, Try.ntmps65
  go_wp2_with fail
  obtain ⟨W0, hW0⟩ : ∃ W0, w.alloc (.cells L.cells 30) = W0 := ⟨_, rfl⟩
  rw [hW0] at c0 hb0 ⊢
  clear hW0 g0
  go_quiet (fail)
  all_goals
    go_wp2
    go_ret
    exact ⟨rfl, below_drewN hb0 _⟩

/-- The levels when the first k rows have been reversed. -/
def mirTo (g : Nat → Nat → Int) (W k : Nat) : Nat → Nat → Int := fun y x => if y < k ∧ x < W then g y (W - 1 - x) else g y x
theorem mirTo_zero (g : Nat → Nat → Int) (W : Nat) : mirTo g W 0 = g := by
  funext y x; unfold mirTo; rw [if_neg (by omega)]
theorem mirTo_succ (g : Nat → Nat → Int) (W k : Nat) : revRow (mirTo g W k) k W = mirTo g W (k + 1) := by
  funext y x
  unfold revRow mirTo
  by_cases e : y = k ∧ x < W
  · obtain ⟨rfl, e2⟩ := e
    rw [if_pos ⟨rfl, e2⟩, if_neg (by omega), if_pos (by omega)]
  · rw [if_neg e]
    by_cases e2 : y < k ∧ x < W
    · rw [if_pos e2, if_pos (by omega)]
    · rw [if_neg e2, if_neg (by omega)]
theorem mirTo_fits {g : Nat → Nat → Int} (hg : LevFits g) (W k : Nat) (hW : W ≤ 10) : LevFits (mirTo g W k) := by
  intro y x hy hx
  unfold mirTo
  split
  · exact hg _ _ hy (by omega)
  · exact hg _ _ hy hx
/-- What is laid of the mirrored levels when the cells of pre have come. -/
def outTo {W H : Nat} (g : Nat → Nat → Int) (pre : List (Fin W × Fin H)) : Nat → Nat → Int := fun y x => if pre.any (fun c => c.2.val == y && W - 1 - c.1.val == x) then g y (W - 1 - x) else 0
theorem outTo_nil {W H : Nat} (g : Nat → Nat → Int) : outTo g ([] : List (Fin W × Fin H)) = fun _ _ => 0 := by
  funext y x; simp [outTo]
theorem outTo_snoc {W H : Nat} (g : Nat → Nat → Int) (pre : List (Fin W × Fin H)) (c : Fin W × Fin H) : upd (outTo g pre) c.2.val (W - 1 - c.1.val) (g c.2.val c.1.val) = outTo g (pre ++ [c]) := by
  funext y x
  have hc := c.1.isLt
  unfold upd outTo
  by_cases e : y = c.2.val ∧ x = W - 1 - c.1.val
  · obtain ⟨rfl, rfl⟩ := e
    rw [if_pos ⟨rfl, rfl⟩, if_pos (by simp)]
    congr 1
    omega
  · rw [if_neg e]
    have hb : (c.2.val == y && W - 1 - c.1.val == x) = false := by
      cases h : (c.2.val == y && W - 1 - c.1.val == x) with
      | false => rfl
      | true => simp only [Bool.and_eq_true, beq_iff_eq] at h; exact absurd ⟨h.1.symm, h.2.symm⟩ e
    simp only [List.any_append, List.any_cons, List.any_nil, Bool.or_false, hb]
theorem outTo_all {W H : Nat} {L : Lawn} {g : Nat → Nat → Int} (hv : levB L g = true) (hW : L.wide = W) (hH : L.high = H) : levV (outTo g (allC W H)) = levV (mirTo g W H) := by
  refine levV_ext fun y x hy hx => ?_
  unfold outTo mirTo
  by_cases e : y < H ∧ x < W
  · rw [if_pos e, if_pos]
    rw [List.any_eq_true]
    exact ⟨(⟨W - 1 - x, by omega⟩, ⟨y, e.1⟩), allC_mem _ _ _, by simp; omega⟩
  · rw [if_neg e, if_neg]
    · have := (levAt_true ((levB_true hv).2 y x hy hx)).2
      rcases this with h | h
      · exact h.symm
      · have := isB_in (grassB_in h)
        omega
    · rw [List.any_eq_true]
      rintro ⟨c, -, hc⟩
      simp only [Bool.and_eq_true, beq_iff_eq] at hc
      have := c.1.isLt; have := c.2.isLt
      omega

/-- What MirrorLevels answers. -/
def mirG (L : Lawn) (g : Nat → Nat → Int) : Nat → Nat → Int := if levB L g && levB L (mirTo g L.wide.toNat L.high.toNat) then mirTo g L.wide.toNat L.high.toNat else fun _ _ => 0
def mirC (L : Lawn) (g : Nat → Nat → Int) : Int := if levB L g then (if levB L (mirTo g L.wide.toNat L.high.toNat) then 0 else 4) else 1

theorem mir_new (w : World) (L : Lawn) (g : Nat → Nat → Int) : ∃ W0, ((w.alloc (.cells L.cells 30)).alloc (.cells (levV g) 32)).alloc (.cells (levV fun _ _ => 0) 32) = W0 ∧ Holds W0 w.heap.size L.cells ∧ Holds W0 (w.heap.size + 1) (levV g) ∧ Holds W0 (w.heap.size + 1 + 1) (levV fun _ _ => 0) ∧ Below w.heap.size w W0 :=
  ⟨_, rfl, ((Holds.new _ _ _).alloc _).alloc _, (Holds.new' _ _ _ _ (by simp)).alloc _, Holds.new' _ _ _ _ (by simp), (((Below.refl w.heap.size w).alloc (Nat.le_refl _) _).alloc (by simp) _).alloc (by simp; omega) _⟩

set_option maxRecDepth 100000 in
set_option maxHeartbeats 2000000 in
theorem implMir_any (L : Lawn) (hL : L.Fits) (g : Nat → Nat → Int) (w : World) :
    Calls Try.prog 33 #[.agg L.cells, .agg (levV g)] w fun e w' => e = .returned (.tuple #[.agg (levV (mirG L g)), .int .i64 (mirC L g)]) ∧ Below w.heap.size w w' := by
  obtain ⟨W0, hW0, g0, g1, g2, hb0⟩ := mir_new w L g
  obtain ⟨r0, -, -, -, -⟩ := g0.facts
  obtain ⟨r1, -, -, -, -⟩ := g1.facts
  have HV := Lib.hid (implLevels_any L hL g)
  cases hv : levB L g
  case false =>
    rw [hv] at HV
    have HE : Hid (mirG L g = (fun _ _ => 0) ∧ mirC L g = 1) := Lib.hid ⟨by simp [mirG, hv], by simp [mirC, hv]⟩
    rw [HE.out.1, HE.out.2]
    clear hv hL
    go_enter Try.func33, Try.ntmps33
    go_wp2_with fail
    clear hW0 r0 r1
    refine (HV.out _).mono ?_
    rintro e w1 ⟨rfl, hb1⟩
    have hb2 := below_onto hb0 hb1
    have k2 := g2.below hb1 g2.lt
    obtain ⟨rr, fr, -, -, lr⟩ := k2.facts
    have HK := Lib.hid (k2.setRow (levV fun _ _ => 0))
    have HB := Lib.hid hb2
    clear hb0 hb1 g0 g1 g2 hb2
    go_wp2_with fail
    exact bodyPost_ret (results_cell_tmp_holds rfl wideLv _ rfl HK.out (by simp)) rfl ⟨rfl, below_setRow' HB.out (by omega) _⟩
  case true =>
    rw [hv] at HV
    obtain ⟨h1, h2, -⟩ := validB_true (levB_true hv).1
    obtain ⟨Wn, hWn⟩ : ∃ Wn : Nat, L.wide.toNat = Wn := ⟨_, rfl⟩
    obtain ⟨Hn, hHn⟩ : ∃ Hn : Nat, L.high.toNat = Hn := ⟨_, rfl⟩
    have hLw : L.wide = Wn := by omega
    have hLh : L.high = Hn := by omega
    have hW10 : Wn ≤ 10 := by omega
    have hH10 : Hn ≤ 10 := by omega
    have hW1 : 1 ≤ Wn := by omega
    have HV2 := Lib.hid (implLevels_any L hL (mirTo g Wn Hn))
    have HROW := Lib.hid (fun (y : Nat) (hy : y < 10) (w1 : World) => row_any L (w.heap.size + 1) y Wn hy hW10 hLw w1)
    have HC1 : Hid (L.cells[1]? = some (.int .i8 Hn)) := Lib.hid (by rw [Lawn.cells_1, hLh])
    obtain ⟨d, hd⟩ : ∃ d, levB L (mirTo g Wn Hn) = d := ⟨_, rfl⟩
    have HE : Hid (mirG L g = (if d then mirTo g Wn Hn else fun _ _ => 0) ∧ mirC L g = (if d then 0 else 4)) := Lib.hid ⟨by unfold mirG; rw [hWn, hHn, hv, hd]; rfl, by unfold mirC; rw [hWn, hHn, hv, hd]; rfl⟩
    rw [hd] at HV2
    clear hv hL h1 h2 hWn hHn hd
    go_enter Try.func33, Try.ntmps33
    go_wp2_with fail
    clear hW0 r0 r1
    refine (HV.out _).mono ?_
    rintro e w1 ⟨rfl, hb1⟩
    have hb2 := below_onto hb0 hb1
    have k0 := g0.below hb1 g0.lt
    have k1 := g1.below hb1 g1.lt
    have k2 := g2.below hb1 g2.lt
    have c1 := (k0.cell 1).trans HC1.out
    clear hb0 hb1 g0 g1 g2 HV
    go_wp2_with fail
    clear c1
    go_loopw [14] (fun q wr => ∃ k : Nat, k ≤ Hn ∧ q = .int .i8 k ∧ Holds wr w.heap.size L.cells ∧ Holds wr (w.heap.size + 1) (levV (mirTo g Wn k)) ∧ Holds wr (w.heap.size + 1 + 1) (levV fun _ _ => 0) ∧ Below w.heap.size w wr) (fun q _ => Hn - (intOf q).toNat)
    case atStart => exact ⟨0, by omega, rfl, k0, by rw [mirTo_zero]; exact k1, k2, hb2⟩
    case round =>
      obtain ⟨k, hk, rfl, j0, j1, j2, hb⟩ := hrel
      clear k0 k1 k2 hb2
      by_cases hlt : k < Hn
      · have hd : decide ((k : Int) < (Hn : Int)) = true := by simp; omega
        obtain ⟨r0, -, -, -, -⟩ := j0.facts
        have HRW := Lib.hid (HROW.out k (by omega))
        have HMS := Lib.hid (mirTo_succ g Wn k)
        go_wp2_with fail
        refine (HRW.out _).mono ?_
        rintro e w2 ⟨rfl, hb1⟩
        have j0 := j0.below hb1 j0.lt
        have j1 := j1.below hb1 j1.lt
        have j2 := j2.below hb1 j2.lt
        have hb := below_onto hb hb1
        clear hb1 r0
        go_wp2_with fail
        refine (reverse_any _ _ k Wn (by omega) hW10 hW1 _ j1).mono ?_
        rintro e w3 ⟨⟨v, rfl⟩, hO, j1⟩
        have j0 := hO.holds j0 (by simp)
        have j2 := hO.holds j2 (by simp)
        have hb := hb.trans (hO.toBelow (B := w.heap.size) (by simp) hb.size)
        rw [HMS.out] at j1
        clear hO
        go_wp2_with fail
        go_roundw
        case rel => exact ⟨k + 1, by omega, by go_num, j0, j1, j2, hb⟩
        case measure => simp [intOf]; omega
      · obtain rfl : k = Hn := by omega
        have hd : decide ((k : Int) < (k : Int)) = false := by simp
        obtain ⟨r0, -, -, -, -⟩ := j0.facts
        obtain ⟨r1, -, -, -, -⟩ := j1.facts
        go_wp2_with fail
        refine (HV2.out _).mono ?_
        rintro e w2 ⟨rfl, hb1⟩
        have j0 := j0.below hb1 j0.lt
        have j1 := j1.below hb1 j1.lt
        have j2 := j2.below hb1 j2.lt
        have hb := below_onto hb hb1
        clear hb1 r0 r1
        obtain ⟨rr, fr, -, -, lr⟩ := j2.facts
        obtain ⟨r1, -, -, -, l1⟩ := j1.facts
        cases d
        · have HK := Lib.hid (j2.setRow (levV fun _ _ => 0))
          have HB := Lib.hid hb
          clear j0 j1 j2 hb
          go_wp2_with fail
          exact bodyPost_ret (results_cell_tmp_holds rfl wideLv _ rfl HK.out (by simp)) rfl ⟨by rw [HE.out.1, HE.out.2]; rfl, below_setRow' HB.out (by omega) _⟩
        · have HK := Lib.hid (j2.setRow (levV (mirTo g Wn k)))
          have HB := Lib.hid hb
          clear j0 j1 j2 hb
          go_wp2_with fail
          exact bodyPost_ret (results_cell_tmp_holds rfl wideLv _ rfl HK.out (by simp)) rfl ⟨by rw [HE.out.1, HE.out.2]; rfl, below_setRow' HB.out (by omega) _⟩

set_option maxRecDepth 100000 in
set_option maxHeartbeats 4000000 in
theorem specMir_any (L : Lawn) (hL : L.Fits) (g : Nat → Nat → Int) (hg : LevFits g) (w : World) :
    Calls Try.prog 32 #[.agg L.cells, .agg (levV g)] w fun e w' => e = .returned (.tuple #[.agg (levV (mirG L g)), .int .i64 (mirC L g)]) ∧ Below w.heap.size w w' := by
  obtain ⟨W0, hW0, g0, g1, g2, hb0⟩ := mir_new w L g
  have HV := Lib.hid (l06Ok_any L hL g hg _ _ _ g0 g1)
  cases hv : levB L g
  case false =>
    rw [hv] at HV
    have HE : Hid (mirG L g = (fun _ _ => 0) ∧ mirC L g = 1) := Lib.hid ⟨by simp [mirG, hv], by simp [mirC, hv]⟩
    rw [HE.out.1, HE.out.2]
    clear hv hL
    go_enter Try.func32, Try.ntmps32
    go_wp2_with fail
    clear hW0
    refine HV.out.mono ?_
    rintro e w1 ⟨rfl, hb1⟩
    have hb2 := below_onto hb0 hb1
    have k2 := g2.below hb1 g2.lt
    obtain ⟨rr, fr, -, -, lr⟩ := k2.facts
    have HK := Lib.hid (k2.setRow (levV fun _ _ => 0))
    have HB := Lib.hid hb2
    clear hb0 hb1 g0 g1 g2 hb2 HV
    go_wp2_with fail
    exact bodyPost_ret (results_cell_tmp_holds rfl wideLv _ rfl HK.out (by simp)) rfl ⟨rfl, below_setRow' HB.out (by omega) _⟩
  case true =>
    rw [hv] at HV
    obtain ⟨h1, h2, -⟩ := validB_true (levB_true hv).1
    obtain ⟨Wn, hWn⟩ : ∃ Wn : Nat, L.wide.toNat = Wn := ⟨_, rfl⟩
    obtain ⟨Hn, hHn⟩ : ∃ Hn : Nat, L.high.toNat = Hn := ⟨_, rfl⟩
    have hLw : L.wide = Wn := by omega
    have hLh : L.high = Hn := by omega
    have hW10 : Wn ≤ 10 := by omega
    have hH10 : Hn ≤ 10 := by omega
    have hW1 : 1 ≤ Wn := by omega
    have hH1 : 1 ≤ Hn := by omega
    have HV2 := Lib.hid (fun (p : Nat) (w1 : World) (ha : Holds w1 w.heap.size L.cells) (hh : Holds w1 p (levV (mirTo g Wn Hn))) => l06Ok_any L hL (mirTo g Wn Hn) (mirTo_fits hg Wn Hn hW10) w.heap.size p w1 ha hh)
    have HALL := Lib.hid (fun (w1 : World) (ha : Holds w1 w.heap.size L.cells) => l01All_any Wn Hn hW10 hH10 L hLw hLh w.heap.size w1 ha)
    have HC0 : Hid (L.cells[0]? = some (.int .i8 Wn)) := Lib.hid (by rw [Lawn.cells_0, hLw])
    have HOA := Lib.hid (outTo_all hv hLw hLh)
    have HSN := Lib.hid (fun (pre : List (Fin Wn × Fin Hn)) c => outTo_snoc g pre c)
    have HN0 := Lib.hid (outTo_nil (W := Wn) (H := Hn) g)
    obtain ⟨d, hd⟩ : ∃ d, levB L (mirTo g Wn Hn) = d := ⟨_, rfl⟩
    have HE : Hid (mirG L g = (if d then mirTo g Wn Hn else fun _ _ => 0) ∧ mirC L g = (if d then 0 else 4)) := Lib.hid ⟨by unfold mirG; rw [hWn, hHn, hv, hd]; rfl, by unfold mirC; rw [hWn, hHn, hv, hd]; rfl⟩
    rw [hd] at HV2
    clear hv hL h1 h2 hWn hHn hd hLw hLh
    go_enter Try.func32, Try.ntmps32
    go_wp2_with fail
    clear hW0
    refine HV.out.mono ?_
    rintro e w1 ⟨rfl, hb1⟩
    have hb2 := below_onto hb0 hb1
    have k0 := g0.below hb1 g0.lt
    have k1 := g1.below hb1 g1.lt
    have k2 := g2.below hb1 g2.lt
    clear hb0 hb1 g0 g1 g2 HV
    have hl2 := k2.lt
    have k0 := k0.alloc (.cells (levV fun _ _ => 0) 32)
    have k1 := k1.alloc (.cells (levV fun _ _ => 0) 32)
    have k2 := k2.alloc (.cells (levV fun _ _ => 0) 32)
    have k3 := Holds.new w1 (levV fun _ _ => 0) 32
    have hb2 := hb2.alloc hb2.size (.cells (levV fun _ _ => 0) 32)
    go_wp2_with fail
    obtain ⟨Wa, hWa⟩ : ∃ Wa, w1.alloc (.cells (levV fun _ _ => 0) 32) = Wa := ⟨_, rfl⟩
    obtain ⟨s, hs⟩ : ∃ s, w1.heap.size = s := ⟨_, rfl⟩
    rw [hWa] at k0 k1 k2 k3 hb2 ⊢
    rw [hs] at k3 hl2 ⊢
    clear hWa hs
    refine (HALL.out _ k0).mono ?_
    rintro e w2 ⟨vA, rfl, hoA, hb1⟩
    have k0 := k0.below hb1 k0.lt
    have k1 := k1.below hb1 k1.lt
    have k2 := k2.below hb1 k2.lt
    have ls := k3.lt
    have k3 := k3.below hb1 k3.lt
    have hb2 := below_onto hb2 hb1
    have hn : 0 < Hn * Wn := Nat.mul_pos (by omega) (by omega)
    have hn1 : Hn * Wn ≤ 100 := Nat.le_trans (Nat.mul_le_mul hH10 hW10) (by omega)
    obtain ⟨ga, cap, rfl, hg0, hg1⟩ := own_form hoA hn
    obtain ⟨N, hN⟩ : ∃ N, Hn * Wn = N := ⟨_, rfl⟩
    have hall : (allC Wn Hn).length = N := by rw [allC_length, hN]
    rw [hN] at hoA hn hn1 ⊢
    have HA := Lib.hid hall
    have HO := Lib.hid hoA
    have hgs : s ≠ ga := by omega
    have hglow : w.heap.size + 1 + 1 < ga := by omega
    clear hN hall hb1 hoA
    go_wp2_with fail
    go_loopw [8] (fun x wr => ∃ i : Nat, i ≤ N ∧ x = .int .i64 i ∧ Only [s] w2 wr ∧ Holds wr s (levV (outTo g ((allC Wn Hn).take i)))) (fun x _ => N - (intOf x).toNat)
    case atStart => exact ⟨0, by omega, rfl, Only.refl _ _, by rw [List.take_zero, HN0.out]; exact k3⟩
    case round =>
      obtain ⟨i, hi, rfl, hO, hD⟩ := hrel
      have HD := Lib.hid hD
      have i0 := hO.holds k0 (by simp; omega)
      have i1 := hO.holds k1 (by simp; omega)
      have i2 := hO.holds k2 (by simp; omega)
      have HO2 := Lib.hid (hO.own HO.out (by intro k hk; simp [Value.ownBlock] at hk; subst hk; simp; omega))
      have HOO := Lib.hid hO
      clear hD hO
      by_cases hlt : i < N
      · have hd : decide ((i : Int) < (N : Int)) = true := by simp; omega
        obtain ⟨c, hc⟩ : ∃ c, (allC Wn Hn)[i]? = some c := ⟨_, List.getElem?_eq_getElem (by rw [HA.out]; exact hlt)⟩
        have HSc := Lib.hid (show upd (outTo g ((allC Wn Hn).take i)) c.2.val (Wn - 1 - c.1.val) (g c.2.val c.1.val) = outTo g ((allC Wn Hn).take (i + 1)) by rw [List.take_add_one, hc]; exact HSN.out _ _)
        obtain ⟨fa, fb⟩ := flatV_get _ _ _ hc
        have hx := c.1.isLt
        have hy := c.2.isLt
        obtain ⟨xj, hxj⟩ : ∃ xj, c.1.val = xj := ⟨_, rfl⟩
        obtain ⟨xk, hxk⟩ : ∃ xk, c.2.val = xk := ⟨_, rfl⟩
        rw [hxj] at fa HSc hx
        rw [hxk] at fb HSc hy
        have hx0 : (0 : Int) ≤ xj := by omega
        have hx1 : (xj : Int) < 10 := by omega
        have hy0 : (0 : Int) ≤ xk := by omega
        have hy1 : (xk : Int) < 10 := by omega
        have hW1' : (Wn : Int) ≤ 10 := by omega
        have hxw : (xj : Int) < Wn := by omega
        have FX := Lib.hid (show ∀ w', Below wr.heap.size wr w' → (w'.cell? ⟨ga, i * 2, none⟩ = some (.int .i8 xj) ∧ w'.cell? ⟨ga, i * 2 + 1, none⟩ = some (.int .i8 xk)) ∧ w'.cell? ⟨w.heap.size, 0, none⟩ = some (.int .i8 Wn) ∧ w'.cell? ⟨w.heap.size + 1, xk * 10 + xj, none⟩ = some (.int .i8 (g xk xj)) from fun w' hw' =>
          ⟨⟨own_cell (own_below HO2.out hw') _ _ fa, own_cell (own_below HO2.out hw') _ _ fb⟩, ((i0.below hw' i0.lt).cell 0).trans HC0.out, ((i1.below hw' i1.lt).cell _).trans (levV_get g xk xj (by omega) (by omega))⟩)
        clear fa fb hc hxj hxk
        go_wp2_with fail
        refine wp_region_grow 29 (by kernel_rfl) (by kernel_rfl) ?_
        simp only [List.take_succ_cons, List.take_zero, List.drop_succ_cons, List.drop_zero]
        iterate 29
          apply wpGrow_plain rfl
          · intro w' hw' K hK
            obtain ⟨⟨f1, f2⟩, f3, f4⟩ := FX.out _ hw'
            go_wp2_with fail
            exact hK _ _ rfl hw'
          simp only [Act.put, List.setIfInBounds_toArray, List.set_cons_succ, List.set_cons_zero]
        refine wpGrow_nil ?_
        intro W2 hW2
        have q3 := HD.out.below hW2 HD.out.lt
        have qO := HOO.out.onto hW2
        obtain ⟨-, -, c3, z3, l3⟩ := q3.facts
        have e3 := (c3 (xk * 10 + (Wn - 1 - xj))).trans (levV_get _ xk (Wn - 1 - xj) (by omega) (by omega))
        clear c3 hW2 FX i0 i1 i2
        go_wp2_with fail
        go_roundw
        case rel =>
          refine ⟨i + 1, by omega, by go_num, qO.setCell (a := ⟨s, xk * 10 + (Wn - 1 - xj), none⟩) (.inl (by simp)) _, ?_⟩
          rw [← HSc.out, ← levV_set _ _ _ _ (by omega) (by omega)]
          exact q3.setCell _ _
        case measure => simp [intOf]; omega
      · have hd : decide ((i : Int) < (N : Int)) = false := by simp; omega
        have hD := HD.out
        rw [List.take_of_length_le (by rw [HA.out]; omega), HOA.out] at hD
        have HD2 := Lib.hid hD
        have hB := hb2.trans (HOO.out.toBelow (B := w.heap.size) (by simp; omega) hb2.size)
        clear hD HD HO2 HOO
        go_wp2_with fail
        refine (HV2.out _ _ i0 HD2.out).mono ?_
        rintro e w3 ⟨rfl, hb1⟩
        have j2 := i2.below hb1 i2.lt
        have j3 := HD2.out.below hb1 HD2.out.lt
        have hB := below_onto hB hb1
        clear hb1 i0 i1 i2 HD2 HV2
        obtain ⟨rr, fr, -, -, lr⟩ := j2.facts
        obtain ⟨r3, -, -, -, l3⟩ := j3.facts
        cases d
        · have HK := Lib.hid (j2.setRow (levV fun _ _ => 0))
          have HB := Lib.hid hB
          clear j2 j3 hB
          go_wp2_with fail
          exact bodyPost_ret (results_cell_tmp_holds rfl wideLv _ rfl HK.out (by simp)) rfl ⟨by rw [HE.out.1, HE.out.2]; rfl, below_setRow' HB.out (by omega) _⟩
        · have HK := Lib.hid (j2.setRow (levV (mirTo g Wn Hn)))
          have HB := Lib.hid hB
          clear j2 j3 hB
          go_wp2_with fail
          exact bodyPost_ret (results_cell_tmp_holds rfl wideLv _ rfl HK.out (by simp)) rfl ⟨by rw [HE.out.1, HE.out.2]; rfl, below_setRow' HB.out (by omega) _⟩
end Go.Proofs.Ytbccffnmjmbgoaa
