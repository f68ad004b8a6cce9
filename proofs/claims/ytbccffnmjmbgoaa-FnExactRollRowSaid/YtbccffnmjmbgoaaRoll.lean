/- RollRow: a row of soil that rolls to the east. -/
import Derived.Test.YtbccffnmjmbgoaaMirLev
import Derived.Test.YtbccffnmjmbgoaaUpTo
import Derived.Test.YtbccffnmjmbgoaaCellSt
import Derived.Test.YtbccffnmjmbgoaaZD
namespace Go.Proofs.Ytbccffnmjmbgoaa
open Go.RowKit
set_option linter.unusedVariables false
set_option linter.unusedSimpArgs false
attribute [local go_sem ↓] loadRow loadGrid loadLawn loadMirror storeRow storeGrid storeLawn allocRow allocGrid allocLawn buildZero buildSides loadR8 loadL8 loadLv storeR8 storeLv allocR8 allocLv buildZLv storeCl

/-- How much goes. -/
def halfZ (d : Int) : Int := if 2 ≤ d then d / 2 else 0
/-- The levels, and how much has gone, when the first x cells have rolled. -/
def rollS (L : Lawn) (g : Nat → Nat → Int) (y : Nat) : Nat → (Nat → Nat → Int) × Int
  | 0 => (g, 0)
  | x + 1 =>
    if grassB L (x : Int) (y : Int) && grassB L ((x : Int) + 1) (y : Int) then
      (upd (upd (rollS L g y x).1 y x ((rollS L g y x).1 y x - halfZ ((rollS L g y x).1 y x - (rollS L g y x).1 y (x + 1)))) y (x + 1) ((rollS L g y x).1 y (x + 1) + halfZ ((rollS L g y x).1 y x - (rollS L g y x).1 y (x + 1))),
        (rollS L g y x).2 + halfZ ((rollS L g y x).1 y x - (rollS L g y x).1 y (x + 1)))
    else rollS L g y x
theorem halfZ_in {a b : Int} (ha : -9 ≤ a ∧ a ≤ 9) (hb : -9 ≤ b ∧ b ≤ 9) : 0 ≤ halfZ (a - b) ∧ halfZ (a - b) ≤ 9 ∧ -9 ≤ a - halfZ (a - b) ∧ a - halfZ (a - b) ≤ 9 ∧ -9 ≤ b + halfZ (a - b) ∧ b + halfZ (a - b) ≤ 9 := by
  unfold halfZ
  split <;> omega
theorem rollS_in {L : Lawn} {g : Nat → Nat → Int} {y : Nat} (hg : ∀ y x, y < 10 → x < 10 → -9 ≤ g y x ∧ g y x ≤ 9) (hy : y < 10) : ∀ x, x < 10 → (∀ y' x', y' < 10 → x' < 10 → -9 ≤ (rollS L g y x).1 y' x' ∧ (rollS L g y x).1 y' x' ≤ 9) ∧ 0 ≤ (rollS L g y x).2 ∧ (rollS L g y x).2 ≤ 9 * (x : Int)
  | 0, _ => ⟨hg, by simp [rollS], by simp [rollS]⟩
  | x + 1, h => by
    obtain ⟨ih, i1, i2⟩ := rollS_in (L := L) hg hy x (by omega)
    have h1 := halfZ_in (ih y x hy (by omega)) (ih y (x + 1) hy h)
    unfold rollS
    split
    · refine ⟨fun y' x' hy' hx' => ?_, by dsimp only; omega, by dsimp only; omega⟩
      dsimp only
      unfold upd
      split
      · omega
      · split
        · omega
        · exact ih y' x' hy' hx'
    · exact ⟨ih, i1, by omega⟩
theorem upd_same (g : Nat → Nat → Int) (y x : Nat) : upd g y x (g y x) = g := by
  funext y' x'
  unfold upd
  split
  · rename_i h; rw [h.1, h.2]
  · rfl
theorem rollS_bare {L : Lawn} {g : Nat → Nat → Int} {y x : Nat} (h : (grassB L (x : Int) (y : Int) && grassB L ((x : Int) + 1) (y : Int)) = false) : rollS L g y (x + 1) = rollS L g y x := by
  rw [rollS, h]; rfl
theorem rollS_grass {L : Lawn} {g : Nat → Nat → Int} {y x : Nat} (h : (grassB L (x : Int) (y : Int) && grassB L ((x : Int) + 1) (y : Int)) = true) {G : Nat → Nat → Int} {n : Int} (hr : rollS L g y x = (G, n)) :
    rollS L g y (x + 1) = (upd (upd G y x (G y x - halfZ (G y x - G y (x + 1)))) y (x + 1) (G y (x + 1) + halfZ (G y x - G y (x + 1))), n + halfZ (G y x - G y (x + 1))) := by
  rw [rollS, h, hr]; rfl
theorem rollS_flat {L : Lawn} {g : Nat → Nat → Int} {y x : Nat} {G : Nat → Nat → Int} {n : Int} (hr : rollS L g y x = (G, n)) (hd : G y x - G y (x + 1) < 2) : rollS L g y (x + 1) = (G, n) := by
  cases h : (grassB L (x : Int) (y : Int) && grassB L ((x : Int) + 1) (y : Int)) with
  | false => rw [rollS_bare h, hr]
  | true =>
    rw [rollS_grass h hr]
    have : halfZ (G y x - G y (x + 1)) = 0 := by unfold halfZ; rw [if_neg (by omega)]
    rw [this, Int.sub_zero, Int.add_zero, Int.add_zero, upd_same, upd_same]

theorem tdiv2_in (d : Int) (h : -18 ≤ d ∧ d ≤ 18) : -9 ≤ d.tdiv 2 ∧ d.tdiv 2 ≤ 9 := by
  rcases Int.lt_or_le d 0 with h0 | h0
  · have : d.tdiv 2 = -((-d) / 2) := by
      have e : d = -(-d) := by omega
      rw [e, Int.neg_tdiv, Int.tdiv_eq_ediv_of_nonneg (by omega)]
      simp
    omega
  · rw [Int.tdiv_eq_ediv_of_nonneg h0]; omega
theorem results_cell_tmp2s' {P : Program} {fn : Func} {p u v : Tmp} {ty : TypeId} {n : Nat} (h : fn.results = #[.cell p ty, .tmp u, .tmp v]) (hw : wideB P ty n = true) (tmps : Array Value) {w : World} {g : Nat} {cs : Array Value}
    (hp : tmps.getD p undef = .pointer (some ⟨g, 0, none⟩)) (hg : Holds w g cs) (hn : cs.size = n) : (results fn tmps).run P w = .ok (.tuple #[.agg cs, tmps.getD u undef, tmps.getD v undef]) w := by
  have hp' : tmps[p]?.getD undef = .pointer (some ⟨g, 0, none⟩) := by simpa using hp
  simp [results, h, hp', asAddr, (wide_of hw).loadVar hg hn]

set_option maxRecDepth 100000 in
set_option maxHeartbeats 4000000 in
theorem implRoll_good (L : Lawn) (hL : L.Fits) (g : Nat → Nat → Int) (hg : LevFits g) (hv : levB L g = true) (Wn Hn y : Nat) (hLw : L.wide = Wn) (hLh : L.high = Hn) (hy : y < Hn) (w : World) :
    Calls Try.prog 31 #[.agg L.cells, .agg (levV g), .int .i64 y] w fun e w' => e = .returned (.tuple #[.agg (levV (rollS L g y (Wn - 1)).1), .int .i64 (rollS L g y (Wn - 1)).2, .int .i64 0]) ∧ Below w.heap.size w w' := by
  obtain ⟨W0, hW0, g0, g1, g2, hb0⟩ := mir_new w L g
  obtain ⟨r0, -, -, -, -⟩ := g0.facts
  obtain ⟨r1, -, -, -, -⟩ := g1.facts
  have HV := Lib.hid (implLevels_any L hL g)
  rw [hv] at HV
  have hV := (levB_true hv).1
  obtain ⟨h1, h2, -⟩ := validB_true hV
  have hW10 : Wn ≤ 10 := by omega
  have hH10 : Hn ≤ 10 := by omega
  have hW1 : 1 ≤ Wn := by omega
  have HU := Lib.hid (upTo64_is (y : Int) ((Hn : Int) - 1) true (by simp [upZ]; omega))
  have HROW := Lib.hid (fun (w1 : World) => row_any L (w.heap.size + 1) y Wn (by omega) hW10 hLw w1)
  have HC1 : Hid (L.cells[1]? = some (.int .i8 Hn)) := Lib.hid (by rw [Lawn.cells_1, hLh])
  have HGR := Lib.hid (fun (x y : Int) (v : Bool) (h : grassB L x y = v) => isGrass_is L hV hL x y v h)
  have HIN := Lib.hid (rollS_in (L := L) (g := g) (y := y) (lev_range hv) (by omega))
  have hy0 : (0 : Int) ≤ y := by omega
  have hy1 : (y : Int) < 10 := by omega
  have hH0 : (0 : Int) ≤ Hn := by omega
  have hH1 : (Hn : Int) ≤ 10 := by omega
  clear hv hL hV h1 h2 hg
  have hwm : ((Wn : Int) - 1) = ((Wn - 1 : Nat) : Int) := by omega
  obtain ⟨N, hN⟩ : ∃ N, Wn - 1 = N := ⟨_, rfl⟩
  rw [hN] at hwm ⊢
  go_enter Try.func31, Try.ntmps31
  go_wp2_with fail
  clear hW0 r0 r1
  refine (HV.out _).mono ?_
  rintro e w1 ⟨rfl, hb1⟩
  have hb2 := below_onto hb0 hb1
  have k0 := g0.below hb1 g0.lt
  have k1 := g1.below hb1 g1.lt
  have k2 := g2.below hb1 g2.lt
  have c1 := (k0.cell 1).trans HC1.out
  obtain ⟨r0, -, -, -, -⟩ := k0.facts
  clear hb0 hb1 g0 g1 g2 HV
  go_wp2_with (go_at_call 57; refine (HU.out _).mono ?_; rintro e w2 ⟨rfl, hw2⟩; rw [hw2]; clear hw2)
  refine (HROW.out _).mono ?_
  rintro e w2 ⟨rfl, hb1⟩
  have k0 := k0.below hb1 k0.lt
  have k1 := k1.below hb1 k1.lt
  have k2 := k2.below hb1 k2.lt
  have hb2 := below_onto hb2 hb1
  clear hb1 c1 r0
  go_wp2_with fail
  go_loopw [10, 34] (fun z x wr => ∃ k : Nat, k ≤ N ∧ x = .int .i64 k ∧ z = .int .i64 (rollS L g y k).2 ∧ Holds wr w.heap.size L.cells ∧ Holds wr (w.heap.size + 1) (levV (rollS L g y k).1) ∧ Holds wr (w.heap.size + 1 + 1) (levV fun _ _ => 0) ∧ Below w.heap.size w wr) (fun _ x _ => N - (intOf x).toNat)
  case atStart => exact ⟨0, by omega, rfl, rfl, k0, k1, k2, hb2⟩
  case round =>
    obtain ⟨k, hk, rfl, rfl, j0, j1, j2, hb⟩ := hrel
    clear k0 k1 k2 hb2
    by_cases hlt : k < N
    · have hd : decide ((k : Int) < (N : Int)) = true := by simp; omega
      obtain ⟨hin, hn0, hn1⟩ := HIN.out k (by omega)
      have h1 := hin y k (by omega) (by omega)
      have h2 := hin y (k + 1) (by omega) (by omega)
      obtain ⟨G, hG⟩ : ∃ G, (rollS L g y k).1 = G := ⟨_, rfl⟩
      obtain ⟨n, hn⟩ : ∃ n, (rollS L g y k).2 = n := ⟨_, rfl⟩
      have HRS : Hid (rollS L g y k = (G, n)) := Lib.hid (by rw [← hG, ← hn])
      rw [hG] at h1 h2 j1
      rw [hn] at hn0 hn1
      rw [hn]
      clear hin hG hn
      obtain ⟨a, ha⟩ : ∃ a, G y k = a := ⟨_, rfl⟩
      obtain ⟨b, hb'⟩ : ∃ b, G y (k + 1) = b := ⟨_, rfl⟩
      rw [ha] at h1
      rw [hb'] at h2
      have hhz := halfZ_in h1 h2
      have c1 := ((j1.cell (y * 10 + k)).trans (levV_get G y k (by omega) (by omega)))
      have c2 := ((j1.cell (y * 10 + (k + 1))).trans (levV_get G y (k + 1) (by omega) (by omega)))
      rw [ha] at c1
      rw [hb'] at c2
      have hkN : k + 1 < Wn := by omega
      have hkW : k < Wn := by omega
      have hk0 : (0 : Int) ≤ k := by omega
      have hk1 : (k : Int) < 10 := by omega
      have hw1 : IntKind.i8.wrap (a - b) = a - b := IntWalk.i8_in _ (by omega)
      obtain ⟨f, hf⟩ : ∃ f, halfZ (a - b) = f := ⟨_, rfl⟩
      have hmx : (if (0 : Int) < (a - b).tdiv 2 then (a - b).tdiv 2 else 0) = f := by
        rw [← hf]
        unfold halfZ
        rcases Int.lt_or_le (a - b) 0 with h | h
        · have : (a - b).tdiv 2 = -((-(a - b)) / 2) := by
            rw [show a - b = -(-(a - b)) by omega, Int.neg_tdiv, Int.tdiv_eq_ediv_of_nonneg (by omega)]
            simp
          rw [this, if_neg (by omega), if_neg (by omega)]
        · have : (a - b).tdiv 2 = (a - b) / 2 := Int.tdiv_eq_ediv_of_nonneg h
          rw [this]
          split <;> split <;> omega
      rw [hf] at hhz
      obtain ⟨q, hq⟩ : ∃ q, (a - b).tdiv 2 = q := ⟨_, rfl⟩
      rw [hq] at hmx
      have hwq : IntKind.i8.wrap q = q := IntWalk.i8_in _ (by have := tdiv2_in (a - b) (by omega); rw [hq] at this; omega)
      have n0 := Holds.new wr #[.int .i8 (k : Int), .int .i8 (y : Int)] 44
      have j0 := j0.alloc (.cells #[.int .i8 (k : Int), .int .i8 (y : Int)] 44)
      have j1 := j1.alloc (.cells #[.int .i8 (k : Int), .int .i8 (y : Int)] 44)
      have j2 := j2.alloc (.cells #[.int .i8 (k : Int), .int .i8 (y : Int)] 44)
      have hb := hb.alloc hb.size (.cells #[.int .i8 (k : Int), .int .i8 (y : Int)] 44)
      have hls := j2.lt
      clear c1 c2
      go_wp2_with fail
      obtain ⟨W1, hW1⟩ : ∃ W1, wr.alloc (.cells #[.int .i8 (k : Int), .int .i8 (y : Int)] 44) = W1 := ⟨_, rfl⟩
      obtain ⟨m, hm⟩ : ∃ m, wr.heap.size = m := ⟨_, rfl⟩
      rw [hW1] at n0 j0 j1 j2 hb ⊢
      rw [hm] at n0 ⊢
      clear hW1 hm
      have FX := Lib.hid (show ∀ w', Below W1.heap.size W1 w' → w'.cell? ⟨w.heap.size + 1, y * 10 + k, none⟩ = some (.int .i8 a) ∧ w'.cell? ⟨w.heap.size + 1, y * 10 + (k + 1), none⟩ = some (.int .i8 b) from fun w' hw' =>
        ⟨by rw [(j1.below hw' j1.lt).cell, levV_get G y k (by omega) (by omega), ha], by rw [(j1.below hw' j1.lt).cell, levV_get G y (k + 1) (by omega) (by omega), hb']⟩)
      obtain ⟨f1, f2⟩ := FX.out _ (Below.refl _ _)
      go_quiet (fail)
      obtain ⟨W3, hW3⟩ : ∃ W3, W1.drewN nq = W3 := ⟨_, rfl⟩
      have n0 := n0.drewN nq
      have j0 := j0.drewN nq
      have j1 := j1.drewN nq
      have j2 := j2.drewN nq
      have hb := below_drewN hb nq
      rw [hW3] at n0 j0 j1 j2 hb ⊢
      clear hW3 FX f1 f2
      obtain ⟨gA, hgA⟩ : ∃ b, grassB L (k : Int) (y : Int) = b := ⟨_, rfl⟩
      obtain ⟨gB, hgB⟩ : ∃ b, grassB L ((k : Int) + 1) (y : Int) = b := ⟨_, rfl⟩
      have HGA := Lib.hid (HGR.out _ _ _ hgA)
      have HGB := Lib.hid (HGR.out _ _ _ hgB)
      have HGG := Lib.hid (show (grassB L (k : Int) (y : Int) && grassB L ((k : Int) + 1) (y : Int)) = (gA && gB) by rw [hgA, hgB])
      have HEA := Lib.hid (east_any (k : Int) (y : Int) (by omega) (by omega))
      have HAB := Lib.hid (show G y k = a ∧ G y (k + 1) = b ∧ halfZ (a - b) = f from ⟨ha, hb', hf⟩)
      clear hgA hgB ha hb' hf hmx hwq hq hw1
      obtain ⟨l0, -⟩ := j0.later
      obtain ⟨-, s0⟩ := n0.later
      go_wp2_with fail
      cases gA
      case false =>
        have HR2 := Lib.hid (rollS_bare (L := L) (g := g) (y := y) (x := k) (by rw [HGG.out]; rfl))
        refine wp_region_grow 8 (by kernel_rfl) (by kernel_rfl) ?_
        simp only [List.take_succ_cons, List.take_zero, List.drop_succ_cons, List.drop_zero]
        iterate 4
          apply wpGrow_plain rfl
          · intro w' hw' K hK
            have e0 := s0 _ hw'
            have e1 := l0 _ hw'
            go_wp2_with (go_at_call 39; refine (HGA.out _).mono ?_; rintro e w2 ⟨rfl, hb2⟩)
            first | exact hK _ _ rfl hw' | exact hK _ _ rfl (below_onto hw' hb2)
          simp only [Act.put, List.setIfInBounds_toArray, List.set_cons_succ, List.set_cons_zero]
        iterate 4
          apply wpGrow_off rfl
          simp only [Act.put, List.setIfInBounds_toArray, List.set_cons_succ, List.set_cons_zero]
        refine wpGrow_nil ?_
        intro W4 hW4
        have j0 := j0.below hW4 j0.lt
        have j1 := j1.below hW4 j1.lt
        have j2 := j2.below hW4 j2.lt
        have hb := below_onto hb hW4
        clear hW4 l0 s0 n0
        go_wp2_with fail
        go_roundw
        case rel => exact ⟨k + 1, by omega, by go_num, by rw [HR2.out, HRS.out], j0, by rw [HR2.out, HRS.out]; exact j1, j2, hb⟩
        case measure => simp [intOf]; omega
      case true =>
        refine wp_region_grow 8 (by kernel_rfl) (by kernel_rfl) ?_
        simp only [List.take_succ_cons, List.take_zero, List.drop_succ_cons, List.drop_zero]
        iterate 4
          apply wpGrow_plain rfl
          · intro w' hw' K hK
            have e0 := s0 _ hw'
            have e1 := l0 _ hw'
            go_wp2_with (go_at_call 39; refine (HGA.out _).mono ?_; rintro e w2 ⟨rfl, hb2⟩)
            first | exact hK _ _ rfl hw' | exact hK _ _ rfl (below_onto hw' hb2)
          simp only [Act.put, List.setIfInBounds_toArray, List.set_cons_succ, List.set_cons_zero]
        iterate 4
          apply wpGrow_on rfl
          · intro w' hw' K hK
            have e0 := s0 _ hw'
            have e1 := l0 _ hw'
            go_wp2_with (first | (go_at_call 58; refine (HEA.out _).mono ?_; rintro e w2 ⟨rfl, hb2⟩) | (go_at_call 39; refine (HGB.out _).mono ?_; rintro e w2 ⟨rfl, hb2⟩))
            first | exact hK _ _ rfl hw' | exact hK _ _ rfl (below_onto hw' hb2)
          simp only [Act.put, List.setIfInBounds_toArray, List.set_cons_succ, List.set_cons_zero]
        refine wpGrow_nil ?_
        intro W4 hW4
        have j0 := j0.below hW4 j0.lt
        have j1 := j1.below hW4 j1.lt
        have j2 := j2.below hW4 j2.lt
        have hb := below_onto hb hW4
        clear hW4 l0 s0 n0
        cases gB
        case false =>
          have HR2 := Lib.hid (rollS_bare (L := L) (g := g) (y := y) (x := k) (by rw [HGG.out]; rfl))
          go_wp2_with fail
          go_roundw
          case rel => exact ⟨k + 1, by omega, by go_num, by rw [HR2.out, HRS.out], j0, by rw [HR2.out, HRS.out]; exact j1, j2, hb⟩
          case measure => simp [intOf]; omega
        case true =>
          have HR2 := Lib.hid (rollS_grass (L := L) (g := g) (y := y) (x := k) (by rw [HGG.out]; rfl) HRS.out)
          rw [HAB.out.1, HAB.out.2.1, HAB.out.2.2] at HR2
          obtain ⟨-, -, cc, ff, ll⟩ := j1.facts
          have c1 : W4.cell? ⟨w.heap.size + 1, y * 10 + k, none⟩ = some (.int .i8 a) := by rw [cc, levV_get G y k (by omega) (by omega), HAB.out.1]
          have c2 : W4.cell? ⟨w.heap.size + 1, y * 10 + (k + 1), none⟩ = some (.int .i8 b) := by rw [cc, levV_get G y (k + 1) (by omega) (by omega), HAB.out.2.1]
          have q1 := j1.setCell (y * 10 + k) (.int .i8 (a - f))
          rw [levV_set _ y k _ (by omega) (by omega)] at q1
          have q2 := q1.setCell (y * 10 + (k + 1)) (.int .i8 (b + f))
          rw [levV_set _ y (k + 1) _ (by omega) (by omega)] at q2
          have HQ := Lib.hid q2
          have HQ0 := Lib.hid ((j0.setCell_other ⟨w.heap.size + 1, y * 10 + k, none⟩ (.int .i8 (a - f)) (by dsimp only; omega)).setCell_other ⟨w.heap.size + 1, y * 10 + (k + 1), none⟩ (.int .i8 (b + f)) (by dsimp only; omega))
          have HQ2 := Lib.hid ((j2.setCell_other ⟨w.heap.size + 1, y * 10 + k, none⟩ (.int .i8 (a - f)) (by dsimp only; omega)).setCell_other ⟨w.heap.size + 1, y * 10 + (k + 1), none⟩ (.int .i8 (b + f)) (by dsimp only; omega))
          have HQB := Lib.hid ((hb.setCell (p := ⟨w.heap.size + 1, y * 10 + k, none⟩) (by dsimp only; omega) (.int .i8 (a - f))).setCell (p := ⟨w.heap.size + 1, y * 10 + (k + 1), none⟩) (by dsimp only; omega) (.int .i8 (b + f)))
          clear cc j0 j1 j2 q1 q2 hb
          go_wp2_with fail
          go_roundw
          case rel => exact ⟨k + 1, by omega, by go_num, by rw [HR2.out], HQ0.out, by rw [HR2.out]; exact HQ.out, HQ2.out, HQB.out⟩
          case measure => simp [intOf]; omega
    · obtain rfl : k = N := by omega
      have hd : decide ((k : Int) < (k : Int)) = false := by simp
      obtain ⟨G, hG⟩ : ∃ G, (rollS L g y k).1 = G := ⟨_, rfl⟩
      rw [hG] at j1
      have HG := Lib.hid hG
      obtain ⟨r1, -, -, -, l1⟩ := j1.facts
      obtain ⟨rr, fr, -, -, lr⟩ := j2.facts
      have HK := Lib.hid (j2.setRow (levV G))
      have HB := Lib.hid hb
      clear j0 j1 j2 hb hG
      go_wp2_with fail
      exact bodyPost_ret (results_cell_tmp2s' rfl wideLv _ rfl HK.out (by simp)) rfl ⟨by rw [HG.out]; rfl, below_setRow' HB.out (by omega) _⟩

set_option maxRecDepth 100000 in
set_option maxHeartbeats 1000000 in
theorem implRoll_lev (L : Lawn) (hL : L.Fits) (g : Nat → Nat → Int) (hv : levB L g = false) (y : Int) (w : World) :
    Calls Try.prog 31 #[.agg L.cells, .agg (levV g), .int .i64 y] w fun e w' => e = .returned (.tuple #[.agg (levV fun _ _ => 0), .int .i64 0, .int .i64 1]) ∧ Below w.heap.size w w' := by
  obtain ⟨W0, hW0, g0, g1, g2, hb0⟩ := mir_new w L g
  obtain ⟨r0, -, -, -, -⟩ := g0.facts
  obtain ⟨r1, -, -, -, -⟩ := g1.facts
  have HV := Lib.hid (implLevels_any L hL g)
  rw [hv] at HV
  clear hv hL
  go_enter Try.func31, Try.ntmps31
  go_wp2_with fail
  clear hW0 r0 r1
  refine (HV.out _).mono ?_
  rintro e w1 ⟨rfl, hb1⟩
  have hb2 := below_onto hb0 hb1
  have k2 := g2.below hb1 g2.lt
  obtain ⟨rr, fr, -, -, lr⟩ := k2.facts
  have HK := Lib.hid (k2.setRow (levV fun _ _ => 0))
  have HB := Lib.hid hb2
  clear hb0 hb1 g0 g1 g2 hb2
  go_wp2_with fail
  exact bodyPost_ret (results_cell_tmp2s' rfl wideLv _ rfl HK.out (by simp)) rfl ⟨rfl, below_setRow' HB.out (by omega) _⟩

set_option maxRecDepth 100000 in
set_option maxHeartbeats 1000000 in
theorem implRoll_row (L : Lawn) (hL : L.Fits) (g : Nat → Nat → Int) (hv : levB L g = true) (y : Int) (hy : upZ y (L.high - 1) = false) (w : World) :
    Calls Try.prog 31 #[.agg L.cells, .agg (levV g), .int .i64 y] w fun e w' => e = .returned (.tuple #[.agg (levV fun _ _ => 0), .int .i64 0, .int .i64 2]) ∧ Below w.heap.size w w' := by
  obtain ⟨W0, hW0, g0, g1, g2, hb0⟩ := mir_new w L g
  obtain ⟨r0, -, -, -, -⟩ := g0.facts
  obtain ⟨r1, -, -, -, -⟩ := g1.facts
  have HV := Lib.hid (implLevels_any L hL g)
  rw [hv] at HV
  have HU := Lib.hid (upTo64_is y (L.high - 1) false hy)
  have HC1 := Lib.hid (Lawn.cells_1 L)
  have b0 := hL.h0
  have b1 := hL.h1
  clear hv hL hy
  go_enter Try.func31, Try.ntmps31
  go_wp2_with fail
  clear hW0 r0 r1
  refine (HV.out _).mono ?_
  rintro e w1 ⟨rfl, hb1⟩
  have hb2 := below_onto hb0 hb1
  have k2 := g2.below hb1 g2.lt
  have c1 := ((g0.below hb1 g0.lt).cell 1).trans HC1.out
  obtain ⟨rr, fr, -, -, lr⟩ := k2.facts
  have HK := Lib.hid (k2.setRow (levV fun _ _ => 0))
  have HB := Lib.hid hb2
  clear hb0 hb1 g0 g1 g2 hb2
  go_wp2_with (go_at_call 57; refine (HU.out _).mono ?_; rintro e w2 ⟨rfl, hw2⟩; rw [hw2]; clear hw2)
  exact bodyPost_ret (results_cell_tmp2s' rfl wideLv _ rfl HK.out (by simp)) rfl ⟨rfl, below_setRow' HB.out (by omega) _⟩

set_option maxRecDepth 100000 in
set_option maxHeartbeats 1000000 in
theorem specRoll_bad (L : Lawn) (hL : L.Fits) (g : Nat → Nat → Int) (hg : LevFits g) (y : Int) (m : Int) (hm : told (levB L g) (upZ y (L.high - 1)) = m) (hm0 : m ≠ 0) (w : World) :
    Calls Try.prog 30 #[.agg L.cells, .agg (levV g), .int .i64 y] w fun e w' => e = .returned (.tuple #[.agg (levV fun _ _ => 0), .int .i64 0, .int .i64 m]) ∧ Below w.heap.size w w' := by
  obtain ⟨W0, hW0, g0, g1, g2, hb0⟩ := mir_new w L g
  obtain ⟨d, hd⟩ : ∃ d, upZ y (L.high - 1) = d := ⟨_, rfl⟩
  have HU := Lib.hid (fun w => in_q y 0 (L.high - 1) w)
  rw [← upZ_in, hd] at HU
  have HV := Lib.hid (l06Asked_any L hL g hg _ _ d _ g0 g1)
  rw [hd] at hm
  rw [hm] at HV
  have c1 := (g0.cell 1).trans (Lawn.cells_1 L)
  have b0 := hL.h0
  have b1 := hL.h1
  have hmd : ((m : Int) != 0) = true := by simp [hm0]
  clear hm hL hg hd hm0
  go_enter Try.func30, Try.ntmps30
  go_wp2_with (go_at_call 54; refine (HU.out _).mono ?_; rintro e w2 ⟨rfl, hw2⟩; rw [hw2]; clear hw2)
  clear hW0
  refine HV.out.mono ?_
  rintro e w1 ⟨rfl, hb1⟩
  have hb2 := below_onto hb0 hb1
  have k2 := g2.below hb1 g2.lt
  obtain ⟨rr, fr, -, -, lr⟩ := k2.facts
  have HK := Lib.hid (k2.setRow (levV fun _ _ => 0))
  have HB := Lib.hid hb2
  clear hb0 hb1 g0 g1 g2 hb2 HV c1
  go_wp2_with fail
  exact bodyPost_ret (results_cell_tmp2s' rfl wideLv _ rfl HK.out (by simp)) rfl ⟨rfl, below_setRow' HB.out (by omega) _⟩
end Go.Proofs.Ytbccffnmjmbgoaa
