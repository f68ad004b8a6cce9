/- RollRow of the model. -/
import Derived.Test.YtbccffnmjmbgoaaRoll
namespace Go.Proofs.Ytbccffnmjmbgoaa
open Go.RowKit
set_option linter.unusedVariables false
set_option linter.unusedSimpArgs false
attribute [local go_sem ↓] loadRow loadGrid loadLawn loadMirror storeRow storeGrid storeLawn allocRow allocGrid allocLawn buildZero buildSides loadR8 loadL8 loadLv storeR8 storeLv allocR8 allocLv buildZLv storeCl

set_option maxRecDepth 100000 in
set_option maxHeartbeats 4000000 in
theorem specRoll_good (L : Lawn) (hL : L.Fits) (g : Nat → Nat → Int) (hg : LevFits g) (hv : levB L g = true) (Wn Hn y : Nat) (hLw : L.wide = Wn) (hLh : L.high = Hn) (hy : y < Hn) (w : World) :
    Calls Try.prog 30 #[.agg L.cells, .agg (levV g), .int .i64 y] w fun e w' => e = .returned (.tuple #[.agg (levV (rollS L g y (Wn - 1)).1), .int .i64 (rollS L g y (Wn - 1)).2, .int .i64 0]) ∧ Below w.heap.size w w' := by
  obtain ⟨W0, hW0, g0, g1, g2, hb0⟩ := mir_new w L g
  have hV := (levB_true hv).1
  obtain ⟨h1, h2, -⟩ := validB_true hV
  have HV := Lib.hid (l06Asked_any L hL g hg _ _ true _ g0 g1)
  rw [hv, show told true true = 0 from rfl] at HV
  have hW10 : Wn ≤ 10 := by omega
  have hH10 : Hn ≤ 10 := by omega
  have hW1 : 1 ≤ Wn := by omega
  have HU := Lib.hid (fun w => in_yes (y : Int) 0 ((Hn : Int) - 1) w (inB_yes (by omega) (by omega)))
  have HC0 : Hid (L.cells[0]? = some (.int .i8 Wn)) := Lib.hid (by rw [Lawn.cells_0, hLw])
  have c1 := (g0.cell 1).trans (Lawn.cells_1 L)
  rw [hLh] at c1
  have HGR := Lib.hid (fun (x y : Int) (x0 : -128 ≤ x) (x1 : x ≤ 127) (y0 : -128 ≤ y) (y1 : y ≤ 127) (w0 : World) (h : Holds w0 w.heap.size L.cells) => grass_any L hV hL w.heap.size x y x0 x1 y0 y1 w0 h)
  have HIN := Lib.hid (rollS_in (L := L) (g := g) (y := y) (lev_range hv) (by omega))
  have hy0 : (0 : Int) ≤ y := by omega
  have hy1 : (y : Int) < 10 := by omega
  have hH0 : (0 : Int) ≤ Hn := by omega
  have hH1 : (Hn : Int) ≤ 10 := by omega
  have hy10 : y < 10 := by omega
  clear hv hL hV h1 h2 hg
  obtain ⟨N, hN⟩ : ∃ N, Wn - 1 = N := ⟨_, rfl⟩
  have hNW : Wn ≤ N + 1 := by omega
  have hNW2 : N + 1 ≤ Wn := by omega
  rw [hN]
  clear hN
  go_enter Try.func30, Try.ntmps30
  go_wp2_with (go_at_call 54; refine (HU.out _).mono ?_; rintro e w2 ⟨rfl, hw2⟩; rw [hw2]; clear hw2)
  clear hW0
  refine HV.out.mono ?_
  rintro e w1 ⟨rfl, hb1⟩
  have hb2 := below_onto hb0 hb1
  have k0 := g0.below hb1 g0.lt
  have k1 := g1.below hb1 g1.lt
  have k2 := g2.below hb1 g2.lt
  clear hb0 hb1 g0 g1 g2 HV c1
  go_wp2_with fail
  go_loopw [10, 11] (fun z x wr => ∃ k : Nat, k ≤ N ∧ x = .int .i8 k ∧ z = .int .i64 (rollS L g y k).2 ∧ Holds wr w.heap.size L.cells ∧ Holds wr (w.heap.size + 1) (levV (rollS L g y k).1) ∧ Holds wr (w.heap.size + 1 + 1) (levV fun _ _ => 0) ∧ Below w.heap.size w wr) (fun _ x _ => N - (intOf x).toNat)
  case atStart => exact ⟨0, by omega, rfl, rfl, k0, k1, k2, hb2⟩
  case round =>
    obtain ⟨k, hk, rfl, rfl, j0, j1, j2, hb⟩ := hrel
    have cw := (j0.cell 0).trans HC0.out
    have hk0 : (0 : Int) ≤ k := by omega
    have hk1 : (k : Int) < 10 := by omega
    clear k0 k1 k2 hb2
    by_cases hlt : k < N
    · have hd : decide ((k : Int) + 1 < (Wn : Int)) = true := by simp; omega
      obtain ⟨hin, hn0, hn1⟩ := HIN.out k (by omega)
      have h1 := hin y k hy10 (by omega)
      have h2 := hin y (k + 1) hy10 (by omega)
      obtain ⟨G, hG⟩ : ∃ G, (rollS L g y k).1 = G := ⟨_, rfl⟩
      obtain ⟨n, hn⟩ : ∃ n, (rollS L g y k).2 = n := ⟨_, rfl⟩
      have HRS : Hid (rollS L g y k = (G, n)) := Lib.hid (by rw [← hG, ← hn])
      rw [hG] at h1 h2 j1
      rw [hn] at hn0 hn1
      rw [hn]
      have HATA := Lib.hid (fun v1 h => l06At_any G (w.heap.size + 1) k y (by omega) hy10 (by rw [← hG]; have := hin y k hy10 (by omega); omega) v1 h)
      have HATB := Lib.hid (fun v1 h => by
        have := l06At_any G (w.heap.size + 1) (k + 1) y (by omega) hy10 (by rw [← hG]; have := hin y (k + 1) hy10 (by omega); omega) v1 h
        rw [show ((k + 1 : Nat) : Int) = (k : Int) + 1 by omega] at this
        exact this)
      clear hin hG hn
      obtain ⟨a, ha⟩ : ∃ a, G y k = a := ⟨_, rfl⟩
      obtain ⟨b, hb'⟩ : ∃ b, G y (k + 1) = b := ⟨_, rfl⟩
      rw [ha] at h1 HATA
      rw [hb'] at h2 HATB
      have hhz := halfZ_in h1 h2
      have hw64 : IntKind.i64.wrap (a - b) = a - b := IntWalk.i64_in _ (by omega)
      have HGA := Lib.hid (fun w h => HGR.out (k : Int) (y : Int) (by omega) (by omega) (by omega) (by omega) w h)
      have HGB := Lib.hid (fun w h => HGR.out ((k : Int) + 1) (y : Int) (by omega) (by omega) (by omega) (by omega) w h)
      obtain ⟨gA, hgA⟩ : ∃ b, grassB L (k : Int) (y : Int) = b := ⟨_, rfl⟩
      obtain ⟨gB, hgB⟩ : ∃ b, grassB L ((k : Int) + 1) (y : Int) = b := ⟨_, rfl⟩
      have HGG := Lib.hid (show (grassB L (k : Int) (y : Int) && grassB L ((k : Int) + 1) (y : Int)) = (gA && gB) by rw [hgA, hgB])
      rw [hgA] at HGA
      rw [hgB] at HGB
      have HAB := Lib.hid (And.intro ha hb')
      clear hgA hgB ha hb'
      -- the two cells
      have hls := j2.lt
      have n0 := (Holds.new wr #[.int .i8 (k : Int), .int .i8 (y : Int)] 44).alloc (.cells #[.int .i8 ((k : Int) + 1), .int .i8 (y : Int)] 44)
      have n1 := Holds.new' (wr.alloc (.cells #[.int .i8 (k : Int), .int .i8 (y : Int)] 44)) #[.int .i8 ((k : Int) + 1), .int .i8 (y : Int)] 44 (wr.heap.size + 1) (by simp)
      have j0 := (j0.alloc (.cells #[.int .i8 (k : Int), .int .i8 (y : Int)] 44)).alloc (.cells #[.int .i8 ((k : Int) + 1), .int .i8 (y : Int)] 44)
      have j1 := (j1.alloc (.cells #[.int .i8 (k : Int), .int .i8 (y : Int)] 44)).alloc (.cells #[.int .i8 ((k : Int) + 1), .int .i8 (y : Int)] 44)
      have j2 := (j2.alloc (.cells #[.int .i8 (k : Int), .int .i8 (y : Int)] 44)).alloc (.cells #[.int .i8 ((k : Int) + 1), .int .i8 (y : Int)] 44)
      have hb := (hb.alloc hb.size (.cells #[.int .i8 (k : Int), .int .i8 (y : Int)] 44)).alloc (by simp; have := hb.size; omega) (.cells #[.int .i8 ((k : Int) + 1), .int .i8 (y : Int)] 44)
      go_wp2_with fail
      obtain ⟨W1, hW1⟩ : ∃ W1, (wr.alloc (.cells #[.int .i8 (k : Int), .int .i8 (y : Int)] 44)).alloc (.cells #[.int .i8 ((k : Int) + 1), .int .i8 (y : Int)] 44) = W1 := ⟨_, rfl⟩
      obtain ⟨m, hm⟩ : ∃ m, wr.heap.size = m := ⟨_, rfl⟩
      rw [hW1] at n0 n1 j0 j1 j2 hb ⊢
      rw [hm] at n0 n1 hls ⊢
      clear hW1 hm cw
      obtain ⟨-, s0⟩ := n0.later
      obtain ⟨-, s1⟩ := n1.later
      refine wp_region_grow 5 (by kernel_rfl) (by kernel_rfl) ?_
      simp only [List.take_succ_cons, List.take_zero, List.drop_succ_cons, List.drop_zero]
      iterate 5
        apply wpGrow_plain rfl
        · intro w' hw' K hK
          have e0 := s0 _ hw'
          have e1 := s1 _ hw'
          have e2 := j1.below hw' j1.lt
          go_wp2_with (first | (go_at_call 47; with_reducible refine (HATA.out _ e2).mono ?_; rintro e w2 ⟨rfl, hb2⟩) | (go_at_call 47; with_reducible refine (HATB.out _ e2).mono ?_; rintro e w2 ⟨rfl, hb2⟩))
          first | exact hK _ _ rfl hw' | exact hK _ _ rfl (below_onto hw' hb2)
        simp only [Act.put, List.setIfInBounds_toArray, List.set_cons_succ, List.set_cons_zero]
      refine wpGrow_nil ?_
      intro W2 hW2
      have n0 := n0.below hW2 n0.lt
      have n1 := n1.below hW2 n1.lt
      have j0 := j0.below hW2 j0.lt
      have j1 := j1.below hW2 j1.lt
      have j2 := j2.below hW2 j2.lt
      have hb := below_onto hb hW2
      clear hW2 s0 s1
      obtain ⟨-, -, e0, -, -⟩ := n0.facts
      go_wp2_with fail
      refine (HGA.out _ j0).mono ?_
      rintro e w3 ⟨rfl, hb1⟩
      have n1 := n1.below hb1 n1.lt
      have j0 := j0.below hb1 j0.lt
      have j1 := j1.below hb1 j1.lt
      have j2 := j2.below hb1 j2.lt
      have hb := below_onto hb hb1
      clear hb1 n0 e0
      cases gA
      case false =>
        have HR2 := Lib.hid (rollS_bare (L := L) (g := g) (y := y) (x := k) (by rw [HGG.out]; rfl))
        go_wp2_with fail
        go_roundw
        case rel => exact ⟨k + 1, by omega, by go_num, by rw [HR2.out, HRS.out], j0, by rw [HR2.out, HRS.out]; exact j1, j2, hb⟩
        case measure => simp [intOf]; omega
      case true =>
        obtain ⟨-, -, e1, -, -⟩ := n1.facts
        go_wp2_with fail
        refine (HGB.out _ j0).mono ?_
        rintro e w4 ⟨rfl, hb1⟩
        have j0 := j0.below hb1 j0.lt
        have j1 := j1.below hb1 j1.lt
        have j2 := j2.below hb1 j2.lt
        have hb := below_onto hb hb1
        clear hb1 n1 e1
        cases gB
        case false =>
          have HR2 := Lib.hid (rollS_bare (L := L) (g := g) (y := y) (x := k) (by rw [HGG.out]; rfl))
          go_wp2_with fail
          go_roundw
          case rel => exact ⟨k + 1, by omega, by go_num, by rw [HR2.out, HRS.out], j0, by rw [HR2.out, HRS.out]; exact j1, j2, hb⟩
          case measure => simp [intOf]; omega
        case true =>
          by_cases h2d : 2 ≤ a - b
          · have hge : decide (2 ≤ a - b) = true := by simpa using h2d
            obtain ⟨f, hf⟩ : ∃ f, halfZ (a - b) = f := ⟨_, rfl⟩
            have hq : (a - b).tdiv 2 = f := by
              rw [← hf, Int.tdiv_eq_ediv_of_nonneg (by omega)]
              unfold halfZ; rw [if_pos h2d]
            have HR2 := Lib.hid (rollS_grass (L := L) (g := g) (y := y) (x := k) (by rw [HGG.out]; rfl) HRS.out)
            rw [HAB.out.1, HAB.out.2, hf] at HR2
            rw [hf] at hhz
            have hwf : IntKind.i64.wrap f = f := IntWalk.i64_in _ (by omega)
            have hwf8 : IntKind.i8.wrap f = f := IntWalk.i8_in _ (by omega)
            clear hf
            have FX := Lib.hid (show ∀ w', Below w4.heap.size w4 w' → w'.cell? ⟨w.heap.size + 1, y * 10 + k, none⟩ = some (.int .i8 a) from fun w' hw' => by rw [(j1.below hw' j1.lt).cell, levV_get G y k hy10 (by omega), HAB.out.1])
            go_wp2_with fail
            refine wp_region_grow 11 (by kernel_rfl) (by kernel_rfl) ?_
            simp only [List.take_succ_cons, List.take_zero, List.drop_succ_cons, List.drop_zero]
            iterate 11
              apply wpGrow_plain rfl
              · intro w' hw' K hK
                have f1 := FX.out _ hw'
                go_wp2_with fail
                exact hK _ _ rfl hw'
              simp only [Act.put, List.setIfInBounds_toArray, List.set_cons_succ, List.set_cons_zero]
            refine wpGrow_nil ?_
            intro W5 hW5
            have j0 := j0.below hW5 j0.lt
            have j1 := j1.below hW5 j1.lt
            have j2 := j2.below hW5 j2.lt
            have hb := below_onto hb hW5
            obtain ⟨-, -, cc, ff, ll⟩ := j1.facts
            have c1 : W5.cell? ⟨w.heap.size + 1, y * 10 + k, none⟩ = some (.int .i8 a) := by rw [cc, levV_get G y k hy10 (by omega), HAB.out.1]
            have q1 := j1.setCell (y * 10 + k) (.int .i8 (a - f))
            rw [levV_set _ y k _ hy10 (by omega)] at q1
            have q0 := j0.setCell_other ⟨w.heap.size + 1, y * 10 + k, none⟩ (.int .i8 (a - f)) (by dsimp only; omega)
            have q2 := j2.setCell_other ⟨w.heap.size + 1, y * 10 + k, none⟩ (.int .i8 (a - f)) (by dsimp only; omega)
            have qb := hb.setCell (p := ⟨w.heap.size + 1, y * 10 + k, none⟩) (by dsimp only; omega) (.int .i8 (a - f))
            obtain ⟨W6, hW6⟩ : ∃ W6, W5.setCell ⟨w.heap.size + 1, y * 10 + k, none⟩ (.int .i8 (a - f)) = W6 := ⟨_, rfl⟩
            rw [hW6] at q0 q1 q2 qb
            have FX := Lib.hid (show ∀ w', Below W6.heap.size W6 w' → w'.cell? ⟨w.heap.size + 1, y * 10 + (k + 1), none⟩ = some (.int .i8 b) from fun w' hw' => by
              rw [(q1.below hw' q1.lt).cell, levV_get _ y (k + 1) hy10 (by omega)]
              unfold upd
              rw [if_neg (by omega), HAB.out.2])
            clear cc j0 j1 j2 hb hW5
            go_wp2_with fail
            clear hW6 c1 ff ll
            refine wp_region_grow 12 (by kernel_rfl) (by kernel_rfl) ?_
            simp only [List.take_succ_cons, List.take_zero, List.drop_succ_cons, List.drop_zero]
            iterate 12
              apply wpGrow_plain rfl
              · intro w' hw' K hK
                have f1 := FX.out _ hw'
                go_wp2_with fail
                exact hK _ _ rfl hw'
              simp only [Act.put, List.setIfInBounds_toArray, List.set_cons_succ, List.set_cons_zero]
            refine wpGrow_nil ?_
            intro W7 hW7
            have j0 := q0.below hW7 q0.lt
            have j1 := q1.below hW7 q1.lt
            have j2 := q2.below hW7 q2.lt
            have hb := below_onto qb hW7
            have c2 := FX.out _ hW7
            obtain ⟨-, -, -, ff, ll⟩ := j1.facts
            have q1 := j1.setCell (y * 10 + (k + 1)) (.int .i8 (b + f))
            rw [levV_set _ y (k + 1) _ hy10 (by omega)] at q1
            have HQ := Lib.hid q1
            have HQ0 := Lib.hid (j0.setCell_other ⟨w.heap.size + 1, y * 10 + (k + 1), none⟩ (.int .i8 (b + f)) (by dsimp only; omega))
            have HQ2 := Lib.hid (j2.setCell_other ⟨w.heap.size + 1, y * 10 + (k + 1), none⟩ (.int .i8 (b + f)) (by dsimp only; omega))
            have HQB := Lib.hid (hb.setCell (p := ⟨w.heap.size + 1, y * 10 + (k + 1), none⟩) (by dsimp only; omega) (.int .i8 (b + f)))
            clear j0 j1 j2 q0 q1 q2 hb qb hW7 FX
            go_wp2_with fail
            go_roundw
            case rel => exact ⟨k + 1, by omega, by go_num, by rw [HR2.out], HQ0.out, by rw [HR2.out]; exact HQ.out, HQ2.out, HQB.out⟩
            case measure => simp [intOf]; omega
          · have hge : decide (2 ≤ a - b) = false := by simpa using h2d
            have HR2 := Lib.hid (rollS_flat (L := L) HRS.out (by rw [HAB.out.1, HAB.out.2]; omega))
            go_wp2_with fail
            go_roundw
            case rel => exact ⟨k + 1, by omega, by go_num, by rw [HR2.out], j0, by rw [HR2.out]; exact j1, j2, hb⟩
            case measure => simp [intOf]; omega
    · obtain rfl : k = N := by omega
      have hd : decide ((k : Int) + 1 < (Wn : Int)) = false := by simp; omega
      obtain ⟨G, hG⟩ : ∃ G, (rollS L g y k).1 = G := ⟨_, rfl⟩
      rw [hG] at j1
      have HG := Lib.hid hG
      obtain ⟨r1, -, -, -, l1⟩ := j1.facts
      obtain ⟨rr, fr, -, -, lr⟩ := j2.facts
      have HK := Lib.hid (j2.setRow (levV G))
      have HB := Lib.hid hb
      clear j0 j1 j2 hb hG
      go_wp2_with fail
      exact bodyPost_ret (results_cell_tmp2s' rfl wideLv _ rfl HK.out (by simp)) rfl ⟨by rw [HG.out]; rfl, below_setRow' HB.out (by omega) _⟩

/-- What both answer. -/
theorem roll_both (L : Lawn) (hL : L.Fits) (g : Nat → Nat → Int) (hg : LevFits g) (y : Int) : ∃ (R : Nat → Nat → Int) (z m : Int), (∀ w : World, Calls Try.prog 31 #[.agg L.cells, .agg (levV g), .int .i64 y] w fun e w' => e = .returned (.tuple #[.agg (levV R), .int .i64 z, .int .i64 m]) ∧ Below w.heap.size w w') ∧
    (∀ w : World, Calls Try.prog 30 #[.agg L.cells, .agg (levV g), .int .i64 y] w fun e w' => e = .returned (.tuple #[.agg (levV R), .int .i64 z, .int .i64 m]) ∧ Below w.heap.size w w') := by
  cases hv : levB L g with
  | false => exact ⟨_, _, _, implRoll_lev L hL g hv y, specRoll_bad L hL g hg y 1 (by rw [hv]; rfl) (by decide)⟩
  | true =>
    cases hu : upZ y (L.high - 1) with
    | false => exact ⟨_, _, _, implRoll_row L hL g hv y hu, specRoll_bad L hL g hg y 2 (by rw [hv, hu]; rfl) (by decide)⟩
    | true =>
      have := inB_true (upZ_in y (L.high - 1) ▸ hu)
      obtain ⟨h1, h2, -⟩ := validB_true (levB_true hv).1
      obtain ⟨k, rfl⟩ : ∃ k : Nat, y = k := ⟨y.toNat, by omega⟩
      exact ⟨_, _, _, implRoll_good L hL g hg hv L.wide.toNat L.high.toNat k (by omega) (by omega) (by omega), specRoll_good L hL g hg hv L.wide.toNat L.high.toNat k (by omega) (by omega) (by omega)⟩
end Go.Proofs.Ytbccffnmjmbgoaa
