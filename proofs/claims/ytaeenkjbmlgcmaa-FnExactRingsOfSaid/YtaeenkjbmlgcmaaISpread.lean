/- What hangs together with a cell without grass becomes known, of the program. -/
import Derived.Test.YtaeenkjbmlgcmaaHoleP
import Derived.Test.YtaeenkjbmlgcmaaQueueM
import Derived.Test.YtaeenkjbmlgcmaaGrowMP
import Derived.Test.YtaeenkjbmlgcmaaGrowAll
namespace Go.Proofs.Ytaeenkjbmlgcmaa
open Go.RowKit
set_option linter.unusedVariables false
set_option linter.unusedSimpArgs false
attribute [local go_sem ↓] loadRow loadGrid loadLawn loadMirror storeRow storeGrid storeLawn allocRow allocGrid allocLawn buildZero buildSides

theorem boolZ (w : World) : (zeroValue 4).run Try.prog w = .ok (.bool false) w := by kernel_rfl
theorem row3_0 (a b c d e f : Int) (w : World) : (Instr.index 199 (.agg #[.int .i8 a, .int .i8 b, .int .i8 c, .int .i8 d, .int .i8 e, .int .i8 f]) (.int .i64 ((0 : Nat) : Int))).run Try.prog w = .ok (.agg #[.int .i8 a, .int .i8 b]) w := by kernel_rfl
theorem row3_1 (a b c d e f : Int) (w : World) : (Instr.index 199 (.agg #[.int .i8 a, .int .i8 b, .int .i8 c, .int .i8 d, .int .i8 e, .int .i8 f]) (.int .i64 ((1 : Nat) : Int))).run Try.prog w = .ok (.agg #[.int .i8 c, .int .i8 d]) w := by kernel_rfl
theorem row3_2 (a b c d e f : Int) (w : World) : (Instr.index 199 (.agg #[.int .i8 a, .int .i8 b, .int .i8 c, .int .i8 d, .int .i8 e, .int .i8 f]) (.int .i64 ((2 : Nat) : Int))).run Try.prog w = .ok (.agg #[.int .i8 e, .int .i8 f]) w := by kernel_rfl
theorem row3_at (x y : Int) (k : Nat) (hk : k < 3) (w : World) : (Instr.index 199 (.agg #[.int .i8 x, .int .i8 (y - 1), .int .i8 x, .int .i8 y, .int .i8 x, .int .i8 (y + 1)]) (.int .i64 (k : Int))).run Try.prog w = .ok (.agg #[.int .i8 x, .int .i8 (y - 1 + k)]) w := by
  have : k = 0 ∨ k = 1 ∨ k = 2 := by omega
  rcases this with rfl | rfl | rfl
  · rw [row3_0]; simp
  · rw [row3_1]; simp
  · rw [row3_2, show y - 1 + ((2 : Nat) : Int) = y + 1 by omega]
/-- The first k rows of the cells around one. -/
def rows8 (x y : Int) : Nat → List Pt
  | 0 => []
  | k + 1 => rows8 x y k ++ row8 (x, y - 1 + k)
theorem rows8_all (x y : Int) : rows8 x y 3 = near8 (x, y) := by
  simp only [rows8, near8, List.nil_append]
  rw [show y - 1 + ((0 : Nat) : Int) = y - 1 by simp, show y - 1 + ((1 : Nat) : Int) = y by simp, show y - 1 + ((2 : Nat) : Int) = y + 1 by omega]
theorem rows8_len (x y : Int) : ∀ k, (rows8 x y k).length = 3 * k
  | 0 => rfl
  | k + 1 => by
    show (rows8 x y k ++ row8 (x, y - 1 + k)).length = _
    rw [List.length_append, rows8_len x y k]
    show 3 * k + 3 = _
    omega

set_option maxRecDepth 100000 in
set_option maxHeartbeats 4000000 in
theorem spread_any (L : Lawn) (hL : L.Fits) (hV : validB L = true) (s : Pt) (b : Nat) (K0 : List Pt) (hs0 : Shut8 (bareP L) K0) (hn0 : K0.Nodup) (w : World) (hm : MapIs w b cellK .bool (knownL K0)) :
    Calls Try.prog 103 #[.agg L.cells, .agg #[.int .i8 s.1, .int .i8 s.2], .map (some b)] w fun e w' => (∃ u, e = .returned u) ∧ (∃ K, (∀ c, c ∈ K ↔ c ∈ K0 ∨ Conn8 (bareP L) s c) ∧ Shut8 (bareP L) K ∧ K.Nodup ∧ MapIs w' b cellK .bool (knownL K)) ∧ Only [b] w w' := by
  have HHAS := Lib.hid (fun (x y : Int) (w : World) => has_is L x y w _ rfl)
  have HGR := Lib.hid (fun (x y : Int) (w : World) => isGrass_is L hV hL x y _ rfl w)
  have HNE := Lib.hid (bareP_near hV)
  have HSPR := Lib.hid (Spr.begin (s := s) hs0 hn0)
  obtain ⟨i0, hi, hz0, hz1, hz2⟩ := info_parts cellInfo
  have HI := Lib.hid (show Try.prog.info? 37 = some i0 ∧ i0.zero = some (.agg #[.int .i8 0, .int .i8 0]) ∧ i0.size = 2 ∧ i0.bytes = 2 from ⟨hi, hz0, hz1, hz2⟩)
  clear hi hz0 hz1 hz2 hs0 hn0 hL
  obtain ⟨sx, sy⟩ := s
  dsimp only
  obtain ⟨B, hB⟩ : ∃ B, w.heap.size = B := ⟨_, rfl⟩
  have hbl := hm.lt
  rw [hB] at hbl
  obtain ⟨W0, hW0⟩ : ∃ W0, ((w.alloc (.cells L.cells 29)).alloc (.cells #[.int .i8 sx, .int .i8 sy] 37)).alloc (.cells #[.int .i8 sx, .int .i8 sy] 37) = W0 := ⟨_, rfl⟩
  have g0 : Holds W0 B L.cells := by rw [← hW0, ← hB]; exact ((Holds.new _ _ _).alloc _).alloc _
  have gm : MapIs W0 b cellK .bool (knownL K0) := by rw [← hW0]; exact ((hm.alloc _).alloc _).alloc _
  have gq : QIs W0 (B + 1 + 1) 37 2 (.slice (some ⟨B + 1 + 1, 0, none⟩) 1 1) 1 (flatP [(sx, sy)]) := by
    refine ⟨B + 1 + 1, 0, 1, #[.int .i8 sx, .int .i8 sy], rfl, by omega, ?_, by omega, by simp [maxLen], by simp, by simp [flatP], fun j u hu => by simpa [flatP] using hu⟩
    rw [← hW0, ← hB]
    have := heap_alloc_new ((w.alloc (.cells L.cells 29)).alloc (.cells #[.int .i8 sx, .int .i8 sy] 37)) (.cells #[.int .i8 sx, .int .i8 sy] 37)
    simpa using this
  have go : Only [b] w W0 := by rw [← hW0]; exact (((Only.refl _ _).alloc _).alloc _).alloc _
  have HW := Lib.hid (And.intro g0 (And.intro gm (And.intro gq go)))
  clear g0 gm gq go hm
  go_enter Try.func103, Try.ntmps103
  go_wp2_with fail
  try simp only [hB]
  try rw [hW0]
  clear hW0
  go_loopw [6] (fun q wr => ∃ (n : Nat) (Q K : List Pt), Q.length = n ∧ Spr (bareP L) (sx, sy) K0 K Q ∧ n ≤ 1 + 9 * K.length ∧ QIs wr (B + 1 + 1) 37 2 q n (flatP Q) ∧ MapIs wr b cellK .bool (knownL K) ∧ Holds wr B L.cells ∧ Only [b] w wr) (fun q wr => 10 * (100 - mapLen wr b) + sliceLen q)
  case atStart => exact ⟨1, [(sx, sy)], K0, rfl, HSPR.out, by omega, HW.out.2.2.1, HW.out.2.1, HW.out.1, HW.out.2.2.2⟩
  case round =>
    clear HW HSPR
    obtain ⟨n, Q, K, hn, hS, hQl, hq, hM, hL0, hO⟩ := hrel
    have HSP := Lib.hid hS
    have hK100 := pts_le HNE.out hS.nodup hS.pass
    have hML : mapLen wr b = K.length := by rw [hM.len]; simp [knownL]
    have HMl := Lib.hid hML
    obtain ⟨g, off, cap, rfl, hcap, hmax, hBg, hgl⟩ := hq.form
    clear hS hML
    cases n with
    | zero =>
      obtain rfl : Q = [] := List.length_eq_zero_iff.1 hn
      clear hn
      go_wp2_with fail
      refine bodyPost_end (results_none rfl _ _ _) rfl ?_
      exact ⟨⟨_, rfl⟩, ⟨K, HSP.out.done.1, HSP.out.done.2, HSP.out.nodup, hM⟩, hO⟩
    | succ m' =>
      obtain ⟨⟨px, py⟩, Q, rfl⟩ : ∃ c Q', Q = c :: Q' := by
        cases Q with
        | nil => simp at hn
        | cons c Q => exact ⟨c, Q, rfl⟩
      have hm' : Q.length = m' := by simpa using hn
      have HQ := Lib.hid hq
      have e0 := hq.cell 0 (.int .i8 px) rfl
      have e1 := hq.cell 1 (.int .i8 py) rfl
      rw [Nat.add_zero] at e0
      have hcap9 : cap ≤ 9223372036854775807 := by unfold maxLen at hmax; omega
      have hfin : ∃ q', (cap = 1 → q' = .slice (some ⟨g, off, none⟩) m' 0) ∧ (1 < cap → q' = .slice (some ⟨g, off + 2, none⟩) m' (cap - 1)) ∧ QIs wr (B + 1 + 1) 37 2 q' m' (flatP Q) := by
        rcases (by omega : cap = 1 ∨ 1 < cap) with hc1 | hc1
        · obtain ⟨h0, h1⟩ := hq.cutLast hc1
          have h2 : Q = [] := List.length_eq_zero_iff.1 (by omega)
          exact ⟨.slice (some ⟨g, off, none⟩) m' 0, fun _ => rfl, fun h => by omega, by rw [h2, h0]; exact h1⟩
        · have h1 := hq.cut hc1
          exact ⟨_, fun h => by omega, fun _ => rfl, h1⟩
      obtain ⟨q', hq1, hq2, hq3⟩ := hfin
      have HQ3 := Lib.hid hq3
      have HQ1 := Lib.hid hq1
      have HQ2 := Lib.hid hq2
      have HML' := Lib.hid hm'
      obtain ⟨na, hna⟩ : ∃ na, wr.heap.size = na := ⟨_, rfl⟩
      have hA : Holds (wr.alloc (.cells #[.int .i8 px, .int .i8 py] 37)) na #[.int .i8 px, .int .i8 py] := by rw [← hna]; exact Holds.new _ _ _
      have HA := Lib.hid hA
      have hLA := hL0.alloc (.cells #[.int .i8 px, .int .i8 py] 37)
      have hMA := hM.alloc (.cells #[.int .i8 px, .int .i8 py] 37)
      have hOA := hO.alloc (.cells #[.int .i8 px, .int .i8 py] 37)
      have HQA := Lib.hid (HQ3.out.below ((Below.refl wr.heap.size wr).alloc (Nat.le_refl _) (.cells #[.int .i8 px, .int .i8 py] 37)))
      have hqf : ∀ k, q'.ownBlock = some k → k < na := fun k hk => by rw [← hna]; exact (HQ3.out.far k hk).2
      have HQF := Lib.hid hqf
      obtain ⟨rA, -⟩ := hLA.facts
      have dA := hA.cell
      clear hq hq1 hq2 hq3 hm' hn hA hM hL0 hO hqf HQ
      have hcase : cap = 1 ∨ 1 < cap := by omega
      rcases hcase with hc1 | hc1
      all_goals
        go_wp2_with fail
        first | rw [← HQ2.out hc1] | (rw [← HQ1.out hc1])
        refine (HHAS.out px py _).mono ?_
        obtain ⟨ib, hib⟩ : ∃ i, isB L px py = i := ⟨_, rfl⟩
        rw [hib]
        have HIB := Lib.hid hib
        rintro e w2 ⟨rfl, hb2⟩
        have hL2 := hLA.below hb2 hLA.lt
        have hM2 := hMA.below hb2 hMA.lt
        have hO2 := hOA.onto hb2
        have hA2 := HA.out.below hb2 HA.out.lt
        have HQ5 := Lib.hid (HQA.out.below hb2)
        have hz2 : na < w2.heap.size := hA2.lt
        clear hib hLA hMA hOA rA dA hb2 HQA HA HQ3 e0 e1
        cases ib
        case false =>
          have HSK := Lib.hid (HSP.out.skip (.inl (show bareP L (px, py) = false by unfold bareP; rw [HIB.out]; rfl)))
          have HM5 := Lib.hid (show mapLen w2 b = K.length by rw [hM2.len]; simp [knownL])
          have HQL := Lib.hid HQ5.out.len
          go_wp2_with fail
          go_roundw
          case rel => exact ⟨m', Q, K, HML'.out, HSK.out, by omega, HQ5.out, hM2, hL2, hO2⟩
          case measure =>
            show 10 * (100 - mapLen _ _) + sliceLen _ < 10 * (100 - mapLen _ _) + sliceLen _
            rw [HM5.out, HMl.out, HQL.out]
            simp only [sliceLen]
            omega
        case true =>
          obtain ⟨r2, -⟩ := hL2.facts
          have d2 := hA2.cell
          go_wp2_with fail
          refine (HGR.out px py _).mono ?_
          obtain ⟨gb, hgb⟩ : ∃ i, grassB L px py = i := ⟨_, rfl⟩
          rw [hgb]
          have HGB := Lib.hid hgb
          rintro e w3 ⟨rfl, hb3⟩
          have hL3 := hL2.below hb3 hL2.lt
          have hM3 := hM2.below hb3 hM2.lt
          have hO3 := hO2.onto hb3
          have hA3 := hA2.below hb3 hA2.lt
          have HQ6 := Lib.hid (HQ5.out.below hb3)
          have hz3 : na < w3.heap.size := hA3.lt
          clear hgb hL2 hM2 hO2 hA2 r2 d2 hb3 HQ5
          cases gb
          case true =>
            have HSK := Lib.hid (HSP.out.skip (.inl (show bareP L (px, py) = false by unfold bareP; rw [HIB.out, HGB.out]; rfl)))
            have HM5 := Lib.hid (show mapLen w3 b = K.length by rw [hM3.len]; simp [knownL])
            have HQL := Lib.hid HQ6.out.len
            go_wp2_with fail
            go_roundw
            case rel => exact ⟨m', Q, K, HML'.out, HSK.out, by omega, HQ6.out, hM3, hL3, hO3⟩
            case measure =>
              show 10 * (100 - mapLen _ _) + sliceLen _ < 10 * (100 - mapLen _ _) + sliceLen _
              rw [HM5.out, HMl.out, HQL.out]
              simp only [sliceLen]
              omega
          case false =>
            have d3 := hA3.cell
            have hlk := (hM3.look cellKey Try.underlying157 boolZ (px, py)).1
            have HPB := Lib.hid (show bareP L (px, py) = true by unfold bareP; rw [HIB.out, HGB.out]; rfl)
            by_cases hin : (px, py) ∈ K
            · rw [knownL_in hin] at hlk
              simp only [cellK, cellV, Option.getD_some] at hlk
              have HSK := Lib.hid (HSP.out.skip (.inr hin))
              have HM5 := Lib.hid (show mapLen w3 b = K.length by rw [hM3.len]; simp [knownL])
              have HQL := Lib.hid HQ6.out.len
              clear hin
              go_wp2_with fail
              go_roundw
              case rel => exact ⟨m', Q, K, HML'.out, HSK.out, by omega, HQ6.out, hM3, hL3, hO3⟩
              case measure =>
                show 10 * (100 - mapLen _ _) + sliceLen _ < 10 * (100 - mapLen _ _) + sliceLen _
                rw [HM5.out, HMl.out, HQL.out]
                simp only [sliceLen]
                omega
            · rw [knownL_out hin] at hlk
              simp only [cellK, cellV, Option.getD_none] at hlk
              have HTK := Lib.hid (HSP.out.take HPB.out hin)
              obtain ⟨o, hput, hM4⟩ := hM3.put cellKey Try.underlying157 (px, py) true
              rw [alPut_new _ (knownL_out hin)] at hM4
              simp only [cellK, cellV] at hput
              have HM4 := Lib.hid (show MapIs (w3.putObj b o) b cellK Value.bool (knownL (K ++ [(px, py)])) by
                unfold knownL at hM4 ⊢
                rw [List.map_append]
                exact hM4)
              have hA4 := hA3.putObj (l := b) (by omega) o
              have hL4 := hL3.putObj (l := b) (by omega) o
              have hO4 := hO3.putT (l := b) (by simp) o
              have HQ7 := Lib.hid (HQ6.out.keep (grownBy_putObj' w3 b o) (fun e => by have := (HQ6.out.far _ e).1; omega))
              have d4 := hA4.cell
              have hnr := HNE.out _ HPB.out
              dsimp only at hnr
              obtain ⟨hnx, hny⟩ := hnr
              obtain ⟨W4, hW4⟩ : ∃ W, w3.putObj b o = W := ⟨_, rfl⟩
              rw [hW4] at HM4 hA4 hL4 hO4 HQ7 d4
              clear hM4 hA3 hL3 hO3 HQ6 hin hM3
              go_wp2_with fail
              obtain ⟨-, aL⟩ := hA4.later
              refine wp_region_all (by kernel_rfl) (by kernel_rfl) ?_
              iterate 7
                apply wpGrow_plain rfl
                · intro w' hw' K hK
                  have f1 := aL _ hw'
                  go_wp2_with (first | (go_at_call 135; refine (north_any px py (by omega) (by omega) _).mono ?_; rintro e w5 ⟨rfl, hb5⟩) | (go_at_call 136; refine (south_any px py (by omega) (by omega) _).mono ?_; rintro e w5 ⟨rfl, hb5⟩))
                  first | exact hK _ _ rfl hw' | exact hK _ _ rfl (below_onto hw' hb5)
                simp only [Act.put, List.setIfInBounds_toArray, List.set_cons_succ, List.set_cons_zero]
              refine wpGrow_nil ?_
              intro W5 hW5
              have hL5 := hL4.below hW5 hL4.lt
              have hM5 := HM4.out.below hW5 HM4.out.lt
              have hO5 := hO4.onto hW5
              have hA5 := hA4.below hW5 hA4.lt
              have HQ8 := Lib.hid (HQ7.out.below hW5)
              have hap : ∀ k, q'.ownBlock = some k → k ≠ na := fun k hk => by have := HQF.out k hk; omega
              have hKl : K.length ≤ 99 := by
                have := pts_le HNE.out HTK.out.nodup HTK.out.pass
                simp at this
                omega
              have HMK := Lib.hid (show mapLen W5 b = K.length + 1 by rw [hM5.len]; simp [knownL])
              clear hW5 hL4 hO4 hA4 HQ7 HM4 aL hlk d3 d4 hput hW4 HQF
              go_wp2_with fail
              go_loopw [6, 42] (fun q x wk => ∃ k n : Nat, k ≤ 3 ∧ x = .int .i64 k ∧ n = m' + 3 * k ∧ QIs wk (B + 1 + 1) 37 2 q n (flatP (Q ++ rows8 px py k)) ∧ (∀ z, q.ownBlock = some z → z ≠ na) ∧ MapIs wk b cellK .bool (knownL (K ++ [(px, py)])) ∧ Holds wk na #[.int .i8 px, .int .i8 py] ∧ Holds wk B L.cells ∧ Only [b] w wk) (fun _ x _ => 3 - (intOf x).toNat)
              case atStart => exact ⟨0, m', by omega, rfl, by omega, by simpa [rows8] using HQ8.out, hap, hM5, hA5, hL5, hO5⟩
              case round =>
                clear HQ8 hap hM5 hA5 hL5 hO5
                obtain ⟨k, n, hk, rfl, hnk, hq, hap, hM5, hA5, hL5, hO5⟩ := hrel
                have hn1000 : n ≤ 1000 := by omega
                have HNK := Lib.hid hnk
                have HQ9 := Lib.hid hq
                have HAP := Lib.hid hap
                obtain ⟨gq, oq, cq, rfl, hcq1, hcq2, hcq3, hcq4⟩ := hq.form
                clear hq hap hnk
                by_cases hlt : k < 3
                · have hdk : decide ((k : Int) < (3 : Int)) = true := by simp; omega
                  have hix := fun w => row3_at px py k hlt w
                  obtain ⟨ry, hry⟩ : ∃ z, py - 1 + (k : Int) = z := ⟨_, rfl⟩
                  rw [hry] at hix
                  have HRY := Lib.hid hry
                  have hry1 : -1 ≤ ry ∧ ry ≤ 10 := by omega
                  clear hry
                  obtain ⟨nb, hnb⟩ : ∃ nb, wr.heap.size = nb := ⟨_, rfl⟩
                  have hX : Holds (wr.alloc (.cells #[.int .i8 px, .int .i8 ry] 37)) nb #[.int .i8 px, .int .i8 ry] := by rw [← hnb]; exact Holds.new _ _ _
                  have hA6 := hA5.alloc (.cells #[.int .i8 px, .int .i8 ry] 37)
                  have hL6 := hL5.alloc (.cells #[.int .i8 px, .int .i8 ry] 37)
                  have hM6 := hM5.alloc (.cells #[.int .i8 px, .int .i8 ry] 37)
                  have hO6 := hO5.alloc (.cells #[.int .i8 px, .int .i8 ry] 37)
                  have HQ10 := Lib.hid (HQ9.out.below ((Below.refl wr.heap.size wr).alloc (Nat.le_refl _) (.cells #[.int .i8 px, .int .i8 ry] 37)))
                  obtain ⟨W6, hW6⟩ : ∃ W, wr.alloc (.cells #[.int .i8 px, .int .i8 ry] 37) = W := ⟨_, rfl⟩
                  rw [hW6] at hX hA6 hL6 hM6 hO6 HQ10
                  have hna6 : na < nb := by rw [← hnb]; exact hA5.lt
                  have hgq6 : gq < nb := by rw [← hnb]; exact hcq4
                  obtain ⟨-, xL⟩ := hX.later
                  have hXl := hX.lt
                  have hX1 := hX.cell
                  clear hA5 hL5 hM5 hO5 HQ9
                  go_wp2_with fail
                  refine wp_region_growMP 7 6 [] (fun p w' => W6.heap.size ≤ p ∧ Holds w' p #[.int .i8 (px - 1), .int .i8 ry, .int .i8 px, .int .i8 ry, .int .i8 (px + 1), .int .i8 ry]) (fun p a b h hb => ⟨h.1, h.2.below hb h.2.lt⟩)
                    (fun p => [.slice (some ⟨gq, oq, none⟩) n cq, .agg #[.int .i8 px, .int .i8 ry], .agg #[.int .i8 (px - 1), .int .i8 ry], .agg #[.int .i8 px, .int .i8 ry], .agg #[.int .i8 px, .int .i8 ry], .agg #[.int .i8 (px + 1), .int .i8 ry], .slice (some ⟨p, 0, none⟩) 3 3]) ?hv (by kernel_rfl) (by decide) (by kernel_rfl) (by kernel_rfl) (by kernel_rfl) ?_
                  case hv =>
                    intro p p' j h1 h2
                    match j with
                    | 0 => rfl
                    | 1 => rfl
                    | 2 => rfl
                    | 3 => rfl
                    | 4 => rfl
                    | 5 => rfl
                    | 6 => exact absurd rfl h1
                    | j + 7 => rfl
                  intro p
                  simp only [List.take_succ_cons, List.take_zero, List.drop_succ_cons, List.drop_zero]
                  iterate 6
                    refine seqP_free rfl rfl rfl rfl ?_ ?_
                    · intro w' hw' K hK
                      have f1 := xL _ hw'
                      go_wp2_with (first | (go_at_call 137; refine (west_any px ry (by omega) (by omega) _).mono ?_; rintro e w5 ⟨rfl, hb5⟩) | (go_at_call 138; refine (east_any px ry (by omega) (by omega) _).mono ?_; rintro e w5 ⟨rfl, hb5⟩))
                      first | exact hK _ _ rfl (Below.refl _ _) | exact hK _ _ rfl hb5
                    simp only [Act.put, List.setIfInBounds_toArray, List.set_cons_succ, List.set_cons_zero]
                  refine seqP_call rfl rfl rfl ?_ ?_
                  · rintro w' hw' rfl K hK
                    go_wp2_with fail
                    exact hK _ _ rfl ((Below.refl _ _).alloc (Nat.le_refl _) _) ⟨hw'.size, Holds.new _ _ _⟩
                  simp only [Act.put, List.setIfInBounds_toArray, List.set_cons_succ, List.set_cons_zero]
                  refine seqP_nil ?_
                  rintro W7 - hW7 ⟨hp, hP⟩
                  have hA7 := hA6.below hW7 hA6.lt
                  have hL7 := hL6.below hW7 hL6.lt
                  have hM7 := hM6.below hW7 hM6.lt
                  have hO7 := hO6.onto hW7
                  have HQ11 := Lib.hid (HQ10.out.below hW7)
                  have hPc : ∀ j, W7.cell? ⟨p, j, none⟩ = #[Value.int .i8 (px - 1), Value.int .i8 ry, .int .i8 px, .int .i8 ry, .int .i8 (px + 1), .int .i8 ry][j]? := hP.cell
                  have HPC := Lib.hid hPc
                  have hpl := hP.lt
                  have hz7 : nb ≤ W7.heap.size := by have := hW7.size; omega
                  clear hW7 hA6 hL6 hM6 hO6 HQ10 hPc hP hX xL hX1 hix hW6 hnb
                  go_wp2_with (at_builtin; refine wpList_append_qm _ rfl _ _ 45 rfl rfl HQ11.out ?cB i0 (.agg #[.int .i8 0, .int .i8 0]) 2 Try.underlying45 HI.out.1 HI.out.2.1 HI.out.2.2.1 HI.out.2.2.2 rfl (by decide) ⟨p, 0, none⟩ 3 3 (by decide) (flatP (row8 (px, ry))) rfl rfl ?c1 ?c2 ?c3 ?c4 ?_)
                  case cB => have := hL7.lt; omega
                  case c1 =>
                    intro m u hu
                    match m, hu with
                    | 0, hu => simp [flatP, row8] at hu; subst hu; exact HPC.out 0
                    | 1, hu => simp [flatP, row8] at hu; subst hu; exact HPC.out 1
                    | 2, hu => simp [flatP, row8] at hu; subst hu; exact HPC.out 2
                    | 3, hu => simp [flatP, row8] at hu; subst hu; exact HPC.out 3
                    | 4, hu => simp [flatP, row8] at hu; subst hu; exact HPC.out 4
                    | 5, hu => simp [flatP, row8] at hu; subst hu; exact HPC.out 5
                    | m + 6, hu => simp [flatP, row8] at hu
                  case c2 => intro u hu; simp [flatP, row8] at hu; rcases hu with rfl | rfl | rfl | rfl | rfl | rfl <;> rfl
                  case c3 => unfold maxLen; omega
                  case c4 => omega
                  intro v' w9 hq10 hgrow hown
                  have hfar := HQ11.out.far
                  have hL9 : Holds w9 B L.cells := by
                    obtain ⟨t, ht⟩ := hL7
                    exact ⟨t, (hgrow.block B (Array.getElem?_eq_some_iff.1 ht).1 (fun e => by have := (hfar B e.symm).1; omega)).trans ht⟩
                  have hA9 : Holds w9 na #[.int .i8 px, .int .i8 py] := by
                    obtain ⟨t, ht⟩ := hA7
                    exact ⟨t, (hgrow.block na (Array.getElem?_eq_some_iff.1 ht).1 (fun e => HAP.out na e.symm rfl)).trans ht⟩
                  have hM9 := hM7.block (w' := w9) (hgrow.block b hM7.lt (fun e => by have := (hfar b e.symm).1; omega))
                  have hO9 := hO7.grown hgrow (fun z hz => .inr (by have := (hfar z hz).1; omega))
                  have hap9 : ∀ z, v'.ownBlock = some z → z ≠ na := fun z e => by
                    rcases hown with h | h
                    · exact HAP.out z (h ▸ e)
                    · have := h z e
                      omega
                  have hq11 : QIs w9 (B + 1 + 1) 37 2 v' (n + 3) (flatP (Q ++ rows8 px py (k + 1))) := by
                    show QIs w9 (B + 1 + 1) 37 2 v' (n + 3) (flatP (Q ++ (rows8 px py k ++ row8 (px, py - 1 + k))))
                    rw [← List.append_assoc, flatP_append, HRY.out]
                    exact hq10
                  have HQ12 := Lib.hid hq11
                  have HAP9 := Lib.hid hap9
                  clear hq10 hgrow hown hfar hap9 hq11 hA7 hL7 hM7 hO7 HQ11 HPC
                  go_wp2_with fail
                  go_roundw
                  case rel => exact ⟨k + 1, n + 3, by omega, by go_num, by have := HNK.out; omega, HQ12.out, HAP9.out, hM9, hA9, hL9, hO9⟩
                  case measure => simp [intOf]; omega
                · obtain rfl : k = 3 := by omega
                  have hdk : decide (((3 : Nat) : Int) < (3 : Int)) = false := by decide
                  have HTL := Lib.hid (show (Q ++ near8 (px, py)).length = n by rw [List.length_append, near8_len, HML'.out]; have := HNK.out; omega)
                  have HTQ := Lib.hid (show QIs wr (B + 1 + 1) 37 2 (.slice (some ⟨gq, oq, none⟩) n cq) n (flatP (Q ++ near8 (px, py))) by rw [← rows8_all]; exact HQ9.out)
                  have HM9 := Lib.hid (show mapLen wr b = K.length + 1 by rw [hM5.len]; simp [knownL])
                  clear HQ9
                  go_wp2_with fail
                  go_roundw
                  case rel => exact ⟨n, Q ++ near8 (px, py), K ++ [(px, py)], HTL.out, HTK.out, by simp; have := HNK.out; omega, HTQ.out, hM5, hL5, hO5⟩
                  case measure =>
                    show 10 * (100 - mapLen _ _) + sliceLen _ < 10 * (100 - mapLen _ _) + sliceLen _
                    rw [HM9.out, HMl.out]
                    have := HNK.out
                    simp only [sliceLen]
                    simp [sliceLen]
                    omega
end Go.Proofs.Ytaeenkjbmlgcmaa
