/- Where a way goes, of the model; CheckWay of the model. -/
import Derived.Test.YtgmahakpmjfhhaaRRAlong
namespace Go.Proofs.YtgmahakpmjfhhaaRR
open Go.RowKit
set_option linter.unusedVariables false
attribute [local go_sem ↓] loadRow loadGrid loadLawn loadMirror storeRow storeGrid storeLawn allocRow allocGrid allocLawn buildZero buildSides

set_option maxRecDepth 100000 in
set_option maxHeartbeats 1000000 in
theorem l02Next_any (k : Nat) (hk : k < 4) (x y : Int) (d : Pt) (hd : (beside (x, y))[k]? = some d) (x0 : 0 ≤ x) (x1 : x < 10) (y0 : 0 ≤ y) (y1 : y < 10) (w : World) :
    Calls Try.prog 117 #[.agg #[.int .i8 x, .int .i8 y], .int .i64 k] w fun e w' => e = .returned (.agg #[.int .i8 d.1, .int .i8 d.2]) ∧ Below w.heap.size w w' := by
  have HD := Lib.hid hd
  obtain ⟨d1, d2⟩ := d
  have hcase : k = 0 ∨ k = 1 ∨ k = 2 ∨ k = 3 := by omega
  clear hd
  rcases hcase with rfl | rfl | rfl | rfl
  all_goals
    have hdd := HD.out
    simp only [beside, List.getElem?_cons_zero, List.getElem?_cons_succ, Option.some.injEq, Prod.mk.injEq] at hdd
    obtain ⟨rfl, rfl⟩ := hdd
    clear HD
    go_enter Try.func117, Try.ntmps117
    go_wp2_with fail
    exact bodyPost_ret (results_cell_holds (n := 2) rfl (by kernel_rfl) _ rfl (Holds.new' _ _ _ (w.heap.size + 1) (by simp)) rfl) rfl ⟨rfl, ((Below.refl _ _).alloc (Nat.le_refl _) _).alloc (by simp) _⟩

set_option maxRecDepth 100000 in
set_option maxHeartbeats 1000000 in
theorem l02Free_any (L : Lawn) (hL : L.Fits) (hV : validB L = true) (b : Nat) (x y : Int) (x0 : -128 ≤ x) (x1 : x ≤ 127) (y0 : -128 ≤ y) (y1 : y ≤ 127) (w : World) (h : Holds w b L.cells) :
    Calls Try.prog 116 #[.pointer (some ⟨b, 0, none⟩), .agg #[.int .i8 x, .int .i8 y]] w fun e w' => e = .returned (.bool (openB L x y)) ∧ Below w.heap.size w w' := by
  have h1 := h.alloc (.cells #[.int .i8 x, .int .i8 y] 35)
  have c1 := Holds.new w #[.int .i8 x, .int .i8 y] 35
  have hb := (Below.refl w.heap.size w).alloc (Nat.le_refl _) (.cells #[.int .i8 x, .int .i8 y] 35)
  cases hi : isB L x y
  case false =>
    have e : openB L x y = false := by simp [openB, hi]
    rw [e]
    have HI := Lib.hid hi
    have HL := Lib.hid hL
    clear e hi hV h hL
    go_enter Try.func116, Try.ntmps116
    go_wp2_with fail
    refine (l01Is_is L HL.out b _ _ _ h1 x0 x1 y0 y1 false HI.out).mono ?_
    rintro e w1 ⟨rfl, hb1⟩
    have hb2 := below_onto hb hb1
    clear hb hb1 h1 c1
    go_wp2_with fail
    go_ret
    exact ⟨rfl, hb2⟩
  case true =>
    have hxy := isB_near hV hi
    obtain ⟨i, rfl⟩ : ∃ i : Nat, x = i := ⟨x.toNat, by omega⟩
    obtain ⟨j, rfl⟩ : ∃ j : Nat, y = j := ⟨y.toNat, by omega⟩
    have e : openB L i j = (L.kind j i == 0 || L.kind j i == 3) := by simp only [openB, hi, Bool.true_and, Int.toNat_natCast]
    rw [e]
    have HI := Lib.hid hi
    have HL := Lib.hid hL
    have hi10 : i < 10 := by omega
    have hj10 : j < 10 := by omega
    have HO := Lib.hid (fun w h => open_any L hL b i j hi10 hj10 w h)
    clear e hi hV h hL hxy
    go_enter Try.func116, Try.ntmps116
    go_wp2_with fail
    refine (l01Is_is L HL.out b _ _ _ h1 x0 x1 y0 y1 true HI.out).mono ?_
    rintro e w1 ⟨rfl, hb1⟩
    have hb2 := below_onto hb hb1
    have h2 := h1.below hb1 h1.lt
    have c2 := c1.below hb1 c1.lt
    clear hb hb1 h1 c1
    obtain ⟨-, -, d2, -, -⟩ := c2.facts
    go_wp2_with fail
    refine (HO.out _ h2).mono ?_
    rintro e w2 ⟨rfl, hb1⟩
    have hb3 := below_onto hb2 hb1
    clear hb2 hb1 h2 c2 d2
    go_wp2_with fail
    go_ret
    exact ⟨rfl, hb3⟩

set_option maxRecDepth 100000 in
set_option maxHeartbeats 2000000 in
theorem l02Come_any (L : Lawn) (hL : L.Fits) (hV : validB L = true) (b : Nat) (s : ByteArray) (hw : wayC s = 0) (x y : Int) (x0 : -128 ≤ x) (x1 : x ≤ 127) (y0 : -128 ≤ y) (y1 : y ≤ 127) (n : Nat) (hn : Goes L x y s n) (w : World) (h : Holds w b L.cells) :
    Calls Try.prog 150 #[.pointer (some ⟨b, 0, none⟩), .agg #[.int .i8 x, .int .i8 y], .string s] w fun e w' => (∃ v, e = .returned (.tuple #[v, .bool (decide (s.size < n))]) ∧ (s.size < n → w'.ownsRow w.heap.size 35 2 v (s.size + 1) (flatP (cellsK (x, y) s.data.toList (s.size + 1))))) ∧ Below w.heap.size w w' := by
  have HF := Lib.hid (fun (x y : Int) (x0 : -128 ≤ x) (x1 : x ≤ 127) (y0 : -128 ≤ y) (y1 : y ≤ 127) (w : World) (h : Holds w b L.cells) => l02Free_any L hL hV b x y x0 x1 y0 y1 w h)
  have HN := Lib.hid hn
  have HW := Lib.hid (fun k (hk : k < s.size) => wayC_zero hw hk)
  have HNE := Lib.hid (openP_near hV)
  have hsz := wayC_le hw
  obtain ⟨i0, hi, hz0, hz1, hz2⟩ := info_parts cellInfo
  have HI := Lib.hid (show Try.prog.info? 35 = some i0 ∧ i0.zero = some (.agg #[.int .i8 0, .int .i8 0]) ∧ i0.size = 2 ∧ i0.bytes = 2 from ⟨hi, hz0, hz1, hz2⟩)
  have H0 := Lib.hid h
  have hbw := h.lt
  clear hn hw hV hL hi hz0 hz1 hz2 h
  go_enter Try.func150, Try.ntmps150
  go_wp2_with fail
  obtain ⟨B, hB⟩ : ∃ B, w.heap.size = B := ⟨_, rfl⟩
  obtain ⟨W0, hW0⟩ : ∃ W0, (w.alloc (.cells #[.int .i8 x, .int .i8 y] 35)).alloc (.cells #[.int .i8 x, .int .i8 y] 35) = W0 := ⟨_, rfl⟩
  have h0 : Holds W0 b L.cells := by rw [← hW0]; exact (H0.out.alloc _).alloc _
  have c0 : Holds W0 B #[.int .i8 x, .int .i8 y] := by rw [← hW0]; exact (Holds.new' _ _ _ _ hB.symm).alloc _
  have hb0 : Below B w W0 := by rw [← hW0]; exact ((Below.refl B w).alloc (by omega) _).alloc (by simp; omega) _
  have hm : W0.ownsRow (B + 1) 35 2 (.slice (some ⟨B + 1, 0, none⟩) 1 1) 1 (flatP (cellsK (x, y) s.data.toList 1)) :=
    ⟨by simp [cellsK, flatP, posK], .inr ⟨B + 1, 1, #[.int .i8 x, .int .i8 y], rfl, by omega, by
      rw [← hW0]
      have := heap_alloc_new (w.alloc (.cells #[.int .i8 x, .int .i8 y] 35)) (.cells #[.int .i8 x, .int .i8 y] 35)
      simpa [hB] using this, by omega, by simp [maxLen], rfl, by simp [cellsK, flatP, posK]⟩⟩
  have HBB := Lib.hid hB
  rw [hW0, hB]
  rw [hB] at hbw
  clear hW0 hB H0
  refine (HF.out x y x0 x1 y0 y1 _ h0).mono ?_
  obtain ⟨o, ho⟩ : ∃ o, openB L x y = o := ⟨_, rfl⟩
  rw [ho]
  rintro e w1 ⟨rfl, hb1⟩
  have h1 := h0.below hb1 h0.lt
  have c1 := c0.below hb1 c0.lt
  have hm1 := own_below hm hb1
  have jB : Below B w w1 := hb0.trans (hb1.mono (by have := c0.lt; omega))
  clear h0 c0 hb0 hb1 hm
  cases o
  case false =>
    have HZ := Lib.hid (show n = 0 by
      rcases Nat.eq_zero_or_pos n with h | h
      · exact h
      · have := HN.out.all 0 h
        simp only [posK, openP, ho] at this
        cases this)
    clear hm1
    go_wp2_with fail
    go_ret2
    refine ⟨⟨_, by rw [HZ.out]; rfl, fun h => by rw [HZ.out] at h; omega⟩, HBB.out ▸ jB⟩
  case true =>
    have HO := Lib.hid ho
    have HM := Lib.hid hm1
    clear ho hm1
    go_wp2_with fail
    go_loopw [8, 9] (fun v i wr => ∃ k : Nat, k ≤ s.size ∧ i = .int .i64 k ∧ wr.ownsRow (B + 1) 35 2 v (k + 1) (flatP (cellsK (x, y) s.data.toList (k + 1))) ∧ (∀ j, j ≤ k → openP L (posK (x, y) s.data.toList j) = true) ∧ Holds wr B #[.int .i8 (posK (x, y) s.data.toList k).1, .int .i8 (posK (x, y) s.data.toList k).2] ∧ Holds wr b L.cells ∧ Below B w wr) (fun _ i _ => s.size - (intOf i).toNat)
    case atStart =>
      refine ⟨0, by omega, rfl, HM.out, fun j hj => ?_, c1, h1, jB⟩
      obtain rfl : j = 0 := by omega
      exact HO.out
    case round =>
      obtain ⟨k, hk, rfl, hq, hall, hc, hl, hb⟩ := hrel
      have HALL := Lib.hid hall
      obtain ⟨⟨px, py⟩, hp⟩ : ∃ p, posK (x, y) s.data.toList k = p := ⟨_, rfl⟩
      have HPK := Lib.hid hp
      have hxy := HNE.out _ (hp ▸ hall k (Nat.le_refl _))
      obtain ⟨⟨hx0, hx1⟩, hy0, hy1⟩ := hxy
      simp only at hx0 hx1 hy0 hy1
      rw [hp] at hc
      simp only at hc
      have HQ := Lib.hid hq
      obtain ⟨av, cv, rfl⟩ := own_slice hq
      have hcl := hc.lt
      clear hall hp hq h1 c1 jB
      by_cases hlt : k < s.size
      · have hdk : decide ((k : Int) < (s.size : Int)) = true := by simp; omega
        obtain ⟨kk, hkk, hlet⟩ := HW.out k hlt
        have hside := stepP_beside (c := (px, py)) hlet
        obtain ⟨⟨nx, ny⟩, hnx⟩ : ∃ q, stepP (px, py) s[k] = q := ⟨_, rfl⟩
        rw [hnx] at hside
        have hnb : (-1 ≤ nx ∧ nx ≤ 10) ∧ -1 ≤ ny ∧ ny ≤ 10 := beside_far (c := (px, py)) ⟨⟨hx0, hx1⟩, hy0, hy1⟩ (List.mem_of_getElem? hside)
        obtain ⟨⟨hn1, hn2⟩, hn3, hn4⟩ := hnb
        have HNX := Lib.hid (show posK (x, y) s.data.toList (k + 1) = (nx, ny) by rw [posK_succ hlt, HPK.out, hnx])
        have HSd := Lib.hid (l02Next_any kk hkk px py (nx, ny) hside hx0 hx1 hy0 hy1)
        have HLT := Lib.hid (show ∀ w, Calls Try.prog 130 #[.int .u8 (s[k].toNat : Int)] w fun e w' => e = .returned (.int .i64 (kk : Int)) ∧ w = w' from fun w => hlet ▸ l02Letter_any s[k] w)
        have cl := hc.later.2
        clear hside hnx hlet
        go_wp2_with fail
        refine wp_region_grow 6 (by kernel_rfl) (by kernel_rfl) ?_
        simp only [List.take_succ_cons, List.take_zero, List.drop_succ_cons, List.drop_zero]
        iterate 3
          apply wpGrow_plain rfl
          · intro w' hw' K hK
            have e1 := cl _ hw'
            go_wp2_with fail
            exact hK _ _ rfl hw'
          simp only [Act.put, List.setIfInBounds_toArray, List.set_cons_succ, List.set_cons_zero]
        refine wpGrow_plain (v := .int .u8 ((s[k]'hlt).toNat : Int)) rfl ?_ ?_
        · intro w' hw' K hK
          go_wp2_with fail
          exact hK _ _ rfl hw'
        simp only [Act.put, List.setIfInBounds_toArray, List.set_cons_succ, List.set_cons_zero]
        refine wpGrow_plain (v := .int .i64 (kk : Int)) rfl ?_ ?_
        · intro w' hw' K hK
          go_wp2_with fail
          refine (HLT.out _).mono ?_
          rintro e w2 ⟨rfl, rfl⟩
          exact hK _ _ rfl hw'
        simp only [Act.put, List.setIfInBounds_toArray, List.set_cons_succ, List.set_cons_zero]
        refine wpGrow_plain (v := .agg #[.int .i8 nx, .int .i8 ny]) rfl ?_ ?_
        · intro w' hw' K hK
          go_wp2_with fail
          refine (HSd.out _).mono ?_
          rintro e w2 ⟨rfl, hb2⟩
          exact hK _ _ rfl (below_onto hw' hb2)
        simp only [Act.put, List.setIfInBounds_toArray, List.set_cons_succ, List.set_cons_zero]
        refine wpGrow_nil ?_
        intro W2 hW2
        have HQ2 := Lib.hid (own_below HQ.out hW2)
        have hc2 := hc.below hW2 hc.lt
        have hl2 := hl.below hW2 hl.lt
        have hb2 : Below B w W2 := hb.trans (hW2.mono (by omega))
        have hBl : B < W2.heap.size := hc2.lt
        clear hb HQ hW2 hc hl cl
        obtain ⟨-, -, c2, z2, l2⟩ := hc2.facts
        have hc3 := (hc2.setCell 0 (.int .i8 nx)).setCell 1 (.int .i8 ny)
        have hl3 := (hl2.setCell_other ⟨B, 0, none⟩ (.int .i8 nx) (by dsimp only; omega)).setCell_other ⟨B, 1, none⟩ (.int .i8 ny) (by dsimp only; omega)
        have HQ3 := Lib.hid ((HQ2.out.kept (grown_set (grown_refl W2 (some B)) 0 (.int .i8 nx)) (.inr (fun e => by have := (HQ2.out.lt _ e).1; omega))).kept (grown_set (grown_refl (W2.setCell ⟨B, 0, none⟩ (.int .i8 nx)) (some B)) 1 (.int .i8 ny)) (.inr (fun e => by have := (HQ2.out.lt _ e).1; omega)))
        have hb3 := (hb2.setCell (p := ⟨B, 0, none⟩) (by dsimp only; omega) (.int .i8 nx)).setCell (p := ⟨B, 1, none⟩) (by dsimp only; omega) (.int .i8 ny)
        have hs3 : ((W2.setCell ⟨B, 0, none⟩ (.int .i8 nx)).setCell ⟨B, 1, none⟩ (.int .i8 ny)).heap.size = W2.heap.size := by simp
        simp only [Array.setIfInBounds, List.size_toArray, List.length_cons, List.length_nil] at hc3
        obtain ⟨W3, hW3⟩ : ∃ W3, (W2.setCell ⟨B, 0, none⟩ (.int .i8 nx)).setCell ⟨B, 1, none⟩ (.int .i8 ny) = W3 := ⟨_, rfl⟩
        rw [hW3] at hc3 hl3 HQ3 hb3 hs3
        have HW3 := Lib.hid hW3
        have hc3 : Holds W3 B #[.int .i8 nx, .int .i8 ny] := hc3
        have HC3 := Lib.hid hc3
        have HL3 := Lib.hid hl3
        have HB3 := Lib.hid hb3
        clear hc3 hl3 hb3 hs3 hW3 HQ2 hl2 hb2
        go_wp2_with fail
        rw [HW3.out]
        refine (HF.out nx ny (by omega) (by omega) (by omega) (by omega) _ HL3.out).mono ?_
        obtain ⟨o, ho⟩ : ∃ o, openB L nx ny = o := ⟨_, rfl⟩
        rw [ho]
        rintro e w4 ⟨rfl, hb5⟩
        have HO4 := Lib.hid ho
        have n4 := HC3.out.below hb5 HC3.out.lt
        have l4 := HL3.out.below hb5 HL3.out.lt
        have HQ4 := Lib.hid (own_below HQ3.out hb5)
        have hb6 : Below B w w4 := HB3.out.trans (hb5.mono (by have := HC3.out.lt; omega))
        have hBl4 : B < w4.heap.size := n4.lt
        clear HQ3 hb5 ho HW3 HC3 HL3 HB3 c2 z2 l2 hc2
        cases o
        case false =>
          have HZ := Lib.hid (show n = k + 1 by
            refine HN.out.one ⟨by omega, fun j hj => HALL.out j (by omega), fun _ => ?_⟩
            simp only [HNX.out, openP, HO4.out])
          have hdn : decide (s.size < n) = false := by rw [HZ.out]; simp; omega
          have HDN := Lib.hid hdn
          clear hdn
          go_wp2_with fail
          go_ret2
          exact ⟨⟨_, by rw [HDN.out]; rfl, fun h => by rw [HZ.out] at h; omega⟩, HBB.out ▸ hb6⟩
        case true =>
          obtain ⟨-, -, d4, -, -⟩ := n4.facts
          go_wp2_with (at_builtin; refine wpList_append_own_at _ rfl _ _ 42 rfl (B + 1) 35 i0 (.agg #[.int .i8 0, .int .i8 0]) 2 2 Try.underlying42 HI.out.1 HI.out.2.1 HI.out.2.2.1 HI.out.2.2.2 rfl (by decide) _ _ _ rfl (HQ4.out.alloc _) ⟨w4.heap.size, 0, none⟩ 1 1 [.int .i8 nx, .int .i8 ny] rfl rfl ?c1 ?c2 ?c3 ?c4 ?c5 ?_)
          case c1 =>
            intro m u hu
            match m, hu with
            | 0, hu => simp at hu; subst hu; exact (Holds.new w4 #[.int .i8 nx, .int .i8 ny] 35).cell 0
            | 1, hu => simp at hu; subst hu; exact (Holds.new w4 #[.int .i8 nx, .int .i8 ny] 35).cell 1
          case c2 => intro u hu; simp at hu; rcases hu with rfl | rfl <;> rfl
          case c3 => unfold maxLen; omega
          case c4 => omega
          case c5 => simp; omega
          intro v' w5 hown' hgrow _ hat
          have hb7 : Below B w w5 := (hb6.alloc (by omega) _).grown hgrow (by simp; omega) (fun k hk => by have := own_far HQ4.out k hk; omega)
          have n5 := held_grown (n4.alloc (.cells #[.int .i8 nx, .int .i8 ny] 35)) (HQ4.out.alloc _) hgrow (by omega)
          have l5 := held_grown (l4.alloc (.cells #[.int .i8 nx, .int .i8 ny] 35)) (HQ4.out.alloc _) hgrow (by omega)
          have ho5 : w5.ownsRow (B + 1) 35 2 v' (k + 1 + 1) (flatP (cellsK (x, y) s.data.toList (k + 1 + 1))) := by
            rw [cellsK_succ, HNX.out, flatP_append]
            exact hown'
          have HO5 := Lib.hid ho5
          have HALL5 := Lib.hid (show ∀ j, j ≤ k + 1 → openP L (posK (x, y) s.data.toList j) = true from fun j hj => by
            by_cases e : j = k + 1
            · subst e; rw [HNX.out]; exact HO4.out
            · exact HALL.out j (by omega))
          clear hown' hgrow hat ho5 n4 d4 hb6 HQ4 l4
          go_wp2_with fail
          go_roundw
          case rel => exact ⟨k + 1, by omega, by go_num, HO5.out, HALL5.out, by rw [HNX.out]; exact n5, l5, hb7⟩
          case measure => simp [intOf]; omega
      · have hdk : decide ((k : Int) < (s.size : Int)) = false := by simp; omega
        have HZ := Lib.hid (show n = k + 1 from HN.out.one ⟨by omega, fun j hj => HALL.out j (by omega), fun h => by omega⟩)
        have HKS := Lib.hid (show k = s.size by omega)
        have HDN := Lib.hid (show decide (s.size < n) = true by rw [HZ.out]; simp; omega)
        go_wp2_with fail
        go_ret2
        refine ⟨⟨_, by rw [HDN.out]; rfl, fun _ => ?_⟩, HBB.out ▸ hb⟩
        rw [← HKS.out]
        exact ownsRow_low HQ.out (by have := HBB.out; omega)

set_option maxRecDepth 100000 in
set_option maxHeartbeats 1000000 in
/-- The code of a lawn, a cell and a way. -/
def toldWay (L : Lawn) (x y : Int) (s : ByteArray) : Int := if validB L then (if isB L x y then wayC s else 2) else 1
set_option maxRecDepth 100000 in
set_option maxHeartbeats 1000000 in
theorem l02Told_any (L : Lawn) (hL : L.Fits) (b : Nat) (s : ByteArray) (hs : s.size ≤ maxLen) (x y : Int) (x0 : -128 ≤ x) (x1 : x ≤ 127) (y0 : -128 ≤ y) (y1 : y ≤ 127) (w : World) (h : Holds w b L.cells) :
    Calls Try.prog 149 #[.pointer (some ⟨b, 0, none⟩), .agg #[.int .i8 x, .int .i8 y], .string s] w fun e w' => e = .returned (.int .i64 (toldWay L x y s)) ∧ Below w.heap.size w w' := by
  have HT := Lib.hid (fun (f : Bool) (w : World) (h : Holds w b L.cells) => told_any L hL b w h f)
  obtain ⟨v, hv⟩ : ∃ v, validB L = v := ⟨_, rfl⟩
  obtain ⟨f, hf⟩ : ∃ f, isB L x y = f := ⟨_, rfl⟩
  have HF := Lib.hid hf
  have HL := Lib.hid hL
  have HWY := Lib.hid (fun w => l02Way_any s hs w)
  have HC := Lib.hid (show toldWay L x y s = if v then (if f then wayC s else 2) else 1 by unfold toldWay; rw [hv, hf])
  rw [hv] at HT
  have h1 := h.alloc (.cells #[.int .i8 x, .int .i8 y] 35)
  have hb := (Below.refl w.heap.size w).alloc (Nat.le_refl _) (.cells #[.int .i8 x, .int .i8 y] 35)
  clear hv hf h hL hs
  go_enter Try.func149, Try.ntmps149
  go_wp2_with fail
  refine (l01Is_is L HL.out b _ _ _ h1 x0 x1 y0 y1 f HF.out).mono ?_
  rintro e w1 ⟨rfl, hb1⟩
  have hb2 := below_onto hb hb1
  have h2 := h1.below hb1 h1.lt
  clear hb hb1 h1
  go_wp2_with fail
  refine (HT.out f _ h2).mono ?_
  rintro e w2 ⟨rfl, hb1⟩
  have hb3 := below_onto hb2 hb1
  clear hb2 hb1 h2
  cases v
  case false =>
    simp only [told, Bool.false_eq_true, if_false]
    go_wp2_with fail
    go_ret
    exact ⟨by rw [HC.out]; rfl, hb3⟩
  case true =>
    cases f
    case false =>
      simp only [told, if_true, Bool.false_eq_true, if_false]
      go_wp2_with fail
      go_ret
      exact ⟨by rw [HC.out]; rfl, hb3⟩
    case true =>
      simp only [told, if_true]
      go_wp2_with fail
      refine (HWY.out _).mono ?_
      rintro e w3 ⟨rfl, rfl⟩
      go_wp2_with fail
      go_ret
      exact ⟨by rw [HC.out]; rfl, hb3⟩

theorem toldWay_along {L : Lawn} {x y : Int} {s : ByteArray} {n : Nat} : (toldWay L x y s ≠ 0 → alongC L x y s n = toldWay L x y s ∧ alongC L x y s n ≠ 4) ∧ (toldWay L x y s = 0 → validB L = true ∧ isB L x y = true ∧ wayC s = 0 ∧ alongC L x y s n = if n ≤ s.size then 4 else 0) := by
  have hw : wayC s = 0 ∨ wayC s = 3 ∨ wayC s = 5 := by
    unfold wayC
    split
    · exact .inr (.inl rfl)
    · split
      · exact .inl rfl
      · exact .inr (.inr rfl)
  unfold toldWay alongC
  cases validB L <;> cases isB L x y <;> rcases hw with h | h | h <;> simp [h]

set_option maxRecDepth 100000 in
set_option maxHeartbeats 1000000 in
theorem specCheck_any (L : Lawn) (hL : L.Fits) (x y : Int) (x0 : -128 ≤ x) (x1 : x ≤ 127) (y0 : -128 ≤ y) (y1 : y ≤ 127) (s : ByteArray) (hs : s.size ≤ maxLen) (n : Nat) (hn : Goes L x y s n) (w : World) :
    Calls Try.prog 79 #[.agg L.cells, .agg #[.int .i8 x, .int .i8 y], .string s] w fun e w' => e = .returned (.tuple #[.bool (checkR L x y s n), .int .i64 (checkC L x y s n)]) ∧ Below w.heap.size w w' := by
  obtain ⟨ta, tb⟩ := toldWay_along (L := L) (x := x) (y := y) (s := s) (n := n)
  obtain ⟨c, hc⟩ : ∃ c, toldWay L x y s = c := ⟨_, rfl⟩
  have HT := Lib.hid (show ∀ w' : World, Holds w' w.heap.size L.cells → Calls Try.prog 149 #[.pointer (some ⟨w.heap.size, 0, none⟩), .agg #[.int .i8 x, .int .i8 y], .string s] w' fun e w'' => e = .returned (.int .i64 c) ∧ Below w'.heap.size w' w'' from fun w' h => hc ▸ l02Told_any L hL w.heap.size s hs x y x0 x1 y0 y1 w' h)
  rw [hc] at ta tb
  have TA := Lib.hid ta
  have TB := Lib.hid tb
  have HL := Lib.hid hL
  have HN := Lib.hid hn
  have HR := Lib.hid (show checkR L x y s n = (alongC L x y s n == 0) from rfl)
  have HC := Lib.hid (show checkC L x y s n = if alongC L x y s n = 4 then 0 else alongC L x y s n from rfl)
  obtain ⟨g0, c0, hb0⟩ := cell_new w L x y
  clear ta tb hc hL hs hn
  by_cases h0 : c = 0
  · obtain ⟨hV, hI, hW, hA⟩ := TB.out h0
    have HCM := Lib.hid (fun (w' : World) (h : Holds w' w.heap.size L.cells) => l02Come_any L HL.out hV w.heap.size s hW x y x0 x1 y0 y1 n HN.out w' h)
    have hle := HN.out.le
    have HA := Lib.hid hA
    subst h0
    clear hV hI hW hA
    go_enter Try.func79, Try.ntmps79
    go_wp2_with fail
    refine (HT.out _ g0).mono ?_
    rintro e w1 ⟨rfl, hb1⟩
    have hb2 := below_onto hb0 hb1
    have g1 := g0.below hb1 g0.lt
    have c1 := c0.below hb1 c0.lt
    clear g0 c0 hb0 hb1
    obtain ⟨-, -, d1, -, -⟩ := c1.facts
    go_wp2_with fail
    refine (HCM.out _ g1).mono ?_
    rintro e w2 ⟨⟨v, rfl, -⟩, hb1⟩
    have hb3 := below_onto hb2 hb1
    clear g1 c1 hb2 hb1 d1
    go_wp2_with fail
    go_ret2
    refine ⟨?_, hb3⟩
    rw [HR.out, HC.out, HA.out]
    by_cases h : n ≤ s.size
    · have : ¬ s.size < n := by omega
      simp [h, this]
    · have : s.size < n := by omega
      simp [h, this]
  · obtain ⟨h1, h2⟩ := TA.out h0
    have HE := Lib.hid (show checkR L x y s n = false ∧ checkC L x y s n = c by
      rw [HR.out, HC.out, if_neg h2, h1]
      exact ⟨by simpa using h0, rfl⟩)
    have hb1 : (c != 0) = true := by simpa [bne] using h0
    clear h1 h2
    go_enter Try.func79, Try.ntmps79
    go_wp2_with fail
    refine (HT.out _ g0).mono ?_
    rintro e w1 ⟨rfl, hb1⟩
    have hb2 := below_onto hb0 hb1
    clear g0 c0 hb0 hb1
    go_wp2_with fail
    go_ret2
    exact ⟨by rw [HE.out.1, HE.out.2]; rfl, hb2⟩

set_option maxRecDepth 100000 in
set_option maxHeartbeats 1000000 in
/-- The cells of a way and its code, of the model. -/
theorem l02Gone_any (L : Lawn) (hL : L.Fits) (b : Nat) (x y : Int) (x0 : -128 ≤ x) (x1 : x ≤ 127) (y0 : -128 ≤ y) (y1 : y ≤ 127) (s : ByteArray) (hs : s.size ≤ maxLen) (n : Nat) (hn : Goes L x y s n) (w : World) (h : Holds w b L.cells) :
    Calls Try.prog 119 #[.pointer (some ⟨b, 0, none⟩), .agg #[.int .i8 x, .int .i8 y], .string s] w fun e w' => (∃ v, e = .returned (.tuple #[v, .int .i64 (alongC L x y s n)]) ∧ w'.ownsRow w.heap.size 35 2 v (alongM L x y s n) (alongX L x y s n)) ∧ Below w.heap.size w w' := by
  obtain ⟨ta, tb⟩ := toldWay_along (L := L) (x := x) (y := y) (s := s) (n := n)
  obtain ⟨c, hc⟩ : ∃ c, toldWay L x y s = c := ⟨_, rfl⟩
  have HT := Lib.hid (show ∀ w' : World, Holds w' b L.cells → Calls Try.prog 149 #[.pointer (some ⟨b, 0, none⟩), .agg #[.int .i8 x, .int .i8 y], .string s] w' fun e w'' => e = .returned (.int .i64 c) ∧ Below w'.heap.size w' w'' from fun w' h => hc ▸ l02Told_any L hL b s hs x y x0 x1 y0 y1 w' h)
  rw [hc] at ta tb
  have TA := Lib.hid ta
  have TB := Lib.hid tb
  have HL := Lib.hid hL
  have HN := Lib.hid hn
  have H0 := Lib.hid (show alongC L x y s n ≠ 0 → alongM L x y s n = 0 ∧ alongX L x y s n = [] from fun h => ⟨by unfold alongM; rw [if_neg h], by unfold alongX; rw [if_neg h]⟩)
  have H1 := Lib.hid (show alongC L x y s n = 0 → alongM L x y s n = s.size + 1 ∧ alongX L x y s n = flatP (cellsK (x, y) s.data.toList (s.size + 1)) from fun h => ⟨by unfold alongM; rw [if_pos h], by unfold alongX; rw [if_pos h]⟩)
  have g0 := h.alloc (.cells #[.int .i8 x, .int .i8 y] 35)
  have c0 := Holds.new w #[.int .i8 x, .int .i8 y] 35
  have hb0 := (Below.refl w.heap.size w).alloc (Nat.le_refl _) (.cells #[.int .i8 x, .int .i8 y] 35)
  clear ta tb hc hL hs hn h
  by_cases h0 : c = 0
  · obtain ⟨hV, hI, hW, hA⟩ := TB.out h0
    have HCM := Lib.hid (fun (w' : World) (h : Holds w' b L.cells) => l02Come_any L HL.out hV b s hW x y x0 x1 y0 y1 n HN.out w' h)
    have hle := HN.out.le
    have HA := Lib.hid hA
    subst h0
    clear hV hI hW hA
    go_enter Try.func119, Try.ntmps119
    go_wp2_with fail
    refine (HT.out _ g0).mono ?_
    rintro e w1 ⟨rfl, hb1⟩
    have hb2 := below_onto hb0 hb1
    have g1 := g0.below hb1 g0.lt
    have c1 := c0.below hb1 c0.lt
    clear g0 c0 hb0 hb1
    obtain ⟨-, -, d1, -, -⟩ := c1.facts
    go_wp2_with fail
    refine (HCM.out _ g1).mono ?_
    obtain ⟨r, hr⟩ : ∃ r, decide (s.size < n) = r := ⟨_, rfl⟩
    have HRR := Lib.hid hr
    rw [hr]
    rintro e w2 ⟨⟨v, rfl, hov⟩, hb1⟩
    have HOV := Lib.hid hov
    have hb3 := below_onto hb2 hb1
    have hsz := c1.lt
    clear g1 c1 hb2 hb1 d1 hr hov
    cases r
    case false =>
      have hns : ¬ s.size < n := by simpa using HRR.out
      have HC4 := Lib.hid (show alongC L x y s n = 4 by rw [HA.out, if_pos (by omega)])
      go_wp2_with fail
      go_ret2
      obtain ⟨e1, e2⟩ := H0.out (by rw [HC4.out]; decide)
      exact ⟨⟨_, by rw [HC4.out]; rfl, by rw [e1, e2]; exact ownsRow_low (World.ownsRow_made w2 #[] 0 (Nat.le_refl _) (by simp [maxLen]) (by simp)) hb3.size⟩, hb3.alloc hb3.size _⟩
    case true =>
      have hns : s.size < n := by simpa using HRR.out
      have HC4 := Lib.hid (show alongC L x y s n = 0 by rw [HA.out, if_neg (by omega)])
      have HO := Lib.hid (ownsRow_low (HOV.out hns) (Nat.le_of_lt hsz))
      go_wp2_with fail
      go_ret2
      obtain ⟨e1, e2⟩ := H1.out HC4.out
      exact ⟨⟨_, by rw [HC4.out]; rfl, by rw [e1, e2]; exact HO.out⟩, hb3⟩
  · obtain ⟨h1, h2⟩ := TA.out h0
    have HE := Lib.hid h1
    have hb1 : (c != 0) = true := by simpa [bne] using h0
    have HNE := Lib.hid h0
    clear h1 h2 h0
    go_enter Try.func119, Try.ntmps119
    go_wp2_with fail
    refine (HT.out _ g0).mono ?_
    rintro e w1 ⟨rfl, hb1⟩
    have hb2 := below_onto hb0 hb1
    clear g0 c0 hb0 hb1
    go_wp2_with fail
    go_ret2
    obtain ⟨e1, e2⟩ := H0.out (by rw [HE.out]; exact HNE.out)
    exact ⟨⟨_, by rw [HE.out]; rfl, by rw [e1, e2]; exact ownsRow_low (World.ownsRow_made w1 #[] 0 (Nat.le_refl _) (by simp [maxLen]) (by simp)) hb2.size⟩, hb2.alloc hb2.size _⟩
end Go.Proofs.YtgmahakpmjfhhaaRR
