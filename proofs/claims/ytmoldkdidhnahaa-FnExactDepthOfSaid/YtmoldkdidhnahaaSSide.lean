/- Sides, of the model. -/
import Derived.Test.YtmoldkdidhnahaaSd5
import Derived.Test.YtmoldkdidhnahaaZG
import Derived.Test.YtmoldkdidhnahaaZC
namespace Go.Proofs.Ytmoldkdidhnahaa
open Go.RowKit
set_option linter.unusedVariables false
attribute [local go_sem ↓] loadRow loadGrid loadLawn loadMirror storeRow storeGrid storeLawn allocRow allocGrid allocLawn buildZero buildSides loadSd storeSd allocSd buildSd

/-- What lies at a cell that the lawn has: a number from 0 to 3, told by the model and by the program. -/
theorem at_lies {L : Lawn} (hv : validB L = true) (hL : L.Fits) (b : Nat) (c : Pt) (h : isB L c.1 c.2 = true) : ∃ n : Nat, n < 4 ∧ lies L c = n ∧
    ∀ w, Holds w b L.cells → Calls Try.prog 77 #[.pointer (some ⟨b, 0, none⟩), .agg #[.int .i8 c.1, .int .i8 c.2]] w fun e w' => e = .returned (.int .i64 n) ∧ Below w.heap.size w w' := by
  obtain ⟨i, j, hi, hj, e1, e2⟩ := cell_nat hv h
  have hk := (validB_true hv).2.2 j i hj hi
  simp only [okAt, Bool.and_eq_true] at hk
  have hk := inB_true hk.1
  refine ⟨(L.kind j i).toNat, by omega, by unfold lies; rw [if_pos h, e1, e2]; rfl, fun w hw => ?_⟩
  have := at_any L hL b i j hi hj w hw
  rw [e1, e2, Int.toNat_of_nonneg hk.1]
  exact this

set_option maxRecDepth 100000 in
set_option maxHeartbeats 1000000 in
theorem near_any (x y : Int) (x0 : 0 ≤ x) (x1 : x ≤ 9) (y0 : 0 ≤ y) (y1 : y ≤ 9) (w : World) :
    Calls Try.prog 100 #[.agg #[.int .i8 x, .int .i8 y]] w fun e w' => (∃ g, e = .returned (.slice (some ⟨g, 0, none⟩) 4 4) ∧ Holds w' g (flatP (beside (x, y))).toArray ∧ w.heap.size ≤ g) ∧ Below w.heap.size w w' := by
  go_enter Try.func100, Try.ntmps100
  go_wp2_with fail
  go_ret
  refine ⟨⟨_, rfl, ?_, ?_⟩, ?_⟩
  · exact Holds.new' _ _ _ _ (by simp)
  · omega
  · exact ((Below.refl w.heap.size w).alloc (Nat.le_refl _) _).alloc (by simp) _

set_option maxRecDepth 100000 in
set_option maxHeartbeats 2000000 in
theorem l05At_any (L : Lawn) (hL : L.Fits) (hv : validB L = true) (b : Nat) (x y : Int) (x0 : 0 ≤ x) (x1 : x ≤ 9) (y0 : 0 ≤ y) (y1 : y ≤ 9) (w : World) (h : Holds w b L.cells) :
    Calls Try.prog 48 #[.pointer (some ⟨b, 0, none⟩), .agg #[.int .i8 x, .int .i8 y]] w fun e w' => e = .returned (.agg (sdV (sidesL L (x, y)))) ∧ Below w.heap.size w w' := by
  have HIS := Lib.hid (fun (c : Pt) (h0 : (-1 ≤ c.1 ∧ c.1 ≤ 10) ∧ -1 ≤ c.2 ∧ c.2 ≤ 10) (v : Bool) (hv : isB L c.1 c.2 = v) (w : World) (h : Holds w b L.cells) => l01Is_is L hL b c.1 c.2 w h (by omega) (by omega) (by omega) (by omega) v hv)
  have HAT := Lib.hid (fun (c : Pt) (h : isB L c.1 c.2 = true) => at_lies hv hL b c h)
  have HBI := Lib.hid (fun (c : Pt) (h : c ∈ beside (x, y)) => beside_in x0 x1 y0 y1 h)
  have HNR := Lib.hid (near_any x y x0 x1 y0 y1)
  have hbw := h.lt
  clear hv hL
  go_enter Try.func48, Try.ntmps48
  go_wp2_with fail
  have c0 : Holds (((w.alloc (.cells #[.int .i8 x, .int .i8 y] 37)).alloc (.cells (sdV fun _ => 0) 76)).alloc (.cells (sdV fun _ => 0) 76)) w.heap.size #[.int .i8 x, .int .i8 y] := ((Holds.new _ _ _).alloc _).alloc _
  have g0 : Holds (((w.alloc (.cells #[.int .i8 x, .int .i8 y] 37)).alloc (.cells (sdV fun _ => 0) 76)).alloc (.cells (sdV fun _ => 0) 76)) (w.heap.size + 1 + 1) (sdV fun _ => 0) := Holds.new' _ _ _ _ (by simp)
  have r0 : Holds (((w.alloc (.cells #[.int .i8 x, .int .i8 y] 37)).alloc (.cells (sdV fun _ => 0) 76)).alloc (.cells (sdV fun _ => 0) 76)) (w.heap.size + 1) (sdV fun _ => 0) := (Holds.new' _ _ _ _ (by simp)).alloc _
  have h0 : Holds (((w.alloc (.cells #[.int .i8 x, .int .i8 y] 37)).alloc (.cells (sdV fun _ => 0) 76)).alloc (.cells (sdV fun _ => 0) 76)) b L.cells := ((h.alloc _).alloc _).alloc _
  have hb0 : Below w.heap.size w (((w.alloc (.cells #[.int .i8 x, .int .i8 y] 37)).alloc (.cells (sdV fun _ => 0) 76)).alloc (.cells (sdV fun _ => 0) 76)) := (((Below.refl w.heap.size w).alloc (Nat.le_refl _) _).alloc (by simp) _).alloc (by simp; omega) _
  obtain ⟨W0, hW0⟩ : ∃ W0, ((w.alloc (.cells #[.int .i8 x, .int .i8 y] 37)).alloc (.cells (sdV fun _ => 0) 76)).alloc (.cells (sdV fun _ => 0) 76) = W0 := ⟨_, rfl⟩
  rw [hW0] at c0 g0 h0 r0 hb0 ⊢
  obtain ⟨-, -, d0, -, -⟩ := c0.facts
  clear hW0 h
  go_wp2_with fail
  refine (HNR.out _).mono ?_
  rintro e w1 ⟨⟨g, rfl, hn, hg⟩, hb1⟩
  have g1 := g0.below hb1 g0.lt
  have h1 := h0.below hb1 h0.lt
  have r1 := r0.below hb1 r0.lt
  have hb2 := below_onto hb0 hb1
  have hl0 := g0.lt
  obtain ⟨s, hs⟩ : ∃ s, w.heap.size = s := ⟨_, rfl⟩
  rw [hs] at g1 r1 hb2 hbw hl0 ⊢
  have HS := Lib.hid hs
  clear hs g0 h0 r0 c0 d0 hb0 hb1
  go_wp2_with fail
  go_loopw [7] (fun q wr => ∃ k : Nat, k ≤ 4 ∧ q = .int .i64 k ∧ Holds wr (s + 1 + 1) (sdV (sidesTo L (x, y) k)) ∧ Holds wr (s + 1) (sdV fun _ => 0) ∧ Holds wr b L.cells ∧ Holds wr g (flatP (beside (x, y))).toArray ∧ Below s w wr) (fun q _ => 4 - (intOf q).toNat)
  case atStart => exact ⟨0, by omega, rfl, g1, r1, h1, hn, hb2⟩
  case round =>
    obtain ⟨k, hk, rfl, k0, kr, k1, k2, hb⟩ := hrel
    have hsz := k0.lt
    clear g1 r1 h1 hn hb2
    by_cases hlt : k < 4
    · have hd : decide ((k : Int) < (4 : Int)) = true := by simp; omega
      obtain ⟨c, hc⟩ : ∃ c, (beside (x, y))[k]? = some c := ⟨_, List.getElem?_eq_getElem (by simpa [beside] using hlt)⟩
      have HC := Lib.hid (sidesTo_succ L (x, y) hc)
      have hcb := HBI.out c (List.mem_of_getElem? hc)
      obtain ⟨fa, fb⟩ := flatP_get _ _ _ hc
      have FF := Lib.hid (show ∀ w', Holds w' g (flatP (beside (x, y))).toArray → w'.cell? ⟨g, k * 2, none⟩ = some (.int .i8 c.1) ∧ w'.cell? ⟨g, k * 2 + 1, none⟩ = some (.int .i8 c.2) from fun w' h =>
        ⟨by rw [h.cell, List.getElem?_toArray, fa], by rw [h.cell, List.getElem?_toArray, fb]⟩)
      obtain ⟨ca, cb⟩ := FF.out _ k2
      have HCB := Lib.hid hcb
      have HBD := Lib.hid (sidesTo_bound L (x, y) k)
      clear hc fa fb hcb
      go_wp2_with fail
      cases hin : isB L c.1 c.2
      case true =>
        refine (HIS.out c HCB.out true hin _ k1).mono ?_
        rintro e w2 ⟨rfl, hb1⟩
        have p0 := k0.below hb1 k0.lt
        have pr := kr.below hb1 kr.lt
        have p1 := k1.below hb1 k1.lt
        have p2 := k2.below hb1 k2.lt
        have hb3 := hb.trans (hb1.mono (by omega))
        obtain ⟨n, hn4, hln, hat⟩ := HAT.out c hin
        rw [hln] at HC
        have HA := Lib.hid hat
        clear ca cb k0 kr k1 k2 hb hb1 hin hln hat
        obtain ⟨ca, cb⟩ := FF.out _ p2
        go_wp2_with fail
        refine (HA.out _ p1).mono ?_
        rintro e w3 ⟨rfl, hb1⟩
        have q0 := p0.below hb1 p0.lt
        have qr := pr.below hb1 pr.lt
        have q1 := p1.below hb1 p1.lt
        have q2 := p2.below hb1 p2.lt
        have hb4 := hb3.trans (hb1.mono (by have := p0.lt; omega))
        clear ca cb p0 pr p1 p2 hb3 hb1
        have cn := q0.sd n (by omega)
        obtain ⟨-, -, -, fr, hl⟩ := q0.facts
        have b1 := HBD.out n
        have hn5 : n < 5 := by omega
        have hwr : IntKind.i64.wrap (sidesTo L (x, y) k n + 1) = sidesTo L (x, y) k n + 1 := IntWalk.i64_in _ (by omega)
        go_wp2_with fail
        go_roundw
        case rel =>
          refine ⟨k + 1, by omega, by go_num, ?_, qr.setCell_other _ _ (by dsimp only; omega), q1.setCell_other _ _ (by dsimp only; omega), q2.setCell_other _ _ (by dsimp only; omega), hb4.setCell (p := ⟨s + 1 + 1, n, none⟩) (by dsimp only; omega) _⟩
          rw [HC.out]
          exact q0.setSd n hn5 _
        case measure => simp [intOf]; omega
      case false =>
        refine (HIS.out c HCB.out false hin _ k1).mono ?_
        rintro e w2 ⟨rfl, hb1⟩
        have q0 := k0.below hb1 k0.lt
        have qr := kr.below hb1 kr.lt
        have q1 := k1.below hb1 k1.lt
        have q2 := k2.below hb1 k2.lt
        have hb4 := hb.trans (hb1.mono (by omega))
        have hln : lies L c = 4 := by simp [lies, hin]
        rw [hln] at HC
        clear ca cb k0 kr k1 k2 hb hb1 hin hln
        have cn := q0.sd 4 (by omega)
        obtain ⟨-, -, -, fr, hl⟩ := q0.facts
        have b1 := HBD.out 4
        have hwr : IntKind.i64.wrap (sidesTo L (x, y) k 4 + 1) = sidesTo L (x, y) k 4 + 1 := IntWalk.i64_in _ (by omega)
        go_wp2_with fail
        go_roundw
        case rel =>
          refine ⟨k + 1, by omega, by go_num, ?_, qr.setCell_other _ _ (by dsimp only; omega), q1.setCell_other _ _ (by dsimp only; omega), q2.setCell_other _ _ (by dsimp only; omega), hb4.setCell (p := ⟨s + 1 + 1, 4, none⟩) (by dsimp only; omega) _⟩
          rw [HC.out]
          exact q0.setSd 4 (by omega) _
        case measure => simp [intOf]; omega
    · obtain rfl : k = 4 := by omega
      have hd : decide (((4 : Nat) : Int) < (4 : Int)) = false := by decide
      have r0 := k0.row
      obtain ⟨rr, fr, -, -, -⟩ := kr.facts
      have HR := Lib.hid (kr.setRow (sdV (sidesTo L (x, y) 4)))
      have HB := Lib.hid hb
      go_wp2_with fail
      exact bodyPost_ret (results_cell_holds (n := 5) rfl (by kernel_rfl) _ rfl HR.out rfl) rfl ⟨rfl, by have := HS.out; subst this; exact below_setRow HB.out _ (by omega) _⟩
end Go.Proofs.Ytmoldkdidhnahaa
