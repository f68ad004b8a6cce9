/- Sides, of the program. -/
import Derived.Test.YtmoldkdidhnahaaSSide
import Derived.Test.YtmoldkdidhnahaaZG
namespace Go.Proofs.Ytmoldkdidhnahaa
open Go.RowKit
set_option linter.unusedVariables false
attribute [local go_sem ↓] loadRow loadGrid loadLawn loadMirror storeRow storeGrid storeLawn allocRow allocGrid allocLawn buildZero buildSides loadSd storeSd allocSd buildSd

/-- What lies at a cell that the lawn has, told by the program. -/
theorem kind_lies {L : Lawn} (hv : validB L = true) (c : Pt) (h : isB L c.1 c.2 = true) : ∃ n : Nat, n < 4 ∧ lies L c = n ∧
    ∀ w, Calls Try.prog 104 #[.agg L.cells, .agg #[.int .i8 c.1, .int .i8 c.2]] w fun e w' => e = .returned (.int .u8 n) ∧ Below w.heap.size w w' := by
  obtain ⟨i, j, hi, hj, e1, e2⟩ := cell_nat hv h
  have hk := (validB_true hv).2.2 j i hj hi
  simp only [okAt, Bool.and_eq_true] at hk
  have hk := inB_true hk.1
  refine ⟨(L.kind j i).toNat, by omega, by unfold lies; rw [if_pos h, e1, e2]; rfl, fun w => ?_⟩
  have := kind_any L i j hi hj w
  rw [e1, e2, Int.toNat_of_nonneg hk.1]
  exact this

set_option maxRecDepth 100000 in
set_option maxHeartbeats 2000000 in
theorem sidesAt_any (L : Lawn) (hv : validB L = true) (x y : Int) (x0 : 0 ≤ x) (x1 : x ≤ 9) (y0 : 0 ≤ y) (y1 : y ≤ 9) (w : World) :
    Calls Try.prog 105 #[.agg L.cells, .agg #[.int .i8 x, .int .i8 y]] w fun e w' => e = .returned (.agg (sdV (sidesL L (x, y)))) ∧ Below w.heap.size w w' := by
  have HAT := Lib.hid (fun (c : Pt) (h : isB L c.1 c.2 = true) => kind_lies hv c h)
  clear hv
  go_enter Try.func105, Try.ntmps105
  go_wp2_with fail
  obtain ⟨W0, hW0⟩ : ∃ W0, (((w.alloc (.cells L.cells 27)).alloc (.cells #[.int .i8 x, .int .i8 y] 37)).alloc (.cells (sdV fun _ => 0) 76)).alloc (.cells (sdV fun _ => 0) 76) = W0 := ⟨_, rfl⟩
  have g0 : Holds W0 w.heap.size L.cells := by rw [← hW0]; exact (((Holds.new _ _ _).alloc _).alloc _).alloc _
  have c0 : Holds W0 (w.heap.size + 1) #[.int .i8 x, .int .i8 y] := by rw [← hW0]; exact ((Holds.new' _ _ _ _ (by simp)).alloc _).alloc _
  have t0 : Holds W0 (w.heap.size + 1 + 1) (sdV fun _ => 0) := by rw [← hW0]; exact (Holds.new' _ _ _ _ (by simp)).alloc _
  have u0 : Holds W0 (w.heap.size + 1 + 1 + 1) (sdV fun _ => 0) := by rw [← hW0]; exact Holds.new' _ _ _ _ (by simp)
  have hb0 : Below w.heap.size w W0 := by rw [← hW0]; exact ((((Below.refl w.heap.size w).alloc (Nat.le_refl _) _).alloc (by simp) _).alloc (by simp; omega) _).alloc (by simp; omega) _
  rw [hW0]
  clear hW0
  refine (sides_any _).mono ?_
  rintro e w1 ⟨rfl, hb1⟩
  have g1 := g0.below hb1 g0.lt
  have c1 := c0.below hb1 c0.lt
  have t1 := t0.below hb1 t0.lt
  have u1 := u0.below hb1 u0.lt
  have hb2 := below_onto hb0 hb1
  obtain ⟨s, hs⟩ : ∃ s, w.heap.size = s := ⟨_, rfl⟩
  rw [hs] at g1 c1 t1 u1 hb2 ⊢
  have HS := Lib.hid hs
  clear hs g0 c0 t0 u0 hb0 hb1
  go_wp2_with fail
  go_loopw [10] (fun q wr => ∃ k : Nat, k ≤ 4 ∧ q = .int .i64 k ∧ Holds wr s L.cells ∧ Holds wr (s + 1) #[.int .i8 x, .int .i8 y] ∧ Holds wr (s + 1 + 1) (sdV fun _ => 0) ∧ Holds wr (s + 1 + 1 + 1) (sdV (sidesTo L (x, y) k)) ∧ Below s w wr) (fun q _ => 4 - (intOf q).toNat)
  case atStart => exact ⟨0, by omega, rfl, g1, c1, t1, u1, hb2⟩
  case round =>
    obtain ⟨k, hk, rfl, k0, k1, k2, k3, hb⟩ := hrel
    have hsz := k3.lt
    clear g1 c1 t1 u1 hb2
    by_cases hlt : k < 4
    · have hd : decide ((k : Int) < (4 : Int)) = true := by simp; omega
      obtain ⟨c, hc⟩ : ∃ c, (beside (x, y))[k]? = some c := ⟨_, List.getElem?_eq_getElem (by simpa [beside] using hlt)⟩
      have HC := Lib.hid (sidesTo_succ L (x, y) hc)
      have HSd := Lib.hid (side_any k hlt (x, y) c hc ⟨⟨by omega, by omega⟩, by omega, by omega⟩)
      obtain ⟨cx, cy⟩ := c
      have hix := fun w => sides_index k hlt w
      have hEs := side_enters k hlt
      have HBD := Lib.hid (sidesTo_bound L (x, y) k)
      obtain ⟨-, -, d1, -, -⟩ := k1.facts
      clear hc
      go_wp2_with fail
      refine (HSd.out _).mono ?_
      rintro e w2 ⟨rfl, hb1⟩
      have p0 := k0.below hb1 k0.lt
      have p1 := k1.below hb1 k1.lt
      have p2 := k2.below hb1 k2.lt
      have p3 := k3.below hb1 k3.lt
      have hb3 := hb.trans (hb1.mono (by omega))
      have hsz2 := p3.lt
      clear k0 k1 k2 k3 hb hb1 d1 hsz hix hEs HSd
      have q0 := p0.alloc (.cells #[.int .i8 cx, .int .i8 cy] 37)
      have qc := Holds.new w2 #[.int .i8 cx, .int .i8 cy] 37
      have q1 := p1.alloc (.cells #[.int .i8 cx, .int .i8 cy] 37)
      have q2 := p2.alloc (.cells #[.int .i8 cx, .int .i8 cy] 37)
      have q3 := p3.alloc (.cells #[.int .i8 cx, .int .i8 cy] 37)
      have hb4 : Below s w (w2.alloc (.cells #[.int .i8 cx, .int .i8 cy] 37)) := hb3.alloc (by omega) _
      obtain ⟨m, hm⟩ : ∃ m, w2.heap.size = m := ⟨_, rfl⟩
      have hms : s + 1 + 1 + 1 < m := by omega
      clear p0 p1 p2 p3 hb3 hsz2
      obtain ⟨W3, hW3⟩ : ∃ W3, w2.alloc (.cells #[.int .i8 cx, .int .i8 cy] 37) = W3 := ⟨_, rfl⟩
      rw [hW3] at q0 qc q1 q2 q3 hb4
      rw [hm] at qc
      obtain ⟨r0, -, -, -, -⟩ := q0.facts
      obtain ⟨-, -, dc, -, -⟩ := qc.facts
      go_wp2_with fail
      clear hW3 hm
      cases hin : isB L cx cy
      case true =>
        refine (has_is L cx cy _ true hin).mono ?_
        rintro e w4 ⟨rfl, hb1⟩
        have p0 := q0.below hb1 q0.lt
        have pc := qc.below hb1 qc.lt
        have p1 := q1.below hb1 q1.lt
        have p2 := q2.below hb1 q2.lt
        have p3 := q3.below hb1 q3.lt
        have hb5 := hb4.trans (hb1.mono (by have := q3.lt; omega))
        obtain ⟨n, hn4, hln, hat⟩ := HAT.out (cx, cy) hin
        rw [hln] at HC
        have HA := Lib.hid hat
        clear q0 qc q1 q2 q3 hb4 hb1 hin hln hat r0 dc
        obtain ⟨r0, -, -, -, -⟩ := p0.facts
        obtain ⟨-, -, dc, -, -⟩ := pc.facts
        go_wp2_with fail
        refine (HA.out _).mono ?_
        rintro e w5 ⟨rfl, hb1⟩
        have q0 := p0.below hb1 p0.lt
        have q1 := p1.below hb1 p1.lt
        have q2 := p2.below hb1 p2.lt
        have q3 := p3.below hb1 p3.lt
        have hb6 := hb5.trans (hb1.mono (by have := p3.lt; omega))
        clear p0 pc p1 p2 p3 hb5 hb1 r0 dc
        have cn := q3.sd n (by omega)
        obtain ⟨-, -, -, fr, hl⟩ := q3.facts
        have b1 := HBD.out n
        have hn5 : n < 5 := by omega
        have hwr : IntKind.i64.wrap (sidesTo L (x, y) k n + 1) = sidesTo L (x, y) k n + 1 := IntWalk.i64_in _ (by omega)
        go_wp2_with fail
        go_roundw
        case rel =>
          refine ⟨k + 1, by omega, by go_num, q0.setCell_other _ _ (by dsimp only; omega), q1.setCell_other _ _ (by dsimp only; omega), q2.setCell_other _ _ (by dsimp only; omega), ?_, hb6.setCell (p := ⟨s + 1 + 1 + 1, n, none⟩) (by dsimp only; omega) _⟩
          rw [HC.out]
          exact q3.setSd n hn5 _
        case measure => simp [intOf]; omega
      case false =>
        refine (has_is L cx cy _ false hin).mono ?_
        rintro e w4 ⟨rfl, hb1⟩
        have p0 := q0.below hb1 q0.lt
        have p1 := q1.below hb1 q1.lt
        have p2 := q2.below hb1 q2.lt
        have p3 := q3.below hb1 q3.lt
        have hb5 := hb4.trans (hb1.mono (by have := q3.lt; omega))
        have hln : lies L (cx, cy) = 4 := by simp [lies, hin]
        rw [hln] at HC
        clear q0 qc q1 q2 q3 hb4 hb1 hin hln r0 dc
        have cn := p3.sd 4 (by omega)
        obtain ⟨-, -, -, fr, hl⟩ := p3.facts
        have b1 := HBD.out 4
        have hwr : IntKind.i64.wrap (sidesTo L (x, y) k 4 + 1) = sidesTo L (x, y) k 4 + 1 := IntWalk.i64_in _ (by omega)
        go_wp2_with fail
        go_roundw
        case rel =>
          refine ⟨k + 1, by omega, by go_num, p0.setCell_other _ _ (by dsimp only; omega), p1.setCell_other _ _ (by dsimp only; omega), p2.setCell_other _ _ (by dsimp only; omega), ?_, hb5.setCell (p := ⟨s + 1 + 1 + 1, 4, none⟩) (by dsimp only; omega) _⟩
          rw [HC.out]
          exact p3.setSd 4 (by omega) _
        case measure => simp [intOf]; omega
    · obtain rfl : k = 4 := by omega
      have hd : decide (((4 : Nat) : Int) < (4 : Int)) = false := by decide
      have r0 := k3.row
      obtain ⟨rr, fr, -, -, -⟩ := k2.facts
      have HR := Lib.hid (k2.setRow (sdV (sidesTo L (x, y) 4)))
      have HB := Lib.hid hb
      go_wp2_with fail
      exact bodyPost_ret (results_cell_holds (n := 5) rfl (by kernel_rfl) _ rfl HR.out rfl) rfl ⟨rfl, by have := HS.out; subst this; exact below_setRow HB.out _ (by omega) _⟩
end Go.Proofs.Ytmoldkdidhnahaa
