/- Rows that are cut or hoed: the cells from which weeds are taken away, of the program and of the model. -/
import Derived.Test.YtemjppchnhemjaaDoorSWeed
import Derived.Test.YtemjppchnhemjaaDoorUpTo
import Derived.Test.YtemjppchnhemjaaDoorZC
namespace Go.Proofs.YtemjppchnhemjaaDoor
open Go.RowKit
set_option linter.unusedVariables false
set_option linter.unusedSimpArgs false
attribute [local go_sem ↓] loadRow loadGrid loadLawn loadMirror storeRow storeGrid storeLawn allocRow allocGrid allocLawn buildZero buildSides loadWd storeWd allocWd buildZWd eqlWd

/-- The cells of a row that are cut or hoed, the first k of them. -/
def takeTo (L : Lawn) (r : Nat) (h : Bool) (k : Nat) : Nat → Nat → Bool := fun y x => y == r && (decide (x < k) && (h || L.kind y x == 0))
def takeS (L : Lawn) (r : Nat) (h : Bool) : Nat → Nat → Bool := takeTo L r h L.wide.toNat
/-- Weeds that are left behind a row has been cut or hoed. -/
def cutS (L : Lawn) (r : Nat) (h : Bool) (s : Nat → Nat → Bool) : Nat → Nat → Bool := fun y x => s y x && !takeS L r h y x
theorem takeTo_zero (L : Lawn) (r : Nat) (h : Bool) (n : Nat) : bV n (takeTo L r h 0) = bV n fun _ _ => false := bV_ext fun y x _ _ => by simp [takeTo]
theorem takeTo_hit {L : Lawn} {r : Nat} {h : Bool} {k : Nat} (hk : (h || L.kind r k == 0) = true) : bV 10 (withB (takeTo L r h k) r k) = bV 10 (takeTo L r h (k + 1)) := by
  refine bV_ext fun y x _ _ => ?_
  simp only [withB, takeTo]
  by_cases e : y = r
  · subst e
    by_cases ex : x = k
    · subst ex; simp [hk]
    · by_cases hx : x < k
      · simp [ex, hx, Nat.lt_succ_of_lt hx]
      · simp [ex, hx, show ¬ x < k + 1 by omega]
  · have e' : (y == r) = false := by simpa using e
    simp only [e', Bool.false_and, Bool.or_false]
theorem takeTo_miss {L : Lawn} {r : Nat} {h : Bool} {k : Nat} (hk : (h || L.kind r k == 0) = false) : bV 10 (takeTo L r h (k + 1)) = bV 10 (takeTo L r h k) := by
  refine bV_ext fun y x _ _ => ?_
  simp only [takeTo]
  by_cases e : y = r
  · subst e
    by_cases ex : x = k
    · subst ex; simp [hk]
    · by_cases hx : x < k
      · simp [hx, Nat.lt_succ_of_lt hx]
      · simp [hx, show ¬ x < k + 1 by omega]
  · have e' : (y == r) = false := by simpa using e
    simp only [e', Bool.false_and]

set_option maxRecDepth 100000 in
set_option maxHeartbeats 1000000 in
theorem in_row (L : Lawn) (hL : L.Fits) (r : Nat) (hr : (r : Int) < L.high) (w : World) :
    Calls Tryd.prog 74 #[.int .i64 r, .agg L.cells] w fun e w' => e = .returned (.int .i8 r) ∧ Below w.heap.size w w' := by
  obtain ⟨-, -, lh0, lh1, -, -⟩ := hL
  have hv : upZ (r : Int) (L.high - 1) = true := by simp [upZ]; omega
  have HU := Lib.hid (fun w => upTo64_is _ _ _ hv w)
  have e4 : IntKind.i64.wrap L.high = L.high := IntWalk.i64_in _ (by omega)
  have e6 : IntKind.i64.wrap (L.high - 1) = L.high - 1 := IntWalk.i64_in _ (by omega)
  have e8 : IntKind.i8.wrap (r : Int) = r := IntWalk.i8_in _ (by omega)
  clear hv
  go_enter Tryd.func74, Tryd.ntmps74
  go_wp2_with fail
  refine (HU.out _).mono ?_
  rintro e w2 ⟨rfl, hw2⟩
  rw [hw2]
  clear hw2
  go_wp2_with fail
  go_ret
  exact ⟨rfl, (Below.refl _ _).alloc (Nat.le_refl _) _⟩

set_option maxRecDepth 100000 in
set_option maxHeartbeats 4000000 in
theorem taken_any (L : Lawn) (hV : validB L = true) (hL : L.Fits) (r : Nat) (hr : (r : Int) < L.high) (hd : Bool) (w : World) :
    Calls Tryd.prog 56 #[.agg #[.int .i64 r, .bool hd], .agg L.cells] w fun e w' => e = .returned (.agg (bV 10 (takeS L r hd))) ∧ Below w.heap.size w w' := by
  obtain ⟨v1, v2, -⟩ := validB_true hV
  have HI := Lib.hid (in_row L hL r hr)
  have HG := Lib.hid (show ∀ (x : Nat) (g : Bool), (L.kind r x == 0) = g → (x : Int) < L.wide → ∀ w, Calls Tryd.prog 75 #[.agg L.cells, .agg #[.int .i8 x, .int .i8 r]] w fun e w' => e = .returned (.bool g) ∧ Below w.heap.size w w' from fun x g hg hx w => isGrass_is L hV hL x r g (by
    have : isB L x r = true := by simp [isB, inB]; omega
    simp [grassB, this, hg]) w)
  obtain ⟨Wn, hWn⟩ : ∃ Wn : Nat, L.wide = Wn := ⟨L.wide.toNat, by omega⟩
  have hW10 : Wn ≤ 10 := by omega
  have hr10 : r < 10 := by omega
  have HT := Lib.hid (show bV 10 (takeTo L r hd Wn) = bV 10 (takeS L r hd) by rw [takeS, hWn]; rfl)
  have HHit := Lib.hid (fun k hk => takeTo_hit (L := L) (r := r) (h := hd) (k := k) hk)
  have HMiss := Lib.hid (fun k hk => takeTo_miss (L := L) (r := r) (h := hd) (k := k) hk)
  obtain ⟨u, hu⟩ : ∃ u, w.heap.size = u := ⟨_, rfl⟩
  obtain ⟨W1, hW1⟩ : ∃ W1, (((w.alloc (.cells #[.int .i64 r, .bool hd] 102)).alloc (.cells L.cells 31)).alloc (.cells (bV 10 fun _ _ => false) 33)).alloc (.cells (bV 10 fun _ _ => false) 33) = W1 := ⟨_, rfl⟩
  have g0 : Holds W1 u #[.int .i64 r, .bool hd] := by rw [← hW1]; exact (((Holds.new' _ _ _ _ hu.symm).alloc _).alloc _).alloc _
  have g1 : Holds W1 (u + 1) L.cells := by rw [← hW1]; exact ((Holds.new' _ _ _ _ (by simp; omega)).alloc _).alloc _
  have g2 : Holds W1 (u + 2) (bV 10 fun _ _ => false) := by rw [← hW1]; exact (Holds.new' _ _ _ _ (by simp; omega)).alloc _
  have g3 : Holds W1 (u + 3) (bV 10 fun _ _ => false) := by rw [← hW1]; exact Holds.new' _ _ _ _ (by simp; omega)
  have hB1 : Below u w W1 := by rw [← hW1]; exact ((((Below.refl u w).alloc (by omega) _).alloc (by simp; omega) _).alloc (by simp; omega) _).alloc (by simp; omega) _
  have HU := Lib.hid hu
  obtain ⟨-, -, c1, -, l1⟩ := g1.facts
  have cw : W1.cell? ⟨u + 1, 0, none⟩ = some (.int .i8 Wn) := by rw [c1, ← hWn]; exact Lawn.cells_0 L
  have HWn := Lib.hid hWn
  clear hV hL hr v1 v2 c1
  go_enter Tryd.func56, Tryd.ntmps56
  go_wp2_with fail
  try simp only [hu, Nat.add_assoc, Nat.reduceAdd]
  clear hW1 hu cw l1 hWn
  go_loopw [6, 7, 10] (fun _ _ x wr => ∃ k : Nat, k ≤ Wn ∧ x = .int .i8 k ∧ Holds wr u #[.int .i64 r, .bool hd] ∧ Holds wr (u + 1) L.cells ∧ Holds wr (u + 2) (bV 10 fun _ _ => false) ∧ Holds wr (u + 3) (bV 10 (takeTo L r hd k)) ∧ Below u w wr) (fun _ _ x _ => Wn - (intOf x).toNat)
  case atStart => exact ⟨0, by omega, rfl, g0, g1, g2, by rw [takeTo_zero]; exact g3, hB1⟩
  case round =>
    obtain ⟨k, hk, rfl, h0, h1, h2, h3, hb⟩ := hrel
    clear g0 g1 g2 g3 hB1
    by_cases hlt : k < Wn
    · have hdd : decide ((k : Int) < (Wn : Int)) = true := by simp; omega
      obtain ⟨-, -, c0, -, l0⟩ := h0.facts
      have c00 := (c0 0).trans (show _ = some (.int .i64 (r : Int)) from rfl)
      obtain ⟨r1, -, -, -, l1⟩ := h1.facts
      clear c0
      go_wp2_with fail
      refine (HI.out _).mono ?_
      rintro e w2 ⟨rfl, hb2⟩
      have j0 := h0.below hb2 h0.lt
      have j1 := h1.below hb2 h1.lt
      have j2 := h2.below hb2 h2.lt
      have j3 := h3.below hb2 h3.lt
      have hb3 : Below u w w2 := hb.trans (hb2.mono (by omega))
      clear hb2 h0 h1 h2 h3 hb c00 l0 r1 l1
      obtain ⟨v, hv⟩ : ∃ v, w2.heap.size = v := ⟨_, rfl⟩
      have i0 := j0.alloc (.cells #[.int .i8 k, .int .i8 r] 83)
      have i1 := j1.alloc (.cells #[.int .i8 k, .int .i8 r] 83)
      have i2 := j2.alloc (.cells #[.int .i8 k, .int .i8 r] 83)
      have i3 := j3.alloc (.cells #[.int .i8 k, .int .i8 r] 83)
      have i4 := Holds.new' w2 #[.int .i8 k, .int .i8 r] 83 v hv.symm
      have hb4 : Below u w (w2.alloc (.cells #[.int .i8 k, .int .i8 r] 83)) := hb3.alloc (by have := j0.lt; omega) _
      obtain ⟨W3, hW3⟩ : ∃ W3, w2.alloc (.cells #[.int .i8 k, .int .i8 r] 83) = W3 := ⟨_, rfl⟩
      rw [hW3] at i0 i1 i2 i3 i4 hb4
      obtain ⟨-, -, c0, -, l0⟩ := i0.facts
      have c01 := (c0 1).trans (show _ = some (.bool hd) from rfl)
      obtain ⟨r1, -, -, -, l1⟩ := i1.facts
      obtain ⟨-, -, c4, -, l4⟩ := i4.facts
      have c40 := (c4 0).trans (show _ = some (.int .i8 (k : Int)) from rfl)
      have c41 := (c4 1).trans (show _ = some (.int .i8 (r : Int)) from rfl)
      clear c0 c4 j0 j1 j2 j3 hb3
      obtain ⟨g, hg⟩ : ∃ g, (L.kind r k == 0) = g := ⟨_, rfl⟩
      have HGk := Lib.hid (HG.out k g hg (by rw [HWn.out]; omega))
      have HHk := Lib.hid (HHit.out k)
      have HMk := Lib.hid (HMiss.out k)
      rw [hg] at HHk HMk
      clear hg
      cases hd
      · go_wp2_with fail
        refine (HGk.out _).mono ?_
        rintro e w4 ⟨rfl, hb5⟩
        have n0 := i0.below hb5 i0.lt
        have n1 := i1.below hb5 i1.lt
        have n2 := i2.below hb5 i2.lt
        have n3 := i3.below hb5 i3.lt
        have n4 := i4.below hb5 i4.lt
        have nb4 : Below u w w4 := hb4.trans (hb5.mono (by have := i0.lt; omega))
        clear hb5 i0 i1 i2 i3 i4 hb4 c01 c40 c41 r1 l0 l1 l4
        obtain ⟨-, -, c4, -, l4⟩ := n4.facts
        have c40 := (c4 0).trans (show _ = some (.int .i8 (k : Int)) from rfl)
        have c41 := (c4 1).trans (show _ = some (.int .i8 (r : Int)) from rfl)
        clear c4
        cases g
        · have HN := Lib.hid (HMk.out rfl)
          go_wp2_with fail
          go_roundw
          case rel => exact ⟨k + 1, by omega, by go_num, n0, n1, n2, by rw [HN.out]; exact n3, nb4⟩
          case measure => simp [intOf]; omega
        · have HN := Lib.hid (HHk.out rfl)
          obtain ⟨r3, f3, -, z3, l3⟩ := n3.facts
          go_wp2_with fail
          refine (wdWith_any _ k r (by omega) hr10 _).mono ?_
          rintro e w5 ⟨rfl, hb5⟩
          have m0 := n0.below hb5 n0.lt
          have m1 := n1.below hb5 n1.lt
          have m2 := n2.below hb5 n2.lt
          have m3 := n3.below hb5 n3.lt
          have hb6 : Below u w w5 := nb4.trans (hb5.mono (by have := n0.lt; omega))
          clear hb5 r3 f3 z3 l3 n0 n1 n2 n3 n4 nb4 c40 c41 l4
          obtain ⟨r3, f3, -, z3, l3⟩ := m3.facts
          go_wp2_with fail
          go_roundw
          case rel => exact ⟨k + 1, by omega, by go_num, m0.setRow_other _ (by omega), m1.setRow_other _ (by omega), m2.setRow_other _ (by omega), by rw [← HN.out]; exact m3.setRow _, below_setRow' hb6 (by omega) _⟩
          case measure => simp [intOf]; omega
      · have HN := Lib.hid (HHk.out rfl)
        obtain ⟨r3, f3, -, z3, l3⟩ := i3.facts
        go_wp2_with fail
        refine (wdWith_any _ k r (by omega) hr10 _).mono ?_
        rintro e w5 ⟨rfl, hb5⟩
        have m0 := i0.below hb5 i0.lt
        have m1 := i1.below hb5 i1.lt
        have m2 := i2.below hb5 i2.lt
        have m3 := i3.below hb5 i3.lt
        have hb6 : Below u w w5 := hb4.trans (hb5.mono (by have := i0.lt; omega))
        clear hb5 r3 f3 z3 l3 i0 i1 i2 i3 i4 hb4 c01 c40 c41 r1 l0 l1 l4
        obtain ⟨r3, f3, -, z3, l3⟩ := m3.facts
        go_wp2_with fail
        go_roundw
        case rel => exact ⟨k + 1, by omega, by go_num, m0.setRow_other _ (by omega), m1.setRow_other _ (by omega), m2.setRow_other _ (by omega), by rw [← HN.out]; exact m3.setRow _, below_setRow' hb6 (by omega) _⟩
        case measure => simp [intOf]; omega
    · obtain rfl : k = Wn := by omega
      have hdd : decide ((k : Int) < (k : Int)) = false := by simp
      rw [HT.out] at h3
      obtain ⟨r3, -, -, -, l3⟩ := h3.facts
      obtain ⟨r2, f2, -, z2, l2⟩ := h2.facts
      go_wp2_with fail
      exact bodyPost_ret (v := .agg (bV 10 (takeS L r hd))) (results_cell_holds rfl wideWd _ rfl (h2.setRow _) (by simp)) rfl ⟨rfl, by rw [HU.out]; exact below_setRow' hb (by omega) _⟩

def cutTo (L : Lawn) (r : Nat) (h : Bool) (s : Nat → Nat → Bool) (k : Nat) : Nat → Nat → Bool := fun y x => s y x && !takeTo L r h k y x
theorem cutTo_zero (L : Lawn) (r : Nat) (h : Bool) (s : Nat → Nat → Bool) : bV 10 (cutTo L r h s 0) = bV 10 s := bV_ext fun y x _ _ => by simp [cutTo, takeTo]
theorem cutTo_hit {L : Lawn} {r : Nat} {h : Bool} {s : Nat → Nat → Bool} {k : Nat} (hr : r < 10) (hk : (h || L.kind r k == 0) = true) : (bV 10 (cutTo L r h s k)).setIfInBounds r (.int .u16 ((rowN (fun j => cutTo L r h s k r j && !(j == k)) : Nat) : Int)) = bV 10 (cutTo L r h s (k + 1)) := by
  rw [bV_set _ _ _ _ hr]
  refine bV_ext fun y x _ _ => ?_
  unfold updR
  by_cases e : y = r
  · subst e
    rw [if_pos rfl]
    simp only [cutTo, takeTo]
    by_cases ex : x = k
    · subst ex; simp [hk]
    · have e' : (x == k) = false := by simpa using ex
      by_cases hx : x < k
      · simp [e', hx, Nat.lt_succ_of_lt hx]
      · simp [e', hx, show ¬ x < k + 1 by omega]
  · rw [if_neg e]
    have e' : (y == r) = false := by simpa using e
    simp only [cutTo, takeTo, e', Bool.false_and]
theorem cutTo_miss {L : Lawn} {r : Nat} {h : Bool} {s : Nat → Nat → Bool} {k : Nat} (hk : (h || L.kind r k == 0) = false) : bV 10 (cutTo L r h s (k + 1)) = bV 10 (cutTo L r h s k) := by
  refine bV_ext fun y x _ _ => ?_
  simp only [cutTo, takeTo]
  by_cases e : y = r
  · subst e
    by_cases ex : x = k
    · subst ex; simp [hk]
    · by_cases hx : x < k
      · simp [hx, Nat.lt_succ_of_lt hx]
      · simp [hx, show ¬ x < k + 1 by omega]
  · have e' : (y == r) = false := by simpa using e
    simp only [e', Bool.false_and]

set_option maxRecDepth 100000 in
set_option maxHeartbeats 4000000 in
theorem l07Cut_any (L : Lawn) (hV : validB L = true) (r : Nat) (hr : (r : Int) < L.high) (hd : Bool) (s : Nat → Nat → Bool) (a : Nat) (w : World) (ha : Holds w a L.cells) :
    Calls Tryd.prog 51 #[.pointer (some ⟨a, 0, none⟩), .agg (bV 10 s), .int .i64 r, .bool hd] w fun e w' => e = .returned (.agg (bV 10 (cutS L r hd s))) ∧ Below w.heap.size w w' := by
  obtain ⟨v1, v2, -⟩ := validB_true hV
  obtain ⟨Wn, hWn⟩ : ∃ Wn : Nat, L.wide = Wn := ⟨L.wide.toNat, by omega⟩
  have hW10 : Wn ≤ 10 := by omega
  have hr10 : r < 10 := by omega
  have hrI : (r : Int) < 10 := by omega
  have hrI0 : (0 : Int) ≤ r := by omega
  have HT := Lib.hid (show bV 10 (cutTo L r hd s Wn) = bV 10 (cutS L r hd s) by rw [show cutS L r hd s = cutTo L r hd s Wn by unfold cutS cutTo takeS; rw [show L.wide.toNat = Wn by omega]])
  have HHit := Lib.hid (fun k hk => cutTo_hit (L := L) (r := r) (h := hd) (s := s) (k := k) hr10 hk)
  have HMiss := Lib.hid (fun k hk => cutTo_miss (L := L) (r := r) (h := hd) (s := s) (k := k) hk)
  have HK := Lib.hid (fun (k : Nat) (hk : k < 10) => Lawn.cells_get L r k hr10 hk)
  obtain ⟨u, hu⟩ : ∃ u, w.heap.size = u := ⟨_, rfl⟩
  obtain ⟨W1, hW1⟩ : ∃ W1, (w.alloc (.cells (bV 10 s) 33)).alloc (.cells (bV 10 fun _ _ => false) 33) = W1 := ⟨_, rfl⟩
  have g0 : Holds W1 u (bV 10 s) := by rw [← hW1]; exact (Holds.new' _ _ _ _ hu.symm).alloc _
  have g1 : Holds W1 (u + 1) (bV 10 fun _ _ => false) := by rw [← hW1]; exact Holds.new' _ _ _ _ (by simp; omega)
  have ga : Holds W1 a L.cells := by rw [← hW1]; exact (ha.alloc _).alloc _
  have hla : a < u := by rw [← hu]; exact ha.lt
  have hB1 : Below u w W1 := by rw [← hW1]; exact ((Below.refl u w).alloc (by omega) _).alloc (by simp; omega) _
  have HU := Lib.hid hu
  have HWn := Lib.hid (show L.cells[0]? = some (.int .i8 Wn) by rw [← hWn]; exact Lawn.cells_0 L)
  clear hV hr v1 v2 ha hWn
  go_enter Tryd.func51, Tryd.ntmps51
  go_wp2_with fail
  try simp only [hu, Nat.add_assoc, Nat.reduceAdd]
  clear hW1 hu
  go_loopw [9] (fun x wr => ∃ k : Nat, k ≤ Wn ∧ x = .int .i8 k ∧ Holds wr u (bV 10 (cutTo L r hd s k)) ∧ Holds wr (u + 1) (bV 10 fun _ _ => false) ∧ Holds wr a L.cells ∧ Below u w wr) (fun x _ => Wn - (intOf x).toNat)
  case atStart => exact ⟨0, by omega, rfl, by rw [cutTo_zero]; exact g0, g1, ga, hB1⟩
  case round =>
    obtain ⟨k, hk, rfl, h0, h1, ha, hb⟩ := hrel
    clear g0 g1 ga hB1
    obtain ⟨-, -, ca, -, la⟩ := ha.facts
    have cw := (ca 0).trans HWn.out
    by_cases hlt : k < Wn
    · have hdd : decide ((k : Int) < (Wn : Int)) = true := by simp; omega
      have hk10 : k < 10 := by omega
      have hkI0 : (0 : Int) ≤ k := by omega
      have hkI : (k : Int) < 10 := by omega
      have ck := (ca (2 + r * 10 + k)).trans (HK.out k hk10)
      have hpw := wrap_pow k (by omega)
      obtain ⟨-, -, c0, z0, l0⟩ := h0.facts
      have cr := (c0 r).trans (bV_get 10 _ r hr10)
      have zr := z0 r
      have HHk := Lib.hid (HHit.out k)
      have HMk := Lib.hid (HMiss.out k)
      have H0 := Lib.hid (h0.setCell r (.int .u16 ((rowN (fun j => cutTo L r hd s k r j && !(j == k)) : Nat) : Int)))
      clear ca c0 z0
      cases hd
      · obtain ⟨g, hg⟩ : ∃ g, (L.kind r k == 0) = g := ⟨_, rfl⟩
        rw [hg] at HHk HMk
        cases g
        · have HN := Lib.hid (HMk.out rfl)
          go_wp2_with fail
          go_roundw
          case rel => exact ⟨k + 1, by omega, by go_num, by rw [HN.out]; exact h0, h1, ha, hb⟩
          case measure => simp [intOf]; omega
        · have HN := Lib.hid (HHk.out rfl)
          rw [HN.out] at H0
          go_wp2_with fail
          go_roundw
          case rel => exact ⟨k + 1, by omega, by go_num, H0.out, h1.setCell_other _ _ (by dsimp only; omega), ha.setCell_other _ _ (by dsimp only; omega), hb.setCell (p := ⟨u, r, none⟩) (by simp) _⟩
          case measure => simp [intOf]; omega
      · have HN := Lib.hid (HHk.out rfl)
        rw [HN.out] at H0
        go_wp2_with fail
        go_roundw
        case rel => exact ⟨k + 1, by omega, by go_num, H0.out, h1.setCell_other _ _ (by dsimp only; omega), ha.setCell_other _ _ (by dsimp only; omega), hb.setCell (p := ⟨u, r, none⟩) (by simp) _⟩
        case measure => simp [intOf]; omega
    · obtain rfl : k = Wn := by omega
      have hdd : decide ((k : Int) < (k : Int)) = false := by simp
      rw [HT.out] at h0
      obtain ⟨r0, -, -, -, l0⟩ := h0.facts
      obtain ⟨r1, f1, -, z1, l1⟩ := h1.facts
      clear ca
      go_wp2_with fail
      exact bodyPost_ret (v := .agg (bV 10 (cutS L r hd s))) (results_cell_holds rfl wideWd _ rfl (h1.setRow _) (by simp)) rfl ⟨rfl, by rw [HU.out]; exact below_setRow' hb (by omega) _⟩

theorem l07Row_any (L : Lawn) (hL : L.Fits) (r : Int) (a : Nat) (w : World) (ha : Holds w a L.cells) (v : Bool) (hv : inB r 0 (L.high - 1) = v) :
    Calls Tryd.prog 50 #[.pointer (some ⟨a, 0, none⟩), .int .i64 r] w fun e w' => e = .returned (.bool v) ∧ w' = w := by
  obtain ⟨-, -, lh0, lh1, -, -⟩ := hL
  have e4 : IntKind.i64.wrap L.high = L.high := IntWalk.i64_in _ (by omega)
  have e6 : IntKind.i64.wrap (L.high - 1) = L.high - 1 := IntWalk.i64_in _ (by omega)
  obtain ⟨-, -, ca, -, la⟩ := ha.facts
  have ch := (ca 1).trans (Lawn.cells_1 L)
  have H := Lib.hid hv
  clear ca hv
  go_enter Tryd.func50, Tryd.ntmps50
  go_wp2_with fail
  refine (in_q _ _ _ _).mono ?_
  rintro e w1 ⟨rfl, hw1⟩
  rw [hw1, H.out]
  clear hw1
  go_wp2_with fail
  go_ret
  exact ⟨rfl, rfl⟩
end Go.Proofs.YtemjppchnhemjaaDoor
