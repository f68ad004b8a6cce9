/- LongestRun, of the program and of the model. -/
import Derived.Test.YtlfmadnhjleofaaZE
import Derived.Test.YtlfmadnhjleofaaEqRunS
namespace Go.Proofs.Ytlfmadnhjleofaa
open Go.RowKit
set_option linter.unusedVariables false
attribute [local go_sem ↓] loadRow loadGrid loadLawn loadMirror storeRow storeGrid storeLawn allocRow allocGrid allocLawn buildZero buildSides

/-- A run's numbers. -/
def tripC (t : Int × Int × Int) : Array Value := #[.int .i8 t.1, .int .i8 t.2.1, .int .i8 t.2.2]
def tripV (R : List (Int × Int × Int)) : List Value := R.flatMap fun t => [.int .i8 t.1, .int .i8 t.2.1, .int .i8 t.2.2]
def runT (L : Lawn) (across : Bool) {W H : Nat} (c : Fin W × Fin H) : Int × Int × Int := (c.1.val, c.2.val, runLen L across c.1.val c.2.val)
theorem runsV_trip {W H : Nat} (L : Lawn) (across : Bool) (l : List (Fin W × Fin H)) : runsV L across l = tripV (l.map (runT L across)) := by
  unfold runsV tripV
  rw [List.flatMap_map]
  rfl
theorem tripV_get : ∀ (l : List (Int × Int × Int)) (i : Nat) (c : Int × Int × Int), l[i]? = some c →
    (tripV l)[i * 3]? = some (.int .i8 c.1) ∧ (tripV l)[i * 3 + 1]? = some (.int .i8 c.2.1) ∧ (tripV l)[i * 3 + 2]? = some (.int .i8 c.2.2)
  | [], i, c, h => by simp at h
  | a :: l, 0, c, h => by simp at h; subst h; exact ⟨rfl, rfl, rfl⟩
  | a :: l, i + 1, c, h => by
    have ih := tripV_get l i c (by simpa using h)
    simp only [tripV, List.flatMap_cons] at ih ⊢
    rw [show (i + 1) * 3 = i * 3 + 3 by omega, show i * 3 + 3 + 1 = i * 3 + 1 + 3 by omega, show i * 3 + 3 + 2 = i * 3 + 2 + 3 by omega]
    simpa using ih
/-- The longest one, the first of several. -/
def longer (b t : Int × Int × Int) : Int × Int × Int := if b.2.2 < t.2.2 then t else b
def bestOf (R : List (Int × Int × Int)) : Int × Int × Int := R.foldl longer (0, 0, 0)
theorem bestOf_snoc {R : List (Int × Int × Int)} {i : Nat} {t : Int × Int × Int} (h : R[i]? = some t) : bestOf (R.take (i + 1)) = longer (bestOf (R.take i)) t := by
  rw [List.take_add_one, h]; simp [bestOf]
def runsT (L : Lawn) (across : Bool) : List (Int × Int × Int) := (runsC L across).map (runT L across)
/-- What LongestRun answers. -/
def longC (L : Lawn) (across : Bool) : Int := if validB L then (if (bestOf (runsT L across)).2.2 = 0 then 6 else 0) else 1
def longR (L : Lawn) (across : Bool) : Int × Int × Int := if longC L across = 0 then bestOf (runsT L across) else (0, 0, 0)
theorem wideRun : wideB Try.prog 37 3 = true := by kernel_rfl
theorem Only.drewN {T : List Nat} {w0 w : World} (h : Only T w0 w) (n : Nat) : Only T w0 (w.drewN n) := ⟨h.os, h.tape, h.output, h.size, h.block⟩
/-- A run is stored. -/
theorem Holds.put3 {w : World} {g : Nat} {cs : Array Value} (h : Holds w g cs) (hs : cs.size = 3) (a b c : Value) : Holds (((w.setCell ⟨g, 0, none⟩ a).setCell ⟨g, 1, none⟩ b).setCell ⟨g, 2, none⟩ c) g #[a, b, c] := by
  have h3 := ((h.setCell 0 a).setCell 1 b).setCell 2 c
  have e : ((cs.setIfInBounds 0 a).setIfInBounds 1 b).setIfInBounds 2 c = #[a, b, c] := by
    apply Array.ext_getElem?
    intro i
    match i with
    | 0 => simp [hs]
    | 1 => simp [hs]
    | 2 => simp [hs]
    | i + 3 => simp [hs]
  rw [e] at h3
  exact h3
theorem Holds.past3 {w : World} {g k : Nat} {cs : Array Value} (h : Holds w k cs) (hk : k ≠ g) (a b c : Value) : Holds (((w.setCell ⟨g, 0, none⟩ a).setCell ⟨g, 1, none⟩ b).setCell ⟨g, 2, none⟩ c) k cs :=
  ((h.setCell_other _ _ hk).setCell_other _ _ hk).setCell_other _ _ hk
theorem Only.put3 {T : List Nat} {w0 w : World} {g : Nat} (h : Only T w0 w) (hg : g ∈ T ∨ w0.heap.size ≤ g) (a b c : Value) : Only T w0 (((w.setCell ⟨g, 0, none⟩ a).setCell ⟨g, 1, none⟩ b).setCell ⟨g, 2, none⟩ c) :=
  ((h.setCell (a := ⟨g, 0, none⟩) hg a).setCell (a := ⟨g, 1, none⟩) hg b).setCell (a := ⟨g, 2, none⟩) hg c
theorem below_put3 {B : Nat} {w0 w : World} {g : Nat} (h : Below B w0 w) (hg : B ≤ g) (a b c : Value) : Below B w0 (((w.setCell ⟨g, 0, none⟩ a).setCell ⟨g, 1, none⟩ b).setCell ⟨g, 2, none⟩ c) :=
  ((h.setCell (p := ⟨g, 0, none⟩) hg a).setCell (p := ⟨g, 1, none⟩) hg b).setCell (p := ⟨g, 2, none⟩) hg c

set_option maxRecDepth 100000 in
set_option maxHeartbeats 1000000 in
theorem implLongest_any (L : Lawn) (hL : L.Fits) (across : Bool) (w : World) :
    Calls Try.prog 19 #[.agg L.cells, .bool across] w fun e w' => e = .returned (.tuple #[.agg (tripC (longR L across)), .int .i64 (longC L across)]) ∧ Below w.heap.size w w' := by
  have HR := implRuns_any L hL across
  obtain ⟨n, hn⟩ : ∃ n, (runsC L across).length = n := ⟨_, rfl⟩
  obtain ⟨R, hR⟩ : ∃ R, runsT L across = R := ⟨_, rfl⟩
  have hRl : R.length = n := by rw [← hR, ← hn]; simp [runsT]
  have hn1 : n ≤ 100 := by have := runsC_le L across; omega
  rw [hn, runsV_trip, show (runsC L across).map (runT L across) = R from hR] at HR
  obtain ⟨vl, hvl⟩ : ∃ v, validB L = v := ⟨_, rfl⟩
  have e1 : validC L = if vl then 0 else 1 := by simp [validC, hvl]
  have e2 : longC L across = if vl then (if (bestOf R).2.2 = 0 then 6 else 0) else 1 := by simp [longC, hvl, hR]
  have e3 : longR L across = if longC L across = 0 then bestOf R else (0, 0, 0) := by simp [longR, hR]
  rw [e1] at HR
  have HR' := Lib.hid HR
  have E2 := Lib.hid e2
  have E3 := Lib.hid e3
  have HRL := Lib.hid hRl
  have g0 := (Holds.new w L.cells 28).alloc (.cells #[.int .i8 0, .int .i8 0, .int .i8 0] 37)
  have g1 := Holds.new' (w.alloc (.cells L.cells 28)) #[.int .i8 0, .int .i8 0, .int .i8 0] 37 (w.heap.size + 1) (by simp)
  have hb0 := ((Below.refl w.heap.size w).alloc (Nat.le_refl _) (.cells L.cells 28)).alloc (by simp) (.cells #[.int .i8 0, .int .i8 0, .int .i8 0] 37)
  clear HR e1 e2 e3 hR hn hvl hL hRl
  go_enter Try.func19, Try.ntmps19
  go_wp2_with fail
  refine (HR'.out _).mono ?_
  rintro e w1 ⟨⟨v, rfl, ho⟩, hb1⟩
  have j1 := g1.below hb1 g1.lt
  have jB := below_onto hb0 hb1
  obtain ⟨av, cv, rfl⟩ := own_slice ho
  have HO := Lib.hid ho
  have l1 := j1.lt
  clear g0 g1 hb0 hb1 ho
  cases vl
  case false =>
    simp only [Bool.false_eq_true, if_false] at E2
    obtain ⟨-, -, c1, z1, l1⟩ := j1.facts
    go_wp2_with fail
    exact bodyPost_ret (results_cell_tmp_holds rfl wideRun _ rfl (j1.put3 rfl _ _ _) rfl) rfl ⟨by rw [E3.out, E2.out]; rfl, below_put3 jB (by omega) _ _ _⟩
  case true =>
    simp only [if_true] at E2
    go_wp2_with fail
    obtain ⟨s, hs⟩ : ∃ s, w1.heap.size = s := ⟨_, rfl⟩
    have n0 : Holds (w1.alloc (.cells #[.int .i8 0, .int .i8 0, .int .i8 0] 37)) s (tripC (bestOf (R.take 0))) := Holds.new' _ _ _ _ hs.symm
    have n1 := j1.alloc (.cells #[.int .i8 0, .int .i8 0, .int .i8 0] 37)
    have n2 := jB.alloc jB.size (.cells #[.int .i8 0, .int .i8 0, .int .i8 0] 37)
    have HO1 := Lib.hid (HO.out.alloc (.cells #[.int .i8 0, .int .i8 0, .int .i8 0] 37))
    have HFO := Lib.hid (fun k hk => (HO.out.lt k hk).2)
    obtain ⟨W0, hW0⟩ : ∃ W0, w1.alloc (.cells #[.int .i8 0, .int .i8 0, .int .i8 0] 37) = W0 := ⟨_, rfl⟩
    rw [hs] at HFO l1 ⊢
    rw [hW0] at n0 n1 n2 HO1 ⊢
    have hsz : s < W0.heap.size := n0.lt
    clear hs hW0 j1 jB HO
    go_loopw [23] (fun x wr => ∃ i : Nat, i ≤ n ∧ x = .int .i64 i ∧ Only [s] W0 wr ∧ Holds wr s (tripC (bestOf (R.take i)))) (fun x _ => n - (intOf x).toNat)
    case atStart => exact ⟨0, by omega, rfl, Only.refl _ _, n0⟩
    case round =>
      obtain ⟨i, hi, rfl, hO, hS⟩ := hrel
      have HO2 := Lib.hid (hO.own HO1.out (fun k hk => by have := HFO.out k hk; simp; omega))
      obtain ⟨b, hb⟩ : ∃ b, bestOf (R.take i) = b := ⟨_, rfl⟩
      have HBi := Lib.hid hb
      rw [hb] at hS
      obtain ⟨-, -, cs, zs, ls⟩ := hS.facts
      simp only [tripC] at cs
      clear hb
      by_cases hlt : i < n
      · have hd : decide ((i : Int) < (n : Int)) = true := by simp; omega
        obtain ⟨t, ht⟩ : ∃ t, R[i]? = some t := ⟨_, List.getElem?_eq_getElem (by rw [HRL.out]; exact hlt)⟩
        have HT := Lib.hid ht
        obtain ⟨g, cap, heq, -, -⟩ := own_form HO2.out (by omega)
        simp only [Value.slice.injEq, true_and] at heq
        obtain ⟨rfl, rfl⟩ := heq
        obtain ⟨f0, f1, f2⟩ := tripV_get _ _ _ ht
        have c0 := own_cell HO2.out _ _ f0
        have c1 := own_cell HO2.out _ _ f1
        have c2 := own_cell HO2.out _ _ f2
        clear ht f0 f1 f2
        by_cases hlg : b.2.2 < t.2.2
        · have hbest := Lib.hid (show bestOf (R.take (i + 1)) = t by rw [bestOf_snoc HT.out, HBi.out]; simp [longer, hlg])
          go_wp2_with fail
          go_roundw
          case rel =>
            refine ⟨i + 1, by omega, by go_num, (hO.put3 (.inl (by simp)) _ _ _).alloc _, ?_⟩
            rw [hbest.out]
            exact (hS.put3 rfl _ _ _).alloc _
          case measure => simp [intOf]; omega
        · have hbest := Lib.hid (show bestOf (R.take (i + 1)) = b by rw [bestOf_snoc HT.out, HBi.out]; simp [longer, hlg])
          go_wp2_with fail
          go_roundw
          case rel =>
            refine ⟨i + 1, by omega, by go_num, hO.alloc _, ?_⟩
            rw [hbest.out]
            exact hS.alloc _
          case measure => simp [intOf]; omega
      · have hd : decide ((i : Int) < (n : Int)) = false := by simp; omega
        have hb2 := Lib.hid (show bestOf R = b by rw [← HBi.out, List.take_of_length_le (by rw [HRL.out]; omega)])
        have m1 := hO.holds n1 (by simp; omega)
        have hB2 : Below w.heap.size w wr := n2.trans (hO.toBelow (by simp; omega) n2.size)
        obtain ⟨-, -, c1, z1, l3⟩ := m1.facts
        rw [hb2.out] at E2 E3
        by_cases hz : b.2.2 = 0
        · have hz2 : ((b.2.2 : Int) == 0) = true := by simp [hz]
          have HZ := Lib.hid hz
          clear hz
          go_wp2_with fail
          exact bodyPost_ret (results_cell_tmp_holds rfl wideRun _ rfl (m1.put3 rfl _ _ _) rfl) rfl ⟨by rw [E3.out, E2.out, if_pos HZ.out]; rfl, below_put3 hB2 (by omega) _ _ _⟩
        · have hz2 : ((b.2.2 : Int) == 0) = false := by simp [hz]
          have HZ := Lib.hid hz
          clear hz
          go_wp2_with fail
          exact bodyPost_ret (results_cell_tmp_holds rfl wideRun _ rfl (m1.put3 rfl _ _ _) rfl) rfl ⟨by rw [E3.out, E2.out, if_neg HZ.out]; rfl, below_put3 hB2 (by omega) _ _ _⟩

set_option maxRecDepth 100000 in
set_option maxHeartbeats 1000000 in
theorem specLongest_any (L : Lawn) (hL : L.Fits) (across : Bool) (w : World) :
    Calls Try.prog 20 #[.agg L.cells, .bool across] w fun e w' => e = .returned (.tuple #[.agg (tripC (longR L across)), .int .i64 (longC L across)]) ∧ Below w.heap.size w w' := by
  obtain ⟨n, hn⟩ : ∃ n, (runsC L across).length = n := ⟨_, rfl⟩
  obtain ⟨R, hR⟩ : ∃ R, runsT L across = R := ⟨_, rfl⟩
  have hRl : R.length = n := by rw [← hR, ← hn]; simp [runsT]
  have hn1 : n ≤ 100 := by have := runsC_le L across; omega
  obtain ⟨vl, hvl⟩ : ∃ v, validB L = v := ⟨_, rfl⟩
  have HVL := Lib.hid hvl
  have HRn := Lib.hid hn
  have HRR := Lib.hid hR
  have e2 : longC L across = if vl then (if (bestOf R).2.2 = 0 then 6 else 0) else 1 := by simp [longC, hvl, hR]
  have e3 : longR L across = if longC L across = 0 then bestOf R else (0, 0, 0) := by simp [longR, hR]
  have E2 := Lib.hid e2
  have E3 := Lib.hid e3
  have HRL := Lib.hid hRl
  have HL := Lib.hid hL
  have g0 := (Holds.new w L.cells 28).alloc (.cells #[.int .i8 0, .int .i8 0, .int .i8 0] 37)
  have g1 := Holds.new' (w.alloc (.cells L.cells 28)) #[.int .i8 0, .int .i8 0, .int .i8 0] 37 (w.heap.size + 1) (by simp)
  have hb0 := ((Below.refl w.heap.size w).alloc (Nat.le_refl _) (.cells L.cells 28)).alloc (by simp) (.cells #[.int .i8 0, .int .i8 0, .int .i8 0] 37)
  clear e2 e3 hR hn hvl hL hRl
  go_enter Try.func20, Try.ntmps20
  go_wp2_with fail
  refine (l01Ok_any L HL.out _ _ g0).mono ?_
  rw [HVL.out]
  rintro e w1 ⟨rfl, hb1⟩
  have j0 := g0.below hb1 g0.lt
  have j1 := g1.below hb1 g1.lt
  have jB := below_onto hb0 hb1
  have l1 := j1.lt
  clear g0 g1 hb0 hb1
  cases vl
  case false =>
    simp only [Bool.false_eq_true, if_false] at E2
    obtain ⟨-, -, c1, z1, l1⟩ := j1.facts
    go_wp2_with fail
    exact bodyPost_ret (results_cell_tmp_holds rfl wideRun _ rfl (j1.put3 rfl _ _ _) rfl) rfl ⟨by rw [E3.out, E2.out]; rfl, below_put3 jB (by omega) _ _ _⟩
  case true =>
    simp only [if_true] at E2
    go_wp2_with fail
    obtain ⟨s, hs⟩ : ∃ s, w1.heap.size = s := ⟨_, rfl⟩
    have n0 : Holds (w1.alloc (.cells #[.int .i8 0, .int .i8 0, .int .i8 0] 37)) s (tripC (bestOf (R.take 0))) := Holds.new' _ _ _ _ hs.symm
    have n1 := j1.alloc (.cells #[.int .i8 0, .int .i8 0, .int .i8 0] 37)
    have n2 := jB.alloc jB.size (.cells #[.int .i8 0, .int .i8 0, .int .i8 0] 37)
    have n3 := j0.alloc (.cells #[.int .i8 0, .int .i8 0, .int .i8 0] 37)
    obtain ⟨W1, hW1⟩ : ∃ W1, w1.alloc (.cells #[.int .i8 0, .int .i8 0, .int .i8 0] 37) = W1 := ⟨_, rfl⟩
    rw [hs] at l1 ⊢
    rw [hW1] at n0 n1 n2 n3 ⊢
    have hsz1 : s < W1.heap.size := n0.lt
    clear hs hW1 j1 jB j0
    obtain ⟨h1, h2, -⟩ := validB_true HVL.out
    have HC := Lib.hid (fun (b : Nat) (w : World) (h : Holds w b L.cells) => l01Runs_any L.wide.toNat L.high.toNat (by omega) (by omega) (by omega) (by omega) L HL.out (by omega) (by omega) HVL.out across b w h)
    clear h1 h2
    refine (HC.out _ _ n3).mono ?_
    rintro e W0 ⟨v, rfl, ho, hb1⟩
    have hrc := Lib.hid (show runsC L across = filtB (headB L across) (allC L.wide.toNat L.high.toNat) by simp [runsC, HVL.out])
    have ho2 : W0.ownsRow W1.heap.size 37 3 v n (tripV R) := by
      rw [← hrc.out, runsV_trip, HRn.out] at ho
      rw [← HRR.out]; exact ho
    obtain ⟨av, cv, rfl⟩ := own_slice ho2
    have n0 := n0.below hb1 n0.lt
    have n1 := n1.below hb1 n1.lt
    have n2 := below_onto n2 hb1
    have HO1 := Lib.hid ho2
    have HFO := Lib.hid (fun k hk => own_far ho2 k hk)
    have hsz : s < W0.heap.size := n0.lt
    clear n3 hb1 ho ho2 HC
    go_wp2_with fail
    go_loopw [8] (fun x wr => ∃ i : Nat, i ≤ n ∧ x = .int .i64 i ∧ Only [s] W0 wr ∧ Holds wr s (tripC (bestOf (R.take i)))) (fun x _ => n - (intOf x).toNat)
    case atStart => exact ⟨0, by omega, rfl, Only.refl _ _, n0⟩
    case round =>
      obtain ⟨i, hi, rfl, hO, hS⟩ := hrel
      have HO2 := Lib.hid (hO.own HO1.out (fun k hk => by have := HFO.out k hk; simp; omega))
      obtain ⟨b, hb⟩ : ∃ b, bestOf (R.take i) = b := ⟨_, rfl⟩
      have HBi := Lib.hid hb
      rw [hb] at hS
      obtain ⟨-, -, cs, zs, ls⟩ := hS.facts
      simp only [tripC] at cs
      clear hb
      by_cases hlt : i < n
      · have hd : decide ((i : Int) < (n : Int)) = true := by simp; omega
        obtain ⟨t, ht⟩ : ∃ t, R[i]? = some t := ⟨_, List.getElem?_eq_getElem (by rw [HRL.out]; exact hlt)⟩
        have HT := Lib.hid ht
        obtain ⟨g, cap, heq, -, -⟩ := own_form HO2.out (by omega)
        simp only [Value.slice.injEq, true_and] at heq
        obtain ⟨rfl, rfl⟩ := heq
        obtain ⟨f0, f1, f2⟩ := tripV_get _ _ _ ht
        have c0 := own_cell HO2.out _ _ f0
        have c1 := own_cell HO2.out _ _ f1
        have c2 := own_cell HO2.out _ _ f2
        clear ht f0 f1 f2
        by_cases hlg : b.2.2 < t.2.2
        · have hbest := Lib.hid (show bestOf (R.take (i + 1)) = t by rw [bestOf_snoc HT.out, HBi.out]; simp [longer, hlg])
          have hlg2 : decide (b.2.2 < t.2.2) = true := by simp; omega
          go_wp2_with fail
          go_quiet (fail)
          go_wp2_with fail
          go_roundw
          case rel =>
            refine ⟨i + 1, by omega, by go_num, (hO.put3 (.inl (by simp)) _ _ _).drewN _, ?_⟩
            rw [hbest.out]
            exact Holds.drewN (hS.put3 rfl _ _ _) _
          case measure => simp [intOf]; omega
        · have hbest := Lib.hid (show bestOf (R.take (i + 1)) = b by rw [bestOf_snoc HT.out, HBi.out]; simp [longer, hlg])
          have hlg2 : decide (b.2.2 < t.2.2) = false := by simp; omega
          go_wp2_with fail
          go_quiet (fail)
          go_wp2_with fail
          go_roundw
          case rel =>
            refine ⟨i + 1, by omega, by go_num, hO.drewN _, ?_⟩
            rw [hbest.out]
            exact Holds.drewN hS _
          case measure => simp [intOf]; omega
      · have hd : decide ((i : Int) < (n : Int)) = false := by simp; omega
        have hb2 := Lib.hid (show bestOf R = b by rw [← HBi.out, List.take_of_length_le (by rw [HRL.out]; omega)])
        have m1 := hO.holds n1 (by simp; omega)
        have hB2 : Below w.heap.size w wr := n2.trans (hO.toBelow (by simp; omega) n2.size)
        obtain ⟨-, -, c1, z1, l3⟩ := m1.facts
        rw [hb2.out] at E2 E3
        by_cases hz : b.2.2 = 0
        · have hz2 : ((b.2.2 : Int) == 0) = true := by simp [hz]
          have HZ := Lib.hid hz
          clear hz
          go_wp2_with fail
          exact bodyPost_ret (results_cell_tmp_holds rfl wideRun _ rfl (m1.put3 rfl _ _ _) rfl) rfl ⟨by rw [E3.out, E2.out, if_pos HZ.out]; rfl, below_put3 hB2 (by omega) _ _ _⟩
        · have hz2 : ((b.2.2 : Int) == 0) = false := by simp [hz]
          have HZ := Lib.hid hz
          clear hz
          go_wp2_with fail
          exact bodyPost_ret (results_cell_tmp_holds rfl wideRun _ rfl (m1.put3 rfl _ _ _) rfl) rfl ⟨by rw [E3.out, E2.out, if_neg HZ.out]; rfl, below_put3 hB2 (by omega) _ _ _⟩

end Go.Proofs.Ytlfmadnhjleofaa
