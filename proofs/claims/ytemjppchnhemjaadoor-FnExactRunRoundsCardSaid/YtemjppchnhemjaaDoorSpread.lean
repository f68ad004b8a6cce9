/- Weeds a day later, of the program: which bits are set in at least so many of four rows; spreading over some ground. -/
import Derived.Test.YtemjppchnhemjaaDoorWdOps
import Derived.Test.YtemjppchnhemjaaDoorZB
namespace Go.Proofs.YtemjppchnhemjaaDoor
open Go.RowKit
set_option linter.unusedVariables false
set_option linter.unusedSimpArgs false
attribute [local go_sem ↓] loadRow loadGrid loadLawn loadMirror storeRow storeGrid storeLawn allocRow allocGrid allocLawn buildZero buildSides loadWd loadU4 loadU12 storeWd storeU4 storeU12 allocWd allocU4 allocU12 buildZWd eqlWd

/-- In how many of the first j rows a bit is set. -/
def cntJ (t : Nat → Nat → Bool) : Nat → Nat → Nat
  | 0, _ => 0
  | j + 1, x => cntJ t j x + (if t j x then 1 else 0)
/-- The bits that are set in more than n of the first j rows. -/
def moreS (t : Nat → Nat → Bool) (j : Nat) : Nat → Nat → Bool := fun n x => decide (n < cntJ t j x)
/-- .. where the rows above m have been gone on by one. -/
def mixS (t : Nat → Nat → Bool) (j m : Nat) : Nat → Nat → Bool := fun n x => if m < n then moreS t (j + 1) n x else moreS t j n x
theorem moreS_zero (t : Nat → Nat → Bool) : bV 4 (moreS t 0) = bV 4 fun _ _ => false := bV_ext fun n x _ _ => by simp [moreS, cntJ]
theorem mixS_top (t : Nat → Nat → Bool) (j : Nat) : bV 4 (mixS t j 3) = bV 4 (moreS t j) := bV_ext fun n x hn _ => by simp [mixS, show ¬ 3 < n by omega]
theorem mixS_step (t : Nat → Nat → Bool) (j m : Nat) (h1 : 1 ≤ m) (h3 : m ≤ 3) : (bV 4 (mixS t j m)).setIfInBounds m (.int .u16 ((rowN (fun x => mixS t j m m x || (mixS t j m (m - 1) x && t j x)) : Nat) : Int)) = bV 4 (mixS t j (m - 1)) := by
  rw [bV_set _ _ _ _ (by omega)]
  refine bV_ext fun n x hn _ => ?_
  unfold updR
  by_cases e : n = m
  · subst e
    rw [if_pos rfl]
    simp only [mixS, moreS, cntJ, show ¬ n < n by omega, show ¬ n < n - 1 by omega, show n - 1 < n by omega, if_true, if_false]
    rcases Bool.eq_false_or_eq_true (t j x) with h | h
    · simp only [h, Bool.and_true, if_true]
      rw [Bool.eq_iff_iff]
      simp only [Bool.or_eq_true, decide_eq_true_eq]
      omega
    · simp [h]
  · rw [if_neg e]
    simp only [mixS]
    by_cases h : m < n
    · rw [if_pos h, if_pos (by omega)]
    · rw [if_neg h, if_neg (by omega)]
theorem mixS_last (t : Nat → Nat → Bool) (j : Nat) : (bV 4 (mixS t j 0)).setIfInBounds 0 (.int .u16 ((rowN (fun x => mixS t j 0 0 x || t j x) : Nat) : Int)) = bV 4 (moreS t (j + 1)) := by
  rw [bV_set _ _ _ _ (by omega)]
  refine bV_ext fun n x hn _ => ?_
  unfold updR
  by_cases e : n = 0
  · subst e
    rw [if_pos rfl]
    simp only [mixS, moreS, cntJ, show ¬ 0 < 0 by omega, if_false]
    rcases Bool.eq_false_or_eq_true (t j x) with h | h
    · simp [h]
    · simp [h]
  · rw [if_neg e]
    simp only [mixS]
    rw [if_pos (by omega)]

theorem u4_index (s : Nat → Nat → Bool) (k : Nat) (hk : k < 4) (w : World) : (Instr.index 129 (.agg (bV 4 s)) (.int .i64 k)).run Tryd.prog w = .ok (.int .u16 ((rowN (s k) : Nat) : Int)) w :=
  index_one (P := Tryd.prog) w Tryd.underlying129 Tryd.underlying27 sizeU16 _ k hk _ (bV_get _ _ _ hk)

set_option maxRecDepth 100000 in
set_option maxHeartbeats 2000000 in
theorem atLeast_any (t : Nat → Nat → Bool) (n : Nat) (h1 : 1 ≤ n) (h4 : n ≤ 4) (w : World) :
    Calls Tryd.prog 72 #[.int .i64 n, .agg (bV 4 t)] w fun e w' => e = .returned (.int .u16 ((rowN (fun x => decide (n ≤ cntJ t 4 x)) : Nat) : Int)) ∧ Below w.heap.size w w' := by
  have HS := Lib.hid (mixS_step t)
  have HL := Lib.hid (mixS_last t)
  have HT := Lib.hid (mixS_top t)
  go_enter Tryd.func72, Tryd.ntmps72
  go_wp2
  go_loopw [7, 8, 10] (fun _ _ i wr => ∃ k : Nat, k ≤ 4 ∧ i = .int .i64 k ∧ Below w.heap.size w wr ∧ Holds wr (w.heap.size + 1) (bV 4 (moreS t k))) (fun _ _ i _ => 4 - (intOf i).toNat)
  case atStart =>
    exact ⟨0, by omega, rfl, ((Below.refl _ _).alloc (Nat.le_refl _) _).alloc (by simp) _, by rw [moreS_zero]; exact Holds.new' _ _ _ _ (by simp)⟩
  case round =>
    obtain ⟨k, hk, rfl, hb, hm⟩ := hrel
    by_cases hlt : k < 4
    · have hd : decide ((k : Int) < 4) = true := by simp; omega
      have hix := u4_index t k hlt
      have hm2 : Holds wr (w.heap.size + 1) (bV 4 (mixS t k 3)) := by rw [HT.out]; exact hm
      clear hm
      go_wp2
      go_loopw [8] (fun i wi => ∃ m : Nat, m ≤ 3 ∧ i = .int .i64 m ∧ Below w.heap.size w wi ∧ Holds wi (w.heap.size + 1) (bV 4 (mixS t k m))) (fun i _ => (intOf i).toNat)
      case atStart => exact ⟨3, by omega, rfl, hb, hm2⟩
      case round =>
        obtain ⟨m, hm3, rfl, hbi, hmi⟩ := hrel
        obtain ⟨-, -, c, z, l⟩ := hmi.facts
        by_cases hm0 : 0 < m
        · have hdm : decide ((0 : Int) < m) = true := by simp; omega
          have hsub : ((m : Int) - 1) = ((m - 1 : Nat) : Int) := by omega
          have c1 := (c m).trans (bV_get 4 _ m (by omega))
          have c2 := (c (m - 1)).trans (bV_get 4 _ (m - 1) (by omega))
          have zm := z m
          have hset := HS.out k m (by omega) hm3
          have H2 := Lib.hid (hmi.setCell m (.int .u16 ((rowN (fun x => mixS t k m m x || (mixS t k m (m - 1) x && t k x)) : Nat) : Int)))
          rw [hset] at H2
          clear c z hset
          go_wp2
          go_region
          go_wp2
          go_roundw
          case rel => exact ⟨m - 1, by omega, by go_num, (hbi.setCell (p := ⟨w.heap.size + 1, m, none⟩) (by simp) _).drew, H2.out.drew⟩
          case measure => simp [intOf]; omega
        · obtain rfl : m = 0 := by omega
          have hdm : decide ((0 : Int) < ((0 : Nat) : Int)) = false := by decide
          have c1 := (c 0).trans (bV_get 4 _ 0 (by omega))
          have z0 := z 0
          have H2 := Lib.hid (hmi.setCell 0 (.int .u16 ((rowN (fun x => mixS t k 0 0 x || t k x) : Nat) : Int)))
          rw [HL.out] at H2
          clear c z
          go_wp2
          go_roundw
          case rel => exact ⟨k + 1, by omega, by go_num, hbi.setCell (p := ⟨w.heap.size + 1, 0, none⟩) (by simp) _, H2.out⟩
          case measure => simp [intOf]; omega
    · obtain rfl : k = 4 := by omega
      have hd : decide (((4 : Nat) : Int) < 4) = false := by decide
      obtain ⟨-, -, c, -, l⟩ := hm.facts
      have hsub : ((n : Int) - 1) = ((n - 1 : Nat) : Int) := by omega
      have c1 := (c (n - 1)).trans (bV_get 4 _ (n - 1) (by omega))
      clear c
      go_wp2
      go_ret
      refine ⟨?_, hb⟩
      show Ending.returned (Value.int IntKind.u16 ((rowN (moreS t 4 (n - 1)) : Nat) : Int)) = _
      rw [rowN_ext (a := moreS t 4 (n - 1)) (b := fun x => decide (n ≤ cntJ t 4 x)) fun x _ => by simp only [moreS]; rw [Bool.eq_iff_iff]; simp only [decide_eq_true_eq]; omega]

/-- The rows with one without weeds ahead of them and one behind. -/
def rowsR (s : Nat → Nat → Bool) : Nat → Nat → Bool := fun k x => decide (1 ≤ k) && (decide (k ≤ 10) && s (k - 1) x)
theorem rows_copy (s : Nat → Nat → Bool) : ((bV 12 fun _ _ => false).toList.take 1 ++ (bV 10 s).toList ++ (bV 12 fun _ _ => false).toList.drop (1 + (bV 10 s).toList.length)).toArray = bV 12 (rowsR s) := by
  apply bV_of
  · simp
  · intro j hj
    rcases Nat.lt_or_ge j 1 with h | h
    · obtain rfl : j = 0 := by omega
      have : rowN (rowsR s 0) = rowN fun _ => false := rowN_ext fun x _ => by simp [rowsR]
      rw [this]
      simp [bV]
    · rcases Nat.lt_or_ge j 11 with h2 | h2
      · have : rowN (rowsR s j) = rowN (s (j - 1)) := rowN_ext fun x _ => by simp [rowsR, h, show j ≤ 10 by omega]
        rw [this]
        simp only [List.getElem?_toArray, List.append_assoc]
        rw [List.getElem?_append_right (by simp; omega), List.getElem?_append_left (by simp; omega)]
        simp only [List.length_take, Array.length_toList, bV_size, Array.getElem?_toList]
        rw [show j - min 1 12 = j - 1 by omega, bV_get _ _ _ (by omega)]
      · obtain rfl : j = 11 := by omega
        have : rowN (rowsR s 11) = rowN fun _ => false := rowN_ext fun x _ => by simp [rowsR]
        rw [this]
        simp [bV]
/-- The four rows that lie beside one: behind each other bits lie beside the same one. -/
def besR (s : Nat → Nat → Bool) (y : Nat) : Nat → Nat → Bool := fun i x => match i with
  | 0 => rowsR s y x
  | 1 => decide (1 ≤ x) && rowsR s (y + 1) (x - 1)
  | 2 => decide (x + 1 < 16) && rowsR s (y + 1) (x + 1)
  | _ => rowsR s (y + 2) x
/-- Weeds a day later. -/
def dayS (g : Nat → Nat → Bool) (n : Nat) (s : Nat → Nat → Bool) : Nat → Nat → Bool := fun y x => s y x || (g y x && decide (n ≤ cntJ (besR s y) 4 x))
/-- .. as far as k rows have been gone through. -/
def dayTo (g : Nat → Nat → Bool) (n : Nat) (s : Nat → Nat → Bool) (k : Nat) : Nat → Nat → Bool := fun y x => if y < k then dayS g n s y x else s y x
theorem dayTo_zero (g : Nat → Nat → Bool) (n : Nat) (s : Nat → Nat → Bool) : bV 10 (dayTo g n s 0) = bV 10 s := bV_ext fun y x _ _ => by simp [dayTo]
theorem dayTo_all (g : Nat → Nat → Bool) (n : Nat) (s : Nat → Nat → Bool) : bV 10 (dayTo g n s 10) = bV 10 (dayS g n s) := bV_ext fun y x hy _ => by simp [dayTo, hy]
theorem dayTo_succ (g : Nat → Nat → Bool) (n : Nat) (s : Nat → Nat → Bool) (k : Nat) (h : k < 10) : (bV 10 (dayTo g n s k)).setIfInBounds k (.int .u16 ((rowN (fun x => dayTo g n s k k x || (g k x && decide (n ≤ cntJ (besR s k) 4 x))) : Nat) : Int)) = bV 10 (dayTo g n s (k + 1)) := by
  rw [bV_set _ _ _ _ h]
  refine bV_ext fun y x _ _ => ?_
  unfold updR
  by_cases e : y = k
  · subst e; simp [dayTo, dayS, show ¬ y < y by omega]
  · rw [if_neg e]
    simp only [dayTo]
    by_cases hy : y < k
    · rw [if_pos hy, if_pos (by omega)]
    · rw [if_neg hy, if_neg (by omega)]

theorem shl1_row (a : Nat → Bool) : IntKind.u16.wrap (((rowN a : Nat) : Int) * 2) = ((rowN (fun x => decide (1 ≤ x) && a (x - 1)) : Nat) : Int) := by
  rw [IntKind.wrap_u16, ← rowN_shl a 1]; omega
theorem shr1_row (a : Nat → Bool) : ((rowN a : Nat) : Int) / 2 = ((rowN (fun x => decide (x + 1 < 16) && a (x + 1)) : Nat) : Int) := by
  rw [← rowN_shr a 1]; omega
theorem bes_lit (s : Nat → Nat → Bool) (k : Nat) : (#[.int .u16 ((rowN (rowsR s k) : Nat) : Int), .int .u16 ((rowN (fun x => decide (1 ≤ x) && rowsR s (k + 1) (x - 1)) : Nat) : Int), .int .u16 ((rowN (fun x => decide (x + 1 < 16) && rowsR s (k + 1) (x + 1)) : Nat) : Int), .int .u16 ((rowN (rowsR s (k + 2)) : Nat) : Int)] : Array Value) = bV 4 (besR s k) := by
  apply bV_of rfl
  intro j hj
  match j, hj with
  | 0, _ => rfl
  | 1, _ => rfl
  | 2, _ => rfl
  | 3, _ => rfl

set_option maxRecDepth 100000 in
set_option maxHeartbeats 4000000 in
theorem later_any (g : Nat → Nat → Bool) (n : Nat) (h1 : 1 ≤ n) (h4 : n ≤ 4) (s : Nat → Nat → Bool) (a b : Nat) (w : World) (ha : Holds w a (bV 10 g)) (hbn : Holds w b #[.int .i64 n]) :
    Calls Tryd.prog 71 #[.agg (bV 10 s), .pointer (some ⟨a, 0, none⟩), .pointer (some ⟨b, 0, none⟩)] w fun e w' => e = .returned (.agg (bV 10 (dayS g n s))) ∧ Below w.heap.size w w' := by
  have HD := Lib.hid (dayTo_succ g n s)
  have HA := Lib.hid (fun t w => atLeast_any t n h1 h4 w)
  obtain ⟨u, hu⟩ : ∃ u, w.heap.size = u := ⟨_, rfl⟩
  obtain ⟨W1, hW1⟩ : ∃ W1, ((w.alloc (.cells (bV 10 s) 33)).alloc (.cells (bV 10 fun _ _ => false) 33)).alloc (.cells (bV 12 fun _ _ => false) 127) = W1 := ⟨_, rfl⟩
  have g0 : Holds W1 u (bV 10 s) := by rw [← hW1]; exact ((Holds.new' _ _ _ _ hu.symm).alloc _).alloc _
  have g1 : Holds W1 (u + 1) (bV 10 fun _ _ => false) := by rw [← hW1]; exact (Holds.new' _ _ _ _ (by simp; omega)).alloc _
  have g2 : Holds W1 (u + 2) (bV 12 fun _ _ => false) := by rw [← hW1]; exact Holds.new' _ _ _ _ (by simp; omega)
  have ga : Holds W1 a (bV 10 g) := by rw [← hW1]; exact ((ha.alloc _).alloc _).alloc _
  have gb : Holds W1 b #[.int .i64 n] := by rw [← hW1]; exact ((hbn.alloc _).alloc _).alloc _
  have hla : a < u := by rw [← hu]; exact ha.lt
  have hlb : b < u := by rw [← hu]; exact hbn.lt
  have hB1 : Below u w W1 := by rw [← hW1]; exact (((Below.refl u w).alloc (by omega) _).alloc (by simp; omega) _).alloc (by simp; omega) _
  have hcp : ∀ (w' : World), Holds w' (u + 2) (bV 12 fun _ _ => false) → Holds w' u (bV 10 s) → (Builtin.copy_ #[128, 128] 3 #[.slice (some ⟨u + 2, 1, none⟩) 11 11, .slice (some ⟨u, 0, none⟩) 10 10]).run Tryd.prog w' = .ok (goInt 10) (w'.setRow (u + 2) (bV 12 (rowsR s))) := fun w' h2 h0 => by
    obtain ⟨t, ht⟩ := h2
    have hc := h0.cell
    have := run_copy_row (P := Tryd.prog) w' 128 128 3 27 (u + 2) 1 11 11 ⟨u, 0, none⟩ 10 10 (bV 12 fun _ _ => false) t (bV 10 s).toList Tryd.underlying128 sizeU16 ht (by simp) (fun j v hv => by
      have : (⟨u, 0, none⟩ : Addr).add j = ⟨u, j, none⟩ := by unfold Addr.add; split <;> simp_all
      rw [this, hc]; simpa using hv) (by simp) (fun v hv => ones_of (bV_ones 10 s) v hv)
    rw [rows_copy] at this
    simpa using this
  have HU := Lib.hid hu
  clear ha hbn h1 h4
  go_enter Tryd.func71, Tryd.ntmps71
  go_wp2
  simp only [hu, Nat.add_assoc, Nat.reduceAdd]
  clear hW1 hu
  have hcp1 := hcp W1.drew g2.drew g0.drew
  clear hcp
  go_region
  have q0 := (g0.setRow_other (k := u + 2) (bV 12 (rowsR s)) (by omega)).drew
  have q1 := (g1.setRow_other (k := u + 2) (bV 12 (rowsR s)) (by omega)).drew
  have q2 := (g2.setRow (bV 12 (rowsR s))).drew
  have qa := (ga.setRow_other (k := u + 2) (bV 12 (rowsR s)) (by omega)).drew
  have qb := (gb.setRow_other (k := u + 2) (bV 12 (rowsR s)) (by omega)).drew
  have hB2 := (below_setRow' hB1 (g := u + 2) (by omega) (bV 12 (rowsR s))).drew
  obtain ⟨W2, hW2⟩ : ∃ W2, (W1.setRow (u + 2) (bV 12 (rowsR s))).drew = W2 := ⟨_, rfl⟩
  rw [hW2] at q0 q1 q2 qa qb hB2 ⊢
  clear hW2 hcp1 g0 g1 g2 ga gb hB1
  go_wp2
  go_loopw [6, 7, 11] (fun _ _ i wr => ∃ k : Nat, k ≤ 10 ∧ i = .int .i64 k ∧ Below u w wr ∧ Holds wr u (bV 10 (dayTo g n s k)) ∧ Holds wr (u + 1) (bV 10 fun _ _ => false) ∧ Holds wr (u + 2) (bV 12 (rowsR s)) ∧ Holds wr a (bV 10 g) ∧ Holds wr b #[.int .i64 n]) (fun _ _ i _ => 10 - (intOf i).toNat)
  case atStart =>
    exact ⟨0, by omega, rfl, hB2, by rw [dayTo_zero]; exact q0, q1, q2, qa, qb⟩
  case round =>
    obtain ⟨k, hk, rfl, hb, h0, h1, h2, ha, hbn⟩ := hrel
    by_cases hlt : k < 10
    · have hd : decide ((k : Int) < 10) = true := by simp; omega
      obtain ⟨-, -, c2, -, l2⟩ := h2.facts
      have ck0 := (c2 k).trans (bV_get 12 _ k (by omega))
      have ck1 := (c2 (k + 1)).trans (bV_get 12 _ (k + 1) (by omega))
      have ck2 := (c2 (k + 2)).trans (bV_get 12 _ (k + 2) (by omega))
      have hs1 := shl1_row (rowsR s (k + 1))
      have hs2 := shr1_row (rowsR s (k + 1))
      have hbv := bes_lit s k
      have hk12 : (k : Int) < 12 := by omega
      clear c2
      go_wp2
      go_region
      clear hs1 hs2 hbv ck0 ck1 ck2
      obtain ⟨v, hv⟩ : ∃ v, wr.heap.size = v := ⟨_, rfl⟩
      obtain ⟨W3, hW3⟩ : ∃ W3, (wr.alloc (.cells (bV 4 (besR s k)) 129)).drew = W3 := ⟨_, rfl⟩
      have j0 : Holds W3 u (bV 10 (dayTo g n s k)) := by rw [← hW3]; exact (h0.alloc _).drew
      have j1 : Holds W3 (u + 1) (bV 10 fun _ _ => false) := by rw [← hW3]; exact (h1.alloc _).drew
      have j2 : Holds W3 (u + 2) (bV 12 (rowsR s)) := by rw [← hW3]; exact (h2.alloc _).drew
      have ja : Holds W3 a (bV 10 g) := by rw [← hW3]; exact (ha.alloc _).drew
      have jb : Holds W3 b #[.int .i64 n] := by rw [← hW3]; exact (hbn.alloc _).drew
      have j4 : Holds W3 v (bV 4 (besR s k)) := by rw [← hW3]; exact (Holds.new' _ _ _ _ hv.symm).drew
      have hB3 : Below u w W3 := by rw [← hW3]; exact (hb.alloc (by omega) _).drew
      rw [hv, hW3]
      clear hW3 hv h0 h1 h2 ha hbn hb l2
      obtain ⟨-, d0⟩ := j0.later
      obtain ⟨-, da⟩ := ja.later
      obtain ⟨-, db⟩ := jb.later
      obtain ⟨r4, -⟩ := j4.later
      have e0 : ∀ w', Below W3.heap.size W3 w' → w'.cell? ⟨u, k, none⟩ = some (.int .u16 ((rowN (dayTo g n s k k) : Nat) : Int)) := fun w' hw => (d0 w' hw k).trans (bV_get 10 _ k hlt)
      have ea : ∀ w', Below W3.heap.size W3 w' → w'.cell? ⟨a, k, none⟩ = some (.int .u16 ((rowN (g k) : Nat) : Int)) := fun w' hw => (da w' hw k).trans (bV_get 10 _ k hlt)
      have eb : ∀ w', Below W3.heap.size W3 w' → w'.cell? ⟨b, 0, none⟩ = some (.int .i64 n) := fun w' hw => (db w' hw 0).trans rfl
      clear d0 da db
      go_wp2
      refine wp_region_grow 12 (by kernel_rfl) (by kernel_rfl) ?_
      simp only [List.take_succ_cons, List.take_zero, List.drop_succ_cons, List.drop_zero]
      iterate 12
        apply wpGrow_plain rfl
        · intro w' hw' K hK
          go_wp2_with (go_at_call 72; refine (HA.out _ _).mono ?_; rintro e w2 ⟨rfl, hb2⟩)
          first | exact hK _ _ rfl hw' | exact hK _ _ rfl (below_onto hw' hb2)
        simp only [Act.put, List.setIfInBounds_toArray, List.set_cons_succ, List.set_cons_zero]
      refine wpGrow_nil ?_
      intro W4 hW4
      have i0 := j0.below hW4 j0.lt
      have i1 := j1.below hW4 j1.lt
      have i2 := j2.below hW4 j2.lt
      have ia := ja.below hW4 ja.lt
      have ib := jb.below hW4 jb.lt
      have hB4 : Below u w W4 := hB3.trans (hW4.mono (by have := j0.lt; omega))
      clear hW4 j0 j1 j2 ja jb j4 r4 e0 ea eb hB3
      obtain ⟨-, -, c0, z0, l0⟩ := i0.facts
      have ck := (c0 k).trans (bV_get 10 _ k hlt)
      have zk := z0 k
      have H0 := Lib.hid (i0.setCell k (.int .u16 ((rowN (fun x => dayTo g n s k k x || (g k x && decide (n ≤ cntJ (besR s k) 4 x))) : Nat) : Int)))
      rw [HD.out k hlt] at H0
      clear c0 z0
      go_wp2
      go_roundw
      case rel => exact ⟨k + 1, by omega, by go_num, hB4.setCell (p := ⟨u, k, none⟩) (by simp) _, H0.out, i1.setCell_other _ _ (by dsimp only; omega), i2.setCell_other _ _ (by dsimp only; omega), ia.setCell_other _ _ (by dsimp only; omega), ib.setCell_other _ _ (by dsimp only; omega)⟩
      case measure => simp [intOf]; omega
    · obtain rfl : k = 10 := by omega
      have hd : decide (((10 : Nat) : Int) < 10) = false := by decide
      rw [dayTo_all] at h0
      obtain ⟨r0, -, -, -, l0⟩ := h0.facts
      obtain ⟨r1, f1, -, z1, l1⟩ := h1.facts
      go_wp2
      exact bodyPost_ret (v := .agg (bV 10 (dayS g n s))) (results_cell_holds rfl wideWd _ rfl (h1.setRow _) (by simp)) rfl ⟨rfl, by rw [HU.out]; exact below_setRow' hb (by omega) _⟩
end Go.Proofs.YtemjppchnhemjaaDoor
