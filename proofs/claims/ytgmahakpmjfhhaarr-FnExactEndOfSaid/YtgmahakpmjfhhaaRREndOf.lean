/- EndOf, of the program and of the model. -/
import Derived.Test.YtgmahakpmjfhhaaRRSGone
import Derived.Test.YtgmahakpmjfhhaaRREqCellS
import Derived.Test.YtgmahakpmjfhhaaRRGrowA
import Derived.Test.YtgmahakpmjfhhaaRRAt
namespace Go.Proofs.YtgmahakpmjfhhaaRR
open Go.RowKit
set_option linter.unusedVariables false
attribute [local go_sem ↓] loadRow loadGrid loadLawn loadMirror storeRow storeGrid storeLawn allocRow allocGrid allocLawn buildZero buildSides

/-- Where a way ends, and its code. -/
def endX (L : Lawn) (x y : Int) (s : ByteArray) (n : Nat) : Int := if alongC L x y s n = 0 then (posK (x, y) s.data.toList s.size).1 else 0
def endY (L : Lawn) (x y : Int) (s : ByteArray) (n : Nat) : Int := if alongC L x y s n = 0 then (posK (x, y) s.data.toList s.size).2 else 0

theorem cell_new2 (w : World) (L : Lawn) (x y : Int) : Holds (((w.alloc (.cells L.cells 28)).alloc (.cells #[.int .i8 x, .int .i8 y] 35)).alloc (.cells #[.int .i8 0, .int .i8 0] 35)) w.heap.size L.cells ∧ Holds (((w.alloc (.cells L.cells 28)).alloc (.cells #[.int .i8 x, .int .i8 y] 35)).alloc (.cells #[.int .i8 0, .int .i8 0] 35)) (w.heap.size + 1) #[.int .i8 x, .int .i8 y] ∧ Holds (((w.alloc (.cells L.cells 28)).alloc (.cells #[.int .i8 x, .int .i8 y] 35)).alloc (.cells #[.int .i8 0, .int .i8 0] 35)) (w.heap.size + 1 + 1) #[.int .i8 0, .int .i8 0] ∧ Below w.heap.size w (((w.alloc (.cells L.cells 28)).alloc (.cells #[.int .i8 x, .int .i8 y] 35)).alloc (.cells #[.int .i8 0, .int .i8 0] 35)) :=
  ⟨((Holds.new _ _ _).alloc _).alloc _, (Holds.new' _ _ _ _ (by simp)).alloc _, Holds.new' _ _ _ _ (by simp), (((Below.refl _ _).alloc (Nat.le_refl _) _).alloc (by simp) _).alloc (by simp; omega) _⟩

@[go_sem] theorem wideCell : wideB Try.prog 35 2 = true := by kernel_rfl
section
variable (ρ : Operand → Value) (dst : Option Tmp) (x y : Operand) (t : TypeId) (pos : String) (aft : Array Edge) (g : Option (Nat × Bool)) (w : World)
theorem storeCell : (execOp ρ ⟨dst, .store 35 x y, t, pos, aft, g⟩).run Try.prog w = opStore Try.prog 35 2 (ρ x) (ρ y) w := rfl
end
@[go_sem] theorem opStoreCell_at (g : Nat) (a b : Value) (x y : Int) (w : World) : opStoreRow Try.prog 35 2 g 0 #[a, b] true #[.int .i8 x, .int .i8 y] w = .ok .skip (w.setRow g #[.int .i8 x, .int .i8 y]) := by
  rw [opStoreRow_at _ _ _ _ _ _ _ _ wideCell rfl (by simp [Ones, Value.oneCell']) (by simp)]
  rfl
attribute [local go_sem ↓] storeCell

set_option maxRecDepth 100000 in
set_option maxHeartbeats 1000000 in
theorem implEnd_any (L : Lawn) (hL : L.Fits) (x y : Int) (s : ByteArray) (hs : s.size ≤ maxLen) (n : Nat) (hn : Goes L x y s n) (w : World) :
    Calls Try.prog 39 #[.agg L.cells, .agg #[.int .i8 x, .int .i8 y], .string s] w fun e w' => e = .returned (.tuple #[.agg #[.int .i8 (endX L x y s n), .int .i8 (endY L x y s n)], .int .i64 (alongC L x y s n)]) ∧ Below w.heap.size w w' := by
  have HA := Lib.hid (fun w => along_any L hL x y s hs n hn w)
  obtain ⟨c, hc⟩ : ∃ c, alongC L x y s n = c := ⟨_, rfl⟩
  have HM := Lib.hid (show alongM L x y s n = if c = 0 then s.size + 1 else 0 by unfold alongM; rw [hc])
  have HX := Lib.hid (show alongX L x y s n = if c = 0 then flatP (cellsK (x, y) s.data.toList (s.size + 1)) else [] by unfold alongX; rw [hc])
  have HE := Lib.hid (show endX L x y s n = (if c = 0 then (posK (x, y) s.data.toList s.size).1 else 0) ∧ endY L x y s n = (if c = 0 then (posK (x, y) s.data.toList s.size).2 else 0) by unfold endX endY; rw [hc]; exact ⟨rfl, rfl⟩)
  have hsz : c = 0 → s.size ≤ 200 := fun h => by
    have := (alongC_zero (hc.trans h)).2.2.1
    unfold wayC at this
    split at this <;> omega
  rw [hc] at HA ⊢
  have HSZ := Lib.hid hsz
  clear hc hn hs hL hsz
  go_enter Try.func39, Try.ntmps39
  obtain ⟨g0, c0, z0, hb0⟩ := cell_new2 w L x y
  obtain ⟨-, -, d0, -, -⟩ := c0.facts
  go_wp2_with fail
  refine (HA.out _).mono ?_
  rintro e w1 ⟨⟨v, rfl, ho⟩, hb1⟩
  have hb2 := below_onto hb0 hb1
  have z1 := z0.below hb1 z0.lt
  have HO := Lib.hid ho
  clear g0 c0 d0 z0 hb0 hb1 ho
  obtain ⟨rz, fz, -, -, lz⟩ := z1.facts
  by_cases h0 : c = 0
  · have hm := HM.out
    rw [if_pos h0] at hm
    have hx := HX.out
    rw [if_pos h0] at hx
    have hO2 := HO.out
    rw [hm, hx] at hO2
    obtain ⟨g, cap, rfl, hg0, hg1⟩ := own_form hO2 (by omega)
    obtain ⟨fa, fb⟩ := flatP_get (cellsK (x, y) s.data.toList (s.size + 1)) s.size _ (cellsK_get (by omega))
    have ca := own_cell hO2 _ _ fa
    have cb := own_cell hO2 _ _ fb
    have he := HE.out
    rw [if_pos h0, if_pos h0] at he
    have hb := HSZ.out h0
    obtain ⟨px, hpx⟩ : ∃ px, (posK (x, y) s.data.toList s.size).1 = px := ⟨_, rfl⟩
    obtain ⟨py, hpy⟩ : ∃ py, (posK (x, y) s.data.toList s.size).2 = py := ⟨_, rfl⟩
    rw [hpx, hpy] at he
    rw [hpx] at ca
    rw [hpy] at cb
    have HE2 := Lib.hid he
    subst h0
    have HO3 := Lib.hid hO2
    have hwr : wrap64 (s.size : Int) = s.size := by unfold wrap64; omega
    clear fa fb he hpx hpy hm hx hO2 HO HE HM HX HA HSZ
    go_wp2_with fail
    refine bodyPost_ret (results_cell_tmp_holds rfl wideCell _ rfl (z1.setRow _) (by simp)) rfl ⟨by rw [HE2.out.1, HE2.out.2]; rfl, below_setRow' hb2 (by omega) _⟩
  · have he := HE.out
    rw [if_neg h0, if_neg h0] at he
    have HE2 := Lib.hid he
    have h1 : (c != 0) = true := by simpa [bne] using h0
    clear he h0 HE HM HX HA HSZ HO
    go_wp2_with fail
    refine bodyPost_ret (results_cell_tmp_holds rfl wideCell _ rfl (z1.setRow _) (by simp)) rfl ⟨by rw [HE2.out.1, HE2.out.2]; rfl, below_setRow' hb2 (by omega) _⟩
set_option maxRecDepth 100000 in
set_option maxHeartbeats 1000000 in
theorem specEnd_any (L : Lawn) (hL : L.Fits) (x y : Int) (x0 : -128 ≤ x) (x1 : x ≤ 127) (y0 : -128 ≤ y) (y1 : y ≤ 127) (s : ByteArray) (hs : s.size ≤ maxLen) (n : Nat) (hn : Goes L x y s n) (w : World) :
    Calls Try.prog 40 #[.agg L.cells, .agg #[.int .i8 x, .int .i8 y], .string s] w fun e w' => e = .returned (.tuple #[.agg #[.int .i8 (endX L x y s n), .int .i8 (endY L x y s n)], .int .i64 (alongC L x y s n)]) ∧ Below w.heap.size w w' := by
  have HA := Lib.hid (fun (w' : World) (h : Holds w' w.heap.size L.cells) => l02Gone_any L hL w.heap.size x y x0 x1 y0 y1 s hs n hn w' h)
  obtain ⟨c, hc⟩ : ∃ c, alongC L x y s n = c := ⟨_, rfl⟩
  have HM := Lib.hid (show alongM L x y s n = if c = 0 then s.size + 1 else 0 by unfold alongM; rw [hc])
  have HX := Lib.hid (show alongX L x y s n = if c = 0 then flatP (cellsK (x, y) s.data.toList (s.size + 1)) else [] by unfold alongX; rw [hc])
  have HE := Lib.hid (show endX L x y s n = (if c = 0 then (posK (x, y) s.data.toList s.size).1 else 0) ∧ endY L x y s n = (if c = 0 then (posK (x, y) s.data.toList s.size).2 else 0) by unfold endX endY; rw [hc]; exact ⟨rfl, rfl⟩)
  have hsz : c = 0 → s.size ≤ 200 := fun h => by
    have := (alongC_zero (hc.trans h)).2.2.1
    unfold wayC at this
    split at this <;> omega
  rw [hc] at HA ⊢
  have HSZ := Lib.hid hsz
  clear hc hn hs hL hsz
  go_enter Try.func40, Try.ntmps40
  obtain ⟨g0, c0, z0, hb0⟩ := cell_new2 w L x y
  obtain ⟨-, -, d0, -, -⟩ := c0.facts
  go_wp2_with fail
  refine (HA.out _ g0).mono ?_
  rintro e w1 ⟨⟨v, rfl, ho⟩, hb1⟩
  have hb2 := below_onto hb0 hb1
  have z1 := z0.below hb1 z0.lt
  have HO := Lib.hid ho
  clear g0 c0 d0 z0 hb0 hb1 ho
  obtain ⟨rz, fz, -, -, lz⟩ := z1.facts
  by_cases h0 : c = 0
  · have hm := HM.out
    rw [if_pos h0] at hm
    have hx := HX.out
    rw [if_pos h0] at hx
    have hO2 := HO.out
    rw [hm, hx] at hO2
    obtain ⟨g, cap, rfl, hg0, hg1⟩ := own_form hO2 (by omega)
    obtain ⟨fa, fb⟩ := flatP_get (cellsK (x, y) s.data.toList (s.size + 1)) s.size _ (cellsK_get (by omega))
    have ca := own_cell hO2 _ _ fa
    have cb := own_cell hO2 _ _ fb
    have he := HE.out
    rw [if_pos h0, if_pos h0] at he
    have hb := HSZ.out h0
    obtain ⟨px, hpx⟩ : ∃ px, (posK (x, y) s.data.toList s.size).1 = px := ⟨_, rfl⟩
    obtain ⟨py, hpy⟩ : ∃ py, (posK (x, y) s.data.toList s.size).2 = py := ⟨_, rfl⟩
    rw [hpx, hpy] at he
    rw [hpx] at ca
    rw [hpy] at cb
    have HE2 := Lib.hid he
    subst h0
    have HO3 := Lib.hid hO2
    have hwr : wrap64 (s.size : Int) = s.size := by unfold wrap64; omega
    clear fa fb he hpx hpy hm hx hO2 HO HE HM HX HA HSZ
    go_wp2_with fail
    refine bodyPost_ret (results_cell_tmp_holds rfl wideCell _ rfl (z1.setRow _) (by simp)) rfl ⟨by rw [HE2.out.1, HE2.out.2]; rfl, below_setRow' hb2 (by omega) _⟩
  · have he := HE.out
    rw [if_neg h0, if_neg h0] at he
    have HE2 := Lib.hid he
    have h1 : (c != 0) = true := by simpa [bne] using h0
    clear he h0 HE HM HX HA HSZ HO
    go_wp2_with fail
    refine bodyPost_ret (results_cell_tmp_holds rfl wideCell _ rfl (z1.setRow _) (by simp)) rfl ⟨by rw [HE2.out.1, HE2.out.2]; rfl, below_setRow' hb2 (by omega) _⟩

set_option maxRecDepth 100000 in
set_option maxHeartbeats 2000000 in
theorem exactEndOf_walk (A : Lawn) (x y : Int) (s : ByteArray) (ex ey m : Int)
    (HI : ∀ w : World, Calls Try.prog 39 #[.agg A.cells, .agg #[.int .i8 x, .int .i8 y], .string s] w fun e w' => e = .returned (.tuple #[.agg #[.int .i8 ex, .int .i8 ey], .int .i64 m]) ∧ Below w.heap.size w w')
    (HS : ∀ w : World, Calls Try.prog 40 #[.agg A.cells, .agg #[.int .i8 x, .int .i8 y], .string s] w fun e w' => e = .returned (.tuple #[.agg #[.int .i8 ex, .int .i8 ey], .int .i64 m]) ∧ Below w.heap.size w w') (w : World) :
    Calls Try.prog 10 #[.agg A.cells, .agg #[.int .i8 x, .int .i8 y], .string s] w fun e w' => e = .returned (.bool true) ∧ Below w.heap.size w w' := by
  have HI' := Lib.hid HI
  have HS' := Lib.hid HS
  clear HI HS
  by_cases hl : 1048576 < s.size
  · have hd : decide ((1048576 : Int) < (s.size : Int)) = true := by simp; omega
    go_enter Try.func10, Try.ntmps10
    go_wp2_with fail
    go_ret
    exact ⟨rfl, ((Below.refl w.heap.size w).alloc (Nat.le_refl _) _).alloc (by simp <;> omega) _⟩
  have hd : decide ((1048576 : Int) < (s.size : Int)) = false := by simp; omega
  go_enter Try.func10, Try.ntmps10
  go_wp2_with fail
  have g0 : Holds ((w.alloc (.cells A.cells 75)).alloc (.cells #[.int .i8 x, .int .i8 y] 83)) w.heap.size A.cells := (Holds.new _ _ _).alloc _
  have c0 : Holds ((w.alloc (.cells A.cells 75)).alloc (.cells #[.int .i8 x, .int .i8 y] 83)) (w.heap.size + 1) #[.int .i8 x, .int .i8 y] := Holds.new' _ _ _ _ (by simp)
  have hb : Below w.heap.size w ((w.alloc (.cells A.cells 75)).alloc (.cells #[.int .i8 x, .int .i8 y] 83)) := ((Below.refl _ _).alloc (Nat.le_refl _) _).alloc (by simp) _
  obtain ⟨W, hW⟩ : ∃ W, (w.alloc (.cells A.cells 75)).alloc (.cells #[.int .i8 x, .int .i8 y] 83) = W := ⟨_, rfl⟩
  rw [hW] at g0 c0 hb ⊢
  clear hW
  obtain ⟨r0, -⟩ := g0.later
  obtain ⟨-, s0⟩ := c0.later
  refine wp_region_growA 11 9 10 #[.int .i8 0, .int .i8 0] #[.int .i8 ex, .int .i8 ey] 35 [.agg A.cells, .agg A.cells, .agg #[.int .i8 x, .int .i8 y], .agg #[.int .i8 x, .int .i8 y], .string s, .tuple #[.agg #[.int .i8 ex, .int .i8 ey], .int .i64 m], .tuple #[.agg #[.int .i8 ex, .int .i8 ey], .int .i64 m], .agg #[.int .i8 ex, .int .i8 ey], .int .i64 m] (by kernel_rfl) (by kernel_rfl) (by kernel_rfl) ?_
  intro p
  simp only [List.take_succ_cons, List.take_zero, List.drop_succ_cons, List.drop_zero]
  refine seqA_other (v := .agg A.cells) rfl rfl rfl rfl ?_ ?_
  · intro w' hw' K hK
    go_wp2_with fail
    exact hK _ _ rfl (Below.refl _ _)
  simp only [Act.put, List.setIfInBounds_toArray, List.set_cons_succ, List.set_cons_zero]
  refine seqA_other (v := .agg A.cells) rfl rfl rfl rfl ?_ ?_
  · intro w' hw' K hK
    go_wp2_with (go_at_call 65; refine (toLawn_any _ _).mono ?_; rintro e w1 ⟨rfl, hb1⟩)
    exact hK _ _ rfl hb1
  simp only [Act.put, List.setIfInBounds_toArray, List.set_cons_succ, List.set_cons_zero]
  refine seqA_other (v := .agg #[.int .i8 x, .int .i8 y]) rfl rfl rfl rfl ?_ ?_
  · intro w' hw' K hK
    have s1 := s0 _ hw'
    go_wp2_with fail
    exact hK _ _ rfl (Below.refl _ _)
  simp only [Act.put, List.setIfInBounds_toArray, List.set_cons_succ, List.set_cons_zero]
  refine seqA_other (v := .agg #[.int .i8 x, .int .i8 y]) rfl rfl rfl rfl ?_ ?_
  · intro w' hw' K hK
    go_wp2_with (go_at_call 71; refine (toCell_any _ _ _).mono ?_; rintro e w1 ⟨rfl, hb1⟩)
    exact hK _ _ rfl hb1
  simp only [Act.put, List.setIfInBounds_toArray, List.set_cons_succ, List.set_cons_zero]
  refine seqA_other (v := .string s) rfl rfl rfl rfl ?_ ?_
  · intro w' hw' K hK
    go_wp2_with fail
    exact hK _ _ rfl (Below.refl _ _)
  simp only [Act.put, List.setIfInBounds_toArray, List.set_cons_succ, List.set_cons_zero]
  refine seqA_other (v := .tuple #[.agg #[.int .i8 ex, .int .i8 ey], .int .i64 m]) rfl rfl rfl rfl ?_ ?_
  · intro w' hw' K hK
    go_wp2_with (first | (go_at_call 40; refine (HS'.out _).mono ?_; rintro e w1 ⟨rfl, hb1⟩) | (go_at_call 39; refine (HI'.out _).mono ?_; rintro e w1 ⟨rfl, hb1⟩))
    exact hK _ _ rfl hb1
  simp only [Act.put, List.setIfInBounds_toArray, List.set_cons_succ, List.set_cons_zero]
  refine seqA_other (v := .tuple #[.agg #[.int .i8 ex, .int .i8 ey], .int .i64 m]) rfl rfl rfl rfl ?_ ?_
  · intro w' hw' K hK
    go_wp2_with fail
    exact hK _ _ rfl (Below.refl _ _)
  simp only [Act.put, List.setIfInBounds_toArray, List.set_cons_succ, List.set_cons_zero]
  refine seqA_other (v := .agg #[.int .i8 ex, .int .i8 ey]) rfl rfl rfl rfl ?_ ?_
  · intro w' hw' K hK
    go_wp2_with fail
    exact hK _ _ rfl (Below.refl _ _)
  simp only [Act.put, List.setIfInBounds_toArray, List.set_cons_succ, List.set_cons_zero]
  refine seqA_other (v := .int .i64 m) rfl rfl rfl rfl ?_ ?_
  · intro w' hw' K hK
    go_wp2_with fail
    exact hK _ _ rfl (Below.refl _ _)
  simp only [Act.put, List.setIfInBounds_toArray, List.set_cons_succ, List.set_cons_zero]
  refine seqA_make rfl rfl ?_ ?_
  · rintro w' rfl K hK
    go_wp2_with fail
  simp only [Act.put, List.setIfInBounds_toArray, List.set_cons_succ, List.set_cons_zero]
  refine seqA_store rfl rfl rfl rfl ?_ ?_
  · intro w' hp hH K hK
    have rp := hH.row
    have fp := hH.isFree
    have lp := hH.lt
    go_wp2_with fail
    exact hK
  refine seqA_nil ?_
  intro W2 hp hW2 h1
  have hb2 := below_onto hb hW2
  have g2 := g0.below hW2 g0.lt
  have c2 := c0.below hW2 c0.lt
  have hp1 : w.heap.size ≤ p := Nat.le_trans hb.size hp
  clear hW2 g0 c0 r0 s0 hb hp W
  obtain ⟨q, hq⟩ : ∃ q, p = q := ⟨_, rfl⟩
  rw [hq] at h1 hp1 ⊢
  clear hq p
  obtain ⟨r0, -⟩ := g2.later
  obtain ⟨-, s0⟩ := c2.later
  go_wp2_with fail
  refine wp_region_growA 11 9 10 #[.int .i8 0, .int .i8 0] #[.int .i8 ex, .int .i8 ey] 35 [.agg A.cells, .agg A.cells, .agg #[.int .i8 x, .int .i8 y], .agg #[.int .i8 x, .int .i8 y], .string s, .tuple #[.agg #[.int .i8 ex, .int .i8 ey], .int .i64 m], .tuple #[.agg #[.int .i8 ex, .int .i8 ey], .int .i64 m], .agg #[.int .i8 ex, .int .i8 ey], .int .i64 m] (by kernel_rfl) (by kernel_rfl) (by kernel_rfl) ?_
  intro p
  simp only [List.take_succ_cons, List.take_zero, List.drop_succ_cons, List.drop_zero]
  refine seqA_other (v := .agg A.cells) rfl rfl rfl rfl ?_ ?_
  · intro w' hw' K hK
    go_wp2_with fail
    exact hK _ _ rfl (Below.refl _ _)
  simp only [Act.put, List.setIfInBounds_toArray, List.set_cons_succ, List.set_cons_zero]
  refine seqA_other (v := .agg A.cells) rfl rfl rfl rfl ?_ ?_
  · intro w' hw' K hK
    go_wp2_with (go_at_call 65; refine (toLawn_any _ _).mono ?_; rintro e w1 ⟨rfl, hb1⟩)
    exact hK _ _ rfl hb1
  simp only [Act.put, List.setIfInBounds_toArray, List.set_cons_succ, List.set_cons_zero]
  refine seqA_other (v := .agg #[.int .i8 x, .int .i8 y]) rfl rfl rfl rfl ?_ ?_
  · intro w' hw' K hK
    have s1 := s0 _ hw'
    go_wp2_with fail
    exact hK _ _ rfl (Below.refl _ _)
  simp only [Act.put, List.setIfInBounds_toArray, List.set_cons_succ, List.set_cons_zero]
  refine seqA_other (v := .agg #[.int .i8 x, .int .i8 y]) rfl rfl rfl rfl ?_ ?_
  · intro w' hw' K hK
    go_wp2_with (go_at_call 71; refine (toCell_any _ _ _).mono ?_; rintro e w1 ⟨rfl, hb1⟩)
    exact hK _ _ rfl hb1
  simp only [Act.put, List.setIfInBounds_toArray, List.set_cons_succ, List.set_cons_zero]
  refine seqA_other (v := .string s) rfl rfl rfl rfl ?_ ?_
  · intro w' hw' K hK
    go_wp2_with fail
    exact hK _ _ rfl (Below.refl _ _)
  simp only [Act.put, List.setIfInBounds_toArray, List.set_cons_succ, List.set_cons_zero]
  refine seqA_other (v := .tuple #[.agg #[.int .i8 ex, .int .i8 ey], .int .i64 m]) rfl rfl rfl rfl ?_ ?_
  · intro w' hw' K hK
    go_wp2_with (first | (go_at_call 40; refine (HS'.out _).mono ?_; rintro e w1 ⟨rfl, hb1⟩) | (go_at_call 39; refine (HI'.out _).mono ?_; rintro e w1 ⟨rfl, hb1⟩))
    exact hK _ _ rfl hb1
  simp only [Act.put, List.setIfInBounds_toArray, List.set_cons_succ, List.set_cons_zero]
  refine seqA_other (v := .tuple #[.agg #[.int .i8 ex, .int .i8 ey], .int .i64 m]) rfl rfl rfl rfl ?_ ?_
  · intro w' hw' K hK
    go_wp2_with fail
    exact hK _ _ rfl (Below.refl _ _)
  simp only [Act.put, List.setIfInBounds_toArray, List.set_cons_succ, List.set_cons_zero]
  refine seqA_other (v := .agg #[.int .i8 ex, .int .i8 ey]) rfl rfl rfl rfl ?_ ?_
  · intro w' hw' K hK
    go_wp2_with fail
    exact hK _ _ rfl (Below.refl _ _)
  simp only [Act.put, List.setIfInBounds_toArray, List.set_cons_succ, List.set_cons_zero]
  refine seqA_other (v := .int .i64 m) rfl rfl rfl rfl ?_ ?_
  · intro w' hw' K hK
    go_wp2_with fail
    exact hK _ _ rfl (Below.refl _ _)
  simp only [Act.put, List.setIfInBounds_toArray, List.set_cons_succ, List.set_cons_zero]
  refine seqA_make rfl rfl ?_ ?_
  · rintro w' rfl K hK
    go_wp2_with fail
  simp only [Act.put, List.setIfInBounds_toArray, List.set_cons_succ, List.set_cons_zero]
  refine seqA_store rfl rfl rfl rfl ?_ ?_
  · intro w' hp hH K hK
    have rp := hH.row
    have fp := hH.isFree
    have lp := hH.lt
    go_wp2_with fail
    exact hK
  refine seqA_nil ?_
  intro W3 hp hW3 h3
  have hb3 := below_onto hb2 hW3
  have h2 := h1.below hW3 h1.lt
  clear hW3 r0 s0 g2 c2 HI' HS' hb2 h1
  obtain ⟨-, -, da, -, la⟩ := h2.facts
  obtain ⟨-, -, db, -, lb⟩ := h3.facts
  go_wp2_with fail
  refine (eqCell_same _ _ _).mono ?_
  rintro e w3 ⟨rfl, hb4⟩
  go_wp2_with fail
  go_ret
  exact ⟨rfl, below_onto hb3 hb4⟩

/-- The law on EndOf answers true. -/
theorem exactEndOf (A : Lawn) (hA : A.Fits) (c : Int × Int) (hc : (-128 ≤ c.1 ∧ c.1 ≤ 127) ∧ -128 ≤ c.2 ∧ c.2 ≤ 127) (s : ByteArray) (hs : s.size ≤ maxLen) (w : World) :
    Calls Try.prog 10 #[.agg A.cells, .agg #[.int .i8 c.1, .int .i8 c.2], .string s] w fun e w' => e = .returned (.bool true) ∧ Below w.heap.size w w' := by
  obtain ⟨n, hn⟩ := gone_ex (fun j => openP A (posK (c.1, c.2) s.data.toList j)) s.size
  exact exactEndOf_walk A c.1 c.2 s (endX A c.1 c.2 s n) (endY A c.1 c.2 s n) (alongC A c.1 c.2 s n) (implEnd_any A hA c.1 c.2 s hs n hn) (specEnd_any A hA c.1 c.2 hc.1.1 hc.1.2 hc.2.1 hc.2.2 s hs n hn) w
end Go.Proofs.YtgmahakpmjfhhaaRR
