/- Corners at a point, of the program. -/
import Derived.Test.YthpfejbigdjhlaaZC
import Derived.Test.YthpfejbigdjhlaaZD
import Derived.Test.YthpfejbigdjhlaaSideP
namespace Go.Proofs.Ythpfejbigdjhlaa
open Go.RowKit
set_option linter.unusedVariables false
set_option linter.unusedSimpArgs false

/-- The four cells around a point, as they go round it. -/
def roundK (x y : Int) (k : Nat) : Pt := if k = 0 then (x, y) else if k = 1 then (x - 1, y) else if k = 2 then (x - 1, y - 1) else (x, y - 1)
def roundV (x y : Int) : Array Value := #[.int .i8 x, .int .i8 y, .int .i8 (x - 1), .int .i8 y, .int .i8 (x - 1), .int .i8 (y - 1), .int .i8 x, .int .i8 (y - 1)]
def zeroV8 : Array Value := #[.int .i8 0, .int .i8 0, .int .i8 0, .int .i8 0, .int .i8 0, .int .i8 0, .int .i8 0, .int .i8 0]
def boolV (f : Nat → Bool) : Array Value := #[.bool (f 0), .bool (f 1), .bool (f 2), .bool (f 3)]
def boolTo (f : Nat → Bool) (k : Nat) : Nat → Bool := fun j => decide (j < k) && f j
def countTo (f : Nat → Bool) : Nat → Int
  | 0 => 0
  | k + 1 => countTo f k + (if f k then 1 else 0)
theorem countTo_bound (f : Nat → Bool) : ∀ k : Nat, 0 ≤ countTo f k ∧ countTo f k ≤ k
  | 0 => by simp [countTo]
  | k + 1 => by
    have := countTo_bound f k
    simp only [countTo]
    split <;> omega
/-- How many corners there are. -/
def cornZ (f : Nat → Bool) : Int := if countTo f 4 = 1 ∨ countTo f 4 = 3 then 1 else if countTo f 4 = 2 ∧ f 0 = f 2 then 2 else 0
theorem boolV_get (f : Nat → Bool) (k : Nat) (hk : k < 4) : (boolV f)[k]? = some (.bool (f k)) := by
  have : k = 0 ∨ k = 1 ∨ k = 2 ∨ k = 3 := by omega
  rcases this with rfl | rfl | rfl | rfl <;> rfl
theorem boolV_set (f : Nat → Bool) (k : Nat) (hk : k < 4) : (boolV (boolTo f k)).setIfInBounds k (.bool (f k)) = boolV (boolTo f (k + 1)) := by
  have : k = 0 ∨ k = 1 ∨ k = 2 ∨ k = 3 := by omega
  rcases this with rfl | rfl | rfl | rfl <;> simp [boolV, boolTo]
theorem boolV_zero (f : Nat → Bool) : boolV (boolTo f 0) = boolV fun _ => false := by simp [boolV, boolTo]
theorem boolV_all (f : Nat → Bool) : boolV (boolTo f 4) = boolV f := by simp [boolV, boolTo]
@[simp, go_sem] theorem roundV_size (x y : Int) : (roundV x y).size = 8 := rfl
theorem roundV_all' (x y : Int) (n : Nat) (h : n = (roundV x y).size) : (roundV x y).extract 0 n = roundV x y := by subst h; exact Array.extract_size
@[go_sem] theorem roundV_ones (x y : Int) : Ones (roundV x y) = true := by
  refine of_ones fun v hv => ?_
  simp only [roundV, List.mem_cons, List.not_mem_nil, or_false] at hv
  rcases hv with rfl | rfl | rfl | rfl | rfl | rfl | rfl | rfl <;> rfl
@[go_sem] theorem wideR4 : wideB Try.prog 115 8 = true := by kernel_rfl
section
variable (ρ : Operand → Value) (dst : Option Tmp) (x y : Operand) (t : TypeId) (pos : String) (aft : Array Edge) (g : Option (Nat × Bool)) (w : World)
theorem loadR4 : (execOp ρ ⟨dst, .load 115 x, t, pos, aft, g⟩).run Try.prog w = opLoad Try.prog 115 8 (ρ x) w := rfl
theorem storeR4 : (execOp ρ ⟨dst, .store 115 x y, t, pos, aft, g⟩).run Try.prog w = opStore Try.prog 115 8 (ρ x) (ρ y) w := rfl
theorem allocR4 : (execOp ρ ⟨dst, .alloc 115, t, pos, aft, g⟩).run Try.prog w = .ok (.value (.pointer (some ⟨w.heap.size, 0, none⟩))) (w.alloc (.cells zeroV8 115)) := by kernel_rfl
theorem allocB4 : (execOp ρ ⟨dst, .alloc 116, t, pos, aft, g⟩).run Try.prog w = .ok (.value (.pointer (some ⟨w.heap.size, 0, none⟩))) (w.alloc (.cells (boolV fun _ => false) 116)) := by kernel_rfl
theorem buildR4 (a b c d : Operand) : (execOp ρ ⟨dst, .build 115 #[(0, a), (1, b), (2, c), (3, d)], t, pos, aft, g⟩).run Try.prog w = opBuild Try.prog 115 #[(0, ρ a), (1, ρ b), (2, ρ c), (3, ρ d)] w := by kernel_rfl
end
@[go_sem] theorem buildR4_at (x y : Int) (w : World) : opBuild Try.prog 115 #[(0, .agg #[.int .i8 x, .int .i8 y]), (1, .agg #[.int .i8 (x - 1), .int .i8 y]), (2, .agg #[.int .i8 (x - 1), .int .i8 (y - 1)]), (3, .agg #[.int .i8 x, .int .i8 (y - 1)])] w = .ok (.value (.agg (roundV x y))) w := opBuild_of (by kernel_rfl) w
@[go_sem] theorem store_R4 (g : Nat) (x y : Int) (w : World) : opStoreRow Try.prog 115 8 g 0 zeroV8 true (roundV x y) w = .ok .skip (w.setRow g (roundV x y)) := by
  rw [opStoreRow_at _ _ _ _ _ _ _ _ wideR4 rfl (roundV_ones x y) (Nat.le_refl 8), show splice zeroV8 0 (roundV x y) = roundV x y from splice_all _ _ rfl]
@[go_sem] theorem load_R4 (g : Nat) (x y : Int) (w : World) : opLoadRow Try.prog 115 8 g 0 (roundV x y) w = .ok (.value (.agg (roundV x y))) w := by
  rw [opLoadRow_at _ _ _ _ _ _ _ wideR4 (Nat.le_refl 8)]
  rw [Nat.zero_add, roundV_all' x y 8 rfl]
theorem round_index0 (x y : Int) (w : World) : (Instr.index 115 (.agg (roundV x y)) (.int .i64 ((0 : Nat) : Int))).run Try.prog w = .ok (.agg #[.int .i8 x, .int .i8 y]) w := by kernel_rfl
theorem round_index1 (x y : Int) (w : World) : (Instr.index 115 (.agg (roundV x y)) (.int .i64 ((1 : Nat) : Int))).run Try.prog w = .ok (.agg #[.int .i8 (x - 1), .int .i8 y]) w := by kernel_rfl
theorem round_index2 (x y : Int) (w : World) : (Instr.index 115 (.agg (roundV x y)) (.int .i64 ((2 : Nat) : Int))).run Try.prog w = .ok (.agg #[.int .i8 (x - 1), .int .i8 (y - 1)]) w := by kernel_rfl
theorem round_index3 (x y : Int) (w : World) : (Instr.index 115 (.agg (roundV x y)) (.int .i64 ((3 : Nat) : Int))).run Try.prog w = .ok (.agg #[.int .i8 x, .int .i8 (y - 1)]) w := by kernel_rfl
theorem round_index (x y : Int) (k : Nat) (hk : k < 4) (w : World) : (Instr.index 115 (.agg (roundV x y)) (.int .i64 k)).run Try.prog w = .ok (.agg #[.int .i8 (roundK x y k).1, .int .i8 (roundK x y k).2]) w := by
  have : k = 0 ∨ k = 1 ∨ k = 2 ∨ k = 3 := by omega
  rcases this with rfl | rfl | rfl | rfl
  · exact round_index0 x y w
  · exact round_index1 x y w
  · exact round_index2 x y w
  · exact round_index3 x y w
attribute [local go_sem ↓] loadRow loadGrid loadLawn loadMirror storeRow storeGrid storeLawn allocRow allocGrid allocLawn buildZero buildSides loadR4 storeR4 allocR4 allocB4 buildR4

set_option maxRecDepth 100000 in
set_option maxHeartbeats 4000000 in
theorem cornersAt_any (L : Lawn) (hv : validB L = true) (hL : L.Fits) (x y : Int) (x0 : 0 ≤ x) (x1 : x ≤ 10) (y0 : 0 ≤ y) (y1 : y ≤ 10) (w : World) :
    Calls Try.prog 63 #[.agg L.cells, .agg #[.int .i8 x, .int .i8 y]] w fun e w' => e = .returned (.int .i64 (cornZ fun k => grassB L (roundK x y k).1 (roundK x y k).2)) ∧ Below w.heap.size w w' := by
  obtain ⟨f, hf⟩ : ∃ f : Nat → Bool, (fun k => grassB L (roundK x y k).1 (roundK x y k).2) = f := ⟨_, rfl⟩
  rw [hf]
  have HG := Lib.hid (show ∀ (k : Nat) (w : World), Calls Try.prog 86 #[.agg L.cells, .agg #[.int .i8 (roundK x y k).1, .int .i8 (roundK x y k).2]] w fun e w' => e = .returned (.bool (f k)) ∧ Below w.heap.size w w' from fun k w => by
    rw [← hf]
    exact isGrass_any L hv hL _ _ w)
  clear hv hL hf
  go_enter Try.func63, Try.ntmps63
  obtain ⟨g0, c0, hb0⟩ := cell_new w L x y
  obtain ⟨W0, hW0⟩ : ∃ W0, (w.alloc (.cells L.cells 31)).alloc (.cells #[.int .i8 x, .int .i8 y] 40) = W0 := ⟨_, rfl⟩
  rw [hW0] at g0 c0 hb0
  go_wp2_with fail
  clear hW0
  obtain ⟨-, s0⟩ := c0.later
  refine wp_region_make 9 rfl rfl (by kernel_rfl) (by kernel_rfl) (by kernel_rfl) ?_
  simp only [List.take_succ_cons, List.take_zero, List.drop_succ_cons, List.drop_zero]
  iterate 9
    apply wpGrowB_plain rfl
    · intro w' hw' K hK
      have s1 := s0 _ hw'
      go_wp2_with (first | (go_at_call 94; refine (west_any _ _ (by omega) (by omega) _).mono ?_; rintro e w1 ⟨rfl, hb1⟩) | (go_at_call 95; refine (north_any _ _ (by omega) (by omega) _).mono ?_; rintro e w1 ⟨rfl, hb1⟩))
      first | exact hK _ _ rfl (Below.refl _ _) | exact hK _ _ rfl hb1
    simp only [Act.put, List.setIfInBounds_toArray, List.set_cons_succ, List.set_cons_zero]
  refine wpGrowB_nil ⟨fun g => .pointer (some ⟨g, 0, none⟩), .cells zeroV8 115, fun w1 hw1 K hK => ?_, ?_⟩
  · go_wp2_with fail
    exact hK _ _ rfl rfl
  intro p W2 hp hW2 hobj
  have h1 : Holds W2 p zeroV8 := ⟨_, hobj⟩
  have hb2 := below_onto hb0 hW2
  have g2 := g0.below hW2 g0.lt
  have hgp : w.heap.size < p := Nat.lt_of_lt_of_le g0.lt hp
  clear hW2 g0 c0 s0 hb0 hobj hp
  obtain ⟨rp, fp, -, -, lp⟩ := h1.facts
  simp only [Act.put, List.setIfInBounds_toArray, List.set_cons_succ, List.set_cons_zero]
  have h2 := h1.setRow (roundV x y)
  have g3 := g2.setRow_other (roundV x y) (k := p) (by omega)
  have hb3 := below_setRow' hb2 (g := p) (by omega) (roundV x y)
  obtain ⟨W3, hW3⟩ : ∃ W3, W2.setRow p (roundV x y) = W3 := ⟨_, rfl⟩
  rw [hW3] at h2 g3 hb3
  have q1 := h2.alloc (.cells (boolV fun _ => false) 116)
  have q2 := g3.alloc (.cells (boolV fun _ => false) 116)
  have q3 := Holds.new W3 (boolV fun _ => false) 116
  have hb4 := hb3.alloc hb3.size (.cells (boolV fun _ => false) 116)
  obtain ⟨r1, -, -, -, -⟩ := q1.facts
  clear h1 g2 hb2
  go_wp2_with fail
  obtain ⟨W4, hW4⟩ : ∃ W4, W3.alloc (.cells (boolV fun _ => false) 116) = W4 := ⟨_, rfl⟩
  rw [hW4] at q1 q2 q3 hb4 ⊢
  obtain ⟨m, hm⟩ : ∃ m, W3.heap.size = m := ⟨_, rfl⟩
  obtain ⟨s, hs⟩ : ∃ s, w.heap.size = s := ⟨_, rfl⟩
  have hsm : s < m := by have := g3.lt; omega
  have HS := Lib.hid hs
  rw [hm] at q3
  rw [hs] at q2 hb4
  try rw [hm]
  try rw [hs]
  clear hW3 hW4 h2 g3 hb3 r1 rp fp lp hgp hm hs q1
  go_loopw [7, 20] (fun c q wr => ∃ k : Nat, k ≤ 4 ∧ q = .int .i64 k ∧ c = .int .i64 (countTo f k) ∧ Holds wr m (boolV (boolTo f k)) ∧ Holds wr s L.cells ∧ Below s w wr) (fun _ q _ => 4 - (intOf q).toNat)
  case atStart => exact ⟨0, by omega, rfl, rfl, by rw [boolV_zero]; exact q3, q2, hb4⟩
  case round =>
    obtain ⟨k, hk, rfl, rfl, k0, k1, hb⟩ := hrel
    clear q3 q2 hb4
    by_cases hlt : k < 4
    · have hd : decide ((k : Int) < (4 : Int)) = true := by simp; omega
      have hix := round_index x y k hlt
      have bc := countTo_bound f k
      have HGk := Lib.hid (HG.out k)
      have HCT := Lib.hid (show countTo f (k + 1) = countTo f k + (if f k then 1 else 0) from rfl)
      have HBS := Lib.hid (boolV_set f k hlt)
      obtain ⟨rx, hrx⟩ : ∃ rx, (roundK x y k).1 = rx := ⟨_, rfl⟩
      obtain ⟨ry, hry⟩ : ∃ ry, (roundK x y k).2 = ry := ⟨_, rfl⟩
      obtain ⟨v, hfv⟩ : ∃ v, f k = v := ⟨_, rfl⟩
      rw [hrx, hry] at hix HGk
      rw [hfv] at HGk HCT HBS
      clear hrx hry hfv
      obtain ⟨c, hc⟩ : ∃ c, countTo f k = c := ⟨_, rfl⟩
      rw [hc] at bc HCT
      have hszm := k0.lt
      have c0 := Holds.new wr #[.int .i8 rx, .int .i8 ry] 40
      have j0 := k0.alloc (.cells #[.int .i8 rx, .int .i8 ry] 40)
      have j1 := k1.alloc (.cells #[.int .i8 rx, .int .i8 ry] 40)
      have hb5 := hb.alloc (by omega) (.cells #[.int .i8 rx, .int .i8 ry] 40)
      obtain ⟨r1, -, -, -, -⟩ := j1.facts
      obtain ⟨-, -, d1, -, -⟩ := c0.facts
      clear k0 k1 hb
      go_wp2_with fail
      refine (HGk.out _).mono ?_
      rintro e w5 ⟨rfl, hb1⟩
      have p0 := j0.below hb1 j0.lt
      have p1 := j1.below hb1 j1.lt
      have hb6 := hb5.trans (hb1.mono (by simp; omega))
      clear j0 j1 hb5 hb1 r1 d1 c0
      have cb : w5.cell? ⟨m, k, none⟩ = some (.bool (boolTo f k k)) := (p0.cell k).trans (boolV_get _ k hlt)
      obtain ⟨-, -, -, fr, hl⟩ := p0.facts
      have hwr : IntKind.i64.wrap (c + 1) = c + 1 := IntWalk.i64_in _ (by omega)
      cases v
      all_goals
        go_wp2_with fail
        go_roundw
        case rel =>
          refine ⟨k + 1, by omega, by go_num, by rw [HCT.out]; simp, ?_, p1.setCell_other _ _ (by dsimp only; omega), hb6.setCell (p := ⟨m, k, none⟩) (by dsimp only; omega) _⟩
          rw [← HBS.out]
          exact p0.setCell k _
        case measure => simp [intOf]; omega
    · obtain rfl : k = 4 := by omega
      have hd : decide (((4 : Nat) : Int) < (4 : Int)) = false := by decide
      rw [boolV_all] at k0
      have c0 : wr.cell? ⟨m, 0, none⟩ = some (.bool (f 0)) := (k0.cell 0).trans (boolV_get _ 0 (by omega))
      have c2 : wr.cell? ⟨m, 2, none⟩ = some (.bool (f 2)) := (k0.cell 2).trans (boolV_get _ 2 (by omega))
      have hl := k0.lt
      have HC : Hid (cornZ f = if countTo f 4 = 1 ∨ countTo f 4 = 3 then 1 else if countTo f 4 = 2 ∧ f 0 = f 2 then 2 else 0) := Lib.hid rfl
      obtain ⟨c, hc⟩ : ∃ c, countTo f 4 = c := ⟨_, rfl⟩
      obtain ⟨a, ha⟩ : ∃ a, f 0 = a := ⟨_, rfl⟩
      obtain ⟨b, hb'⟩ : ∃ b, f 2 = b := ⟨_, rfl⟩
      rw [hc, ha, hb'] at HC
      rw [hc]
      rw [ha] at c0
      rw [hb'] at c2
      clear k0 k1 hc ha hb'
      have hB : Below w.heap.size w wr := HS.out ▸ hb
      clear hb
      by_cases h1 : c = 1
      · have e1 : ((c : Int) == 1) = true := by simp [h1]
        have HR := Lib.hid (show cornZ f = 1 by rw [HC.out, if_pos (Or.inl h1)])
        clear HC h1 HG
        go_wp2_with fail
        go_ret
        exact ⟨by rw [HR.out]; rfl, hB⟩
      have e1 : ((c : Int) == 1) = false := by simp [h1]
      by_cases h3 : c = 3
      · have e3 : ((c : Int) == 3) = true := by simp [h3]
        have HR := Lib.hid (show cornZ f = 1 by rw [HC.out, if_pos (Or.inr h3)])
        clear HC h1 h3 HG
        go_wp2_with fail
        go_ret
        exact ⟨by rw [HR.out]; rfl, hB⟩
      have e3 : ((c : Int) == 3) = false := by simp [h3]
      by_cases h2 : c = 2
      · have e2 : ((c : Int) == 2) = true := by simp [h2]
        have HR := Lib.hid (show cornZ f = if a = b then 2 else 0 by rw [HC.out, if_neg (by omega)]; simp [h2])
        clear HC h1 h3 h2 HG
        cases a <;> cases b
        all_goals
          go_wp2_with fail
          go_ret
          exact ⟨by rw [HR.out]; rfl, hB⟩
      · have e2 : ((c : Int) == 2) = false := by simp [h2]
        have HR := Lib.hid (show cornZ f = 0 by rw [HC.out, if_neg (by omega), if_neg (fun h => h2 h.1)])
        clear HC h1 h3 h2 HG
        go_wp2_with fail
        go_ret
        exact ⟨by rw [HR.out]; rfl, hB⟩
end Go.Proofs.Ythpfejbigdjhlaa
