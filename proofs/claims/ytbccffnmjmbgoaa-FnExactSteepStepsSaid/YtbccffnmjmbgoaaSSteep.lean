/- SteepSteps of the model. -/
import Derived.Test.YtbccffnmjmbgoaaSteep
import Derived.Test.YtbccffnmjmbgoaaHills
import Derived.Test.YtbccffnmjmbgoaaZD
namespace Go.Proofs.Ytbccffnmjmbgoaa
open Go.RowKit
set_option linter.unusedVariables false
set_option linter.unusedSimpArgs false
attribute [local go_sem ↓] loadRow loadGrid loadLawn loadMirror storeRow storeGrid storeLawn allocRow allocGrid allocLawn buildZero buildSides loadR8 loadL8 loadLv storeR8 storeLv allocR8 allocLv buildZLv storeCl

theorem max_is (a b : Int) (c : Int) (h : (if b < a then a else b) = c) (w : World) :
    Calls Try.prog 60 #[.int .i64 a, .int .i64 b] w fun e w' => e = .returned (.int .i64 c) ∧ w' = w := by
  by_cases h1 : b < a
  · rw [if_pos h1] at h
    subst h
    have hd : decide (b < a) = true := by simpa using h1
    go_enter Try.func60, Try.ntmps60
    go_wp2
    go_ret
    exact ⟨rfl, rfl⟩
  · rw [if_neg h1] at h
    subst h
    have hd : decide (b < a) = false := by simpa using h1
    go_enter Try.func60, Try.ntmps60
    go_wp2
    go_ret
    exact ⟨rfl, rfl⟩

set_option maxRecDepth 100000 in
set_option maxHeartbeats 1000000 in
theorem l06Far_any (g : Nat → Nat → Int) (b x y x' y' : Nat) (hx : x < 10) (hy : y < 10) (hx' : x' < 10) (hy' : y' < 10) (hg : -9 ≤ g y x ∧ g y x ≤ 9) (hg' : -9 ≤ g y' x' ∧ g y' x' ≤ 9) (w : World) (h : Holds w b (levV g)) :
    Calls Try.prog 56 #[.pointer (some ⟨b, 0, none⟩), .agg #[.int .i8 x, .int .i8 y], .agg #[.int .i8 x', .int .i8 y']] w fun e w' => e = .returned (.int .i64 (farZ (g y x) (g y' x'))) ∧ Below w.heap.size w w' := by
  have HN := Lib.hid (fun w h => l06At_any g b x y hx hy (by omega) w h)
  have HN2 := Lib.hid (fun w h => l06At_any g b x' y' hx' hy' (by omega) w h)
  have c0 := (Holds.new w #[.int .i8 x, .int .i8 y] 44).alloc (.cells #[.int .i8 x', .int .i8 y'] 44)
  have c1 := Holds.new' (w.alloc (.cells #[.int .i8 x, .int .i8 y] 44)) #[.int .i8 x', .int .i8 y'] 44 (w.heap.size + 1) (by simp)
  have b1 := (h.alloc (.cells #[.int .i8 x, .int .i8 y] 44)).alloc (.cells #[.int .i8 x', .int .i8 y'] 44)
  have hb0 := ((Below.refl w.heap.size w).alloc (Nat.le_refl _) (.cells #[.int .i8 x, .int .i8 y] 44)).alloc (by simp) (.cells #[.int .i8 x', .int .i8 y'] 44)
  obtain ⟨W0, hW0⟩ : ∃ W0, (w.alloc (.cells #[.int .i8 x, .int .i8 y] 44)).alloc (.cells #[.int .i8 x', .int .i8 y'] 44) = W0 := ⟨_, rfl⟩
  rw [hW0] at c0 b1 c1 hb0
  have hw : IntKind.i64.wrap (g y x - g y' x') = g y x - g y' x' := IntWalk.i64_in _ (by omega)
  have hn : IntKind.i64.wrap (-(g y x - g y' x')) = -(g y x - g y' x') := IntWalk.i64_in _ (by omega)
  have HM := Lib.hid (max_is (g y x - g y' x') (-(g y x - g y' x')) (farZ (g y x) (g y' x')) (by unfold farZ; split <;> split <;> omega))
  go_enter Try.func56, Try.ntmps56
  go_wp2_with fail
  clear hW0
  obtain ⟨-, s0⟩ := c0.later
  obtain ⟨-, s1⟩ := c1.later
  refine wp_region_grow 7 (by kernel_rfl) (by kernel_rfl) ?_
  simp only [List.take_succ_cons, List.take_zero, List.drop_succ_cons, List.drop_zero]
  iterate 7
    apply wpGrow_plain rfl
    · intro w' hw' K hK
      have e0 := s0 _ hw'
      have e1 := s1 _ hw'
      have e2 := b1.below hw' b1.lt
      go_wp2_with (first | (go_at_call 47; with_reducible refine (HN.out _ e2).mono ?_; rintro e w1 ⟨rfl, hb1⟩) | (go_at_call 47; with_reducible refine (HN2.out _ e2).mono ?_; rintro e w1 ⟨rfl, hb1⟩))
      first | exact hK _ _ rfl hw' | exact hK _ _ rfl (below_onto hw' hb1)
    simp only [Act.put, List.setIfInBounds_toArray, List.set_cons_succ, List.set_cons_zero]
  refine wpGrow_nil ?_
  intro W1 hW
  have hb2 := below_onto hb0 hW
  clear s0 s1 b1 c1 c0 hW hb0
  go_wp2_with (go_at_call 60; refine (HM.out _).mono ?_; rintro e w2 ⟨rfl, hw2⟩; rw [hw2]; clear hw2)
  go_ret
  exact ⟨rfl, hb2⟩

theorem stepN_bare {L : Lawn} (g : Nat → Nat → Int) (z : Int) {x y : Nat} (h : grassB L x y = false) : stepN L g z x y = 0 := by
  unfold stepN ssB
  rw [h]; rfl
theorem steepL_filter {W H : Nat} (L : Lawn) (g : Nat → Nat → Int) (z : Int) (l : List (Fin W × Fin H)) : steepL L g z (l.filter fun c => L.kind c.2 c.1 == 0) = steepL L g z l := by
  induction l with
  | nil => rfl
  | cons c l ih =>
    cases hk : (L.kind c.2 c.1 == 0) with
    | true =>
      rw [List.filter_cons_of_pos (by simpa using hk)]
      simp only [steepL, List.map_cons, List.sum_cons] at ih ⊢
      rw [ih]
    | false =>
      rw [List.filter_cons_of_neg (by simp [hk])]
      have : grassB L c.1.val c.2.val = false := by
        unfold grassB
        rw [show (L.kind ((c.2.val : Int)).toNat ((c.1.val : Int)).toNat == 0) = false from hk, Bool.and_false]
      simp only [steepL, List.map_cons, List.sum_cons] at ih ⊢
      rw [stepN_bare g z this, ih]
      omega

theorem ar0 (S : Int) (dE dS : Bool) : Value.int .i64 (S) = Value.int .i64 (S + (b2n (false && dE) + b2n (false && dS))) := by first | (simp [b2n]; done) | (simp [b2n]; omega)
theorem ar1 (S : Int) (dE : Bool) : Value.int .i64 (S) = Value.int .i64 (S + (b2n (false && dE) + b2n (true && false))) := by first | (simp [b2n]; done) | (simp [b2n]; omega)
theorem ar2 (S : Int) (dE : Bool) : Value.int .i64 (S + 1) = Value.int .i64 (S + (b2n (false && dE) + b2n (true && true))) := by first | (simp [b2n]; done) | (simp [b2n]; omega)
theorem ar3 (S : Int) (dS : Bool) : Value.int .i64 (S) = Value.int .i64 (S + (b2n (true && false) + b2n (false && dS))) := by first | (simp [b2n]; done) | (simp [b2n]; omega)
theorem ar4 (S : Int) : Value.int .i64 (S) = Value.int .i64 (S + (b2n (true && false) + b2n (true && false))) := by first | (simp [b2n]; done) | (simp [b2n]; omega)
theorem ar5 (S : Int) : Value.int .i64 (S + 1) = Value.int .i64 (S + (b2n (true && false) + b2n (true && true))) := by first | (simp [b2n]; done) | (simp [b2n]; omega)
theorem ar6 (S : Int) (dS : Bool) : Value.int .i64 (S + 1) = Value.int .i64 (S + (b2n (true && true) + b2n (false && dS))) := by first | (simp [b2n]; done) | (simp [b2n]; omega)
theorem ar7 (S : Int) : Value.int .i64 (S + 1) = Value.int .i64 (S + (b2n (true && true) + b2n (true && false))) := by first | (simp [b2n]; done) | (simp [b2n]; omega)
theorem ar8 (S : Int) : Value.int .i64 (S + 1 + 1) = Value.int .i64 (S + (b2n (true && true) + b2n (true && true))) := by first | (simp [b2n]; done) | (simp [b2n]; omega)

set_option maxRecDepth 100000 in
set_option maxHeartbeats 40000000 in
theorem specSteep_good (L : Lawn) (hL : L.Fits) (g : Nat → Nat → Int) (hg : LevFits g) (hv : levB L g = true) (z : Int) (hz : upZ z 18 = true) (w : World) :
    Calls Try.prog 25 #[.agg L.cells, .agg (levV g), .int .i64 z] w fun e w' => e = .returned (.tuple #[.int .i64 (steepL L g z (allC L.wide.toNat L.high.toNat)), .int .i64 0]) ∧ Below w.heap.size w w' := by
  obtain ⟨W0, hW0⟩ : ∃ W0, (w.alloc (.cells L.cells 30)).alloc (.cells (levV g) 32) = W0 := ⟨_, rfl⟩
  have g0 : Holds W0 w.heap.size L.cells := by rw [← hW0]; exact (Holds.new _ _ _).alloc _
  have g1 : Holds W0 (w.heap.size + 1) (levV g) := by rw [← hW0]; exact Holds.new' _ _ _ _ (by simp)
  have hb0 : Below w.heap.size w W0 := by rw [← hW0]; exact ((Below.refl w.heap.size w).alloc (Nat.le_refl _) _).alloc (by simp) _
  have HV := Lib.hid (l06Asked_any L hL g hg _ _ true _ g0 g1)
  rw [hv, show told true true = 0 from rfl] at HV
  have HU := Lib.hid (in_yes z 0 18 · (by rw [← upZ_in]; exact hz))
  have hV := (levB_true hv).1
  obtain ⟨h1, h2, -⟩ := validB_true hV
  have HCE := Lib.hid (fun (w0 : World) (h : Holds w0 w.heap.size L.cells) => l01Cells_any L.wide.toNat L.high.toNat (by omega) (by omega) (by omega) (by omega) L hL (by omega) (by omega) 0 w.heap.size w0 h)
  have HN := ofKind_le (L := L) (W := L.wide.toNat) (H := L.high.toNat) (by omega) (by omega) 0
  have HW10 : Hid (L.wide.toNat ≤ 10 ∧ L.high.toNat ≤ 10) := Lib.hid (by omega)
  have HR := Lib.hid (lev_range hv)
  have HGR := Lib.hid (fun (x y : Int) (x0 : -128 ≤ x) (x1 : x ≤ 127) (y0 : -128 ≤ y) (y1 : y ≤ 127) (w0 : World) (h : Holds w0 w.heap.size L.cells) => grass_any L hV hL w.heap.size x y x0 x1 y0 y1 w0 h)
  have HIN := Lib.hid (fun (x y : Nat) (h : grassB L x y = true) => (by
    have := isB_in (grassB_in h)
    omega : x < 10 ∧ y < 10))
  have HOK := Lib.hid (show ∀ c ∈ ofKind L L.wide.toNat L.high.toNat 0, grassB L c.1.val c.2.val = true from fun c hc => by
    unfold ofKind at hc
    have := (List.mem_filter.1 hc).2
    unfold grassB
    rw [isB_fin (L := L) (by omega) (by omega) c, Bool.true_and]
    exact this)
  have HSF := Lib.hid (show steepL L g z (ofKind L L.wide.toNat L.high.toNat 0) = steepL L g z (allC L.wide.toNat L.high.toNat) from steepL_filter L g z _)
  rw [← HSF.out]
  obtain ⟨l, hl⟩ : ∃ l, ofKind L L.wide.toNat L.high.toNat 0 = l := ⟨_, rfl⟩
  rw [hl] at HCE HN HOK ⊢
  obtain ⟨n, hn⟩ : ∃ n, l.length = n := ⟨_, rfl⟩
  rw [hn] at HCE HN
  have HNN := Lib.hid hn
  have HSU := Lib.hid (fun i c (h : l[i]? = some c) => (by rw [List.take_add_one, h]; exact steepL_snoc L g z (l.take i) c : steepL L g z (l.take (i + 1)) = steepL L g z (l.take i) + stepN L g z c.1.val c.2.val))
  have HSI := Lib.hid (fun i => steepL_in L g z (l.take i))
  have HSZ : Hid (steepL L g z (l.take 0) = 0 ∧ l.take n = l) := Lib.hid ⟨rfl, List.take_of_length_le (by omega)⟩
  clear hv hL hg hV h1 h2 hl hn hz HSF
  go_enter Try.func25, Try.ntmps25
  go_wp2_with (go_at_call 54; refine (HU.out _).mono ?_; rintro e w2 ⟨rfl, hw2⟩; rw [hw2]; clear hw2)
  clear hW0
  refine HV.out.mono ?_
  rintro e w1 ⟨rfl, hb1⟩
  have hb2 := below_onto hb0 hb1
  have k0 := g0.below hb1 g0.lt
  have k1 := g1.below hb1 g1.lt
  clear hb0 hb1 g0 g1 HV
  go_wp2_with fail
  refine (HCE.out _ k0).mono ?_
  rintro e w2 ⟨vA, rfl, hoA, hb3⟩
  have hb4 := below_onto hb2 hb3
  have q0 := k0.below hb3 k0.lt
  have q1 := k1.below hb3 k1.lt
  obtain ⟨aA, cA, rfl⟩ := own_slice hoA
  have HAo := Lib.hid hoA
  obtain ⟨B, hB⟩ : ∃ B, w1.heap.size = B := ⟨_, rfl⟩
  rw [hB] at HAo
  clear hb2 hb3 k0 k1 hoA hB HCE
  go_wp2_with fail
  go_loopw [9, 11] (fun q x wr => ∃ i : Nat, i ≤ n ∧ x = .int .i64 i ∧ q = .int .i64 (steepL L g z (l.take i)) ∧ Below w2.heap.size w2 wr) (fun _ x _ => n - (intOf x).toNat)
  case atStart => exact ⟨0, by omega, rfl, by rw [HSZ.out.1], Below.refl _ _⟩
  case round =>
    obtain ⟨i, hi, rfl, rfl, hb⟩ := hrel
    by_cases hlt : i < n
    · have hd : decide ((i : Int) < (n : Int)) = true := by simp; omega
      obtain ⟨c, hc⟩ : ∃ c, l[i]? = some c := ⟨_, List.getElem?_eq_getElem (by rw [HNN.out]; exact hlt)⟩
      have HSUc := Lib.hid (HSU.out i c hc)
      have hsi := HSI.out i
      have HGC := Lib.hid (HOK.out c (List.mem_of_getElem? hc))
      have oa := own_below HAo.out hb
      obtain ⟨ga, cap, he, hBg, hgw⟩ := own_form oa (by omega)
      simp only [Value.slice.injEq, true_and] at he
      obtain ⟨rfl, rfl⟩ := he
      obtain ⟨fa, fb⟩ := flatV_get _ _ _ hc
      have hx := c.1.isLt
      have hy := c.2.isLt
      have := HW10.out
      obtain ⟨xj, hxj⟩ : ∃ xj, c.1.val = xj := ⟨_, rfl⟩
      obtain ⟨xk, hxk⟩ : ∃ xk, c.2.val = xk := ⟨_, rfl⟩
      rw [hxj] at fa HSUc HGC hx
      rw [hxk] at fb HSUc HGC hy
      have hx10 : xj < 10 := by omega
      have hy10 : xk < 10 := by omega
      have FX := Lib.hid (show ∀ w', Below wr.heap.size wr w' → w'.cell? ⟨ga, i * 2, none⟩ = some (.int .i8 xj) ∧ w'.cell? ⟨ga, i * 2 + 1, none⟩ = some (.int .i8 xk) from fun w' hw' => ⟨own_cell (own_below oa hw') _ _ fa, own_cell (own_below oa hw') _ _ fb⟩)
      obtain ⟨S, hS⟩ : ∃ S, steepL L g z (l.take i) = S := ⟨_, rfl⟩
      rw [hS] at HSUc hsi
      rw [hS]
      have hli : (l.take i).length ≤ 100 := by simp; omega
      have ca := own_cell oa _ _ fa
      have cb := own_cell oa _ _ fb
      have j0 := q0.below hb q0.lt
      have j1 := q1.below hb q1.lt
      clear oa fa fb hc hxj hxk hS hx hy this
      go_wp2_with fail
      refine wp_region_make 12 rfl rfl (by kernel_rfl) (by kernel_rfl) (by kernel_rfl) ?_
      simp only [List.take_succ_cons, List.take_zero, List.drop_succ_cons, List.drop_zero]
      iterate 12
        apply wpGrowB_plain rfl
        · intro w' hw' K hK
          obtain ⟨f1, f2⟩ := FX.out _ hw'
          go_wp2_with fail
          exact hK _ _ rfl (Below.refl _ _)
        simp only [Act.put, List.setIfInBounds_toArray, List.set_cons_succ, List.set_cons_zero]
      refine wpGrowB_nil ⟨fun g => .pointer (some ⟨g, 0, none⟩), .cells #[.int .i8 0, .int .i8 0] 44, fun w1 hw1 K hK => ?_, ?_⟩
      · go_wp2_with fail
        exact hK _ _ rfl rfl
      intro pa Wa hppa hW hobj
      have hpa : Holds Wa pa #[.int .i8 0, .int .i8 0] := ⟨_, hobj⟩
      simp only [Act.put, List.setIfInBounds_toArray, List.set_cons_succ, List.set_cons_zero]
      have FX := Lib.hid (show ∀ w', Below Wa.heap.size Wa w' → w'.cell? ⟨ga, i * 2, none⟩ = some (.int .i8 xj) ∧ w'.cell? ⟨ga, i * 2 + 1, none⟩ = some (.int .i8 xk) from fun w' hw' => FX.out w' (below_onto hW hw'))
      have j0 := j0.below hW j0.lt
      have j1 := j1.below hW j1.lt
      have hbW := below_onto hb hW
      have hpw : w.heap.size + 1 < pa := Nat.lt_of_lt_of_le q1.lt (Nat.le_trans hb.size hppa)
      have hp2 : w2.heap.size ≤ pa := Nat.le_trans hb.size hppa
      have hgp : ga ≠ pa := fun e => by omega
      clear hW hobj ca cb
      obtain ⟨ra, fra, -, -, la⟩ := hpa.facts
      have hpa1 := hpa.setRow #[.int .i8 ((xj : Int) + 1), .int .i8 (xk : Int)]
      have j0 := j0.setRow_other (k := pa) #[.int .i8 ((xj : Int) + 1), .int .i8 (xk : Int)] (by omega)
      have j1 := j1.setRow_other (k := pa) #[.int .i8 ((xj : Int) + 1), .int .i8 (xk : Int)] (by omega)
      have FX := Lib.hid (show ∀ w', Below (Wa.setRow pa #[.int .i8 ((xj : Int) + 1), .int .i8 (xk : Int)]).heap.size (Wa.setRow pa #[.int .i8 ((xj : Int) + 1), .int .i8 (xk : Int)]) w' → w'.cell? ⟨ga, i * 2, none⟩ = some (.int .i8 xj) ∧ w'.cell? ⟨ga, i * 2 + 1, none⟩ = some (.int .i8 xk) from fun w' hw' => by
        obtain ⟨f1, f2⟩ := FX.out Wa (Below.refl _ _)
        have hga : ga < Wa.heap.size := by omega
        refine ⟨?_, ?_⟩
        · rw [World.cell?, hw'.block ga (by simp [World.setRow]; omega), setRow_other Wa pa ga _ hgp]; exact f1
        · rw [World.cell?, hw'.block ga (by simp [World.setRow]; omega), setRow_other Wa pa ga _ hgp]; exact f2)
      have hbW := below_setRow' hbW hp2 #[.int .i8 ((xj : Int) + 1), .int .i8 (xk : Int)]
      clear hpa
      go_wp2_with fail
      obtain ⟨Wb, hWb⟩ : ∃ Wb, Wa.setRow pa #[.int .i8 ((xj : Int) + 1), .int .i8 (xk : Int)] = Wb := ⟨_, rfl⟩
      rw [hWb] at hpa1 j0 j1 FX hbW ⊢
      have hgb : ga < Wb.heap.size := by rw [← hWb]; simp [World.setRow]; omega
      clear hWb ra fra la
      refine wp_region_make 12 rfl rfl (by kernel_rfl) (by kernel_rfl) (by kernel_rfl) ?_
      simp only [List.take_succ_cons, List.take_zero, List.drop_succ_cons, List.drop_zero]
      iterate 12
        apply wpGrowB_plain rfl
        · intro w' hw' K hK
          obtain ⟨f1, f2⟩ := FX.out _ hw'
          go_wp2_with fail
          exact hK _ _ rfl (Below.refl _ _)
        simp only [Act.put, List.setIfInBounds_toArray, List.set_cons_succ, List.set_cons_zero]
      refine wpGrowB_nil ⟨fun g => .pointer (some ⟨g, 0, none⟩), .cells #[.int .i8 0, .int .i8 0] 44, fun w1 hw1 K hK => ?_, ?_⟩
      · go_wp2_with fail
        exact hK _ _ rfl rfl
      intro pc Wc hppc hW hobj
      have hpc : Holds Wc pc #[.int .i8 0, .int .i8 0] := ⟨_, hobj⟩
      simp only [Act.put, List.setIfInBounds_toArray, List.set_cons_succ, List.set_cons_zero]
      have FX := Lib.hid (show ∀ w', Below Wc.heap.size Wc w' → w'.cell? ⟨ga, i * 2, none⟩ = some (.int .i8 xj) ∧ w'.cell? ⟨ga, i * 2 + 1, none⟩ = some (.int .i8 xk) from fun w' hw' => FX.out w' (below_onto hW hw'))
      have j0 := j0.below hW j0.lt
      have j1 := j1.below hW j1.lt
      have hpa := hpa1.below hW hpa1.lt
      have hbW := below_onto hbW hW
      have hlp := hpa1.lt
      have hpp : pa ≠ pc := fun e => by omega
      have hpw2 : w.heap.size + 1 < pc := by omega
      have hp2c : w2.heap.size ≤ pc := by omega
      have hgp : ga ≠ pc := fun e => by omega
      clear hW hobj hpa1
      obtain ⟨ra, fra, -, -, la⟩ := hpc.facts
      have hpc1 := hpc.setRow #[.int .i8 (xj : Int), .int .i8 ((xk : Int) + 1)]
      have j0 := j0.setRow_other (k := pc) #[.int .i8 (xj : Int), .int .i8 ((xk : Int) + 1)] (by omega)
      have j1 := j1.setRow_other (k := pc) #[.int .i8 (xj : Int), .int .i8 ((xk : Int) + 1)] (by omega)
      have hpa1 := hpa.setRow_other (k := pc) #[.int .i8 (xj : Int), .int .i8 ((xk : Int) + 1)] hpp
      have FX := Lib.hid (show ∀ w', Below (Wc.setRow pc #[.int .i8 (xj : Int), .int .i8 ((xk : Int) + 1)]).heap.size (Wc.setRow pc #[.int .i8 (xj : Int), .int .i8 ((xk : Int) + 1)]) w' → w'.cell? ⟨ga, i * 2, none⟩ = some (.int .i8 xj) ∧ w'.cell? ⟨ga, i * 2 + 1, none⟩ = some (.int .i8 xk) from fun w' hw' => by
        obtain ⟨f1, f2⟩ := FX.out Wc (Below.refl _ _)
        have hga : ga < Wc.heap.size := by have := hpc.lt; omega
        refine ⟨?_, ?_⟩
        · rw [World.cell?, hw'.block ga (by simp [World.setRow]; omega), setRow_other Wc pc ga _ hgp]; exact f1
        · rw [World.cell?, hw'.block ga (by simp [World.setRow]; omega), setRow_other Wc pc ga _ hgp]; exact f2)
      have hbW := below_setRow' hbW hp2c #[.int .i8 (xj : Int), .int .i8 ((xk : Int) + 1)]
      clear hpc hpa
      go_wp2_with fail
      obtain ⟨Wd, hWd⟩ : ∃ Wd, Wc.setRow pc #[.int .i8 (xj : Int), .int .i8 ((xk : Int) + 1)] = Wd := ⟨_, rfl⟩
      rw [hWd] at hpa1 hpc1 j0 j1 FX hbW ⊢
      clear hWd ra fra la
      -- what the comparisons come to
      have HGpa := Lib.hid (fun w h => HGR.out ((xj : Int) + 1) (xk : Int) (by omega) (by omega) (by omega) (by omega) w h)
      have HGpc := Lib.hid (fun w h => HGR.out (xj : Int) ((xk : Int) + 1) (by omega) (by omega) (by omega) (by omega) w h)
      have HST := Lib.hid (show stepN L g z xj xk = b2n (grassB L ((xj : Int) + 1) (xk : Int) && decide (z < farZ (g xk xj) (g xk (xj + 1)))) + b2n (grassB L (xj : Int) ((xk : Int) + 1) && decide (z < farZ (g xk xj) (g (xk + 1) xj))) by
        unfold stepN ssB
        rw [HGC.out]; rfl)
      have HIE := Lib.hid (fun h : grassB L ((xj : Int) + 1) (xk : Int) = true => HIN.out (xj + 1) xk h)
      have HIS := Lib.hid (fun h : grassB L (xj : Int) ((xk : Int) + 1) = true => HIN.out xj (xk + 1) h)
      have HFpa := Lib.hid (fun (h : xj + 1 < 10) v1 hh => l06Far_any g (w.heap.size + 1) xj xk (xj + 1) xk hx10 hy10 h hy10 (HR.out _ _ hy10 hx10) (HR.out _ _ hy10 h) v1 hh)
      have HFpc := Lib.hid (fun (h : xk + 1 < 10) v1 hh => l06Far_any g (w.heap.size + 1) xj xk xj (xk + 1) hx10 hy10 hx10 h (HR.out _ _ hy10 hx10) (HR.out _ _ h hx10) v1 hh)
      obtain ⟨gE, hgE⟩ : ∃ b, grassB L ((xj : Int) + 1) (xk : Int) = b := ⟨_, rfl⟩
      obtain ⟨gS, hgS⟩ : ∃ b, grassB L (xj : Int) ((xk : Int) + 1) = b := ⟨_, rfl⟩
      obtain ⟨fE, hfE⟩ : ∃ f, farZ (g xk xj) (g xk (xj + 1)) = f := ⟨_, rfl⟩
      obtain ⟨fS, hfS⟩ : ∃ f, farZ (g xk xj) (g (xk + 1) xj) = f := ⟨_, rfl⟩
      rw [hgE] at HGpa HST HIE
      rw [hgS] at HGpc HST HIS
      rw [hfE] at HST HFpa
      rw [hfS] at HST HFpc
      obtain ⟨dE, hdE⟩ : ∃ d, decide (z < fE) = d := ⟨_, rfl⟩
      obtain ⟨dS, hdS⟩ : ∃ d, decide (z < fS) = d := ⟨_, rfl⟩
      rw [hdE, hdS] at HST
      have HDE := Lib.hid hdE
      have HDS := Lib.hid hdS
      clear hgE hgS hfE hfS hdE hdS
      obtain ⟨-, spa⟩ := hpa1.later
      obtain ⟨-, spc⟩ := hpc1.later
      have HEND := Lib.hid (show ∀ w', Below Wd.heap.size Wd w' → Below w2.heap.size w2 w' from fun w' h => below_onto hbW h)
      cases gE
      case false =>
        refine wp_region_grow 11 (by kernel_rfl) (by kernel_rfl) ?_
        simp only [List.take_succ_cons, List.take_zero, List.drop_succ_cons, List.drop_zero]
        iterate 3
          apply wpGrow_plain rfl
          · intro w' hw' K hK
            have e0 := spa _ hw'
            have e1 := j0.below hw' j0.lt
            go_wp2_with (go_at_call 55; refine (HGpa.out _ e1).mono ?_; rintro e w2 ⟨rfl, hb2⟩)
            first | exact hK _ _ rfl hw' | exact hK _ _ rfl (below_onto hw' hb2)
          simp only [Act.put, List.setIfInBounds_toArray, List.set_cons_succ, List.set_cons_zero]
        iterate 8
          apply wpGrow_off rfl
          simp only [Act.put, List.setIfInBounds_toArray, List.set_cons_succ, List.set_cons_zero]
        refine wpGrow_nil ?_
        intro We hWe
        go_wp2_with fail
        cases gS
        case false =>
          have spc := fun w1 h => spc w1 (below_onto hWe h)
          have FX := Lib.hid (show ∀ w', Below We.heap.size We w' → w'.cell? ⟨ga, i * 2, none⟩ = some (.int .i8 xj) ∧ w'.cell? ⟨ga, i * 2 + 1, none⟩ = some (.int .i8 xk) from fun w' hw' => FX.out w' (below_onto hWe hw'))
          have j0 := j0.below hWe j0.lt
          have j1 := j1.below hWe j1.lt
          refine wp_region_grow 11 (by kernel_rfl) (by kernel_rfl) ?_
          simp only [List.take_succ_cons, List.take_zero, List.drop_succ_cons, List.drop_zero]
          iterate 3
            apply wpGrow_plain rfl
            · intro w' hw' K hK
              have e0 := spc _ hw'
              have e1 := j0.below hw' j0.lt
              go_wp2_with (go_at_call 55; refine (HGpc.out _ e1).mono ?_; rintro e w2 ⟨rfl, hb2⟩)
              first | exact hK _ _ rfl hw' | exact hK _ _ rfl (below_onto hw' hb2)
            simp only [Act.put, List.setIfInBounds_toArray, List.set_cons_succ, List.set_cons_zero]
          iterate 8
            apply wpGrow_off rfl
            simp only [Act.put, List.setIfInBounds_toArray, List.set_cons_succ, List.set_cons_zero]
          refine wpGrow_nil ?_
          intro Wg hWg
          have hbE := HEND.out _ (below_onto hWe hWg)
          clear FX j0 j1 spa spc hWg
          go_wp2_with fail
          have HX := Lib.hid (show Value.int .i64 (S) = Value.int .i64 (steepL L g z (l.take (i + 1))) by rw [HSUc.out, HST.out]; exact ar0 S dE dS)
          go_roundw
          case rel => exact ⟨i + 1, by omega, by go_num, HX.out, hbE⟩
          case measure => simp [intOf]; omega
        case true =>
          have hin := (HIS.out rfl).2
          have HFpc := Lib.hid (HFpc.out hin)
          clear HIS hin
          cases dS
          case false =>
            have hdS := HDS.out
            have spc := fun w1 h => spc w1 (below_onto hWe h)
            have FX := Lib.hid (show ∀ w', Below We.heap.size We w' → w'.cell? ⟨ga, i * 2, none⟩ = some (.int .i8 xj) ∧ w'.cell? ⟨ga, i * 2 + 1, none⟩ = some (.int .i8 xk) from fun w' hw' => FX.out w' (below_onto hWe hw'))
            have j0 := j0.below hWe j0.lt
            have j1 := j1.below hWe j1.lt
            refine wp_region_grow 11 (by kernel_rfl) (by kernel_rfl) ?_
            simp only [List.take_succ_cons, List.take_zero, List.drop_succ_cons, List.drop_zero]
            iterate 3
              apply wpGrow_plain rfl
              · intro w' hw' K hK
                have e0 := spc _ hw'
                have e1 := j0.below hw' j0.lt
                go_wp2_with (go_at_call 55; refine (HGpc.out _ e1).mono ?_; rintro e w2 ⟨rfl, hb2⟩)
                first | exact hK _ _ rfl hw' | exact hK _ _ rfl (below_onto hw' hb2)
              simp only [Act.put, List.setIfInBounds_toArray, List.set_cons_succ, List.set_cons_zero]
            iterate 8
              apply wpGrow_on rfl
              · intro w' hw' K hK
                have e0 := spc _ hw'
                obtain ⟨f1, f2⟩ := FX.out _ hw'
                have e1 := j1.below hw' j1.lt
                go_wp2_with (go_at_call 56; refine (HFpc.out _ e1).mono ?_; rintro e w2 ⟨rfl, hb2⟩)
                first | exact hK _ _ rfl hw' | exact hK _ _ rfl (below_onto hw' hb2)
              simp only [Act.put, List.setIfInBounds_toArray, List.set_cons_succ, List.set_cons_zero]
            refine wpGrow_nil ?_
            intro Wg hWg
            have hbE := HEND.out _ (below_onto hWe hWg)
            clear FX j0 j1 spa spc hWg
            go_wp2_with fail
            have HX := Lib.hid (show Value.int .i64 (S) = Value.int .i64 (steepL L g z (l.take (i + 1))) by rw [HSUc.out, HST.out]; exact ar1 S dE)
            go_roundw
            case rel => exact ⟨i + 1, by omega, by go_num, HX.out, hbE⟩
            case measure => simp [intOf]; omega
          case true =>
            have hdS := HDS.out
            have spc := fun w1 h => spc w1 (below_onto hWe h)
            have FX := Lib.hid (show ∀ w', Below We.heap.size We w' → w'.cell? ⟨ga, i * 2, none⟩ = some (.int .i8 xj) ∧ w'.cell? ⟨ga, i * 2 + 1, none⟩ = some (.int .i8 xk) from fun w' hw' => FX.out w' (below_onto hWe hw'))
            have j0 := j0.below hWe j0.lt
            have j1 := j1.below hWe j1.lt
            refine wp_region_grow 11 (by kernel_rfl) (by kernel_rfl) ?_
            simp only [List.take_succ_cons, List.take_zero, List.drop_succ_cons, List.drop_zero]
            iterate 3
              apply wpGrow_plain rfl
              · intro w' hw' K hK
                have e0 := spc _ hw'
                have e1 := j0.below hw' j0.lt
                go_wp2_with (go_at_call 55; refine (HGpc.out _ e1).mono ?_; rintro e w2 ⟨rfl, hb2⟩)
                first | exact hK _ _ rfl hw' | exact hK _ _ rfl (below_onto hw' hb2)
              simp only [Act.put, List.setIfInBounds_toArray, List.set_cons_succ, List.set_cons_zero]
            iterate 8
              apply wpGrow_on rfl
              · intro w' hw' K hK
                have e0 := spc _ hw'
                obtain ⟨f1, f2⟩ := FX.out _ hw'
                have e1 := j1.below hw' j1.lt
                go_wp2_with (go_at_call 56; refine (HFpc.out _ e1).mono ?_; rintro e w2 ⟨rfl, hb2⟩)
                first | exact hK _ _ rfl hw' | exact hK _ _ rfl (below_onto hw' hb2)
              simp only [Act.put, List.setIfInBounds_toArray, List.set_cons_succ, List.set_cons_zero]
            refine wpGrow_nil ?_
            intro Wg hWg
            have hbE := HEND.out _ (below_onto hWe hWg)
            clear FX j0 j1 spa spc hWg
            go_wp2_with fail
            have HX := Lib.hid (show Value.int .i64 (S + 1) = Value.int .i64 (steepL L g z (l.take (i + 1))) by rw [HSUc.out, HST.out]; exact ar2 S dE)
            go_roundw
            case rel => exact ⟨i + 1, by omega, by go_num, HX.out, hbE⟩
            case measure => simp [intOf]; omega
      case true =>
        have hin := (HIE.out rfl).1
        have HFpa := Lib.hid (HFpa.out hin)
        clear HIE hin
        cases dE
        case false =>
          have hdE := HDE.out
          refine wp_region_grow 11 (by kernel_rfl) (by kernel_rfl) ?_
          simp only [List.take_succ_cons, List.take_zero, List.drop_succ_cons, List.drop_zero]
          iterate 3
            apply wpGrow_plain rfl
            · intro w' hw' K hK
              have e0 := spa _ hw'
              have e1 := j0.below hw' j0.lt
              go_wp2_with (go_at_call 55; refine (HGpa.out _ e1).mono ?_; rintro e w2 ⟨rfl, hb2⟩)
              first | exact hK _ _ rfl hw' | exact hK _ _ rfl (below_onto hw' hb2)
            simp only [Act.put, List.setIfInBounds_toArray, List.set_cons_succ, List.set_cons_zero]
          iterate 8
            apply wpGrow_on rfl
            · intro w' hw' K hK
              have e0 := spa _ hw'
              obtain ⟨f1, f2⟩ := FX.out _ hw'
              have e1 := j1.below hw' j1.lt
              go_wp2_with (go_at_call 56; refine (HFpa.out _ e1).mono ?_; rintro e w2 ⟨rfl, hb2⟩)
              first | exact hK _ _ rfl hw' | exact hK _ _ rfl (below_onto hw' hb2)
            simp only [Act.put, List.setIfInBounds_toArray, List.set_cons_succ, List.set_cons_zero]
          refine wpGrow_nil ?_
          intro We hWe
          go_wp2_with fail
          cases gS
          case false =>
            have spc := fun w1 h => spc w1 (below_onto hWe h)
            have FX := Lib.hid (show ∀ w', Below We.heap.size We w' → w'.cell? ⟨ga, i * 2, none⟩ = some (.int .i8 xj) ∧ w'.cell? ⟨ga, i * 2 + 1, none⟩ = some (.int .i8 xk) from fun w' hw' => FX.out w' (below_onto hWe hw'))
            have j0 := j0.below hWe j0.lt
            have j1 := j1.below hWe j1.lt
            refine wp_region_grow 11 (by kernel_rfl) (by kernel_rfl) ?_
            simp only [List.take_succ_cons, List.take_zero, List.drop_succ_cons, List.drop_zero]
            iterate 3
              apply wpGrow_plain rfl
              · intro w' hw' K hK
                have e0 := spc _ hw'
                have e1 := j0.below hw' j0.lt
                go_wp2_with (go_at_call 55; refine (HGpc.out _ e1).mono ?_; rintro e w2 ⟨rfl, hb2⟩)
                first | exact hK _ _ rfl hw' | exact hK _ _ rfl (below_onto hw' hb2)
              simp only [Act.put, List.setIfInBounds_toArray, List.set_cons_succ, List.set_cons_zero]
            iterate 8
              apply wpGrow_off rfl
              simp only [Act.put, List.setIfInBounds_toArray, List.set_cons_succ, List.set_cons_zero]
            refine wpGrow_nil ?_
            intro Wg hWg
            have hbE := HEND.out _ (below_onto hWe hWg)
            clear FX j0 j1 spa spc hWg
            go_wp2_with fail
            have HX := Lib.hid (show Value.int .i64 (S) = Value.int .i64 (steepL L g z (l.take (i + 1))) by rw [HSUc.out, HST.out]; exact ar3 S dS)
            go_roundw
            case rel => exact ⟨i + 1, by omega, by go_num, HX.out, hbE⟩
            case measure => simp [intOf]; omega
          case true =>
            have hin := (HIS.out rfl).2
            have HFpc := Lib.hid (HFpc.out hin)
            clear HIS hin
            cases dS
            case false =>
              have hdS := HDS.out
              have spc := fun w1 h => spc w1 (below_onto hWe h)
              have FX := Lib.hid (show ∀ w', Below We.heap.size We w' → w'.cell? ⟨ga, i * 2, none⟩ = some (.int .i8 xj) ∧ w'.cell? ⟨ga, i * 2 + 1, none⟩ = some (.int .i8 xk) from fun w' hw' => FX.out w' (below_onto hWe hw'))
              have j0 := j0.below hWe j0.lt
              have j1 := j1.below hWe j1.lt
              refine wp_region_grow 11 (by kernel_rfl) (by kernel_rfl) ?_
              simp only [List.take_succ_cons, List.take_zero, List.drop_succ_cons, List.drop_zero]
              iterate 3
                apply wpGrow_plain rfl
                · intro w' hw' K hK
                  have e0 := spc _ hw'
                  have e1 := j0.below hw' j0.lt
                  go_wp2_with (go_at_call 55; refine (HGpc.out _ e1).mono ?_; rintro e w2 ⟨rfl, hb2⟩)
                  first | exact hK _ _ rfl hw' | exact hK _ _ rfl (below_onto hw' hb2)
                simp only [Act.put, List.setIfInBounds_toArray, List.set_cons_succ, List.set_cons_zero]
              iterate 8
                apply wpGrow_on rfl
                · intro w' hw' K hK
                  have e0 := spc _ hw'
                  obtain ⟨f1, f2⟩ := FX.out _ hw'
                  have e1 := j1.below hw' j1.lt
                  go_wp2_with (go_at_call 56; refine (HFpc.out _ e1).mono ?_; rintro e w2 ⟨rfl, hb2⟩)
                  first | exact hK _ _ rfl hw' | exact hK _ _ rfl (below_onto hw' hb2)
                simp only [Act.put, List.setIfInBounds_toArray, List.set_cons_succ, List.set_cons_zero]
              refine wpGrow_nil ?_
              intro Wg hWg
              have hbE := HEND.out _ (below_onto hWe hWg)
              clear FX j0 j1 spa spc hWg
              go_wp2_with fail
              have HX := Lib.hid (show Value.int .i64 (S) = Value.int .i64 (steepL L g z (l.take (i + 1))) by rw [HSUc.out, HST.out]; exact ar4 S )
              go_roundw
              case rel => exact ⟨i + 1, by omega, by go_num, HX.out, hbE⟩
              case measure => simp [intOf]; omega
            case true =>
              have hdS := HDS.out
              have spc := fun w1 h => spc w1 (below_onto hWe h)
              have FX := Lib.hid (show ∀ w', Below We.heap.size We w' → w'.cell? ⟨ga, i * 2, none⟩ = some (.int .i8 xj) ∧ w'.cell? ⟨ga, i * 2 + 1, none⟩ = some (.int .i8 xk) from fun w' hw' => FX.out w' (below_onto hWe hw'))
              have j0 := j0.below hWe j0.lt
              have j1 := j1.below hWe j1.lt
              refine wp_region_grow 11 (by kernel_rfl) (by kernel_rfl) ?_
              simp only [List.take_succ_cons, List.take_zero, List.drop_succ_cons, List.drop_zero]
              iterate 3
                apply wpGrow_plain rfl
                · intro w' hw' K hK
                  have e0 := spc _ hw'
                  have e1 := j0.below hw' j0.lt
                  go_wp2_with (go_at_call 55; refine (HGpc.out _ e1).mono ?_; rintro e w2 ⟨rfl, hb2⟩)
                  first | exact hK _ _ rfl hw' | exact hK _ _ rfl (below_onto hw' hb2)
                simp only [Act.put, List.setIfInBounds_toArray, List.set_cons_succ, List.set_cons_zero]
              iterate 8
                apply wpGrow_on rfl
                · intro w' hw' K hK
                  have e0 := spc _ hw'
                  obtain ⟨f1, f2⟩ := FX.out _ hw'
                  have e1 := j1.below hw' j1.lt
                  go_wp2_with (go_at_call 56; refine (HFpc.out _ e1).mono ?_; rintro e w2 ⟨rfl, hb2⟩)
                  first | exact hK _ _ rfl hw' | exact hK _ _ rfl (below_onto hw' hb2)
                simp only [Act.put, List.setIfInBounds_toArray, List.set_cons_succ, List.set_cons_zero]
              refine wpGrow_nil ?_
              intro Wg hWg
              have hbE := HEND.out _ (below_onto hWe hWg)
              clear FX j0 j1 spa spc hWg
              go_wp2_with fail
              have HX := Lib.hid (show Value.int .i64 (S + 1) = Value.int .i64 (steepL L g z (l.take (i + 1))) by rw [HSUc.out, HST.out]; exact ar5 S )
              go_roundw
              case rel => exact ⟨i + 1, by omega, by go_num, HX.out, hbE⟩
              case measure => simp [intOf]; omega
        case true =>
          have hdE := HDE.out
          refine wp_region_grow 11 (by kernel_rfl) (by kernel_rfl) ?_
          simp only [List.take_succ_cons, List.take_zero, List.drop_succ_cons, List.drop_zero]
          iterate 3
            apply wpGrow_plain rfl
            · intro w' hw' K hK
              have e0 := spa _ hw'
              have e1 := j0.below hw' j0.lt
              go_wp2_with (go_at_call 55; refine (HGpa.out _ e1).mono ?_; rintro e w2 ⟨rfl, hb2⟩)
              first | exact hK _ _ rfl hw' | exact hK _ _ rfl (below_onto hw' hb2)
            simp only [Act.put, List.setIfInBounds_toArray, List.set_cons_succ, List.set_cons_zero]
          iterate 8
            apply wpGrow_on rfl
            · intro w' hw' K hK
              have e0 := spa _ hw'
              obtain ⟨f1, f2⟩ := FX.out _ hw'
              have e1 := j1.below hw' j1.lt
              go_wp2_with (go_at_call 56; refine (HFpa.out _ e1).mono ?_; rintro e w2 ⟨rfl, hb2⟩)
              first | exact hK _ _ rfl hw' | exact hK _ _ rfl (below_onto hw' hb2)
            simp only [Act.put, List.setIfInBounds_toArray, List.set_cons_succ, List.set_cons_zero]
          refine wpGrow_nil ?_
          intro We hWe
          go_wp2_with fail
          cases gS
          case false =>
            have spc := fun w1 h => spc w1 (below_onto hWe h)
            have FX := Lib.hid (show ∀ w', Below We.heap.size We w' → w'.cell? ⟨ga, i * 2, none⟩ = some (.int .i8 xj) ∧ w'.cell? ⟨ga, i * 2 + 1, none⟩ = some (.int .i8 xk) from fun w' hw' => FX.out w' (below_onto hWe hw'))
            have j0 := j0.below hWe j0.lt
            have j1 := j1.below hWe j1.lt
            refine wp_region_grow 11 (by kernel_rfl) (by kernel_rfl) ?_
            simp only [List.take_succ_cons, List.take_zero, List.drop_succ_cons, List.drop_zero]
            iterate 3
              apply wpGrow_plain rfl
              · intro w' hw' K hK
                have e0 := spc _ hw'
                have e1 := j0.below hw' j0.lt
                go_wp2_with (go_at_call 55; refine (HGpc.out _ e1).mono ?_; rintro e w2 ⟨rfl, hb2⟩)
                first | exact hK _ _ rfl hw' | exact hK _ _ rfl (below_onto hw' hb2)
              simp only [Act.put, List.setIfInBounds_toArray, List.set_cons_succ, List.set_cons_zero]
            iterate 8
              apply wpGrow_off rfl
              simp only [Act.put, List.setIfInBounds_toArray, List.set_cons_succ, List.set_cons_zero]
            refine wpGrow_nil ?_
            intro Wg hWg
            have hbE := HEND.out _ (below_onto hWe hWg)
            clear FX j0 j1 spa spc hWg
            go_wp2_with fail
            have HX := Lib.hid (show Value.int .i64 (S + 1) = Value.int .i64 (steepL L g z (l.take (i + 1))) by rw [HSUc.out, HST.out]; exact ar6 S dS)
            go_roundw
            case rel => exact ⟨i + 1, by omega, by go_num, HX.out, hbE⟩
            case measure => simp [intOf]; omega
          case true =>
            have hin := (HIS.out rfl).2
            have HFpc := Lib.hid (HFpc.out hin)
            clear HIS hin
            cases dS
            case false =>
              have hdS := HDS.out
              have spc := fun w1 h => spc w1 (below_onto hWe h)
              have FX := Lib.hid (show ∀ w', Below We.heap.size We w' → w'.cell? ⟨ga, i * 2, none⟩ = some (.int .i8 xj) ∧ w'.cell? ⟨ga, i * 2 + 1, none⟩ = some (.int .i8 xk) from fun w' hw' => FX.out w' (below_onto hWe hw'))
              have j0 := j0.below hWe j0.lt
              have j1 := j1.below hWe j1.lt
              refine wp_region_grow 11 (by kernel_rfl) (by kernel_rfl) ?_
              simp only [List.take_succ_cons, List.take_zero, List.drop_succ_cons, List.drop_zero]
              iterate 3
                apply wpGrow_plain rfl
                · intro w' hw' K hK
                  have e0 := spc _ hw'
                  have e1 := j0.below hw' j0.lt
                  go_wp2_with (go_at_call 55; refine (HGpc.out _ e1).mono ?_; rintro e w2 ⟨rfl, hb2⟩)
                  first | exact hK _ _ rfl hw' | exact hK _ _ rfl (below_onto hw' hb2)
                simp only [Act.put, List.setIfInBounds_toArray, List.set_cons_succ, List.set_cons_zero]
              iterate 8
                apply wpGrow_on rfl
                · intro w' hw' K hK
                  have e0 := spc _ hw'
                  obtain ⟨f1, f2⟩ := FX.out _ hw'
                  have e1 := j1.below hw' j1.lt
                  go_wp2_with (go_at_call 56; refine (HFpc.out _ e1).mono ?_; rintro e w2 ⟨rfl, hb2⟩)
                  first | exact hK _ _ rfl hw' | exact hK _ _ rfl (below_onto hw' hb2)
                simp only [Act.put, List.setIfInBounds_toArray, List.set_cons_succ, List.set_cons_zero]
              refine wpGrow_nil ?_
              intro Wg hWg
              have hbE := HEND.out _ (below_onto hWe hWg)
              clear FX j0 j1 spa spc hWg
              go_wp2_with fail
              have HX := Lib.hid (show Value.int .i64 (S + 1) = Value.int .i64 (steepL L g z (l.take (i + 1))) by rw [HSUc.out, HST.out]; exact ar7 S )
              go_roundw
              case rel => exact ⟨i + 1, by omega, by go_num, HX.out, hbE⟩
              case measure => simp [intOf]; omega
            case true =>
              have hdS := HDS.out
              have spc := fun w1 h => spc w1 (below_onto hWe h)
              have FX := Lib.hid (show ∀ w', Below We.heap.size We w' → w'.cell? ⟨ga, i * 2, none⟩ = some (.int .i8 xj) ∧ w'.cell? ⟨ga, i * 2 + 1, none⟩ = some (.int .i8 xk) from fun w' hw' => FX.out w' (below_onto hWe hw'))
              have j0 := j0.below hWe j0.lt
              have j1 := j1.below hWe j1.lt
              refine wp_region_grow 11 (by kernel_rfl) (by kernel_rfl) ?_
              simp only [List.take_succ_cons, List.take_zero, List.drop_succ_cons, List.drop_zero]
              iterate 3
                apply wpGrow_plain rfl
                · intro w' hw' K hK
                  have e0 := spc _ hw'
                  have e1 := j0.below hw' j0.lt
                  go_wp2_with (go_at_call 55; refine (HGpc.out _ e1).mono ?_; rintro e w2 ⟨rfl, hb2⟩)
                  first | exact hK _ _ rfl hw' | exact hK _ _ rfl (below_onto hw' hb2)
                simp only [Act.put, List.setIfInBounds_toArray, List.set_cons_succ, List.set_cons_zero]
              iterate 8
                apply wpGrow_on rfl
                · intro w' hw' K hK
                  have e0 := spc _ hw'
                  obtain ⟨f1, f2⟩ := FX.out _ hw'
                  have e1 := j1.below hw' j1.lt
                  go_wp2_with (go_at_call 56; refine (HFpc.out _ e1).mono ?_; rintro e w2 ⟨rfl, hb2⟩)
                  first | exact hK _ _ rfl hw' | exact hK _ _ rfl (below_onto hw' hb2)
                simp only [Act.put, List.setIfInBounds_toArray, List.set_cons_succ, List.set_cons_zero]
              refine wpGrow_nil ?_
              intro Wg hWg
              have hbE := HEND.out _ (below_onto hWe hWg)
              clear FX j0 j1 spa spc hWg
              go_wp2_with fail
              have HX := Lib.hid (show Value.int .i64 (S + 1 + 1) = Value.int .i64 (steepL L g z (l.take (i + 1))) by rw [HSUc.out, HST.out]; exact ar8 S )
              go_roundw
              case rel => exact ⟨i + 1, by omega, by go_num, HX.out, hbE⟩
              case measure => simp [intOf]; omega
    · obtain rfl : i = n := by omega
      have hd : decide ((i : Int) < (i : Int)) = false := by simp
      go_wp2_with fail
      go_ret2
      exact ⟨by rw [HSZ.out.2]; rfl, hb4.trans (hb.mono hb4.size)⟩
end Go.Proofs.Ytbccffnmjmbgoaa
