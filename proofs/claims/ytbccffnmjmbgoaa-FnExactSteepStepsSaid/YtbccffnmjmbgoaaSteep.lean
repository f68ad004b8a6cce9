/- SteepSteps of the program. -/
import Derived.Test.YtbccffnmjmbgoaaSoil
import Derived.Test.YtbccffnmjmbgoaaUpTo
import Derived.Test.YtbccffnmjmbgoaaCellSt
import Derived.Test.YtbccffnmjmbgoaaGrowAll
namespace Go.Proofs.Ytbccffnmjmbgoaa
open Go.RowKit Go.Shelf
set_option linter.unusedVariables false
set_option linter.unusedSimpArgs false
attribute [local go_sem] Oper.semAt_some
attribute [local go_sem ↓] loadRow loadGrid loadLawn loadMirror storeRow storeGrid storeLawn allocRow allocGrid allocLawn buildZero buildSides loadRow' loadGrid' loadLawn' loadMirror' storeRow' storeGrid' storeLawn' allocRow' allocGrid' allocLawn' buildZero' buildSides' loadR8 loadL8 loadLv storeR8 storeLv allocR8 allocLv buildZLv loadR8' loadL8' loadLv' storeR8' storeLv' allocR8' allocLv' buildZLv'

/-- By how much two numbers differ. -/
def farZ (a b : Int) : Int := if a - b < -(a - b) then -(a - b) else a - b
/-- Whether two cells are grass, and differ by more than told. -/
def ssB (L : Lawn) (g : Nat → Nat → Int) (z : Int) (x y x' y' : Nat) : Bool := grassB L x y && grassB L x' y' && decide (z < farZ (g y x) (g y' x'))
def b2n (b : Bool) : Int := if b then 1 else 0
def stepN (L : Lawn) (g : Nat → Nat → Int) (z : Int) (x y : Nat) : Int := b2n (ssB L g z x y (x + 1) y) + b2n (ssB L g z x y x (y + 1))
def steepL {W H : Nat} (L : Lawn) (g : Nat → Nat → Int) (z : Int) (l : List (Fin W × Fin H)) : Int := (l.map fun c => stepN L g z c.1.val c.2.val).sum
theorem steepL_nil {W H : Nat} (L : Lawn) (g : Nat → Nat → Int) (z : Int) : steepL L g z ([] : List (Fin W × Fin H)) = 0 := rfl
theorem steepL_snoc {W H : Nat} (L : Lawn) (g : Nat → Nat → Int) (z : Int) (l : List (Fin W × Fin H)) (c : Fin W × Fin H) : steepL L g z (l ++ [c]) = steepL L g z l + stepN L g z c.1.val c.2.val := by
  simp [steepL]
theorem stepN_in (L : Lawn) (g : Nat → Nat → Int) (z : Int) (x y : Nat) : 0 ≤ stepN L g z x y ∧ stepN L g z x y ≤ 2 := by
  unfold stepN b2n
  cases ssB L g z x y (x + 1) y <;> cases ssB L g z x y x (y + 1) <;> decide
theorem steepL_in {W H : Nat} (L : Lawn) (g : Nat → Nat → Int) (z : Int) (l : List (Fin W × Fin H)) : 0 ≤ steepL L g z l ∧ steepL L g z l ≤ 2 * (l.length : Int) := by
  induction l with
  | nil => simp [steepL]
  | cons c l ih =>
    have := stepN_in L g z c.1.val c.2.val
    simp only [steepL, List.map_cons, List.sum_cons, List.length_cons] at ih ⊢
    omega
/-- The answer when the first of both sides has been looked at, or both. -/
def stepTo (L : Lawn) (g : Nat → Nat → Int) (z : Int) (x y j : Nat) : Int := if j = 0 then 0 else if j = 1 then b2n (ssB L g z x y (x + 1) y) else stepN L g z x y
/-- The j-th of both sides. -/
def nextX (x j : Nat) : Nat := if j = 0 then x + 1 else x
def nextY (y j : Nat) : Nat := if j = 0 then y else y + 1
theorem stepTo_succ (L : Lawn) (g : Nat → Nat → Int) (z : Int) (x y j : Nat) (hj : j < 2) : stepTo L g z x y (j + 1) = stepTo L g z x y j + b2n (ssB L g z x y (nextX x j) (nextY y j)) := by
  have : j = 0 ∨ j = 1 := by omega
  rcases this with rfl | rfl
  · simp [stepTo, nextX, nextY]
  · simp [stepTo, nextX, nextY, stepN]
theorem stepTo_in (L : Lawn) (g : Nat → Nat → Int) (z : Int) (x y j : Nat) : 0 ≤ stepTo L g z x y j ∧ stepTo L g z x y j ≤ 2 := by
  have := stepN_in L g z x y
  unfold stepTo
  split
  · omega
  · split
    · unfold b2n; cases ssB L g z x y (x + 1) y <;> decide
    · omega

theorem pair_index (x y : Nat) (j : Nat) (hj : j < 2) (w : World) : (Instr.index 82 (.agg #[.int .i8 ((x : Int) + 1), .int .i8 (y : Int), .int .i8 (x : Int), .int .i8 ((y : Int) + 1)]) (.int .i64 j)).run Try.prog w = .ok (.agg #[.int .i8 ((nextX x j : Nat) : Int), .int .i8 ((nextY y j : Nat) : Int)]) w := by
  rw [index_wide (P := Try.prog) w Try.underlying82 wideCl _ j hj]
  have : j = 0 ∨ j = 1 := by omega
  rcases this with rfl | rfl <;> rfl

set_option maxRecDepth 100000 in
set_option maxHeartbeats 4000000 in
theorem steep_loop (Wn Hn : Nat) (hW : Wn ≤ 10) (hH : Hn ≤ 10) (L : Lawn) (hLw : L.wide = Wn) (hLh : L.high = Hn) (hL : L.Fits) (g : Nat → Nat → Int) (hg : LevFits g) (hv : levB L g = true) (z : Int) (hz : upZ z 18 = true) (w : World) :
    Calls Try.prog 26 #[.agg L.cells, .agg (levV g), .int .i64 z] w fun e w' => e = .returned (.tuple #[.int .i64 (steepL L g z (allC Wn Hn)), .int .i64 0]) ∧ Below w.heap.size w w' := by
  have HV := Lib.hid (implLevels_any L hL g)
  rw [hv] at HV
  have hV := (levB_true hv).1
  have HG := Lib.hid (fun (x y : Int) (v : Bool) (h : grassB L x y = v) => isGrass_is L hV hL x y v h)
  have HU := Lib.hid (upTo64_is z 18 true hz)
  have HR := Lib.hid (lev_range hv)
  have HL : Hid (L = ⟨(Wn : Int), (Hn : Int), L.kind⟩) := Lib.hid (by cases L; simp_all)
  have HIN := Lib.hid (fun (x y : Nat) (h : grassB L x y = true) => (by
    have := isB_in (grassB_in h)
    omega : x < 10 ∧ y < 10))
  clear hV hL hLw hLh hv hz hg
  refine (callsIn_wide (n := 9)).1 ?_
  refine callsIn_of_wp_marks Try.func26 rfl trivial ?_ rfl
  simp only [Try.ntmps26, List.size_toArray, List.length_cons, List.length_nil, Nat.reduceAdd, Nat.reduceSub, Array.replicate_succ, Array.replicate_zero, List.push_toArray, List.append_toArray, List.nil_append, List.cons_append]
  obtain ⟨Wa, hWa⟩ : ∃ Wa, ((w.alloc (.cells L.cells 30)).alloc (.cells (levV g) 32)).alloc (.cells #[.int .i64 z] 2) = Wa := ⟨_, rfl⟩
  have g0 : Holds Wa w.heap.size L.cells := by rw [← hWa]; exact ((Holds.new _ _ _).alloc _).alloc _
  have g1 : Holds Wa (w.heap.size + 1) (levV g) := by rw [← hWa]; exact (Holds.new' _ _ _ _ (by simp)).alloc _
  have g2 : Holds Wa (w.heap.size + 1 + 1) #[.int .i64 z] := by rw [← hWa]; exact Holds.new' _ _ _ _ (by simp)
  have hb0 : Below w.heap.size w Wa := by rw [← hWa]; exact (((Below.refl w.heap.size w).alloc (Nat.le_refl _) _).alloc (by simp) _).alloc (by simp; omega) _
  obtain ⟨r0, -, -, -, -⟩ := g0.facts
  obtain ⟨r1, -, -, -, -⟩ := g1.facts
  gi_wp2_with fail
  clear hWa r0 r1
  refine ⟨trivial, (callsIn_wide.2 (HV.out _)).mono ?_⟩
  rintro e w1 ⟨rfl, hb1⟩
  have j0 := g0.below hb1 g0.lt
  have j1 := g1.below hb1 g1.lt
  have j2 := g2.below hb1 g2.lt
  have jB := below_onto hb0 hb1
  clear g0 g1 g2 hb0 hb1 HV
  obtain ⟨r0, -, -, -, l0⟩ := j0.facts
  obtain ⟨-, -, c2, -, l2⟩ := j2.facts
  gi_wp2_with (first | (refine ⟨trivial, ?_⟩; gi_at_call 57; refine (callsIn_wide.2 (HU.out _)).mono ?_; rintro e w2 ⟨rfl, hw2⟩; rw [hw2]; clear hw2) | (refine ⟨trivial, ?_⟩; gi_at_call 38; refine (each_in Fence.wide _ trivial rfl _ _).mono ?_; rintro e w3 ⟨rfl, rfl⟩))
  obtain ⟨s, hs⟩ : ∃ s, w1.heap.size = s := ⟨_, rfl⟩
  obtain ⟨W0, hW0⟩ : ∃ W0, (w1.alloc (.cells #[.int .i64 0] 2)).alloc (.cells L.cells 30) = W0 := ⟨_, rfl⟩
  have g0 : Holds W0 w.heap.size L.cells := by rw [← hW0]; exact (j0.alloc _).alloc _
  have g1 : Holds W0 (w.heap.size + 1) (levV g) := by rw [← hW0]; exact (j1.alloc _).alloc _
  have g2 : Holds W0 (w.heap.size + 1 + 1) #[.int .i64 z] := by rw [← hW0]; exact (j2.alloc _).alloc _
  have g3 : Holds W0 s #[.int .i64 0] := by rw [← hW0]; exact (Holds.new' _ _ _ _ hs.symm).alloc _
  have g4 : Holds W0 (s + 1) L.cells := by rw [← hW0]; exact Holds.new' _ _ _ _ (by simp; omega)
  have hB0 : Below w.heap.size w W0 := by rw [← hW0]; exact (jB.alloc jB.size _).alloc (by simp; omega) _
  have hsz : W0.heap.size = s + 2 := by rw [← hW0]; simp; omega
  rw [hs] at l0 l2 ⊢
  rw [hW0]
  have hz1 : s + 2 ≤ W0.heap.size := by omega
  have hz2 : W0.heap.size ≤ s + 2 := by omega
  clear hW0 hs j0 j1 j2 jB r0 c2 hsz
  refine each_range (by omega) (p := 22) (q := 9) [s] Wn Hn hW hH L.kind rfl (by rw [← HL.out]; exact g4)
    (fun pre W => Holds W s #[.int .i64 (steepL L g z pre)] ∧ pre.length ≤ 100) (fun c pre W => False)
    (Own.from (ownAnd (holds_own _ (fun pre => #[.int .i64 (steepL L g z pre)])) (pure_own _)) _) (fun c => fun _ _ _ _ h _ _ => h.elim) ⟨by rw [steepL_nil]; exact g3, by simp⟩ ?assign ?body ?done ?stop
  case assign =>
    intro l x y W K hK
    simp only [cellV]
    gi_wp2
    exact hK
  case body =>
    rintro l pre x Bx W hl hr hO ⟨i3, hpl⟩ hBx bX hlt
    have hlt2 : (pre ++ [x]).length ≤ 100 := by
      rw [allC_length] at hlt
      have := Nat.mul_le_mul hH hW
      simp; omega
    have hx := x.1.isLt
    have hy := x.2.isLt
    have HSN := Lib.hid (steepL_snoc L g z pre x)
    have hpi := steepL_in L g z pre
    obtain ⟨S, hS⟩ : ∃ S, steepL L g z pre = S := ⟨_, rfl⟩
    rw [hS] at HSN i3 hpi
    obtain ⟨⟨xj, hxj⟩, ⟨xk, hxk⟩⟩ := x
    dsimp only at *
    simp only [cellV, List.setIfInBounds_toArray, List.set_cons_succ, List.set_cons_zero]
    have i0 := hO.holds g0 (by simp; omega)
    have i1 := hO.holds g1 (by simp; omega)
    have i2 := hO.holds g2 (by simp; omega)
    have hO2 := Lib.hid hO
    clear hr hlt hl hO hS
    have hj0 : (0 : Int) ≤ xj := by omega
    have hj1 : (xj : Int) < 10 := by omega
    have hk0 : (0 : Int) ≤ xk := by omega
    have hk1 : (xk : Int) < 10 := by omega
    obtain ⟨-, sx⟩ := bX.later
    gi_wp2_with fail
    refine wpIn_region_all (by kernel_rfl) rfl (by rintro ⟨_, _, h⟩; exact h) (by kernel_rfl) ?_
    iterate 6
      apply wpGrow_plain rfl
      · intro w' hw' K hK
        have cx' := sx _ hw'
        go_wp2_with (first | (go_at_call 58; refine (east_any xj xk (by omega) (by omega) _).mono ?_; rintro e w2 ⟨rfl, hb2⟩) | (go_at_call 59; refine (south_any xj xk (by omega) (by omega) _).mono ?_; rintro e w2 ⟨rfl, hb2⟩))
        first | exact hK _ _ rfl hw' | exact hK _ _ rfl (below_onto hw' hb2)
      simp only [Act.put, List.setIfInBounds_toArray, List.set_cons_succ, List.set_cons_zero]
    refine wpGrow_nil ?_
    intro W2 hW2
    have k0 := i0.below hW2 i0.lt
    have k1 := i1.below hW2 i1.lt
    have k2 := i2.below hW2 i2.lt
    have k3 := i3.below hW2 i3.lt
    have kX := bX.below hW2 bX.lt
    have kO : Only [s] W0 W2 := hO2.out.onto hW2
    have kK : KeepsOthers W W2 := keeps_below hW2
    clear hW2 i0 i1 i2 i3 bX sx
    gi_wp2_with fail
    gi_loopw [28] (fun q wi => ∃ j : Nat, j ≤ 2 ∧ q = .int .i64 j ∧ Holds wi s #[.int .i64 (S + stepTo L g z xj xk j)] ∧ Only [s] W2 wi ∧ KeepsOthers W wi) (fun q _ => 2 - (intOf q).toNat)
    case atStart => exact ⟨0, by omega, rfl, by simpa [stepTo] using k3, Only.refl _ _, kK⟩
    case round =>
      obtain ⟨j, hj, rfl, i3, iO, iK⟩ := hrel
      have HI3 := Lib.hid i3
      have HIO := Lib.hid iO
      have i0 := iO.holds k0 (by simp; omega)
      have i1 := iO.holds k1 (by simp; omega)
      have i2 := iO.holds k2 (by simp; omega)
      have iX := iO.holds kX (by simp; omega)
      clear i3 iO
      by_cases hjt : j < 2
      · have hd : decide ((j : Int) < (2 : Int)) = true := by simp; omega
        have hix := pair_index xj xk j hjt
        have HST := Lib.hid (stepTo_succ L g z xj xk j hjt)
        have hsi := stepTo_in L g z xj xk j
        obtain ⟨T, hT⟩ : ∃ T, stepTo L g z xj xk j = T := ⟨_, rfl⟩
        rw [hT] at HST HI3 hsi
        obtain ⟨nx, hnx⟩ : ∃ nx, nextX xj j = nx := ⟨_, rfl⟩
        obtain ⟨ny, hny⟩ : ∃ ny, nextY xk j = ny := ⟨_, rfl⟩
        rw [hnx, hny] at HST
        rw [hnx, hny] at hix
        have hnx' : nx ≤ 10 := by rw [← hnx]; unfold nextX; split <;> omega
        have hny' : ny ≤ 10 := by rw [← hny]; unfold nextY; split <;> omega
        obtain ⟨ga, hga⟩ : ∃ ga, grassB L (xj : Int) (xk : Int) = ga := ⟨_, rfl⟩
        obtain ⟨gn, hgn⟩ : ∃ gn, grassB L (nx : Int) (ny : Int) = gn := ⟨_, rfl⟩
        have HSB := Lib.hid (show ssB L g z xj xk nx ny = (ga && gn && decide (z < farZ (g xk xj) (g ny nx))) by unfold ssB; rw [hga, hgn])
        have HGA := Lib.hid (HG.out _ _ _ hga)
        have HGN := Lib.hid (HG.out _ _ _ hgn)
        have HNI := Lib.hid (show gn = true → nx < 10 ∧ ny < 10 from fun h => HIN.out nx ny (hgn.trans h))
        clear hT hnx hny hga hgn
        have n0 := Holds.new wr #[.int .i8 (nx : Int), .int .i8 (ny : Int)] 44
        have i0 := i0.alloc (.cells #[.int .i8 (nx : Int), .int .i8 (ny : Int)] 44)
        have i1 := i1.alloc (.cells #[.int .i8 (nx : Int), .int .i8 (ny : Int)] 44)
        have i2 := i2.alloc (.cells #[.int .i8 (nx : Int), .int .i8 (ny : Int)] 44)
        have i3 := HI3.out.alloc (.cells #[.int .i8 (nx : Int), .int .i8 (ny : Int)] 44)
        have iX := iX.alloc (.cells #[.int .i8 (nx : Int), .int .i8 (ny : Int)] 44)
        have iO := HIO.out.alloc (.cells #[.int .i8 (nx : Int), .int .i8 (ny : Int)] 44)
        have iK := iK.trans (KeepsOthers.alloc wr (.cells #[.int .i8 (nx : Int), .int .i8 (ny : Int)] 44))
        have hsw := HI3.out.lt
        obtain ⟨W3, hW3⟩ : ∃ W3, wr.alloc (.cells #[.int .i8 (nx : Int), .int .i8 (ny : Int)] 44) = W3 := ⟨_, rfl⟩
        obtain ⟨N, hN⟩ : ∃ N, wr.heap.size = N := ⟨_, rfl⟩
        rw [hW3] at n0 i0 i1 i2 i3 iX iO iK
        rw [hN] at n0 hsw
        obtain ⟨r0, -, -, -, -⟩ := i0.facts
        obtain ⟨-, -, cx, -, -⟩ := iX.facts
        clear HI3 HIO
        gi_wp2_with fail
        clear hW3 hN r0 cx
        refine ⟨trivial, (CallsIn.inRound l (callsIn_wide.2 (HGA.out _))).mono ?_⟩
        rintro e w4 ⟨rfl, hb1⟩
        have n0 := n0.below hb1 n0.lt
        have i0 := i0.below hb1 i0.lt
        have i1 := i1.below hb1 i1.lt
        have i2 := i2.below hb1 i2.lt
        have i3 := i3.below hb1 i3.lt
        have iX := iX.below hb1 iX.lt
        have iO := iO.onto hb1
        have iK := iK.trans (keeps_below hb1)
        clear hb1
        cases ga
        case false =>
          have HST := Lib.hid (show stepTo L g z xj xk (j + 1) = T by rw [HST.out, HSB.out]; simp [b2n])
          gi_wp2_with fail
          refine ⟨trivial, ?_⟩
          gi_wp2_with fail
          go_roundw
          case rel => exact ⟨j + 1, by omega, by go_num, by rw [HST.out]; exact i3, iO, iK⟩
          case measure => simp [intOf]; omega
        case true =>
          obtain ⟨r0, -, -, -, -⟩ := i0.facts
          obtain ⟨-, -, cn, -, -⟩ := n0.facts
          gi_wp2_with fail
          refine ⟨trivial, (CallsIn.inRound l (callsIn_wide.2 (HGN.out _))).mono ?_⟩
          rintro e w5 ⟨rfl, hb1⟩
          have n0 := n0.below hb1 n0.lt
          have i0 := i0.below hb1 i0.lt
          have i1 := i1.below hb1 i1.lt
          have i2 := i2.below hb1 i2.lt
          have i3 := i3.below hb1 i3.lt
          have iX := iX.below hb1 iX.lt
          have iO := iO.onto hb1
          have iK := iK.trans (keeps_below hb1)
          clear hb1 r0 cn
          cases gn
          case false =>
            have HST := Lib.hid (show stepTo L g z xj xk (j + 1) = T by rw [HST.out, HSB.out]; simp [b2n])
            gi_wp2_with fail
            go_roundw
            case rel => exact ⟨j + 1, by omega, by go_num, by rw [HST.out]; exact i3, iO, iK⟩
            case measure => simp [intOf]; omega
          case true =>
            obtain ⟨hn1, hn2⟩ := HNI.out rfl
            have hg1 := HR.out xk xj (by omega) (by omega)
            have hg2 := HR.out ny nx (by omega) (by omega)
            have hw1 : IntKind.i8.wrap (g xk xj - g ny nx) = g xk xj - g ny nx := IntWalk.i8_in _ (by omega)
            have hw2 : IntKind.i64.wrap (g xk xj - g ny nx) = g xk xj - g ny nx := IntWalk.i64_in _ (by omega)
            obtain ⟨r1, -⟩ := i1.later
            obtain ⟨-, sx⟩ := iX.later
            obtain ⟨-, sn⟩ := n0.later
            gi_wp2_with fail
            refine wpIn_region_grow 8 (by kernel_rfl) rfl (by rintro ⟨_, _, h⟩; exact h) (by kernel_rfl) ?_
            simp only [List.take_succ_cons, List.take_zero, List.drop_succ_cons, List.drop_zero]
            iterate 8
              apply wpGrow_plain rfl
              · intro w' hw' K hK
                have cx' := sx _ hw'
                have cn' := sn _ hw'
                go_wp2_with (first | (go_at_call 41; with_reducible refine (level_any g xj xk (by omega) (by omega) _).mono ?_; rintro e w2 ⟨rfl, hb2⟩) | (go_at_call 41; with_reducible refine (level_any g nx ny (by omega) (by omega) _).mono ?_; rintro e w2 ⟨rfl, hb2⟩))
                first | exact hK _ _ rfl hw' | exact hK _ _ rfl (below_onto hw' hb2)
              simp only [Act.put, List.setIfInBounds_toArray, List.set_cons_succ, List.set_cons_zero]
            refine wpGrow_nil ?_
            intro W4 hW4
            have i3 := i3.below hW4 i3.lt
            have i2 := i2.below hW4 i2.lt
            have iO := iO.onto hW4
            have iK := iK.trans (keeps_below hW4)
            obtain ⟨-, -, c2, -, -⟩ := i2.facts
            obtain ⟨-, -, c3, f3, l3⟩ := i3.facts
            clear hW4 n0 i0 i1 iX r1 sx sn
            go_wp2_with fail
            gi_wp2_with fail
            · rename_i hlt
              have HST := Lib.hid (show stepTo L g z xj xk (j + 1) = T + 1 by
                rw [HST.out, HSB.out]
                have : decide (z < farZ (g xk xj) (g ny nx)) = true := decide_eq_true (by unfold farZ; exact hlt)
                rw [this]; rfl)
              refine ⟨⟨j + 1, by omega, by go_num, ?_, iO.setCell (a := ⟨s, 0, none⟩) (.inl (by simp)) _, iK.trans (KeepsOthers.setCell _ _ _)⟩, by simp [intOf]; omega⟩
              rw [HST.out, ← Int.add_assoc]
              exact i3.setCell 0 _
            · rename_i hlt
              have HST := Lib.hid (show stepTo L g z xj xk (j + 1) = T by
                rw [HST.out, HSB.out]
                have : decide (z < farZ (g xk xj) (g ny nx)) = false := by
                  simp only [decide_eq_false_iff_not]
                  unfold farZ
                  omega
                rw [this]; simp [b2n])
              refine ⟨⟨j + 1, by omega, by go_num, ?_, iO, iK⟩, by simp [intOf]; omega⟩
              rw [HST.out]
              exact i3
      · obtain rfl : j = 2 := by omega
        have hd : decide (((2 : Nat) : Int) < (2 : Int)) = false := by decide
        gi_wp2_with fail
        refine eachDone (b := s + 1) (by omega) (by simp) hO2.out iK (kO.trans HIO.out) ⟨?_, hlt2⟩
        rw [HSN.out]
        exact HI3.out
  case done =>
    rintro D W hD hO ⟨i3, -⟩ hK
    have hB2 : Below w.heap.size w W := hB0.trans (hO.toBelow (by simp; omega) (by omega))
    obtain ⟨S, hS⟩ : ∃ S, steepL L g z (allC Wn Hn) = S := ⟨_, rfl⟩
    rw [hS] at i3
    have HS := Lib.hid hS
    obtain ⟨-, -, c3, -, -⟩ := i3.facts
    clear g0 g1 g2 g3 g4 hS HG HR HU HIN HL
    gi_wp2
    refine ⟨by simp, .inl ⟨_, _, rfl, run_takeDeferred hK, ?_⟩⟩
    refine ⟨.tuple #[.int .i64 S, .int .i64 0], ?_, by rw [HS.out], hB2.trans (belowK_b (w := w) (Nat.le_refl _) _ D _ _ (by omega) hK rfl rfl)⟩
    simp [results, Try.f26, go_sem]
  case stop =>
    rintro D c pre W hD _ h hK
    exact h.elim
end Go.Proofs.Ytbccffnmjmbgoaa
