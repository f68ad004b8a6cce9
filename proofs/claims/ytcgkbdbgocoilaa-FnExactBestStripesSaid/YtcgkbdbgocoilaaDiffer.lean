/- DifferIn, of the program and of the model. -/
import Derived.Test.YtcgkbdbgocoilaaCells
import Derived.Test.YtcgkbdbgocoilaaMark
import Derived.Maps.OwnIn
namespace Go.Proofs.Ytcgkbdbgocoilaa
open Go.RowKit Go.Shelf
set_option linter.unusedVariables false
attribute [local go_sem] Oper.semAt_some
attribute [local go_sem ↓] loadRow loadGrid loadLawn loadMirror storeRow storeGrid storeLawn allocRow allocGrid allocLawn buildZero buildSides loadRow' loadGrid' loadLawn' loadMirror' storeRow' storeGrid' storeLawn' allocRow' allocGrid' allocLawn' buildZero' buildSides'

/-- Those of some cells of which p is so. -/
def filtB {W H : Nat} (p : Nat → Nat → Bool) (pre : List (Fin W × Fin H)) : List (Fin W × Fin H) := pre.filter fun c => p c.2 c.1
theorem filtB_hit {W H : Nat} {p : Nat → Nat → Bool} {pre : List (Fin W × Fin H)} {c : Fin W × Fin H} (h : p c.2 c.1 = true) : filtB p (pre ++ [c]) = filtB p pre ++ [c] := by simp [filtB, h]
theorem filtB_miss {W H : Nat} {p : Nat → Nat → Bool} {pre : List (Fin W × Fin H)} {c : Fin W × Fin H} (h : p c.2 c.1 = false) : filtB p (pre ++ [c]) = filtB p pre := by simp [filtB, h]
theorem filtB_le {W H : Nat} (p : Nat → Nat → Bool) (pre : List (Fin W × Fin H)) : (filtB p pre).length ≤ pre.length := List.length_filter_le _ _

def sideB (A B : Lawn) : Bool := A.wide == B.wide && A.high == B.high
/-- The code of DifferIn. -/
def differC (A B : Lawn) : Int := if validB A && validB B then (if sideB A B then 0 else 4) else 1
def differP (A B : Lawn) (y x : Nat) : Bool := A.kind y x != B.kind y x
def differL (A B : Lawn) : List (Fin A.wide.toNat × Fin A.high.toNat) := if differC A B = 0 then filtB (differP A B) (allC A.wide.toNat A.high.toNat) else []

/-- The list that a loop over the cells has gathered, in its variable at block s. -/
def Gathers (s B : Nat) (l : List Value) (n : Nat) (W : World) : Prop := ∃ v, Holds W s #[v] ∧ W.ownsRow B 46 2 v n l
theorem gathers_own {β : Type} (s B : Nat) (l : β → List Value) (n : β → Nat) : Own (fun (b : β) w => Gathers s B (l b) (n b) w) := by
  rintro b W W' row ⟨v, h1, h2⟩ hg hr
  exact ⟨v, h1.grown hg hr, own_of_own (B := B) (e := 46) (size := 2) (v := fun _ : Unit => v) (n := fun _ => n b) (xs := fun _ => l b) () W W' row h2 hg hr⟩

set_option maxRecDepth 100000 in
set_option maxHeartbeats 2000000 in
theorem differ_loop (Wn Hn : Nat) (hW : Wn ≤ 10) (hH : Hn ≤ 10) (A B : Lawn) (hLw : A.wide = Wn) (hLh : A.high = Hn) (hA : A.Fits) (hB : B.Fits) (hVA : validB A = true) (hVB : validB B = true) (hS : sideB A B = true) (w : World) :
    Calls Try.prog 53 #[.agg A.cells, .agg B.cells] w fun e w' => (∃ v, e = .returned (.tuple #[v, .int .i64 0]) ∧ w'.ownsRow w.heap.size 46 2 v (filtB (differP A B) (allC Wn Hn)).length (flatV (filtB (differP A B) (allC Wn Hn)))) ∧ Below w.heap.size w w' := by
  have HIA := Lib.hid (show ∀ w : World, Calls Try.prog 65 #[.agg A.cells] w fun e w' => e = .returned (.bool true) ∧ Below w.heap.size w w' from fun w => hVA ▸ implValid_any A hA w)
  have HIB := Lib.hid (show ∀ w : World, Calls Try.prog 65 #[.agg B.cells] w fun e w' => e = .returned (.bool true) ∧ Below w.heap.size w w' from fun w => hVB ▸ implValid_any B hB w)
  have hsd : (A.wide == B.wide) = true ∧ (A.high == B.high) = true := by simpa [sideB] using hS
  obtain ⟨hs1, hs2⟩ := hsd
  have hs3 : (A.wide != B.wide) = false := by simp [bne, hs1]
  have hs4 : (A.high != B.high) = false := by simp [bne, hs2]
  have HL : Hid (A = ⟨(Wn : Int), (Hn : Int), A.kind⟩) := Lib.hid (by cases A; simp_all)
  obtain ⟨ci, hi, hz0, hz1, hz2⟩ := info_parts cellInfo
  have HCI := Lib.hid (show Try.prog.info? 46 = some ci ∧ ci.zero = some (.agg #[.int .i8 0, .int .i8 0]) ∧ ci.size = 2 ∧ ci.bytes = 2 from ⟨hi, hz0, hz1, hz2⟩)
  clear hi hz0 hz1 hz2 hLw hLh hVA hVB hS
  refine (callsIn_wide (n := 9)).1 ?_
  refine callsIn_of_wp_marks Try.func53 rfl trivial ?_ rfl
  simp only [Try.ntmps53, List.size_toArray, List.length_cons, List.length_nil, Nat.reduceAdd, Nat.reduceSub, Array.replicate_succ, Array.replicate_zero, List.push_toArray, List.append_toArray, List.nil_append, List.cons_append]
  gi_wp2_with fail
  have g0 := (Holds.new w A.cells 30).alloc (.cells B.cells 30)
  have g1 := Holds.new' (w.alloc (.cells A.cells 30)) B.cells 30 (w.heap.size + 1) (by simp)
  have hb0 := ((Below.refl w.heap.size w).alloc (Nat.le_refl _) (.cells A.cells 30)).alloc (by simp) (.cells B.cells 30)
  refine ⟨trivial, (callsIn_wide.2 (HIA.out _)).mono ?_⟩
  rintro e w1 ⟨rfl, hb1⟩
  have j0 := g0.below hb1 g0.lt
  have j1 := g1.below hb1 g1.lt
  have jB := below_onto hb0 hb1
  clear g0 g1 hb0 hb1
  obtain ⟨r1, -, -, -, l1⟩ := j1.facts
  gi_wp2_with fail
  refine ⟨trivial, (callsIn_wide.2 (HIB.out _)).mono ?_⟩
  rintro e w2 ⟨rfl, hb1⟩
  have q0 := j0.below hb1 j0.lt
  have q1 := j1.below hb1 j1.lt
  have qB := below_onto jB hb1
  clear j0 j1 jB hb1 r1 l1
  obtain ⟨r0, -, c0, -, l0⟩ := q0.facts
  obtain ⟨r1, -, c1, -, l1⟩ := q1.facts
  gi_wp2_with (refine ⟨trivial, ?_⟩; gi_at_call 67; refine (each_in Fence.wide _ trivial rfl _ _).mono ?_; rintro e w2 ⟨rfl, rfl⟩)
  obtain ⟨s, hs⟩ : ∃ s, w2.heap.size = s := ⟨_, rfl⟩
  obtain ⟨W0, hW0⟩ : ∃ W0, (w2.alloc (.cells #[.slice none 0 0] 27)).alloc (.cells A.cells 30) = W0 := ⟨_, rfl⟩
  have g0 : Holds W0 w.heap.size A.cells := by rw [← hW0]; exact (q0.alloc _).alloc _
  have g1 : Holds W0 (w.heap.size + 1) B.cells := by rw [← hW0]; exact (q1.alloc _).alloc _
  have g2 : Holds W0 s #[.slice none 0 0] := by rw [← hW0]; exact (Holds.new' _ _ _ _ hs.symm).alloc _
  have g3 : Holds W0 (s + 1) A.cells := by rw [← hW0]; exact Holds.new' _ _ _ _ (by simp; omega)
  have hB0 : Below w.heap.size w W0 := by rw [← hW0]; exact (qB.alloc qB.size _).alloc (by simp; omega) _
  have hsz : W0.heap.size = s + 2 := by rw [← hW0]; simp; omega
  rw [hs] at l0 l1 ⊢
  rw [hW0]
  have hsw : w.heap.size + 1 < s := by omega
  clear hW0 hs q0 q1 qB r0 r1 c0 c1
  have hsz0 : W0.heap.size ≤ s + 2 := by omega
  refine each_range (by omega) (p := 30) (q := 7) [s] Wn Hn hW hH A.kind rfl (by rw [← HL.out]; exact g3)
    (fun pre W => Gathers s (s + 2) (flatV (filtB (differP A B) pre)) (filtB (differP A B) pre).length W) (fun c pre W => False)
    (Own.from (gathers_own _ _ _ _) _) (fun c => fun _ _ _ _ h _ _ => h.elim) ⟨_, g2, World.ownsRow_nil _ _ _ _⟩ ?assign ?body ?done ?stop
  case assign =>
    intro l x y W K hK
    simp only [cellV]
    gi_wp2
    exact hK
  case body =>
    rintro l pre x Bx W hl hr hO ⟨v, i2, io⟩ hBx bX hlt
    have hx := x.1.isLt
    have hy := x.2.isLt
    obtain ⟨⟨xj, hxj⟩, ⟨xk, hxk⟩⟩ := x
    dsimp only at *
    simp only [cellV, List.setIfInBounds_toArray, List.set_cons_succ, List.set_cons_zero]
    have IO := Lib.hid io
    have hpl : pre.length ≤ 100 := by
      have h2 : (allC Wn Hn).length ≤ 100 := by rw [allC_length]; exact Nat.le_trans (Nat.mul_le_mul hH hW) (by omega)
      omega
    have i0 := hO.holds g0 (by simp; omega)
    have i1 := hO.holds g1 (by simp; omega)
    clear hr io hlt hl
    obtain ⟨r0, c0⟩ := i0.later
    obtain ⟨r1, c1⟩ := i1.later
    obtain ⟨rx, cx⟩ := bX.later
    gi_wp2_with fail
    refine wpIn_region_grow 6 (by kernel_rfl) rfl (by rintro ⟨_, _, h⟩; exact h) (by kernel_rfl) ?_
    simp only [List.take_succ_cons, List.take_zero, List.drop_succ_cons, List.drop_zero]
    iterate 6
      apply wpGrow_plain rfl
      · intro w' hw' K hK
        have cx' := cx _ hw'
        go_wp2_with (first | (go_at_call 68; ((with_reducible refine (kind_any A xj xk (by omega) (by omega) _).mono ?_); rintro e w2 ⟨rfl, hb2⟩)) | (go_at_call 68; ((with_reducible refine (kind_any B xj xk (by omega) (by omega) _).mono ?_); rintro e w2 ⟨rfl, hb2⟩)))
        first | exact hK _ _ rfl hw' | exact hK _ _ rfl (below_onto hw' hb2)
      simp only [Act.put, List.setIfInBounds_toArray, List.set_cons_succ, List.set_cons_zero]
    refine wpGrow_nil ?_
    intro W2 hW2
    have qX := bX.below hW2 bX.lt
    have q2 := i2.below hW2 i2.lt
    have qO : Only [s] W0 W2 := hO.onto hW2
    have qK : KeepsOthers W W2 := keeps_below hW2
    have IO2 := Lib.hid (own_below IO.out hW2)
    have hO2 := Lib.hid hO
    clear r0 c0 r1 c1 rx cx i0 i1 i2 bX IO hW2 hO
    cases hk : differP A B xk xj
    case true =>
      have hkd : (A.kind xk xj != B.kind xk xj) = true := hk
      have HK := Lib.hid hk
      have hle : (filtB (differP A B) pre).length ≤ 100 := Nat.le_trans (filtB_le _ _) hpl
      obtain ⟨-, -, c2, z2, l2⟩ := q2.facts
      obtain ⟨-, -, cX, -, lX⟩ := qX.facts
      clear hk
      go_wp2_with fail
      gi_wp2_with (gi_at_builtin; refine wpListIn_append_own_at _ rfl _ _ 27 rfl (s + 2) 46 ci (.agg #[.int .i8 0, .int .i8 0]) 2 2 Try.underlying27 HCI.out.1 HCI.out.2.1 HCI.out.2.2.1 HCI.out.2.2.2 rfl (by decide) _ _ _ rfl (IO2.out.alloc _) ⟨W2.heap.size, 0, none⟩ 1 1 [.int .i8 xj, .int .i8 xk] rfl rfl ?c1 ?c2 ?c3 ?c4 ?c5 ?_)
      case c1 =>
        intro m u hu
        match m, hu with
        | 0, hu => simp at hu; subst hu; exact (Holds.new W2 #[.int .i8 xj, .int .i8 xk] 46).cell 0
        | 1, hu => simp at hu; subst hu; exact (Holds.new W2 #[.int .i8 xj, .int .i8 xk] 46).cell 1
      case c2 => intro u hu; simp at hu; rcases hu with rfl | rfl <;> rfl
      case c3 => unfold maxLen; omega
      case c4 => omega
      case c5 => have := lX; simp; omega
      intro v' w3 hown' hgrow _ hat
      have ho3 : w3.ownsRow (s + 2) 46 2 v' (filtB (differP A B) (pre ++ [(⟨xj, hxj⟩, ⟨xk, hxk⟩)])).length (flatV (filtB (differP A B) (pre ++ [(⟨xj, hxj⟩, ⟨xk, hxk⟩)]))) := by
        rw [filtB_hit HK.out, flatV_append, List.length_append]
        exact hown'
      have p2 := held_grown (q2.alloc (.cells #[.int .i8 xj, .int .i8 xk] 46)) (IO2.out.alloc _) hgrow (by omega)
      have pO : Only [s] W0 w3 := (qO.alloc (.cells #[.int .i8 xj, .int .i8 xk] 46)).grown hgrow (fun k hk => .inr (by have := own_far IO2.out k hk; omega))
      have pK : KeepsOthers W w3 := (qK.trans (KeepsOthers.alloc _ _)).trans (own_others (IO2.out.alloc _) hgrow)
      have HO3 := Lib.hid ho3
      obtain ⟨g', cap', rfl, -, -⟩ := own_form hown' (by omega)
      clear hown' hgrow ho3 hat IO2 q2 qX qO qK c2 z2 cX lX l2
      obtain ⟨-, -, c2, z2, l2⟩ := p2.facts
      have hf3 := own_far HO3.out g' rfl
      gi_wp2_with fail
      exact eachDone (by omega) (by simp) hO2.out (pK.trans (KeepsOthers.setCell _ _ _)) (pO.setCell (.inl (by simp)) _)
        ⟨_, p2.setCell 0 _, HO3.out.kept (grownBy_setCell' w3 s _) (.inr (by simp [Value.ownBlock]; omega))⟩
    case false =>
      have hkd : (A.kind xk xj != B.kind xk xj) = false := hk
      have HF2 := Lib.hid (filtB_miss (p := differP A B) (pre := pre) (c := (⟨xj, hxj⟩, ⟨xk, hxk⟩)) hk)
      clear hk
      go_wp2_with fail
      gi_wp2_with fail
      exact eachDone (by omega) (by simp) hO2.out qK qO ⟨v, q2, by rw [HF2.out]; exact IO2.out⟩
  case done =>
    rintro D W hD hO ⟨v, i2, io⟩ hK
    obtain ⟨a, c, rfl⟩ := own_slice io
    have IO := Lib.hid io
    have hB2 : Below w.heap.size w W := hB0.trans (hO.toBelow (by simp; omega) (by omega))
    obtain ⟨-, f1, c1, z1, l1⟩ := i2.facts
    clear io g0 g1 g2 g3
    gi_wp2
    refine ⟨by simp, .inl ⟨_, _, rfl, run_takeDeferred hK, ?_⟩⟩
    refine ⟨.tuple #[.slice a (filtB (differP A B) (allC Wn Hn)).length c, .int .i64 0], ?_, ⟨⟨_, rfl, ?_⟩, hB2.trans (belowK_b (w := w) (Nat.le_refl _) _ D _ _ (by omega) hK rfl rfl)⟩⟩
    · simp [results, Try.f53, go_sem]
    · exact ownsRow_low (own_putD IO.out hK) (by omega)
  case stop =>
    rintro D c pre W hD _ h hK
    exact h.elim

theorem side_nats {L : Lawn} (hv : validB L = true) : ∃ W H : Nat, (W ≤ 10 ∧ H ≤ 10) ∧ (1 ≤ W ∧ 1 ≤ H) ∧ L.wide.toNat = W ∧ L.high.toNat = H ∧ L.wide = W ∧ L.high = H := by
  obtain ⟨h1, h2, -⟩ := validB_true hv
  exact ⟨L.wide.toNat, L.high.toNat, by omega, by omega, rfl, rfl, by omega, by omega⟩

set_option maxRecDepth 100000 in
set_option maxHeartbeats 1000000 in
theorem implDiffer_any (A B : Lawn) (hA : A.Fits) (hB : B.Fits) (w : World) :
    Calls Try.prog 53 #[.agg A.cells, .agg B.cells] w fun e w' => (∃ v, e = .returned (.tuple #[v, .int .i64 (differC A B)]) ∧ w'.ownsRow w.heap.size 46 2 v (differL A B).length (flatV (differL A B))) ∧ Below w.heap.size w w' := by
  cases hVA : validB A <;> cases hVB : validB B
  case true.true =>
    cases hS : sideB A B
    case true =>
      have e0 : differC A B = 0 := by simp [differC, hVA, hVB, hS]
      have e : differL A B = filtB (differP A B) (allC A.wide.toNat A.high.toNat) := by simp [differL, e0]
      rw [e, e0]
      obtain ⟨h1, h2, -⟩ := validB_true hVA
      exact differ_loop A.wide.toNat A.high.toNat (by omega) (by omega) A B (by omega) (by omega) hA hB hVA hVB hS w
    case false =>
      have e0 : differC A B = 4 := by simp [differC, hVA, hVB, hS]
      have e : differL A B = [] := by simp [differL, e0]
      rw [e, e0]
      have HIA := Lib.hid (show ∀ w : World, Calls Try.prog 65 #[.agg A.cells] w fun e w' => e = .returned (.bool true) ∧ Below w.heap.size w w' from fun w => hVA ▸ implValid_any A hA w)
      have HIB := Lib.hid (show ∀ w : World, Calls Try.prog 65 #[.agg B.cells] w fun e w' => e = .returned (.bool true) ∧ Below w.heap.size w w' from fun w => hVB ▸ implValid_any B hB w)
      have hS' : (A.wide != B.wide) = true ∨ (A.wide != B.wide) = false ∧ (A.high != B.high) = true := by
        unfold sideB at hS
        cases h1 : (A.wide == B.wide) <;> simp_all [bne]
      clear hA hB hVA hVB hS e0 e
      rcases hS' with h1 | ⟨h1, h2⟩
      all_goals
        go_enter Try.func53, Try.ntmps53
        go_wp2_with fail
        have g0 := (Holds.new w A.cells 30).alloc (.cells B.cells 30)
        have g1 := Holds.new' (w.alloc (.cells A.cells 30)) B.cells 30 (w.heap.size + 1) (by simp)
        have hb0 := ((Below.refl w.heap.size w).alloc (Nat.le_refl _) (.cells A.cells 30)).alloc (by simp) (.cells B.cells 30)
        refine (HIA.out _).mono ?_
        rintro e w1 ⟨rfl, hb1⟩
        have j0 := g0.below hb1 g0.lt
        have j1 := g1.below hb1 g1.lt
        have jB := below_onto hb0 hb1
        clear g0 g1 hb0 hb1
        obtain ⟨r1, -, -, -, l1⟩ := j1.facts
        go_wp2_with fail
        refine (HIB.out _).mono ?_
        rintro e w2 ⟨rfl, hb1⟩
        have q0 := j0.below hb1 j0.lt
        have q1 := j1.below hb1 j1.lt
        have qB := below_onto jB hb1
        clear j0 j1 jB hb1 r1 l1
        obtain ⟨r0, -, c0, -, l0⟩ := q0.facts
        obtain ⟨r1, -, c1, -, l1⟩ := q1.facts
        go_wp2_with fail
        go_ret2
        exact ⟨⟨_, rfl, World.ownsRow_nil _ _ _ _⟩, qB⟩
  case true.false =>
    have e0 : differC A B = 1 := by simp [differC, hVA, hVB]
    have e : differL A B = [] := by simp [differL, e0]
    rw [e, e0]
    have HIA := Lib.hid (show ∀ w : World, Calls Try.prog 65 #[.agg A.cells] w fun e w' => e = .returned (.bool true) ∧ Below w.heap.size w w' from fun w => hVA ▸ implValid_any A hA w)
    have HIB := Lib.hid (show ∀ w : World, Calls Try.prog 65 #[.agg B.cells] w fun e w' => e = .returned (.bool false) ∧ Below w.heap.size w w' from fun w => hVB ▸ implValid_any B hB w)
    clear hA hB hVA hVB e0 e
    go_enter Try.func53, Try.ntmps53
    go_wp2_with fail
    have g1 := Holds.new' (w.alloc (.cells A.cells 30)) B.cells 30 (w.heap.size + 1) (by simp)
    have hb0 := ((Below.refl w.heap.size w).alloc (Nat.le_refl _) (.cells A.cells 30)).alloc (by simp) (.cells B.cells 30)
    refine (HIA.out _).mono ?_
    rintro e w1 ⟨rfl, hb1⟩
    have j1 := g1.below hb1 g1.lt
    have jB := below_onto hb0 hb1
    clear g1 hb0 hb1
    obtain ⟨r1, -, -, -, l1⟩ := j1.facts
    go_wp2_with fail
    refine (HIB.out _).mono ?_
    rintro e w2 ⟨rfl, hb1⟩
    have qB := below_onto jB hb1
    clear j1 jB hb1 r1 l1
    go_wp2_with fail
    go_ret2
    exact ⟨⟨_, rfl, World.ownsRow_nil _ _ _ _⟩, qB⟩
  all_goals
    have e0 : differC A B = 1 := by simp [differC, hVA, hVB]
    have e : differL A B = [] := by simp [differL, e0]
    rw [e, e0]
    have HIA := Lib.hid (show ∀ w : World, Calls Try.prog 65 #[.agg A.cells] w fun e w' => e = .returned (.bool false) ∧ Below w.heap.size w w' from fun w => hVA ▸ implValid_any A hA w)
    clear hA hB hVA hVB e0 e
    go_enter Try.func53, Try.ntmps53
    go_wp2_with fail
    have hb0 := ((Below.refl w.heap.size w).alloc (Nat.le_refl _) (.cells A.cells 30)).alloc (by simp) (.cells B.cells 30)
    refine (HIA.out _).mono ?_
    rintro e w1 ⟨rfl, hb1⟩
    have jB := below_onto hb0 hb1
    clear hb0 hb1
    go_wp2_with fail
    go_ret2
    exact ⟨⟨_, rfl, World.ownsRow_nil _ _ _ _⟩, jB⟩
end Go.Proofs.Ytcgkbdbgocoilaa
