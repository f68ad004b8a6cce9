/- StepsFrom, of the program. -/
import Derived.Test.YtgmahakpmjfhhaaRRSteps
import Derived.Test.YtgmahakpmjfhhaaRRRuns
namespace Go.Proofs.YtgmahakpmjfhhaaRR
open Go.RowKit Go.Shelf
set_option linter.unusedVariables false
attribute [local go_sem] Oper.semAt_some
attribute [local go_sem ↓] loadRow loadGrid loadLawn loadMirror storeRow storeGrid storeLawn allocRow allocGrid allocLawn buildZero buildSides loadRow' loadGrid' loadLawn' loadMirror' storeRow' storeGrid' storeLawn' allocRow' allocGrid' allocLawn' buildZero' buildSides'

/-- Cells that are open; cells of grass. -/
def openP (L : Lawn) (c : Pt) : Bool := openB L c.1 c.2
def grassP (L : Lawn) (c : Pt) : Bool := grassB L c.1 c.2
theorem isB_near {L : Lawn} (hv : validB L = true) {x y : Int} (h : isB L x y = true) : (0 ≤ x ∧ x < 10) ∧ 0 ≤ y ∧ y < 10 := by
  obtain ⟨h1, h2, -⟩ := validB_true hv
  have := isB_in h
  omega
theorem openP_near {L : Lawn} (hv : validB L = true) (c : Pt) (h : openP L c = true) : (0 ≤ c.1 ∧ c.1 < 10) ∧ 0 ≤ c.2 ∧ c.2 < 10 := by
  simp only [openP, openB, Bool.and_eq_true] at h
  exact isB_near hv h.1
theorem grassP_near {L : Lawn} (hv : validB L = true) (c : Pt) (h : grassP L c = true) : (0 ≤ c.1 ∧ c.1 < 10) ∧ 0 ≤ c.2 ∧ c.2 < 10 := isB_near hv (grassB_in h)
/-- The steps to a cell; -1 if one cannot come there. -/
def stepsAt (F : Found) (x y : Int) : Int := (alLook F (x, y)).getD (-1)
def stepsV {W H : Nat} (F : Found) (l : List (Fin W × Fin H)) : List Value := l.map fun c => .int .i64 (stepsAt F c.1.val c.2.val)
theorem stepsV_append {W H : Nat} (F : Found) (l l' : List (Fin W × Fin H)) : stepsV F (l ++ l') = stepsV F l ++ stepsV F l' := by simp [stepsV]
theorem int64Info : (Try.prog.info? 2).map (fun i => (i.zero, i.size, i.bytes)) = some (some (.int .i64 0), 1, 8) := by kernel_rfl
/-- The list of numbers that a loop over the cells has gathered, in its variable at block s. -/
def Gathers64 (s B : Nat) (l : List Value) (n : Nat) (W : World) : Prop := ∃ v, Holds W s #[v] ∧ W.ownsRow B 2 1 v n l
theorem gathers64_own {β : Type} (s B : Nat) (l : β → List Value) (n : β → Nat) : Own (fun (b : β) w => Gathers64 s B (l b) (n b) w) := by
  rintro b W W' row ⟨v, h1, h2⟩ hg hr
  exact ⟨v, h1.grown hg hr, own_of_own (B := B) (e := 2) (size := 1) (v := fun _ : Unit => v) (n := fun _ => n b) (xs := fun _ => l b) () W W' row h2 hg hr⟩

set_option maxRecDepth 100000 in
set_option maxHeartbeats 2000000 in
theorem steps_loop (Wn Hn : Nat) (hW : Wn ≤ 10) (hH : Hn ≤ 10) (L : Lawn) (hLw : L.wide = Wn) (hLh : L.high = Hn) (hL : L.Fits) (hV : validB L = true) (x y : Int) (hI : isB L x y = true) (hO : openB L x y = true) (w : World) :
    Calls Try.prog 72 #[.agg L.cells, .agg #[.int .i8 x, .int .i8 y]] w fun e w' => (∃ v, e = .returned (.tuple #[v, .int .i64 0]) ∧ w'.ownsRow w.heap.size 2 1 v (allC Wn Hn).length (stepsV (found (openP L) (x, y) 100) (allC Wn Hn))) ∧ Below w.heap.size w w' := by
  have HCK := Lib.hid (show ∀ (g : Nat) (w : World), Holds w g #[.int .i8 x, .int .i8 y] → Calls Try.prog 108 #[.agg L.cells, .slice (some ⟨g, 0, none⟩) 1 1] w fun e w' => e = .returned (.int .i64 0) ∧ Below w.heap.size w w' from fun g w h => by
    have := check_any L hL x y g w h
    simpa [told, hV, hI] using this)
  have HOP := Lib.hid (show ∀ w, Calls Try.prog 144 #[.agg L.cells, .agg #[.int .i8 x, .int .i8 y]] w fun e w' => e = .returned (.bool true) ∧ Below w.heap.size w w' from fun w => hO ▸ isOpen_any L hV hL x y w)
  have HST := Lib.hid (show ∀ w, Calls Try.prog 145 #[.agg #[.int .i8 x, .int .i8 y], .func (.func 144) #[.agg L.cells] #[]] w fun e w' => (∃ b, e = .returned (.map (some b)) ∧ w.heap.size ≤ b ∧ MapIs w' b cellK valI (found (openP L) (x, y) 100)) ∧ Below w.heap.size w w' from fun w =>
    steps_any L _ (openP L) (pass_isOpen L) (fun x y w => isOpen_any L hV hL x y w) (openP_near hV) (x, y) hO w)
  obtain ⟨ci, hi, hz0, hz1, hz2⟩ := info_parts int64Info
  have HCI := Lib.hid (show Try.prog.info? 2 = some ci ∧ ci.zero = some (.int .i64 0) ∧ ci.size = 1 ∧ ci.bytes = 8 from ⟨hi, hz0, hz1, hz2⟩)
  have HL : Hid (L = ⟨(Wn : Int), (Hn : Int), L.kind⟩) := Lib.hid (by cases L; simp_all)
  obtain ⟨F, hF⟩ : ∃ F, found (openP L) (x, y) 100 = F := ⟨_, rfl⟩
  rw [hF] at HST ⊢
  clear hi hz0 hz1 hz2 hLw hLh hV hL hI hO hF
  refine (callsIn_wide (n := 9)).1 ?_
  refine callsIn_of_wp_marks Try.func72 rfl trivial ?_ rfl
  simp only [Try.ntmps72, List.size_toArray, List.length_cons, List.length_nil, Nat.reduceAdd, Nat.reduceSub, Array.replicate_succ, Array.replicate_zero, List.push_toArray, List.append_toArray, List.nil_append, List.cons_append]
  gi_wp2_with fail
  have g0 : Holds (((w.alloc (.cells L.cells 28)).alloc (.cells #[.int .i8 x, .int .i8 y] 35)).alloc (.cells #[.int .i8 x, .int .i8 y] 35)) w.heap.size L.cells := ((Holds.new _ _ _).alloc _).alloc _
  have c0 : Holds (((w.alloc (.cells L.cells 28)).alloc (.cells #[.int .i8 x, .int .i8 y] 35)).alloc (.cells #[.int .i8 x, .int .i8 y] 35)) (w.heap.size + 1) #[.int .i8 x, .int .i8 y] := (Holds.new' _ _ _ _ (by simp)).alloc _
  have s0 : Holds (((w.alloc (.cells L.cells 28)).alloc (.cells #[.int .i8 x, .int .i8 y] 35)).alloc (.cells #[.int .i8 x, .int .i8 y] 35)) (w.heap.size + 1 + 1) #[.int .i8 x, .int .i8 y] := Holds.new' _ _ _ _ (by simp)
  have hb : Below w.heap.size w (((w.alloc (.cells L.cells 28)).alloc (.cells #[.int .i8 x, .int .i8 y] 35)).alloc (.cells #[.int .i8 x, .int .i8 y] 35)) := (((Below.refl w.heap.size w).alloc (Nat.le_refl _) _).alloc (by simp) _).alloc (by simp; omega) _
  refine ⟨trivial, (callsIn_wide.2 (HCK.out _ _ s0)).mono ?_⟩
  rintro e w1 ⟨rfl, hb1⟩
  have g1 := g0.below hb1 g0.lt
  have c1 := c0.below hb1 c0.lt
  have jB := below_onto hb hb1
  clear g0 c0 s0 hb hb1
  obtain ⟨r1, -, -, -, l1⟩ := g1.facts
  obtain ⟨-, -, d1, -, -⟩ := c1.facts
  gi_wp2_with fail
  refine ⟨trivial, (callsIn_wide.2 (HOP.out _)).mono ?_⟩
  rintro e w2 ⟨rfl, hb1⟩
  have g2 := g1.below hb1 g1.lt
  have c2 := c1.below hb1 c1.lt
  have jB2 := below_onto jB hb1
  clear g1 c1 jB hb1 r1 d1
  obtain ⟨r1, -, -, -, l2⟩ := g2.facts
  obtain ⟨-, -, d1, -, -⟩ := c2.facts
  gi_wp2_with fail
  refine ⟨trivial, (callsIn_wide.2 (HST.out _)).mono ?_⟩
  rintro e w3 ⟨⟨b, rfl, hbm, hM⟩, hb1⟩
  have g3 := g2.below hb1 g2.lt
  have jB3 := below_onto jB2 hb1
  clear g2 c2 jB2 hb1 r1 d1
  have l3 := g3.lt
  have r0 := ((g3.alloc (.cells #[.map (some b)] 134)).alloc (.cells #[.slice none 0 0] 59)).row
  gi_wp2_with (refine ⟨trivial, ?_⟩; gi_at_call 98; refine (each_in Fence.wide _ trivial rfl _ _).mono ?_; rintro e w2 ⟨rfl, rfl⟩)
  obtain ⟨u, hu⟩ : ∃ u, w3.heap.size = u := ⟨_, rfl⟩
  obtain ⟨W0, hW0⟩ : ∃ W0, ((w3.alloc (.cells #[.map (some b)] 134)).alloc (.cells #[.slice none 0 0] 59)).alloc (.cells L.cells 28) = W0 := ⟨_, rfl⟩
  have hml := hM.lt
  have g0 : Holds W0 u #[.map (some b)] := by rw [← hW0]; exact ((Holds.new' _ _ _ _ hu.symm).alloc _).alloc _
  have g1 : Holds W0 (u + 1) #[.slice none 0 0] := by rw [← hW0]; exact (Holds.new' _ _ _ _ (by simp; omega)).alloc _
  have g2 : Holds W0 (u + 1 + 1) L.cells := by rw [← hW0]; exact Holds.new' _ _ _ _ (by simp; omega)
  have gM : MapIs W0 b cellK valI F := by rw [← hW0]; exact ((hM.alloc _).alloc _).alloc _
  have hB0 : Below w.heap.size w W0 := by rw [← hW0]; exact ((jB3.alloc jB3.size _).alloc (by have := jB3.size; simp; omega) _).alloc (by have := jB3.size; simp; omega) _
  have hz1 : u + 3 ≤ W0.heap.size := by rw [← hW0]; simp; omega
  have hz2 : W0.heap.size ≤ u + 3 := by rw [← hW0]; simp; omega
  have hbu : b < u := by omega
  have hwu : w.heap.size ≤ u := by have := jB3.size; omega
  rw [hu] at l3 ⊢
  rw [hW0]
  clear hW0 hu g3 jB3 r0 hM hml
  refine each_range (by omega) (p := 29) (q := 9) [u + 1] Wn Hn hW hH L.kind rfl (by rw [← HL.out]; exact g2)
    (fun pre W => Gathers64 (u + 1) (u + 3) (stepsV F pre) pre.length W) (fun c pre W => False)
    (Own.from (gathers64_own _ _ _ _) _) (fun c => fun _ _ _ _ h _ _ => h.elim) ⟨_, g1, World.ownsRow_nil _ _ _ _⟩ ?assign ?body ?done ?stop
  case assign =>
    intro l x y W K hK
    simp only [cellV]
    gi_wp2
    exact hK
  case body =>
    rintro l pre x Bx W hl hr hO ⟨v, i1, io⟩ hBx bX hlt
    have hx := x.1.isLt
    have hy := x.2.isLt
    obtain ⟨⟨xj, hxj⟩, ⟨xk, hxk⟩⟩ := x
    dsimp only at *
    simp only [cellV, List.setIfInBounds_toArray, List.set_cons_succ, List.set_cons_zero]
    have IO := Lib.hid io
    have hpl : pre.length ≤ 100 := by
      have h2 : (allC Wn Hn).length ≤ 100 := by rw [allC_length]; exact Nat.le_trans (Nat.mul_le_mul hH hW) (by omega)
      omega
    have i0 := hO.holds g0 (by simp <;> omega)
    have iM : MapIs W b cellK valI F := gM.block (hO.block b gM.lt (by simp; omega))
    have hO2 := Lib.hid hO
    clear hr io hlt hl
    obtain ⟨-, -, d0, -, -⟩ := i0.facts
    obtain ⟨-, -, dX, -, -⟩ := bX.facts
    obtain ⟨-, -, d1, z1, l1⟩ := i1.facts
    have hlk := (iM.look cellKey Try.underlying134 zero64 ((xj : Int), (xk : Int))).2
    obtain ⟨r, hr⟩ : ∃ r, alLook F ((xj : Int), (xk : Int)) = r := ⟨_, rfl⟩
    rw [hr] at hlk
    simp only [cellK, cellV, valI] at hlk
    have hsz := hO.size
    have HAT := Lib.hid (show stepsAt F xj xk = r.getD (-1) by unfold stepsAt; rw [hr])
    clear hr hO
    cases r
    all_goals
      simp only [Option.getD_none, Option.isSome_none, Option.getD_some, Option.isSome_some] at hlk HAT
      gi_wp2_with (gi_at_builtin; refine wpListIn_append_own_at _ rfl _ _ 59 rfl (u + 3) 2 ci (.int .i64 0) 1 8 Try.underlying59 HCI.out.1 HCI.out.2.1 HCI.out.2.2.1 HCI.out.2.2.2 rfl (by decide) _ _ _ rfl (IO.out.alloc _) ⟨W.heap.size, 0, none⟩ 1 1 [.int .i64 (stepsAt F xj xk)] rfl rfl ?c1 ?c2 ?c3 ?c4 ?c5 ?_)
      case c1 =>
        intro m z hz
        match m, hz with
        | 0, hz => simp at hz; subst hz; rw [HAT.out]; exact (Holds.new W #[_] 2).cell 0
      case c2 => intro z hz; simp at hz; subst hz; rfl
      case c3 => unfold maxLen; omega
      case c4 => omega
      case c5 => simp; omega
      intro v' w4 hown' hgrow _ hat
      have ho3 : w4.ownsRow (u + 3) 2 1 v' (pre ++ [((⟨xj, hxj⟩, ⟨xk, hxk⟩) : Fin Wn × Fin Hn)]).length (stepsV F (pre ++ [((⟨xj, hxj⟩, ⟨xk, hxk⟩) : Fin Wn × Fin Hn)])) := by
        rw [stepsV_append, List.length_append]
        exact hown'
      have p1 := held_grown (i1.alloc (.cells #[_] 2)) (IO.out.alloc _) hgrow (by omega)
      have pO : Only [u + 1] W0 w4 := (hO2.out.alloc _).grown hgrow (fun k hk => .inr (by have := own_far IO.out k hk; omega))
      have pK : KeepsOthers W w4 := (KeepsOthers.alloc _ _).trans (own_others (IO.out.alloc _) hgrow)
      have HO3 := Lib.hid ho3
      obtain ⟨g', cap', rfl, -, -⟩ := own_form hown' (by omega)
      clear hown' hgrow ho3 hat IO d1 z1 l1 hlk d0 dX i0 iM
      obtain ⟨-, -, d1, z1, l1⟩ := p1.facts
      have hf3 := own_far HO3.out g' rfl
      gi_wp2_with fail
      exact eachDone (b := u + 1 + 1) (by omega) (by simp) hO2.out (pK.trans (KeepsOthers.setCell _ _ _)) (pO.setCell (a := ⟨u + 1, 0, none⟩) (.inl (by simp)) _)
        ⟨_, p1.setCell 0 _, HO3.out.kept (grownBy_setCell' w4 (u + 1) _) (.inr (by simp [Value.ownBlock]; omega))⟩
  case done =>
    rintro D W hD hO ⟨v, i1, io⟩ hK
    obtain ⟨a, c, rfl⟩ := own_slice io
    have IO := Lib.hid io
    have hB2 : Below w.heap.size w W := hB0.trans (hO.toBelow (by simp; omega) (by omega))
    obtain ⟨-, f1, c1, z1, l1⟩ := i1.facts
    clear io g0 g1 g2 gM
    gi_wp2
    refine ⟨by simp, .inl ⟨_, _, rfl, run_takeDeferred hK, ?_⟩⟩
    refine ⟨.tuple #[.slice a (allC Wn Hn).length c, .int .i64 0], ?_, ⟨⟨_, rfl, ?_⟩, hB2.trans (belowK_b (w := w) (Nat.le_refl _) _ D _ _ (by omega) hK rfl rfl)⟩⟩
    · simp [results, Try.f72, go_sem]
    · exact ownsRow_low (own_putD IO.out hK) (by omega)
  case stop =>
    rintro D c pre W hD _ h hK
    exact h.elim
end Go.Proofs.YtgmahakpmjfhhaaRR
