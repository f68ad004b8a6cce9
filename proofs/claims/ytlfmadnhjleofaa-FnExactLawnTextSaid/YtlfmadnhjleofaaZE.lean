/- RunsOf of the program. CellsOf of the program. CountKind, of the program and of the model. CellsOf of the model. RunsOf of the model. -/
import Derived.Test.YtlfmadnhjleofaaZC
import Derived.Test.YtlfmadnhjleofaaZD
import Derived.Laws.EntriesVeiled
import Derived.Test.YtlfmadnhjleofaaZB
import Derived.Maps.OwnIn
namespace Go.Proofs.Ytlfmadnhjleofaa
open Go.RowKit Go.Shelf
set_option linter.unusedVariables false
attribute [local go_sem] Oper.semAt_some
attribute [local go_sem ↓] loadRow loadGrid loadLawn loadMirror storeRow storeGrid storeLawn allocRow allocGrid allocLawn buildZero buildSides loadRow' loadGrid' loadLawn' loadMirror' storeRow' storeGrid' storeLawn' allocRow' allocGrid' allocLawn' buildZero' buildSides'

/-- A run begins at a cell. -/
def headB (L : Lawn) (across : Bool) (y x : Nat) : Bool := grassB L x y && !grassB L ((x : Int) - stepX across) ((y : Int) - stepY across)
/-- The cells of the runs that begin at some cells. -/
def runsV {W H : Nat} (L : Lawn) (across : Bool) (l : List (Fin W × Fin H)) : List Value := l.flatMap fun c => [.int .i8 c.1.val, .int .i8 c.2.val, .int .i8 (runLen L across c.1.val c.2.val)]
theorem runsV_append {W H : Nat} (L : Lawn) (across : Bool) (l l' : List (Fin W × Fin H)) : runsV L across (l ++ l') = runsV L across l ++ runsV L across l' := by simp [runsV]
theorem runsV_get {W H : Nat} (L : Lawn) (across : Bool) : ∀ (l : List (Fin W × Fin H)) (i : Nat) (c : Fin W × Fin H), l[i]? = some c →
    (runsV L across l)[i * 3]? = some (.int .i8 c.1.val) ∧ (runsV L across l)[i * 3 + 1]? = some (.int .i8 c.2.val) ∧ (runsV L across l)[i * 3 + 2]? = some (.int .i8 (runLen L across c.1.val c.2.val))
  | [], i, c, h => by simp at h
  | a :: l, 0, c, h => by simp at h; subst h; exact ⟨rfl, rfl, rfl⟩
  | a :: l, i + 1, c, h => by
    have ih := runsV_get L across l i c (by simpa using h)
    simp only [runsV, List.flatMap_cons] at ih ⊢
    rw [show (i + 1) * 3 = i * 3 + 3 by omega, show i * 3 + 3 + 1 = i * 3 + 1 + 3 by omega, show i * 3 + 3 + 2 = i * 3 + 2 + 3 by omega]
    simpa using ih
theorem runsV_ints {W H : Nat} (L : Lawn) (across : Bool) (l : List (Fin W × Fin H)) (n : Nat) (hn : l.length = n) : ∀ j, j < n * 3 → ∃ z, (runsV L across l)[j]? = some (.int .i8 z) := by
  intro j hj
  obtain ⟨c, hc⟩ : ∃ c, l[j / 3]? = some c := ⟨_, List.getElem?_eq_getElem (by omega)⟩
  obtain ⟨h1, h2, h3⟩ := runsV_get L across _ _ _ hc
  have : j % 3 = 0 ∨ j % 3 = 1 ∨ j % 3 = 2 := by omega
  rcases this with h | h | h
  · exact ⟨_, by rw [show j = j / 3 * 3 by omega]; exact h1⟩
  · exact ⟨_, by rw [show j = j / 3 * 3 + 1 by omega]; exact h2⟩
  · exact ⟨_, by rw [show j = j / 3 * 3 + 2 by omega]; exact h3⟩
theorem runInfo : (Try.prog.info? 37).map (fun i => (i.zero, i.size, i.bytes)) = some (some (.agg #[.int .i8 0, .int .i8 0, .int .i8 0]), 3, 3) := by kernel_rfl

/-- The list that a loop over the cells has gathered, in its variable at block s. -/
def GathersR (s B : Nat) (l : List Value) (n : Nat) (W : World) : Prop := ∃ v, Holds W s #[v] ∧ W.ownsRow B 37 3 v n l
theorem gathersR_own {β : Type} (s B : Nat) (l : β → List Value) (n : β → Nat) : Own (fun (b : β) w => GathersR s B (l b) (n b) w) := by
  rintro b W W' row ⟨v, h1, h2⟩ hg hr
  exact ⟨v, h1.grown hg hr, own_of_own (B := B) (e := 37) (size := 3) (v := fun _ : Unit => v) (n := fun _ => n b) (xs := fun _ => l b) () W W' row h2 hg hr⟩

set_option maxRecDepth 100000 in
set_option maxHeartbeats 2000000 in
theorem runs_loop (Wn Hn : Nat) (hW : Wn ≤ 10) (hH : Hn ≤ 10) (L : Lawn) (hLw : L.wide = Wn) (hLh : L.high = Hn) (hL : L.Fits) (hV : validB L = true) (across : Bool) (w : World) :
    Calls Try.prog 17 #[.agg L.cells, .bool across] w fun e w' => (∃ v, e = .returned (.tuple #[v, .int .i64 0]) ∧ w'.ownsRow w.heap.size 37 3 v (filtB (headB L across) (allC Wn Hn)).length (runsV L across (filtB (headB L across) (allC Wn Hn)))) ∧ Below w.heap.size w w' := by
  have HIV := Lib.hid (show ∀ w : World, Calls Try.prog 84 #[.agg L.cells] w fun e w' => e = .returned (.bool true) ∧ Below w.heap.size w w' from fun w => hV ▸ implValid_any L hL w)
  have HG := Lib.hid (isGrass_any L hV hL)
  have HR := Lib.hid (fun x y hg => runFrom_any L hV hL across x y hg)
  have HBf := Lib.hid (before_any across)
  have hE := before_enters across
  have HA := Lib.hid (alongRuns_any across)
  obtain ⟨ci, hi, hz0, hz1, hz2⟩ := info_parts runInfo
  have HCI := Lib.hid (show Try.prog.info? 37 = some ci ∧ ci.zero = some (.agg #[.int .i8 0, .int .i8 0, .int .i8 0]) ∧ ci.size = 3 ∧ ci.bytes = 3 from ⟨hi, hz0, hz1, hz2⟩)
  have HL : Hid (L = ⟨(Wn : Int), (Hn : Int), L.kind⟩) := Lib.hid (by cases L; simp_all)
  obtain ⟨bf, hbf⟩ : ∃ f, beforeF across = f := ⟨_, rfl⟩
  obtain ⟨bh, hbh⟩ : ∃ f, behindF across = f := ⟨_, rfl⟩
  rw [hbf] at HBf hE HA
  rw [hbh] at HA HR
  have HE := Lib.hid hE
  clear hi hz0 hz1 hz2 hLw hLh hbf hbh hE hV hL
  refine (callsIn_wide (n := 9)).1 ?_
  refine callsIn_of_wp_marks Try.func17 rfl trivial ?_ rfl
  simp only [Try.ntmps17, List.size_toArray, List.length_cons, List.length_nil, Nat.reduceAdd, Nat.reduceSub, Array.replicate_succ, Array.replicate_zero, List.push_toArray, List.append_toArray, List.nil_append, List.cons_append]
  gi_wp2_with fail
  have g0 := Holds.new w L.cells 28
  have hb0 := (Below.refl w.heap.size w).alloc (Nat.le_refl _) (.cells L.cells 28)
  refine ⟨trivial, (callsIn_wide.2 (HIV.out _)).mono ?_⟩
  rintro e w1 ⟨rfl, hb1⟩
  have j0 := g0.below hb1 g0.lt
  have jB := below_onto hb0 hb1
  clear g0 hb0 hb1
  gi_wp2_with fail
  refine ⟨trivial, (callsIn_wide.2 (HA.out _)).mono ?_⟩
  rintro e w2 ⟨rfl, hb1⟩
  have q0 := j0.below hb1 j0.lt
  have qB := below_onto jB hb1
  clear j0 jB hb1
  have l0 := q0.lt
  have r0 := (((q0.alloc (.cells #[.func (.func bf) #[] #[]] 106)).alloc (.cells #[.func (.func bh) #[] #[]] 106)).alloc (.cells #[.slice none 0 0] 31)).row
  gi_wp2_with (refine ⟨trivial, ?_⟩; gi_at_call 86; refine (each_in Fence.wide _ trivial rfl _ _).mono ?_; rintro e w2 ⟨rfl, rfl⟩)
  obtain ⟨u, hu⟩ : ∃ u, w2.heap.size = u := ⟨_, rfl⟩
  obtain ⟨W0, hW0⟩ : ∃ W0, (((w2.alloc (.cells #[.func (.func bf) #[] #[]] 106)).alloc (.cells #[.func (.func bh) #[] #[]] 106)).alloc (.cells #[.slice none 0 0] 31)).alloc (.cells L.cells 28) = W0 := ⟨_, rfl⟩
  have g0 : Holds W0 w.heap.size L.cells := by rw [← hW0]; exact (((q0.alloc _).alloc _).alloc _).alloc _
  have g1 : Holds W0 u #[.func (.func bf) #[] #[]] := by rw [← hW0]; exact (((Holds.new' _ _ _ _ hu.symm).alloc _).alloc _).alloc _
  have g2 : Holds W0 (u + 1) #[.func (.func bh) #[] #[]] := by rw [← hW0]; exact ((Holds.new' _ _ _ _ (by simp; omega)).alloc _).alloc _
  have g3 : Holds W0 (u + 1 + 1) #[.slice none 0 0] := by rw [← hW0]; exact (Holds.new' _ _ _ _ (by simp; omega)).alloc _
  have g4 : Holds W0 (u + 1 + 1 + 1) L.cells := by rw [← hW0]; exact Holds.new' _ _ _ _ (by simp; omega)
  have hB0 : Below w.heap.size w W0 := by rw [← hW0]; exact (((qB.alloc qB.size _).alloc (by simp; omega) _).alloc (by simp; omega) _).alloc (by simp; omega) _
  have hz1 : u + 4 ≤ W0.heap.size := by rw [← hW0]; simp; omega
  have hz2 : W0.heap.size ≤ u + 4 := by rw [← hW0]; simp; omega
  rw [hu] at l0 ⊢
  rw [hW0]
  clear hW0 hu q0 qB r0
  refine each_range (by omega) (p := 20) (q := 9) [u + 1 + 1] Wn Hn hW hH L.kind rfl (by rw [← HL.out]; exact g4)
    (fun pre W => GathersR (u + 1 + 1) (u + 4) (runsV L across (filtB (headB L across) pre)) (filtB (headB L across) pre).length W) (fun c pre W => False)
    (Own.from (gathersR_own _ _ _ _) _) (fun c => fun _ _ _ _ h _ _ => h.elim) ⟨_, g3, World.ownsRow_nil _ _ _ _⟩ ?assign ?body ?done ?stop
  case assign =>
    intro l x y W K hK
    simp only [cellV]
    gi_wp2
    exact hK
  case body =>
    rintro l pre x Bx W hl hr hO ⟨v, i3, io⟩ hBx bX hlt
    have hx := x.1.isLt
    have hy := x.2.isLt
    obtain ⟨⟨xj, hxj⟩, ⟨xk, hxk⟩⟩ := x
    dsimp only at *
    simp only [cellV, List.setIfInBounds_toArray, List.set_cons_succ, List.set_cons_zero]
    have IO := Lib.hid io
    have hpl : pre.length ≤ 100 := by
      have h2 : (allC Wn Hn).length ≤ 100 := by rw [allC_length]; exact Nat.le_trans (Nat.mul_le_mul hH hW) (by omega)
      omega
    have i0 := hO.holds g0 (by simp <;> omega)
    have i1 := hO.holds g1 (by simp <;> omega)
    have i2 := hO.holds g2 (by simp <;> omega)
    have hO2 := Lib.hid hO
    clear hr io hlt hl
    obtain ⟨r0, c0⟩ := i0.later
    obtain ⟨-, c1⟩ := i1.later
    obtain ⟨rx, cx⟩ := bX.later
    gi_wp2_with fail
    obtain ⟨gg, hgg⟩ : ∃ gg, grassB L xj xk = gg := ⟨_, rfl⟩
    obtain ⟨gb, hgb⟩ : ∃ gb, grassB L ((xj : Int) - stepX across) ((xk : Int) - stepY across) = gb := ⟨_, rfl⟩
    have HGA := Lib.hid (show ∀ w, Calls Try.prog 87 #[.agg L.cells, .agg #[.int .i8 xj, .int .i8 xk]] w fun e w' => e = .returned (.bool gg) ∧ Below w.heap.size w w' from fun w => hgg ▸ HG.out _ _ w)
    have HGB := Lib.hid (show ∀ w, Calls Try.prog 87 #[.agg L.cells, .agg #[.int .i8 ((xj : Int) - stepX across), .int .i8 ((xk : Int) - stepY across)]] w fun e w' => e = .returned (.bool gb) ∧ Below w.heap.size w w' from fun w => hgb ▸ HG.out _ _ w)
    have HGG := Lib.hid hgg
    have hhead := Lib.hid (show headB L across xk xj = (gg && !gb) by simp only [headB, hgg, hgb])
    clear hgg hgb
    refine wpIn_region_grow 10 (by kernel_rfl) rfl (by rintro ⟨_, _, h⟩; exact h) (by kernel_rfl) ?_
    simp only [List.take_succ_cons, List.take_zero, List.drop_succ_cons, List.drop_zero]
    iterate 4
      apply wpGrow_plain rfl
      · intro w' hw' K hK
        have cx' := cx _ hw'
        go_wp2_with (go_at_call 87; refine (HGA.out _).mono ?_; rintro e w2 ⟨rfl, hb2⟩)
        first | exact hK _ _ rfl hw' | exact hK _ _ rfl (below_onto hw' hb2)
      simp only [Act.put, List.setIfInBounds_toArray, List.set_cons_succ, List.set_cons_zero]
    cases gg
    case false =>
      iterate 6
        apply wpGrow_off rfl
        simp only [Act.put, List.setIfInBounds_toArray, List.set_cons_succ, List.set_cons_zero]
      refine wpGrow_nil ?_
      intro W2 hW2
      have q3 := i3.below hW2 i3.lt
      have qO : Only [u + 1 + 1] W0 W2 := hO2.out.onto hW2
      have qK : KeepsOthers W W2 := keeps_below hW2
      have IO2 := Lib.hid (own_below IO.out hW2)
      have HF2 := Lib.hid (filtB_miss (p := headB L across) (pre := pre) (c := (⟨xj, hxj⟩, ⟨xk, hxk⟩)) hhead.out)
      clear r0 c0 c1 rx cx i0 i1 i2 i3 bX hW2 hO
      go_wp2_with fail
      gi_wp2_with fail
      exact eachDone (b := u + 1 + 1 + 1) (by omega) (by simp) hO2.out qK qO ⟨v, q3, by rw [HF2.out]; exact IO2.out⟩
    case true =>
      have hE := HE.out
      iterate 6
        apply wpGrow_on rfl
        · intro w' hw' K hK
          have cx' := cx _ hw'
          have c1' := c1 _ hw'
          go_wp2_with (first | (go_at_call 87; refine (HGB.out _).mono ?_; rintro e w2 ⟨rfl, hb2⟩) | (refine (HBf.out _ _ (by omega) (by omega) (by omega) (by omega) _).mono ?_; rintro e w2 ⟨rfl, hb2⟩))
          first | exact hK _ _ rfl hw' | exact hK _ _ rfl (below_onto hw' hb2)
        simp only [Act.put, List.setIfInBounds_toArray, List.set_cons_succ, List.set_cons_zero]
      clear hE
      cases gb
      case true =>
        refine wpGrow_nil ?_
        intro W2 hW2
        have q3 := i3.below hW2 i3.lt
        have qO : Only [u + 1 + 1] W0 W2 := hO2.out.onto hW2
        have qK : KeepsOthers W W2 := keeps_below hW2
        have IO2 := Lib.hid (own_below IO.out hW2)
        have HF2 := Lib.hid (filtB_miss (p := headB L across) (pre := pre) (c := (⟨xj, hxj⟩, ⟨xk, hxk⟩)) hhead.out)
        clear r0 c0 c1 rx cx i0 i1 i2 i3 bX hW2 hO
        go_wp2_with fail
        gi_wp2_with fail
        exact eachDone (b := u + 1 + 1 + 1) (by omega) (by simp) hO2.out qK qO ⟨v, q3, by rw [HF2.out]; exact IO2.out⟩
      case false =>
        refine wpGrow_nil ?_
        intro W2 hW2
        have q0 := i0.below hW2 i0.lt
        have q2 := i2.below hW2 i2.lt
        have q3 := i3.below hW2 i3.lt
        have qX := bX.below hW2 bX.lt
        have qO : Only [u + 1 + 1] W0 W2 := hO2.out.onto hW2
        have qK : KeepsOthers W W2 := keeps_below hW2
        have IO2 := Lib.hid (own_below IO.out hW2)
        have hle : (filtB (headB L across) pre).length ≤ 100 := Nat.le_trans (filtB_le _ _) hpl
        clear r0 c0 c1 rx cx i0 i1 i2 i3 bX hW2 hO IO
        obtain ⟨r0, -⟩ := q0.later
        obtain ⟨-, c2⟩ := q2.later
        obtain ⟨-, c3⟩ := q3.later
        obtain ⟨-, cx⟩ := qX.later
        obtain ⟨rl, hrl⟩ : ∃ rl : Nat, runLen L across xj xk = rl := ⟨_, rfl⟩
        have HRU := Lib.hid (show ∀ w, Calls Try.prog 88 #[.agg L.cells, .agg #[.int .i8 xj, .int .i8 xk], .func (.func bh) #[] #[]] w fun e w' => e = .returned (.agg #[.int .i8 xj, .int .i8 xk, .int .i8 rl]) ∧ Below w.heap.size w w' from fun w => hrl ▸ HR.out _ _ HGG.out w)
        have HRL := Lib.hid hrl
        clear hrl
        go_wp2_with fail
        gi_wp2_with fail
        refine wpIn_region_make 5 rfl rfl (by kernel_rfl) rfl (by rintro ⟨_, _, h⟩; exact h) (by kernel_rfl) (by kernel_rfl) ?_
        simp only [List.take_succ_cons, List.take_zero, List.drop_succ_cons, List.drop_zero]
        iterate 5
          apply wpGrowB_plain rfl
          · intro w' hw' K hK
            have cx' := cx _ hw'
            have c2' := c2 _ hw'
            have c3' := c3 _ hw'
            go_wp2_with (go_at_call 88; refine (HRU.out _).mono ?_; rintro e w2 ⟨rfl, hb2⟩)
            first | exact hK _ _ rfl (Below.refl _ _) | exact hK _ _ rfl hb2
          simp only [Act.put, List.setIfInBounds_toArray, List.set_cons_succ, List.set_cons_zero]
        refine wpGrowB_nil ⟨fun g => .slice (some ⟨g, 0, none⟩) 1 1, .cells #[.int .i8 xj, .int .i8 xk, .int .i8 rl] 37, fun w1 hw1 K hK => ?_, ?_⟩
        · go_wp2_with fail
          exact hK _ _ rfl rfl
        intro g W3 hg3 hW3 hobj
        have p3 := q3.below hW3 q3.lt
        have pO1 : Only [u + 1 + 1] W0 W3 := qO.onto hW3
        have pK1 : KeepsOthers W W3 := qK.trans (keeps_below hW3)
        have IO3 := Lib.hid (own_below IO2.out hW3)
        have hg : Holds W3 g #[.int .i8 xj, .int .i8 xk, .int .i8 rl] := ⟨_, hobj⟩
        have hgs : W0.heap.size ≤ g := Nat.le_trans qO.size hg3
        have HGc := Lib.hid hg
        clear r0 c2 c3 cx q0 q2 q3 qX qO qK IO2 hW3 hobj hg3 hg
        obtain ⟨-, -, c3, z3, l3⟩ := p3.facts
        simp only [List.setIfInBounds_toArray, List.set_cons_succ, List.set_cons_zero]
        go_wp2_with (at_builtin; refine wpList_append_own_at _ rfl _ _ 31 rfl (u + 4) 37 ci (.agg #[.int .i8 0, .int .i8 0, .int .i8 0]) 3 3 Try.underlying31 HCI.out.1 HCI.out.2.1 HCI.out.2.2.1 HCI.out.2.2.2 rfl (by decide) _ _ _ rfl IO3.out ⟨g, 0, none⟩ 1 1 [.int .i8 xj, .int .i8 xk, .int .i8 rl] rfl rfl ?c1 ?c2 ?c3 ?c4 ?c5 ?_)
        case c1 =>
          intro m u hu
          match m, hu with
          | 0, hu => simp at hu; subst hu; exact HGc.out.cell 0
          | 1, hu => simp at hu; subst hu; exact HGc.out.cell 1
          | 2, hu => simp at hu; subst hu; exact HGc.out.cell 2
        case c2 => intro u hu; simp at hu; rcases hu with rfl | rfl | rfl <;> rfl
        case c3 => unfold maxLen; omega
        case c4 => omega
        case c5 => have := pO1.size; omega
        intro v' w3 hown' hgrow _ hat
        have ho3 : w3.ownsRow (u + 4) 37 3 v' (filtB (headB L across) (pre ++ [(⟨xj, hxj⟩, ⟨xk, hxk⟩)])).length (runsV L across (filtB (headB L across) (pre ++ [(⟨xj, hxj⟩, ⟨xk, hxk⟩)]))) := by
          rw [filtB_hit (p := headB L across) (c := (⟨xj, hxj⟩, ⟨xk, hxk⟩)) hhead.out, runsV_append, List.length_append]
          simp only [runsV, List.flatMap_cons, List.flatMap_nil, List.append_nil, HRL.out]
          exact hown'
        have p4 := held_grown p3 IO3.out hgrow (by omega)
        have pO : Only [u + 1 + 1] W0 w3 := pO1.grown hgrow (fun k hk => .inr (by have := own_far IO3.out k hk; omega))
        have pK : KeepsOthers W w3 := pK1.trans (own_others IO3.out hgrow)
        have HO3 := Lib.hid ho3
        obtain ⟨g', cap', rfl, -, -⟩ := own_form hown' (by omega)
        clear hown' hgrow ho3 hat IO3 p3 pO1 pK1 c3 z3 l3 HGc
        obtain ⟨-, -, c3, z3, l3⟩ := p4.facts
        have hf3 := own_far HO3.out g' rfl
        go_wp2_with fail
        exact eachDone (b := u + 1 + 1 + 1) (by omega) (by simp) hO2.out (pK.trans (KeepsOthers.setCell _ _ _)) (pO.setCell (a := ⟨u + 1 + 1, 0, none⟩) (.inl (by simp)) _)
          ⟨_, p4.setCell 0 _, HO3.out.kept (grownBy_setCell' w3 (u + 1 + 1) _) (.inr (by simp [Value.ownBlock]; omega))⟩
  case done =>
    rintro D W hD hO ⟨v, i3, io⟩ hK
    obtain ⟨a, c, rfl⟩ := own_slice io
    have IO := Lib.hid io
    have hB2 : Below w.heap.size w W := hB0.trans (hO.toBelow (by simp; omega) (by omega))
    obtain ⟨-, f1, c1, z1, l1⟩ := i3.facts
    clear io g0 g1 g2 g3 g4 HE
    gi_wp2
    refine ⟨by simp, .inl ⟨_, _, rfl, run_takeDeferred hK, ?_⟩⟩
    refine ⟨.tuple #[.slice a (filtB (headB L across) (allC Wn Hn)).length c, .int .i64 0], ?_, ⟨⟨_, rfl, ?_⟩, hB2.trans (belowK_b (w := w) (Nat.le_refl _) _ D _ _ (by omega) hK rfl rfl)⟩⟩
    · simp [results, Try.f17, go_sem]
    · exact ownsRow_low (own_putD IO.out hK) (by omega)
  case stop =>
    rintro D c pre W hD _ h hK
    exact h.elim

/-- What RunsOf lists. -/
def runsC (L : Lawn) (across : Bool) : List (Fin L.wide.toNat × Fin L.high.toNat) := if validB L then filtB (headB L across) (allC L.wide.toNat L.high.toNat) else []
def validC (L : Lawn) : Int := if validB L then 0 else 1
theorem runsC_le (L : Lawn) (across : Bool) : (runsC L across).length ≤ 100 := by
  unfold runsC
  split
  · rename_i hv
    obtain ⟨h1, h2, -⟩ := validB_true hv
    refine Nat.le_trans (filtB_le _ _) ?_
    rw [allC_length]
    exact Nat.le_trans (Nat.mul_le_mul (show L.high.toNat ≤ 10 by omega) (show L.wide.toNat ≤ 10 by omega)) (by omega)
  · simp

set_option maxRecDepth 100000 in
set_option maxHeartbeats 1000000 in
theorem implRuns_any (L : Lawn) (hL : L.Fits) (across : Bool) (w : World) :
    Calls Try.prog 17 #[.agg L.cells, .bool across] w fun e w' => (∃ v, e = .returned (.tuple #[v, .int .i64 (validC L)]) ∧ w'.ownsRow w.heap.size 37 3 v (runsC L across).length (runsV L across (runsC L across))) ∧ Below w.heap.size w w' := by
  cases hv : validB L
  case true =>
    have e1 : validC L = 0 := by simp [validC, hv]
    have e2 : runsC L across = filtB (headB L across) (allC L.wide.toNat L.high.toNat) := by simp [runsC, hv]
    rw [e1, e2]
    obtain ⟨h1, h2, -⟩ := validB_true hv
    exact runs_loop L.wide.toNat L.high.toNat (by omega) (by omega) L (by omega) (by omega) hL hv across w
  case false =>
    have e1 : validC L = 1 := by simp [validC, hv]
    have e2 : runsC L across = [] := by simp [runsC, hv]
    rw [e1, e2]
    have HI' := Lib.hid (show ∀ w : World, Calls Try.prog 84 #[.agg L.cells] w fun e w' => e = .returned (.bool false) ∧ Below w.heap.size w w' from fun w => hv ▸ implValid_any L hL w)
    clear e1 e2 hv hL
    go_enter Try.func17, Try.ntmps17
    go_wp2_with fail
    have hb0 := (Below.refl w.heap.size w).alloc (Nat.le_refl _) (.cells L.cells 28)
    refine (HI'.out _).mono ?_
    rintro e w1 ⟨rfl, hb1⟩
    have jB := below_onto hb0 hb1
    clear hb0 hb1
    go_wp2_with fail
    go_ret2
    exact ⟨⟨_, rfl, World.ownsRow_nil _ _ _ _⟩, jB⟩
end Go.Proofs.Ytlfmadnhjleofaa

namespace Go.Proofs.Ytlfmadnhjleofaa
open Go.RowKit Go.Shelf
attribute [local go_sem] Oper.semAt_some
attribute [local go_sem ↓] loadRow loadGrid loadLawn loadMirror storeRow storeGrid storeLawn allocRow allocGrid allocLawn buildZero buildSides loadRow' loadGrid' loadLawn' loadMirror' storeRow' storeGrid' storeLawn' allocRow' allocGrid' allocLawn' buildZero' buildSides'

/-- Those of the cells that have come that are of a kind. -/
def filtK {W H : Nat} (L : Lawn) (K : Int) (pre : List (Fin W × Fin H)) : List (Fin W × Fin H) := pre.filter fun c => L.kind c.2 c.1 == K
theorem own_own {β : Type} {W H : Nat} (s B : Nat) (e : TypeId) (size : Nat) (f : β → List (Fin W × Fin H)) : Own (fun (b : β) w => ∃ v, Holds w s #[v] ∧ w.ownsRow B e size v (f b).length (flatV (f b))) := by
  rintro b W W' row ⟨v, h1, h2⟩ hg hr
  refine ⟨v, h1.grown hg hr, h2.kept hg ?_⟩
  rcases h2.2 with ⟨rfl, -⟩ | ⟨g, cap, cur, rfl, hb, hgg, -⟩
  · exact .inl rfl
  · refine .inr fun he => ?_
    obtain ⟨o, ho, hc⟩ := hr g he.symm
    rw [hgg] at ho
    cases ho
    cases hc






set_option maxRecDepth 100000 in
set_option maxHeartbeats 2000000 in
theorem cells_loop (Wn Hn : Nat) (hW : Wn ≤ 10) (hH : Hn ≤ 10) (hW1 : 1 ≤ Wn) (hH1 : 1 ≤ Hn) (L : Lawn) (hLw : L.wide = Wn) (hLh : L.high = Hn) (hL : L.Fits) (hV : validB L = true) (K : Int) (hK : inB K 0 3 = true) (w : World) :
    Calls Try.prog 127 #[.agg L.cells, .int .i64 K] w fun e w' => (∃ v, e = .returned (.tuple #[v, .int .i64 0]) ∧ w'.ownsRow w.heap.size 35 2 v (ofKind L Wn Hn K).length (flatV (ofKind L Wn Hn K))) ∧ Below w.heap.size w w' := by
  have HI : ∀ w : World, Calls Try.prog 84 #[.agg L.cells] w fun e w' => e = .returned (.bool true) ∧ Below w.heap.size w w' := fun w => hV ▸ implValid_any L hL w
  have HI' := Lib.hid HI
  obtain ⟨ci, hi, hz0, hz1, hz2⟩ := info_parts cellInfo
  have HCI := Lib.hid (show Try.prog.info? 35 = some ci ∧ ci.zero = some (.agg #[.int .i8 0, .int .i8 0]) ∧ ci.size = 2 ∧ ci.bytes = 2 from ⟨hi, hz0, hz1, hz2⟩)
  clear hi hz0 hz1 hz2
  have HF := Lib.hid hL
  have HL : Hid (L = ⟨(Wn : Int), (Hn : Int), L.kind⟩) := Lib.hid (by cases L; simp_all)
  clear hLw hLh HI hV hL
  refine (callsIn_wide (n := 9)).1 ?_
  refine callsIn_of_wp_marks Try.func127 rfl trivial ?_ rfl
  simp only [Try.ntmps127, List.size_toArray, List.length_cons, List.length_nil, Nat.reduceAdd, Nat.reduceSub, Array.replicate_succ, Array.replicate_zero, List.push_toArray, List.append_toArray, List.nil_append, List.cons_append]
  gi_wp2_with fail
  have g0 := (Holds.new w L.cells 28).alloc (.cells #[.int .i64 K] 2)
  have g1 := Holds.new' (w.alloc (.cells L.cells 28)) #[.int .i64 K] 2 (w.heap.size + 1) (by simp)
  have hb0 := ((Below.refl w.heap.size w).alloc (Nat.le_refl _) (.cells L.cells 28)).alloc (by simp) (.cells #[.int .i64 K] 2)
  refine ⟨trivial, (callsIn_wide.2 (HI'.out _)).mono ?_⟩
  rintro e w1 ⟨rfl, hb1⟩
  have j0 := g0.below hb1 g0.lt
  have j1 := g1.below hb1 g1.lt
  have jB := below_onto hb0 hb1
  clear g0 g1 hb0 hb1
  obtain ⟨r0, -, -, -, l0⟩ := j0.facts
  obtain ⟨-, -, c1, -, l1⟩ := j1.facts
  gi_wp2_with (first | (refine ⟨trivial, ?_⟩; gi_at_call 156; refine (callsIn_wide.2 (kind_is _ _ hK _)).mono ?_; rintro e w2 ⟨rfl, rfl⟩) | (refine ⟨trivial, ?_⟩; gi_at_call 86; refine (each_in Fence.wide _ trivial rfl _ _).mono ?_; rintro e w2 ⟨rfl, rfl⟩))
  have hwf : ∀ y x : Nat, y < 10 → x < 10 → IntKind.i64.wrap (L.kind y x) = L.kind y x := fun y x hy hx => IntWalk.i64_in _ (by have := HF.out.k0 y x hy hx; have := HF.out.k1 y x hy hx; omega)
  have HWF := Lib.hid hwf
  clear hwf r0 c1
  obtain ⟨s, hs⟩ : ∃ s, w1.heap.size = s := ⟨_, rfl⟩
  obtain ⟨W0, hW0⟩ : ∃ W0, (w1.alloc (.cells #[.slice none 0 0] 42)).alloc (.cells L.cells 28) = W0 := ⟨_, rfl⟩
  have g0 : Holds W0 w.heap.size L.cells := by rw [← hW0]; exact (j0.alloc _).alloc _
  have g1 : Holds W0 (w.heap.size + 1) #[.int .i64 K] := by rw [← hW0]; exact (j1.alloc _).alloc _
  have g2 : Holds W0 s #[.slice none 0 0] := by rw [← hW0]; exact (Holds.new' _ _ _ _ hs.symm).alloc _
  have g3 : Holds W0 (s + 1) L.cells := by rw [← hW0]; exact Holds.new' _ _ _ _ (by simp; omega)
  have hB0 : Below w.heap.size w W0 := by rw [← hW0]; exact (jB.alloc jB.size _).alloc (by simp; omega) _
  have hsz : W0.heap.size = s + 2 := by rw [← hW0]; simp; omega
  rw [hs] at l0 l1 ⊢
  rw [hW0]
  have hsw : w.heap.size + 1 < s := by omega
  clear hW0 hs jB j0 j1
  refine wpIn_rangeFunc_ownH (α := Fin Wn × Fin Hn) rfl (by omega) (gf := 161) (lb := #[.pointer (some ⟨s + 1, 0, none⟩)]) rfl trivial (enters_of Try.func161 (by kernel_rfl) rfl)
    (each_stops Fence.wide _ trivial rfl (by omega) (s + 1) Wn Hn hW hH L.kind W0 (by omega) (by rw [← HL.out]; exact g3)) keepB_t (keepB_b (by omega)) (Below.refl _ _) (fun _ => rfl)
    (fun pre W => (Holds W w.heap.size L.cells ∧ Holds W (w.heap.size + 1) #[.int .i64 K] ∧ (∃ v, Holds W s #[v] ∧ W.ownsRow (s + 2) 35 2 v (filtK L K pre).length (flatV (filtK L K pre))) ∧ Holds W (s + 1) L.cells) ∧ Below w.heap.size w W)
    (fun c pre W => False)
    (OwnFrom.and (Own.from (ownAnd (holds_own _ (fun _ => L.cells)) (ownAnd (holds_own _ (fun _ => #[.int .i64 K])) (ownAnd (own_own s (s + 2) 35 2 (filtK L K)) (holds_own _ (fun _ => L.cells))))) _) (ownFrom_below (Nat.le_refl _) (by omega)))
    (fun c => fun _ _ _ _ h _ _ => h.elim)
    ⟨⟨g0, g1, ⟨_, g2, World.ownsRow_nil _ _ _ _⟩, g3⟩, hB0⟩
    (fun x a' W => ∃ Bx, s + 2 ≤ Bx ∧ Holds W Bx #[.int .i8 ((x.1 : Nat) : Int), .int .i8 ((x.2 : Nat) : Int)] ∧ a' = { tmps := #[.agg L.cells, .int .i64 K, .pointer (some ⟨w.heap.size, 0, none⟩), .pointer (some ⟨w.heap.size + 1, 0, none⟩), .slice none 0 0, .int .i64 0, .pointer (some ⟨s, 0, none⟩), .pointer (some ⟨Bx, 0, none⟩), .agg L.cells, .bool true, .bool false, .int .i64 K, .bool true, .bool false, .agg L.cells, .func (.func 161) #[] #[.pointer (some ⟨s + 1, 0, none⟩)], .agg #[.int .i8 ((x.1 : Nat) : Int), .int .i8 ((x.2 : Nat) : Int)], undef, undef, undef, undef, undef, undef, undef, undef, undef, undef, undef], defers := [] })
    (fun x a' => fun _ W W' row ⟨Bx, h1, h2, h3⟩ hg hr => ⟨Bx, h1, h2.grown hg (fun r e => (hr r e).2), h3⟩)
    ?assign ?body ?done ?stop
  case assign =>
    rintro l pre x W K' ⟨⟨i0, i1, ⟨v, i2, io⟩, i3⟩, iB⟩ hK
    have hlt := i3.lt
    simp only [cellA, cellV]
    gi_wp2
    exact hK _ _ ((KeepsOthers.alloc _ _).from _) (KeepB.of_below ((Below.refl _ W).alloc (Nat.le_refl _) _) hlt) ⟨⟨i0.alloc _, i1.alloc _, ⟨v, i2.alloc _, io.alloc _⟩, i3.alloc _⟩, iB.alloc iB.size _⟩ ⟨_, by omega, Holds.new _ _ _, rfl⟩
  case body =>
    rintro l pre x a' W hl ⟨r, hr⟩ ⟨⟨i0, i1, ⟨v, i2, io⟩, i3⟩, iB⟩ ⟨Bx, hBx, bX, rfl⟩ hlt
    have hx := x.1.isLt
    have hy := x.2.isLt
    obtain ⟨⟨xj, hxj⟩, ⟨xk, hxk⟩⟩ := x
    dsimp only at *
    have IO := Lib.hid io
    have hwf := HWF.out xk xj (by omega) (by omega)
    have hpl : pre.length ≤ 100 := by
      have h2 : (allC Wn Hn).length ≤ 100 := by rw [allC_length]; exact Nat.le_trans (Nat.mul_le_mul hH hW) (by omega)
      omega
    clear hr hsz io g0 g1 g2 g3 hB0 hlt hl
    obtain ⟨r0, c0⟩ := i0.later
    obtain ⟨r1, c1⟩ := i1.later
    obtain ⟨rx, cx⟩ := bX.later
    gi_wp2_with fail
    refine wpIn_region_grow 5 (by kernel_rfl) rfl (by rintro ⟨_, _, h⟩; exact h) (by kernel_rfl) ?_
    simp only [List.take_succ_cons, List.take_zero, List.drop_succ_cons, List.drop_zero]
    iterate 5
      apply wpGrow_plain rfl
      · intro w' hw' K hK
        have cx' := cx _ hw'
        have c1' := c1 _ hw'
        go_wp2_with (go_at_call 97; refine (kind_any L xj xk (by omega) (by omega) _).mono ?_; rintro e w2 ⟨rfl, hb2⟩)
        first | exact hK _ _ rfl hw' | exact hK _ _ rfl (below_onto hw' hb2)
      simp only [Act.put, List.setIfInBounds_toArray, List.set_cons_succ, List.set_cons_zero]
    refine wpGrow_nil ?_
    intro W2 hW2
    have q0 := i0.below hW2 i0.lt
    have q1 := i1.below hW2 i1.lt
    have q2 := i2.below hW2 i2.lt
    have q3 := i3.below hW2 i3.lt
    have qX := bX.below hW2 bX.lt
    have qB : Below w.heap.size w W2 := below_onto iB hW2
    have qK : KeepsOthers W W2 := ⟨hW2.size, fun k o hk _ => (hW2.block k (Array.getElem?_eq_some_iff.1 hk).1).trans hk⟩
    have qb : KeepB (s + 1) W W2 := KeepB.of_below hW2 i3.lt
    have IO2 := Lib.hid (IO.out.kept (row := none) ⟨hW2.os, hW2.tape, hW2.output, hW2.size, fun k hk _ => hW2.block k hk⟩ (by cases hx : Value.ownBlock _ <;> simp))
    clear r0 c0 r1 c1 rx cx i0 i1 i2 i3 bX IO hW2 hwf
    by_cases hk : L.kind xk xj = K
    · have hkd : ((L.kind xk xj : Int) == K) = true := by simp [hk]
      have HK := Lib.hid hk
      have hle : (filtK L K pre).length ≤ 100 := Nat.le_trans (List.length_filter_le _ _) hpl
      obtain ⟨-, -, c2, z2, l2⟩ := q2.facts
      obtain ⟨-, -, cX, -, lX⟩ := qX.facts
      clear hk
      go_wp2_with fail
      gi_wp2_with (gi_at_builtin; refine wpListIn_append_own_at _ rfl _ _ 42 rfl (s + 2) 35 ci (.agg #[.int .i8 0, .int .i8 0]) 2 2 Try.underlying42 HCI.out.1 HCI.out.2.1 HCI.out.2.2.1 HCI.out.2.2.2 rfl (by decide) _ _ _ rfl (IO2.out.alloc _) ⟨W2.heap.size, 0, none⟩ 1 1 [.int .i8 xj, .int .i8 xk] rfl rfl ?c1 ?c2 ?c3 ?c4 ?c5 ?_)
      case c1 =>
        intro m u hu
        match m, hu with
        | 0, hu => simp at hu; subst hu; exact (Holds.new W2 #[.int .i8 xj, .int .i8 xk] 35).cell 0
        | 1, hu => simp at hu; subst hu; exact (Holds.new W2 #[.int .i8 xj, .int .i8 xk] 35).cell 1
      case c2 => intro u hu; simp at hu; rcases hu with rfl | rfl <;> rfl
      case c3 => unfold maxLen; omega
      case c4 => omega
      case c5 => have := lX; simp; omega
      · intro v' w3 hown' hgrow _ hat
        have ho3 : w3.ownsRow (s + 2) 35 2 v' (filtK L K (pre ++ [(⟨xj, hxj⟩, ⟨xk, hxk⟩)])).length (flatV (filtK L K (pre ++ [(⟨xj, hxj⟩, ⟨xk, hxk⟩)]))) := by
          have e : filtK L K (pre ++ [(⟨xj, hxj⟩, ⟨xk, hxk⟩)]) = filtK L K pre ++ [(⟨xj, hxj⟩, ⟨xk, hxk⟩)] := by simp [filtK, HK.out]
          rw [e, flatV_append, List.length_append]
          exact hown'
        have p0 := held_grown (q0.alloc (.cells #[.int .i8 xj, .int .i8 xk] 35)) (IO2.out.alloc _) hgrow (by omega)
        have p1 := held_grown (q1.alloc (.cells #[.int .i8 xj, .int .i8 xk] 35)) (IO2.out.alloc _) hgrow (by omega)
        have p2 := held_grown (q2.alloc (.cells #[.int .i8 xj, .int .i8 xk] 35)) (IO2.out.alloc _) hgrow (by omega)
        have p3 := held_grown (q3.alloc (.cells #[.int .i8 xj, .int .i8 xk] 35)) (IO2.out.alloc _) hgrow (by omega)
        have pB : Below w.heap.size w w3 := by
          refine (qB.alloc qB.size _).grown hgrow (by have := qB.size; simp; omega) fun k hk => ?_
          have := own_far IO2.out k hk
          omega
        have pb : KeepB (s + 1) W w3 := by
          refine keepB_t (keepB_t qb (KeepB.of_below ((Below.refl _ W2).alloc (Nat.le_refl _) (.cells #[.int .i8 xj, .int .i8 xk] 35)) q3.lt)) (hgrow.block (s + 1) (by have := q3.lt; simp; omega) fun hk => ?_)
          have := own_far IO2.out _ hk.symm
          omega
        have pK : KeepsOthers W w3 := (qK.trans (KeepsOthers.alloc _ _)).trans (own_others (IO2.out.alloc _) hgrow)
        have HO3 := Lib.hid ho3
        obtain ⟨g', cap', rfl, -, -⟩ := own_form hown' (by omega)
        clear hown' hgrow ho3 hat IO2 q0 q1 q2 q3 qX qB qK qb c2 z2 cX lX l2
        obtain ⟨-, -, c2, z2, l2⟩ := p2.facts
        have hf3 := own_far HO3.out g' rfl
        gi_wp2_with fail
        exact ⟨(pK.trans (KeepsOthers.setCell _ _ _)).from _, keepB_t pb (Below.heap_setCell _ _ _ _ (by dsimp only; omega)),
          ⟨p0.setCell_other _ _ (by dsimp only; omega), p1.setCell_other _ _ (by dsimp only; omega), ⟨_, p2.setCell 0 _, HO3.out.kept (grownBy_setCell' w3 s _) (.inr (by simp [Value.ownBlock]; omega))⟩, p3.setCell_other _ _ (by dsimp only; omega)⟩,
          pB.setCell (p := ⟨s, 0, none⟩) (by dsimp only; omega) _⟩
    · have hkd : ((L.kind xk xj : Int) == K) = false := by simp [hk]
      have hf : filtK L K (pre ++ [(⟨xj, hxj⟩, ⟨xk, hxk⟩)]) = filtK L K pre := by simp [filtK, hk]
      have HF2 := Lib.hid hf
      clear hf hk
      go_wp2_with fail
      gi_wp2_with fail
      exact ⟨qK.from _, qb, ⟨q0, q1, ⟨v, q2, by rw [HF2.out]; exact IO2.out⟩, q3⟩, qB⟩
  case done =>
    rintro D ys W hD rfl ⟨⟨i0, i1, ⟨v, i2, io⟩, i3⟩, iB⟩ hK
    have hform : ∃ a n c, v = .slice a n c := by
      rcases io.2 with ⟨rfl, -⟩ | ⟨g, cap, cur, rfl, -⟩
      · exact ⟨_, _, _, rfl⟩
      · exact ⟨_, _, _, rfl⟩
    obtain ⟨a, n, c, rfl⟩ := hform
    have IO := Lib.hid io
    obtain ⟨-, f1, c1, z1, l1⟩ := i2.facts
    clear io g0 g1 g2 g3
    gi_wp2
    refine ⟨by simp, .inl ⟨_, _, rfl, run_takeDeferred hK, ?_⟩⟩
    refine ⟨.tuple #[.slice a n c, .int .i64 0], ?_, ⟨⟨_, rfl, ?_⟩, iB.trans (belowK_b (w := w) (Nat.le_refl _) _ D _ _ (by omega) hK rfl rfl)⟩⟩
    · simp [results, Try.f127, go_sem]
    · refine ownsRow_low (B := s + 2) ?_ (by omega)
      refine World.ownsRow.kept IO.out (grownBy_putObj' _ D (.deferred none)) ?_
      rcases IO.out.2 with ⟨he, -⟩ | ⟨g, cap, cur, he, hb, hgg, -⟩
      · rw [he]; exact .inl rfl
      · rw [he]
        refine .inr fun hgD => ?_
        simp only [Value.ownBlock, Option.some.injEq] at hgD
        subst hgD
        rw [hgg] at hK
        cases hK
  case stop =>
    rintro D c pre W hD hpre h hK
    exact h.elim
end Go.Proofs.Ytlfmadnhjleofaa

namespace Go.Proofs.Ytlfmadnhjleofaa
open Go.RowKit
attribute [local go_sem ↓] loadRow loadGrid loadLawn loadMirror storeRow storeGrid storeLawn allocRow allocGrid allocLawn buildZero buildSides

/-- The cells that CellsOf answers. -/
def cellsL (L : Lawn) (K : Int) : List (Fin L.wide.toNat × Fin L.high.toNat) := if told (validB L) (inB K 0 3) = 0 then ofKind L L.wide.toNat L.high.toNat K else []

set_option maxRecDepth 100000 in
set_option maxHeartbeats 1000000 in
theorem implCells_any (L : Lawn) (hL : L.Fits) (K : Int) (w : World) :
    Calls Try.prog 127 #[.agg L.cells, .int .i64 K] w fun e w' => (∃ v, e = .returned (.tuple #[v, .int .i64 (told (validB L) (inB K 0 3))]) ∧ w'.ownsRow w.heap.size 35 2 v (cellsL L K).length (flatV (cellsL L K))) ∧ Below w.heap.size w w' := by
  cases hv : validB L <;> cases hf : inB K 0 3
  case true.true =>
    obtain ⟨h1, h2, -⟩ := validB_true hv
    have e : cellsL L K = ofKind L L.wide.toNat L.high.toNat K := by simp [cellsL, told, hv, hf]
    rw [e]
    exact cells_loop L.wide.toNat L.high.toNat (by omega) (by omega) (by omega) (by omega) L (by omega) (by omega) hL hv K hf w
  all_goals
    have e : cellsL L K = [] := by simp [cellsL, told, hv, hf]
    rw [e]
    have HI : ∀ w : World, Calls Try.prog 84 #[.agg L.cells] w fun e w' => e = .returned (.bool _) ∧ Below w.heap.size w w' := fun w => hv ▸ implValid_any L hL w
    have HI' := Lib.hid HI
    have HF := Lib.hid hf
    clear HI hv hf e hL
    go_enter Try.func127, Try.ntmps127
    go_wp2_with fail
    have g1 := Holds.new' (w.alloc (.cells L.cells 28)) #[.int .i64 K] 2 (w.heap.size + 1) (by simp)
    have hb0 := ((Below.refl w.heap.size w).alloc (Nat.le_refl _) (.cells L.cells 28)).alloc (by simp) (.cells #[.int .i64 K] 2)
    refine (HI'.out _).mono ?_
    rintro e w1 ⟨rfl, hb1⟩
    have j1 := g1.below hb1 g1.lt
    have jB := below_onto hb0 hb1
    clear g1 hb0 hb1
    obtain ⟨-, -, c1, -, l1⟩ := j1.facts
    go_wp2_with (go_at_call 156; refine (kind_is _ _ HF.out _).mono ?_; rintro e w2 ⟨rfl, rfl⟩)
    go_ret2
    exact ⟨⟨_, rfl, World.ownsRow_nil _ _ _ _⟩, jB⟩

theorem cellsL_le (L : Lawn) (K : Int) : (cellsL L K).length ≤ 100 := by
  unfold cellsL
  split
  · rename_i h
    have hv : validB L = true := by
      cases e : validB L with
      | true => rfl
      | false => rw [e] at h; simp [told] at h
    obtain ⟨h1, h2, -⟩ := validB_true hv
    refine Nat.le_trans (List.length_filter_le _ _) ?_
    rw [allC_length]
    exact Nat.le_trans (Nat.mul_le_mul (show L.high.toNat ≤ 10 by omega) (show L.wide.toNat ≤ 10 by omega)) (by omega)
  · simp

set_option maxRecDepth 100000 in
set_option maxHeartbeats 1000000 in
theorem implCount_any (L : Lawn) (hL : L.Fits) (K : Int) (w : World) :
    Calls Try.prog 130 #[.agg L.cells, .int .i64 K] w fun e w' => e = .returned (countV L K) ∧ Below w.heap.size w w' := by
  have HC := Lib.hid (implCells_any L hL K)
  obtain ⟨n, hn⟩ : ∃ n, (cellsL L K).length = n := ⟨_, rfl⟩
  obtain ⟨m, hm⟩ : ∃ m, told (validB L) (inB K 0 3) = m := ⟨_, rfl⟩
  have HK := Lib.hid (show countV L K = .tuple #[.int .i64 n, .int .i64 m] by
    rw [← hn, ← hm]
    unfold countV cellsL
    split
    · rename_i h; rw [h]
    · rfl)
  rw [hm] at HC
  have HN := Lib.hid hn
  have hn100 : n ≤ 100 := hn ▸ cellsL_le L K
  clear hn hm hL
  go_enter Try.func130, Try.ntmps130
  go_wp2_with fail
  have hb0 := (Below.refl w.heap.size w).alloc (Nat.le_refl _) (.cells L.cells 28)
  refine (HC.out _).mono ?_
  rintro e w1 ⟨⟨v, rfl, ho⟩, hb1⟩
  have hb := below_onto hb0 hb1
  rw [HN.out] at ho
  have hform : ∃ a c, v = .slice a n c := by
    rcases ho.2 with ⟨rfl, rfl⟩ | ⟨g, cap, cur, rfl, -⟩
    · exact ⟨_, _, rfl⟩
    · exact ⟨_, _, rfl⟩
  obtain ⟨a, c, rfl⟩ := hform
  clear ho hb0 hb1
  go_wp2_with fail
  go_ret2
  exact ⟨by rw [HK.out]; rfl, hb⟩

end Go.Proofs.Ytlfmadnhjleofaa

namespace Go.Proofs.Ytlfmadnhjleofaa
open Go.RowKit
attribute [local go_sem ↓] loadRow loadGrid loadLawn loadMirror storeRow storeGrid storeLawn allocRow allocGrid allocLawn buildZero buildSides

set_option maxRecDepth 100000 in
set_option maxHeartbeats 1000000 in
theorem specCells_any (L : Lawn) (hL : L.Fits) (K : Int) (w : World) :
    Calls Try.prog 23 #[.agg L.cells, .int .i64 K] w fun e w' => (∃ v, e = .returned (.tuple #[v, .int .i64 (told (validB L) (inB K 0 3))]) ∧ w'.ownsRow w.heap.size 35 2 v (cellsL L K).length (flatV (cellsL L K))) ∧ Below w.heap.size w w' := by
  have HL := Lib.hid hL
  clear hL
  obtain ⟨v, hv⟩ : ∃ v, validB L = v := ⟨_, rfl⟩
  obtain ⟨f, hf⟩ : ∃ f, inB K 0 3 = f := ⟨_, rfl⟩
  have HV := Lib.hid hv
  have HF := Lib.hid hf
  have HE := Lib.hid (show cellsL L K = if told v f = 0 then ofKind L L.wide.toNat L.high.toNat K else [] by simp only [cellsL, hv, hf])
  rw [hv, hf]
  clear hv hf
  go_enter Try.func23, Try.ntmps23
  go_wp2_with (go_at_call 94; refine (l01Kind_is _ _ HF.out _).mono ?_; rintro e w1 ⟨rfl, rfl⟩)
  have g0 : Holds (w.alloc (.cells L.cells 28)) w.heap.size L.cells := Holds.new _ _ _
  have hb : Below w.heap.size w (w.alloc (.cells L.cells 28)) := (Below.refl w.heap.size w).alloc (Nat.le_refl _) _
  obtain ⟨W0, hW⟩ : ∃ W0, w.alloc (.cells L.cells 28) = W0 := ⟨_, rfl⟩
  rw [hW] at g0 hb ⊢
  clear hW
  refine (told_any L HL.out w.heap.size _ g0 _).mono ?_
  rw [HV.out]
  rintro e w2 ⟨rfl, hb1⟩
  have g1 := g0.below hb1 g0.lt
  have hb2 := below_onto hb hb1
  clear g0 hb hb1 W0
  cases v <;> cases f
  case true.true =>
    obtain ⟨h1, h2, -⟩ := validB_true HV.out
    simp only [told, if_true]
    go_wp2_with fail
    refine (l01Cells_any L.wide.toNat L.high.toNat (by omega) (by omega) (by omega) (by omega) L HL.out (by omega) (by omega) K w.heap.size _ g1).mono ?_
    rintro e w3 ⟨vA, rfl, hA, hb3⟩
    have hb4 := below_onto hb2 hb3
    have hlow := hb2.size
    have HA := Lib.hid hA
    clear hA h1 h2
    go_wp2_with fail
    go_ret2
    refine ⟨⟨_, rfl, ?_⟩, hb4⟩
    rw [HE.out]
    exact ownsRow_low HA.out hlow
  all_goals
    simp only [told, if_true, Bool.false_eq_true, if_false]
    go_wp2_with fail
    go_ret2
    refine ⟨⟨_, rfl, ?_⟩, hb2.alloc hb2.size _⟩
    rw [HE.out]
    exact World.ownsRow_made w2 #[] 0 hb2.size (by simp [maxLen]) rfl
end Go.Proofs.Ytlfmadnhjleofaa

namespace Go.Proofs.Ytlfmadnhjleofaa
open Go.RowKit
set_option linter.unusedVariables false
attribute [local go_sem ↓] loadRow loadGrid loadLawn loadMirror storeRow storeGrid storeLawn allocRow allocGrid allocLawn buildZero buildSides

theorem backOne_any (across : Bool) (x y : Int) (h0 : -128 < x) (h1 : x ≤ 127) (h2 : -128 < y) (h3 : y ≤ 127) (w : World) :
    Calls Try.prog 165 #[.agg #[.int .i8 x, .int .i8 y], .bool across, .int .i8 1] w fun e w' => e = .returned (.agg #[.int .i8 (x - stepX across), .int .i8 (y - stepY across)]) ∧ Below w.heap.size w w' := by
  cases across
  all_goals
    go_enter Try.func165, Try.ntmps165
    go_wp2_with fail
    exact bodyPost_ret (results_cell_holds (n := 2) rfl (by kernel_rfl) _ rfl (Holds.new' _ _ _ (w.heap.size + 1) (by simp)) rfl) rfl ⟨by simp [stepX, stepY], ((Below.refl _ _).alloc (Nat.le_refl _) _).alloc (by simp) _⟩
theorem backTo_any (across : Bool) (x y : Int) (j : Nat) (hj : j ≤ 10) (h0 : 0 ≤ x) (h1 : x ≤ 9) (h2 : 0 ≤ y) (h3 : y ≤ 9) (w : World) :
    Calls Try.prog 165 #[.agg #[.int .i8 x, .int .i8 y], .bool across, .int .i8 (-(j : Int))] w fun e w' => e = .returned (.agg #[.int .i8 (posX across x j), .int .i8 (posY across y j)]) ∧ Below w.heap.size w w' := by
  have hj0 : (0 : Int) ≤ j := by omega
  have hj1 : (j : Int) ≤ 10 := by omega
  cases across
  all_goals
    go_enter Try.func165, Try.ntmps165
    go_wp2_with fail
    exact bodyPost_ret (results_cell_holds (n := 2) rfl (by kernel_rfl) _ rfl (Holds.new' _ _ _ (w.heap.size + 1) (by simp)) rfl) rfl ⟨rfl, ((Below.refl _ _).alloc (Nat.le_refl _) _).alloc (by simp) _⟩

set_option maxRecDepth 100000 in
set_option maxHeartbeats 1000000 in
theorem grass_any (L : Lawn) (hv : validB L = true) (hL : L.Fits) (b : Nat) (x y : Int) (x0 : -128 ≤ x) (x1 : x ≤ 127) (y0 : -128 ≤ y) (y1 : y ≤ 127) (w : World) (h : Holds w b L.cells) :
    Calls Try.prog 164 #[.pointer (some ⟨b, 0, none⟩), .agg #[.int .i8 x, .int .i8 y]] w fun e w' => e = .returned (.bool (grassB L x y)) ∧ Below w.heap.size w w' := by
  cases hi : isB L x y
  case false =>
    have e : grassB L x y = false := by simp [grassB, hi]
    rw [e]
    have h1 := h.alloc (.cells #[.int .i8 x, .int .i8 y] 35)
    have hb0 := (Below.refl w.heap.size w).alloc (Nat.le_refl _) (.cells #[.int .i8 x, .int .i8 y] 35)
    have HB := Lib.hid (l01Is_is L hL b x y _ h1 x0 x1 y0 y1 false hi)
    clear e hi hv hL h h1
    go_enter Try.func164, Try.ntmps164
    go_wp2_with fail
    refine HB.out.mono ?_
    rintro e w1 ⟨rfl, hb1⟩
    have hb2 := below_onto hb0 hb1
    clear hb0 hb1
    go_wp2_with fail
    go_ret
    exact ⟨rfl, hb2⟩
  case true =>
    have h1 := h.alloc (.cells #[.int .i8 x, .int .i8 y] 35)
    have HB := Lib.hid (l01Is_is L hL b x y _ h1 x0 x1 y0 y1 true hi)
    obtain ⟨i, j, hi10, hj10, rfl, rfl⟩ := cell_nat hv hi
    have e : grassB L i j = (L.kind j i == 0) := by simp [grassB, hi]
    rw [e]
    have hb0 := (Below.refl w.heap.size w).alloc (Nat.le_refl _) (.cells #[.int .i8 i, .int .i8 j] 35)
    have c0 := Holds.new w #[.int .i8 i, .int .i8 j] 35
    clear e hi hv h x0 x1 y0 y1
    go_enter Try.func164, Try.ntmps164
    go_wp2_with fail
    refine HB.out.mono ?_
    rintro e w1 ⟨rfl, hb1⟩
    have hb2 := below_onto hb0 hb1
    have h2 := h1.below hb1 h1.lt
    have c1 := c0.below hb1 c0.lt
    clear hb0 hb1 h1 c0
    obtain ⟨-, -, d1, -⟩ := c1.facts
    go_wp2_with fail
    refine (at_any L hL b i j hi10 hj10 _ h2).mono ?_
    rintro e w2 ⟨rfl, hb1⟩
    have hb3 := below_onto hb2 hb1
    clear hb2 hb1 h2 c1 d1 hL
    go_wp2_with fail
    go_ret
    exact ⟨rfl, hb3⟩

theorem isB_fin {L : Lawn} {W H : Nat} (hW : L.wide = W) (hH : L.high = H) (c : Fin W × Fin H) : isB L c.1.val c.2.val = true := by
  have := c.1.isLt; have := c.2.isLt
  simp only [isB, inB, Bool.and_eq_true, decide_eq_true_eq]; omega
theorem heads_of_grass {L : Lawn} {W H : Nat} (across : Bool) (l : List (Fin W × Fin H)) : filtB (headB L across) (l.filter fun c => L.kind c.2 c.1 == 0) = filtB (headB L across) l := by
  unfold filtB
  rw [List.filter_filter]
  apply List.filter_congr
  intro c _
  cases h : headB L across c.2 c.1
  · simp
  · simp only [headB, grassB, Bool.and_eq_true] at h
    simpa using h.1.2

set_option maxRecDepth 100000 in
set_option maxHeartbeats 2000000 in
theorem l01Runs_any (Wn Hn : Nat) (hW : Wn ≤ 10) (hH : Hn ≤ 10) (hW1 : 1 ≤ Wn) (hH1 : 1 ≤ Hn) (L : Lawn) (hL : L.Fits) (hLw : L.wide = Wn) (hLh : L.high = Hn) (hV : validB L = true) (across : Bool) (b : Nat) (w : World) (h : Holds w b L.cells) :
    Calls Try.prog 90 #[.pointer (some ⟨b, 0, none⟩), .bool across] w fun e w' => ∃ v, e = .returned v ∧ w'.ownsRow w.heap.size 37 3 v (filtB (headB L across) (allC Wn Hn)).length (runsV L across (filtB (headB L across) (allC Wn Hn))) ∧ Below w.heap.size w w' := by
  obtain ⟨i0, hi, hz0, hz1, hz2⟩ := info_parts runInfo
  have HI := Lib.hid (show Try.prog.info? 37 = some i0 ∧ i0.zero = some (.agg #[.int .i8 0, .int .i8 0, .int .i8 0]) ∧ i0.size = 3 ∧ i0.bytes = 3 from ⟨hi, hz0, hz1, hz2⟩)
  have HG := Lib.hid (grass_any L hV hL b)
  have HIS := Lib.hid (fun c => isB_fin hLw hLh (c : Fin Wn × Fin Hn))
  have HGP := Lib.hid (fun (x y : Int) j => grass_pos hV (across := across) (x := x) (y := y) (j := j))
  have HC := Lib.hid (fun w h => l01Cells_any Wn Hn hW hH hW1 hH1 L hL hLw hLh 0 b w h)
  clear hi hz0 hz1 hz2 hLw hLh hL hV
  go_enter Try.func90, Try.ntmps90
  go_wp2_with fail
  have hm : (w.alloc (.cells #[] 37)).ownsRow w.heap.size 37 3 (.slice (some ⟨w.heap.size, 0, none⟩) 0 0) 0 [] := World.ownsRow_made w #[] 0 (Nat.le_refl _) (by simp [maxLen]) rfl
  have hb0 := (Below.refl w.heap.size w).alloc (Nat.le_refl _) (.cells #[] 37)
  have h1 := h.alloc (.cells #[] 37)
  have hs0 : w.heap.size < (w.alloc (.cells #[] 37)).heap.size := by simp
  have hbw := h.lt
  obtain ⟨W0, hW0⟩ : ∃ W0, w.alloc (.cells #[] 37) = W0 := ⟨_, rfl⟩
  rw [hW0] at hm hb0 hs0 h1 ⊢
  clear hW0 h
  refine (HC.out W0 h1).mono ?_
  rintro e w1 ⟨vA, rfl, hoA, hb1⟩
  have hb2 := below_onto hb0 hb1
  have h2 := h1.below hb1 h1.lt
  have hm1 := own_below hm hb1
  have hfar := fun k => (hm.lt k)
  have hN1 : (ofKind L Wn Hn 0).length ≤ 100 := by
    refine Nat.le_trans (List.length_filter_le _ _) ?_
    rw [allC_length]
    exact Nat.le_trans (Nat.mul_le_mul hH hW) (by omega)
  obtain ⟨N, hN⟩ : ∃ N, (ofKind L Wn Hn 0).length = N := ⟨_, rfl⟩
  rw [hN] at hoA hN1
  obtain ⟨aA, cA, rfl⟩ := own_slice hoA
  have HN := Lib.hid hN
  clear hm hb0 hb1 h1 hN hfar
  go_wp2_with fail
  go_loopw [5, 7] (fun v x wr => ∃ i : Nat, i ≤ N ∧ x = .int .i64 i ∧ wr.ownsRow w.heap.size 37 3 v (filtB (headB L across) ((ofKind L Wn Hn 0).take i)).length (runsV L across (filtB (headB L across) ((ofKind L Wn Hn 0).take i))) ∧ wr.ownsRow W0.heap.size 35 2 (.slice aA N cA) N (flatV (ofKind L Wn Hn 0)) ∧ (v.ownBlock = none ∨ v.ownBlock ≠ Value.ownBlock (.slice aA N cA)) ∧ Holds wr b L.cells ∧ Below w.heap.size w wr) (fun _ x _ => N - (intOf x).toNat)
  case atStart =>
    refine ⟨0, by omega, rfl, by simpa [filtB, runsV] using hm1, hoA, .inr ?_, h2, hb2⟩
    intro he
    have := own_far hoA w.heap.size he.symm
    omega
  case round =>
    obtain ⟨i, hi, rfl, ho, hA, hv, hbx, hb⟩ := hrel
    have HO := Lib.hid ho
    have HAo := Lib.hid hA
    have HV := Lib.hid hv
    clear ho hA hv hm1 hoA hb2 h2
    by_cases hlt : i < N
    · have hd : decide ((i : Int) < (N : Int)) = true := by simp; omega
      obtain ⟨c, hc⟩ : ∃ c, (ofKind L Wn Hn 0)[i]? = some c := ⟨_, List.getElem?_eq_getElem (by rw [HN.out]; exact hlt)⟩
      have HCc := Lib.hid hc
      have hcx := c.1.isLt
      have hcy := c.2.isLt
      have hgr : grassB L c.1.val c.2.val = true := by
        have hm := List.mem_of_getElem? hc
        simp only [ofKind, List.mem_filter] at hm
        simp only [grassB, HIS.out c, Bool.true_and]
        simpa using hm.2
      have HGR := Lib.hid hgr
      obtain ⟨g, cap, heq, hg0, hg1⟩ := own_form HAo.out (by omega)
      simp only [Value.slice.injEq, true_and] at heq
      obtain ⟨rfl, rfl⟩ := heq
      obtain ⟨fa, fb⟩ := flatV_get _ _ _ hc
      have ca := own_cell HAo.out _ _ fa
      have cb := own_cell HAo.out _ _ fb
      clear hc hgr
      have hx0 : (0 : Int) ≤ (c.1.val : Int) := by omega
      have hx1 : (c.1.val : Int) ≤ 9 := by omega
      have hy0 : (0 : Int) ≤ (c.2.val : Int) := by omega
      have hy1 : (c.2.val : Int) ≤ 9 := by omega
      go_wp2_with fail
      refine (backOne_any across _ _ (by omega) (by omega) (by omega) (by omega) _).mono ?_
      rintro e w2 ⟨rfl, hb1⟩
      have k2 := hbx.below hb1 hbx.lt
      have hstep : -1 ≤ (c.1.val : Int) - stepX across ∧ (c.1.val : Int) - stepX across ≤ 9 ∧ -1 ≤ (c.2.val : Int) - stepY across ∧ (c.2.val : Int) - stepY across ≤ 9 := by
        cases across <;> simp only [stepX, stepY] <;> simp <;> omega
      obtain ⟨s1, s2, s3, s4⟩ := hstep
      obtain ⟨gb, hgb⟩ : ∃ gb, grassB L ((c.1.val : Int) - stepX across) ((c.2.val : Int) - stepY across) = gb := ⟨_, rfl⟩
      have HGB := Lib.hid hgb
      go_wp2_with fail
      refine (HG.out _ _ (by omega) (by omega) (by omega) (by omega) _ k2).mono ?_
      rw [hgb]
      rintro e w3 ⟨rfl, hb3⟩
      have hb4 := below_onto hb1 hb3
      have hb5 := below_onto hb hb4
      have k3 := hbx.below hb4 hbx.lt
      have HO2 := Lib.hid (own_below HO.out hb4)
      have HA2 := Lib.hid (own_below HAo.out hb4)
      clear hb1 hb3 hb4 hb hbx k2 HO HAo ca cb hgb
      cases gb
      case true =>
        have ho3 : filtB (headB L across) ((ofKind L Wn Hn 0).take (i + 1)) = filtB (headB L across) ((ofKind L Wn Hn 0).take i) := by
          rw [List.take_add_one, HCc.out, Option.toList_some, filtB_miss (by simp [headB, HGB.out])]
        rw [← ho3] at HO2
        clear ho3 s1 s2 s3 s4
        go_wp2_with fail
        go_roundw
        case rel => exact ⟨i + 1, by omega, by go_num, HO2.out, HA2.out, HV.out, k3, hb5⟩
        case measure => simp [intOf]; omega
      case false =>
        have hhd := Lib.hid (show headB L across c.2.val c.1.val = true by simp [headB, HGR.out, HGB.out])
        have ca := own_cell HA2.out _ _ fa
        have cb := own_cell HA2.out _ _ fb
        clear s1 s2 s3 s4 fa fb
        go_wp2_with fail
        obtain ⟨rb, hrb⟩ : ∃ rb, w3.heap.size = rb := ⟨_, rfl⟩
        have n0 : Holds (w3.alloc (.cells #[.int .i8 c.1.val, .int .i8 c.2.val, .int .i8 0] 37)) rb #[.int .i8 c.1.val, .int .i8 c.2.val, .int .i8 ((0 : Nat) : Int)] := Holds.new' _ _ _ _ hrb.symm
        have n1 := k3.alloc (.cells #[.int .i8 c.1.val, .int .i8 c.2.val, .int .i8 0] 37)
        have n2 := hb5.alloc hb5.size (.cells #[.int .i8 c.1.val, .int .i8 c.2.val, .int .i8 0] 37)
        have HO3 := Lib.hid (HO2.out.alloc (.cells #[.int .i8 c.1.val, .int .i8 c.2.val, .int .i8 0] 37))
        have HA3 := Lib.hid (HA2.out.alloc (.cells #[.int .i8 c.1.val, .int .i8 c.2.val, .int .i8 0] 37))
        have hfo := fun k hk => (HO2.out.lt k hk).2
        have hfa := fun k hk => (HA2.out.lt k hk).2
        have hbr := k3.lt
        have hwr := hb5.size
        rw [hrb] at hfo hfa hbr hwr ⊢
        have HFO := Lib.hid hfo
        have HFA := Lib.hid hfa
        obtain ⟨W1, hW1⟩ : ∃ W1, w3.alloc (.cells #[.int .i8 c.1.val, .int .i8 c.2.val, .int .i8 0] 37) = W1 := ⟨_, rfl⟩
        rw [hW1] at n0 n1 n2 HO3 HA3 ⊢
        have hz1 : rb < W1.heap.size := n0.lt
        clear hW1 hrb k3 hb5 HO2 HA2 ca cb hfo hfa
        go_loopw [31] (fun _ wi => ∃ j : Nat, j ≤ 10 ∧ Only [rb] W1 wi ∧ Holds wi rb #[.int .i8 c.1.val, .int .i8 c.2.val, .int .i8 (j : Int)] ∧ (∀ m, m < j → grassB L (posX across c.1.val m) (posY across c.2.val m) = true)) (fun _ wi => 11 - (intOf ((rowAt wi rb).getD 2 undef)).toNat)
        case atStart => exact ⟨0, by omega, Only.refl _ _, n0, fun m hm => by omega⟩
        case round =>
          obtain ⟨j, hj, hO, hrj, hgm⟩ := hrel
          have HGM := Lib.hid hgm
          have hm3 := Lib.hid hrj.row
          have m1 := hO.holds n1 (by simp; omega)
          have HO4 := Lib.hid (hO.own HO3.out (fun k hk => by have := HFO.out k hk; simp; omega))
          have HA4 := Lib.hid (hO.own HA3.out (fun k hk => by have := HFA.out k hk; simp; omega))
          obtain ⟨fa, fb⟩ := flatV_get _ _ _ HCc.out
          have ca := fun w' hw' => own_cell (own_below HA4.out (W' := w') hw') _ _ fa
          have cb := fun w' hw' => own_cell (own_below HA4.out (W' := w') hw') _ _ fb
          obtain ⟨-, cr⟩ := hrj.later
          obtain ⟨gj, hgj⟩ : ∃ gj, grassB L (posX across c.1.val j) (posY across c.2.val j) = gj := ⟨_, rfl⟩
          have HGJ := Lib.hid hgj
          have hj0 : (0 : Int) ≤ j := by omega
          have hj1 : (j : Int) ≤ 10 := by omega
          have hpx : -128 ≤ posX across c.1.val j ∧ posX across c.1.val j ≤ 127 ∧ -128 ≤ posY across c.2.val j ∧ posY across c.2.val j ≤ 127 := by
            cases across <;> simp only [posX, posY] <;> simp <;> omega
          have HPX := Lib.hid hpx
          clear hgm fa fb hgj hpx
          go_wp2_with fail
          refine wp_region_grow 10 (by kernel_rfl) (by kernel_rfl) ?_
          simp only [List.take_succ_cons, List.take_zero, List.drop_succ_cons, List.drop_zero]
          iterate 10
            apply wpGrow_plain rfl
            · intro w' hw' K hK
              have e1 := ca _ hw'
              have e2 := cb _ hw'
              have e3 := cr _ hw'
              go_wp2_with (go_at_call 165; refine (backTo_any across _ _ j hj (by omega) (by omega) (by omega) (by omega) _).mono ?_; rintro e w2 ⟨rfl, hb2⟩)
              first | exact hK _ _ rfl hw' | exact hK _ _ rfl (below_onto hw' hb2)
            simp only [Act.put, List.setIfInBounds_toArray, List.set_cons_succ, List.set_cons_zero]
          refine wpGrow_nil ?_
          intro W2 hW2
          have hO2 := hO.onto hW2
          have m2 := m1.below hW2 m1.lt
          have r2 := hrj.below hW2 hrj.lt
          clear ca cb cr hW2 m1 hrj hO HO4 HA4
          go_wp2_with fail
          refine (HG.out _ _ (HPX.out.1) (HPX.out.2.1) (HPX.out.2.2.1) (HPX.out.2.2.2) _ m2).mono ?_
          rw [HGJ.out]
          rintro e w4 ⟨rfl, hb6⟩
          have hO3 := hO2.onto hb6
          have r3 := r2.below hb6 r2.lt
          clear hO2 m2 r2 hb6
          obtain ⟨r4, -, c4, z4, l4⟩ := r3.facts
          cases gj
          case true =>
            obtain ⟨hj9, -⟩ := HGP.out _ _ j hx0 hy0 HGJ.out
            go_wp2_with fail
            go_roundw
            case rel =>
              refine ⟨j + 1, by omega, hO3.setCell (a := ⟨rb, 2, none⟩) (.inl (by simp)) _, r3.setCell 2 (.int .i8 ((j : Int) + 1)), fun m hm => ?_⟩
              by_cases e : m = j
              · subst e; exact HGJ.out
              · exact HGM.out m (by omega)
            case measure =>
              rw [(r3.setCell 2 (.int .i8 ((j : Int) + 1))).row, hm3.out]
              simp [intOf]; omega
          case false =>
            have hrun := Lib.hid (runLen_of (L := L) (across := across) (x := c.1.val) (y := c.2.val) (n := j) ⟨HGM.out, HGJ.out⟩ hj)
            have HO4 := Lib.hid (hO3.own HO3.out (fun k hk => by have := HFO.out k hk; simp; omega))
            have HA4 := Lib.hid (hO3.own HA3.out (fun k hk => by have := HFA.out k hk; simp; omega))
            have m4 := hO3.holds n1 (by simp; omega)
            have hb7 : Below w.heap.size w w4 := n2.trans (hO3.toBelow (by simp; omega) n2.size)
            have hle : (filtB (headB L across) ((ofKind L Wn Hn 0).take i)).length ≤ 100 := Nat.le_trans (filtB_le _ _) (by simp; omega)
            have hfl : (filtB (headB L across) ((ofKind L Wn Hn 0).take (i + 1))) = filtB (headB L across) ((ofKind L Wn Hn 0).take i) ++ [c] := by
              rw [List.take_add_one, HCc.out, Option.toList_some, filtB_hit hhd.out]
            have HFL := Lib.hid hfl
            clear HO3 HA3 n0 n1 n2 hO3 r3 hfl z4
            go_wp2_with (at_builtin; refine wpList_append_own_at _ rfl _ _ 31 rfl w.heap.size 37 i0 (.agg #[.int .i8 0, .int .i8 0, .int .i8 0]) 3 3 Try.underlying31 HI.out.1 HI.out.2.1 HI.out.2.2.1 HI.out.2.2.2 rfl (by decide) _ _ _ rfl (HO4.out.alloc _) ⟨w4.heap.size, 0, none⟩ 1 1 [.int .i8 c.1.val, .int .i8 c.2.val, .int .i8 (j : Int)] rfl rfl ?c1 ?c2 ?c3 ?c4 ?c5 ?_)
            case c1 =>
              intro m u hu
              match m, hu with
              | 0, hu => simp at hu; subst hu; exact (Holds.new w4 #[.int .i8 c.1.val, .int .i8 c.2.val, .int .i8 (j : Int)] 37).cell 0
              | 1, hu => simp at hu; subst hu; exact (Holds.new w4 #[.int .i8 c.1.val, .int .i8 c.2.val, .int .i8 (j : Int)] 37).cell 1
              | 2, hu => simp at hu; subst hu; exact (Holds.new w4 #[.int .i8 c.1.val, .int .i8 c.2.val, .int .i8 (j : Int)] 37).cell 2
            case c2 => intro u hu; simp at hu; rcases hu with rfl | rfl | rfl <;> rfl
            case c3 => unfold maxLen; omega
            case c4 => omega
            case c5 => have := hb7.size; simp; omega
            intro v' w5 hown' hgrow _ hat
            have hs : w.heap.size ≤ w4.heap.size := hb7.size
            have hb8 : Below w.heap.size w w5 := (hb7.alloc hs _).grown hgrow (by simp; omega) (fun k hk => own_far HO4.out k hk)
            have ho5 : w5.ownsRow w.heap.size 37 3 v' (filtB (headB L across) ((ofKind L Wn Hn 0).take (i + 1))).length (runsV L across (filtB (headB L across) ((ofKind L Wn Hn 0).take (i + 1)))) := by
              rw [HFL.out, runsV_append, List.length_append]
              simp only [runsV, List.flatMap_cons, List.flatMap_nil, List.append_nil, hrun.out]
              exact hown'
            have hA5 := (HA4.out.alloc (.cells #[.int .i8 c.1.val, .int .i8 c.2.val, .int .i8 (j : Int)] 37)).kept hgrow (HV.out.elim (fun h => .inr (by rw [h]; simp [Value.ownBlock])) (fun h => .inr (Ne.symm h)))
            have hv5 : v'.ownBlock = none ∨ v'.ownBlock ≠ Value.ownBlock (.slice (some ⟨g, 0, none⟩) N cA) := by
              rcases hat with h | h
              · rw [h]; exact HV.out
              · refine .inr ?_
                rw [h]
                have := (HA4.out.lt g rfl).2
                simp [Value.ownBlock]; omega
            have m5 : Holds w5 b L.cells := by
              have mm := m4.alloc (.cells #[.int .i8 c.1.val, .int .i8 c.2.val, .int .i8 (j : Int)] 37)
              exact held_grown mm (HO4.out.alloc _) hgrow hbw
            have HO5 := Lib.hid ho5
            have HA5 := Lib.hid hA5
            have HV5 := Lib.hid hv5
            clear hown' hgrow ho5 hA5 hv5 hat hb7 m4 HO4 HA4 r4 c4
            go_wp2_with fail
            go_roundw
            case rel => exact ⟨i + 1, by omega, by go_num, HO5.out, HA5.out, HV5.out, m5, hb8⟩
            case measure => simp [intOf]; omega
    · have hd : decide ((i : Int) < (N : Int)) = false := by simp; omega
      go_wp2_with fail
      go_ret
      refine ⟨_, rfl, ?_, hb⟩
      have := HO.out
      rw [List.take_of_length_le (by rw [HN.out]; omega)] at this
      rw [← heads_of_grass across (allC Wn Hn)]
      exact this

set_option maxRecDepth 100000 in
set_option maxHeartbeats 1000000 in
theorem specRuns_any (L : Lawn) (hL : L.Fits) (across : Bool) (w : World) :
    Calls Try.prog 18 #[.agg L.cells, .bool across] w fun e w' => (∃ v, e = .returned (.tuple #[v, .int .i64 (validC L)]) ∧ w'.ownsRow w.heap.size 37 3 v (runsC L across).length (runsV L across (runsC L across))) ∧ Below w.heap.size w w' := by
  have HL := Lib.hid hL
  obtain ⟨v, hv⟩ : ∃ v, validB L = v := ⟨_, rfl⟩
  have HV := Lib.hid hv
  have hb0 := (Below.refl w.heap.size w).alloc (Nat.le_refl _) (.cells L.cells 28)
  have g0 := Holds.new w L.cells 28
  clear hL hv
  go_enter Try.func18, Try.ntmps18
  go_wp2_with fail
  refine (l01Ok_any L HL.out _ _ g0).mono ?_
  rw [HV.out]
  rintro e w1 ⟨rfl, hb1⟩
  have g1 := g0.below hb1 g0.lt
  have hb2 := below_onto hb0 hb1
  clear g0 hb0 hb1
  cases v
  case true =>
    have e1 : validC L = 0 := by simp [validC, HV.out]
    have e2 : runsC L across = filtB (headB L across) (allC L.wide.toNat L.high.toNat) := by simp [runsC, HV.out]
    have E1 := Lib.hid e1
    have E2 := Lib.hid e2
    obtain ⟨h1, h2, -⟩ := validB_true HV.out
    have HC := Lib.hid (fun (b : Nat) (w : World) (h : Holds w b L.cells) => l01Runs_any L.wide.toNat L.high.toNat (by omega) (by omega) (by omega) (by omega) L HL.out (by omega) (by omega) HV.out across b w h)
    clear e1 e2 h1 h2
    go_wp2_with fail
    refine (HC.out _ _ g1).mono ?_
    rintro e w2 ⟨vv, rfl, ho, hb3⟩
    have hb4 := below_onto hb2 hb3
    obtain ⟨a, c, rfl⟩ := own_slice ho
    have HO := Lib.hid ho
    clear ho g1
    go_wp2_with fail
    go_ret2
    rw [E1.out, E2.out]
    exact ⟨⟨_, rfl, ownsRow_low HO.out hb2.size⟩, hb4⟩
  case false =>
    have e1 : validC L = 1 := by simp [validC, HV.out]
    have e2 : runsC L across = [] := by simp [runsC, HV.out]
    have E1 := Lib.hid e1
    have E2 := Lib.hid e2
    clear e1 e2
    go_wp2_with fail
    go_ret2
    rw [E1.out, E2.out]
    exact ⟨⟨_, rfl, World.ownsRow_made w1 #[] 0 hb2.size (by simp [maxLen]) rfl⟩, hb2.alloc hb2.size _⟩
end Go.Proofs.Ytlfmadnhjleofaa
