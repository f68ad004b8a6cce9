/- RunsOf of the program. -/
import Derived.Test.YtgmahakpmjfhhaaRRRun
import Derived.Test.YtgmahakpmjfhhaaRRDiffer
import Derived.Test.YtgmahakpmjfhhaaRRGrowM
import Derived.Laws.EntriesVeiled
namespace Go.Proofs.YtgmahakpmjfhhaaRR
open Go.RowKit Go.Shelf
set_option linter.unusedVariables false
attribute [local go_sem] Oper.semAt_some
attribute [local go_sem ↓] loadRow loadGrid loadLawn loadMirror storeRow storeGrid storeLawn allocRow allocGrid allocLawn buildZero buildSides loadRow' loadGrid' loadLawn' loadMirror' storeRow' storeGrid' storeLawn' allocRow' allocGrid' allocLawn' buildZero' buildSides'

/-- A run begins at a cell. -/
def headB (L : Lawn) (across : Bool) (y x : Nat) : Bool := grassB L x y && !grassB L ((x : Int) - stepX across) ((y : Int) - stepY across)
/-- The cells of the runs that begin at some cells. -/
def runsV {W H : Nat} (L : Lawn) (across : Bool) (l : List (Fin W × Fin H)) : List Value := l.flatMap fun c => [.int .i8 c.1.val, .int .i8 c.2.val, .int .i8 (runLen L across c.1.val c.2.val)]
theorem runsV_append {W H : Nat} (L : Lawn) (across : Bool) (l l' : List (Fin W × Fin H)) : runsV L across (l ++ l') = runsV L across l ++ runsV L across l' := by simp [runsV]
theorem runsV_get {W H : Nat} (L : Lawn) (across : Bool) : ∀ (l : List (Fin W × Fin H)) (i : Nat) (c : Fin W × Fin H), l[i]? = some c →
    (runsV L across l)[i * 3]? = some (.int .i8 c.1.val) ∧ (runsV L across l)[i * 3 + 1]? = some (.int .i8 c.2.val) ∧ (runsV L across l)[i * 3 + 2]? = some (.int .i8 (runLen L across c.1.val c.2.val))
  | [], i, c, h => by simp at h
  | a :: l, 0, c, h => by simp at h; subst h; exact ⟨rfl, rfl, rfl⟩
  | a :: l, i + 1, c, h => by
    have ih := runsV_get L across l i c (by simpa using h)
    simp only [runsV, List.flatMap_cons] at ih ⊢
    rw [show (i + 1) * 3 = i * 3 + 3 by omega, show i * 3 + 3 + 1 = i * 3 + 1 + 3 by omega, show i * 3 + 3 + 2 = i * 3 + 2 + 3 by omega]
    simpa using ih
theorem runsV_ints {W H : Nat} (L : Lawn) (across : Bool) (l : List (Fin W × Fin H)) (n : Nat) (hn : l.length = n) : ∀ j, j < n * 3 → ∃ z, (runsV L across l)[j]? = some (.int .i8 z) := by
  intro j hj
  obtain ⟨c, hc⟩ : ∃ c, l[j / 3]? = some c := ⟨_, List.getElem?_eq_getElem (by omega)⟩
  obtain ⟨h1, h2, h3⟩ := runsV_get L across _ _ _ hc
  have : j % 3 = 0 ∨ j % 3 = 1 ∨ j % 3 = 2 := by omega
  rcases this with h | h | h
  · exact ⟨_, by rw [show j = j / 3 * 3 by omega]; exact h1⟩
  · exact ⟨_, by rw [show j = j / 3 * 3 + 1 by omega]; exact h2⟩
  · exact ⟨_, by rw [show j = j / 3 * 3 + 2 by omega]; exact h3⟩
theorem runInfo : (Try.prog.info? 37).map (fun i => (i.zero, i.size, i.bytes)) = some (some (.agg #[.int .i8 0, .int .i8 0, .int .i8 0]), 3, 3) := by kernel_rfl

/-- The list that a loop over the cells has gathered, in its variable at block s. -/
def GathersR (s B : Nat) (l : List Value) (n : Nat) (W : World) : Prop := ∃ v, Holds W s #[v] ∧ W.ownsRow B 37 3 v n l
theorem gathersR_own {β : Type} (s B : Nat) (l : β → List Value) (n : β → Nat) : Own (fun (b : β) w => GathersR s B (l b) (n b) w) := by
  rintro b W W' row ⟨v, h1, h2⟩ hg hr
  exact ⟨v, h1.grown hg hr, own_of_own (B := B) (e := 37) (size := 3) (v := fun _ : Unit => v) (n := fun _ => n b) (xs := fun _ => l b) () W W' row h2 hg hr⟩

set_option maxRecDepth 100000 in
set_option maxHeartbeats 2000000 in
theorem runs_loop (Wn Hn : Nat) (hW : Wn ≤ 10) (hH : Hn ≤ 10) (L : Lawn) (hLw : L.wide = Wn) (hLh : L.high = Hn) (hL : L.Fits) (hV : validB L = true) (across : Bool) (w : World) :
    Calls Try.prog 26 #[.agg L.cells, .bool across] w fun e w' => (∃ v, e = .returned (.tuple #[v, .int .i64 0]) ∧ w'.ownsRow w.heap.size 37 3 v (filtB (headB L across) (allC Wn Hn)).length (runsV L across (filtB (headB L across) (allC Wn Hn)))) ∧ Below w.heap.size w w' := by
  have HIV := Lib.hid (show ∀ w : World, Calls Try.prog 96 #[.agg L.cells] w fun e w' => e = .returned (.bool true) ∧ Below w.heap.size w w' from fun w => hV ▸ implValid_any L hL w)
  have HG := Lib.hid (isGrass_any L hV hL)
  have HR := Lib.hid (fun x y hg => runFrom_any L hV hL across x y hg)
  have HBf := Lib.hid (before_any across)
  have hE := before_enters across
  have HA := Lib.hid (alongRuns_any across)
  obtain ⟨ci, hi, hz0, hz1, hz2⟩ := info_parts runInfo
  have HCI := Lib.hid (show Try.prog.info? 37 = some ci ∧ ci.zero = some (.agg #[.int .i8 0, .int .i8 0, .int .i8 0]) ∧ ci.size = 3 ∧ ci.bytes = 3 from ⟨hi, hz0, hz1, hz2⟩)
  have HL : Hid (L = ⟨(Wn : Int), (Hn : Int), L.kind⟩) := Lib.hid (by cases L; simp_all)
  obtain ⟨bf, hbf⟩ : ∃ f, beforeF across = f := ⟨_, rfl⟩
  obtain ⟨bh, hbh⟩ : ∃ f, behindF across = f := ⟨_, rfl⟩
  rw [hbf] at HBf hE HA
  rw [hbh] at HA HR
  have HE := Lib.hid hE
  clear hi hz0 hz1 hz2 hLw hLh hbf hbh hE hV hL
  refine (callsIn_wide (n := 9)).1 ?_
  refine callsIn_of_wp_marks Try.func26 rfl trivial ?_ rfl
  simp only [Try.ntmps26, List.size_toArray, List.length_cons, List.length_nil, Nat.reduceAdd, Nat.reduceSub, Array.replicate_succ, Array.replicate_zero, List.push_toArray, List.append_toArray, List.nil_append, List.cons_append]
  gi_wp2_with fail
  have g0 := Holds.new w L.cells 28
  have hb0 := (Below.refl w.heap.size w).alloc (Nat.le_refl _) (.cells L.cells 28)
  refine ⟨trivial, (callsIn_wide.2 (HIV.out _)).mono ?_⟩
  rintro e w1 ⟨rfl, hb1⟩
  have j0 := g0.below hb1 g0.lt
  have jB := below_onto hb0 hb1
  clear g0 hb0 hb1
  gi_wp2_with fail
  refine ⟨trivial, (callsIn_wide.2 (HA.out _)).mono ?_⟩
  rintro e w2 ⟨rfl, hb1⟩
  have q0 := j0.below hb1 j0.lt
  have qB := below_onto jB hb1
  clear j0 jB hb1
  have l0 := q0.lt
  have r0 := (((q0.alloc (.cells #[.func (.func bf) #[] #[]] 102)).alloc (.cells #[.func (.func bh) #[] #[]] 102)).alloc (.cells #[.slice none 0 0] 31)).row
  gi_wp2_with (refine ⟨trivial, ?_⟩; gi_at_call 98; refine (each_in Fence.wide _ trivial rfl _ _).mono ?_; rintro e w2 ⟨rfl, rfl⟩)
  obtain ⟨u, hu⟩ : ∃ u, w2.heap.size = u := ⟨_, rfl⟩
  obtain ⟨W0, hW0⟩ : ∃ W0, (((w2.alloc (.cells #[.func (.func bf) #[] #[]] 102)).alloc (.cells #[.func (.func bh) #[] #[]] 102)).alloc (.cells #[.slice none 0 0] 31)).alloc (.cells L.cells 28) = W0 := ⟨_, rfl⟩
  have g0 : Holds W0 w.heap.size L.cells := by rw [← hW0]; exact (((q0.alloc _).alloc _).alloc _).alloc _
  have g1 : Holds W0 u #[.func (.func bf) #[] #[]] := by rw [← hW0]; exact (((Holds.new' _ _ _ _ hu.symm).alloc _).alloc _).alloc _
  have g2 : Holds W0 (u + 1) #[.func (.func bh) #[] #[]] := by rw [← hW0]; exact ((Holds.new' _ _ _ _ (by simp; omega)).alloc _).alloc _
  have g3 : Holds W0 (u + 1 + 1) #[.slice none 0 0] := by rw [← hW0]; exact (Holds.new' _ _ _ _ (by simp; omega)).alloc _
  have g4 : Holds W0 (u + 1 + 1 + 1) L.cells := by rw [← hW0]; exact Holds.new' _ _ _ _ (by simp; omega)
  have hB0 : Below w.heap.size w W0 := by rw [← hW0]; exact (((qB.alloc qB.size _).alloc (by simp; omega) _).alloc (by simp; omega) _).alloc (by simp; omega) _
  have hz1 : u + 4 ≤ W0.heap.size := by rw [← hW0]; simp; omega
  have hz2 : W0.heap.size ≤ u + 4 := by rw [← hW0]; simp; omega
  rw [hu] at l0 ⊢
  rw [hW0]
  clear hW0 hu q0 qB r0
  refine each_range (by omega) (p := 20) (q := 9) [u + 1 + 1] Wn Hn hW hH L.kind rfl (by rw [← HL.out]; exact g4)
    (fun pre W => GathersR (u + 1 + 1) (u + 4) (runsV L across (filtB (headB L across) pre)) (filtB (headB L across) pre).length W) (fun c pre W => False)
    (Own.from (gathersR_own _ _ _ _) _) (fun c => fun _ _ _ _ h _ _ => h.elim) ⟨_, g3, World.ownsRow_nil _ _ _ _⟩ ?assign ?body ?done ?stop
  case assign =>
    intro l x y W K hK
    simp only [cellV]
    gi_wp2
    exact hK
  case body =>
    rintro l pre x Bx W hl hr hO ⟨v, i3, io⟩ hBx bX hlt
    have hx := x.1.isLt
    have hy := x.2.isLt
    obtain ⟨⟨xj, hxj⟩, ⟨xk, hxk⟩⟩ := x
    dsimp only at *
    simp only [cellV, List.setIfInBounds_toArray, List.set_cons_succ, List.set_cons_zero]
    have IO := Lib.hid io
    have hpl : pre.length ≤ 100 := by
      have h2 : (allC Wn Hn).length ≤ 100 := by rw [allC_length]; exact Nat.le_trans (Nat.mul_le_mul hH hW) (by omega)
      omega
    have i0 := hO.holds g0 (by simp <;> omega)
    have i1 := hO.holds g1 (by simp <;> omega)
    have i2 := hO.holds g2 (by simp <;> omega)
    have hO2 := Lib.hid hO
    clear hr io hlt hl
    obtain ⟨r0, c0⟩ := i0.later
    obtain ⟨-, c1⟩ := i1.later
    obtain ⟨rx, cx⟩ := bX.later
    gi_wp2_with fail
    obtain ⟨gg, hgg⟩ : ∃ gg, grassB L xj xk = gg := ⟨_, rfl⟩
    obtain ⟨gb, hgb⟩ : ∃ gb, grassB L ((xj : Int) - stepX across) ((xk : Int) - stepY across) = gb := ⟨_, rfl⟩
    have HGA := Lib.hid (show ∀ w, Calls Try.prog 99 #[.agg L.cells, .agg #[.int .i8 xj, .int .i8 xk]] w fun e w' => e = .returned (.bool gg) ∧ Below w.heap.size w w' from fun w => hgg ▸ HG.out _ _ w)
    have HGB := Lib.hid (show ∀ w, Calls Try.prog 99 #[.agg L.cells, .agg #[.int .i8 ((xj : Int) - stepX across), .int .i8 ((xk : Int) - stepY across)]] w fun e w' => e = .returned (.bool gb) ∧ Below w.heap.size w w' from fun w => hgb ▸ HG.out _ _ w)
    have HGG := Lib.hid hgg
    have hhead := Lib.hid (show headB L across xk xj = (gg && !gb) by simp only [headB, hgg, hgb])
    clear hgg hgb
    refine wpIn_region_grow 10 (by kernel_rfl) rfl (by rintro ⟨_, _, h⟩; exact h) (by kernel_rfl) ?_
    simp only [List.take_succ_cons, List.take_zero, List.drop_succ_cons, List.drop_zero]
    iterate 4
      apply wpGrow_plain rfl
      · intro w' hw' K hK
        have cx' := cx _ hw'
        go_wp2_with (go_at_call 99; refine (HGA.out _).mono ?_; rintro e w2 ⟨rfl, hb2⟩)
        first | exact hK _ _ rfl hw' | exact hK _ _ rfl (below_onto hw' hb2)
      simp only [Act.put, List.setIfInBounds_toArray, List.set_cons_succ, List.set_cons_zero]
    cases gg
    case false =>
      iterate 6
        apply wpGrow_off rfl
        simp only [Act.put, List.setIfInBounds_toArray, List.set_cons_succ, List.set_cons_zero]
      refine wpGrow_nil ?_
      intro W2 hW2
      have q3 := i3.below hW2 i3.lt
      have qO : Only [u + 1 + 1] W0 W2 := hO2.out.onto hW2
      have qK : KeepsOthers W W2 := keeps_below hW2
      have IO2 := Lib.hid (own_below IO.out hW2)
      have HF2 := Lib.hid (filtB_miss (p := headB L across) (pre := pre) (c := (⟨xj, hxj⟩, ⟨xk, hxk⟩)) hhead.out)
      clear r0 c0 c1 rx cx i0 i1 i2 i3 bX hW2 hO
      go_wp2_with fail
      gi_wp2_with fail
      exact eachDone (b := u + 1 + 1 + 1) (by omega) (by simp) hO2.out qK qO ⟨v, q3, by rw [HF2.out]; exact IO2.out⟩
    case true =>
      have hE := HE.out
      iterate 6
        apply wpGrow_on rfl
        · intro w' hw' K hK
          have cx' := cx _ hw'
          have c1' := c1 _ hw'
          go_wp2_with (first | (go_at_call 99; refine (HGB.out _).mono ?_; rintro e w2 ⟨rfl, hb2⟩) | (refine (HBf.out _ _ (by omega) (by omega) (by omega) (by omega) _).mono ?_; rintro e w2 ⟨rfl, hb2⟩))
          first | exact hK _ _ rfl hw' | exact hK _ _ rfl (below_onto hw' hb2)
        simp only [Act.put, List.setIfInBounds_toArray, List.set_cons_succ, List.set_cons_zero]
      clear hE
      cases gb
      case true =>
        refine wpGrow_nil ?_
        intro W2 hW2
        have q3 := i3.below hW2 i3.lt
        have qO : Only [u + 1 + 1] W0 W2 := hO2.out.onto hW2
        have qK : KeepsOthers W W2 := keeps_below hW2
        have IO2 := Lib.hid (own_below IO.out hW2)
        have HF2 := Lib.hid (filtB_miss (p := headB L across) (pre := pre) (c := (⟨xj, hxj⟩, ⟨xk, hxk⟩)) hhead.out)
        clear r0 c0 c1 rx cx i0 i1 i2 i3 bX hW2 hO
        go_wp2_with fail
        gi_wp2_with fail
        exact eachDone (b := u + 1 + 1 + 1) (by omega) (by simp) hO2.out qK qO ⟨v, q3, by rw [HF2.out]; exact IO2.out⟩
      case false =>
        refine wpGrow_nil ?_
        intro W2 hW2
        have q0 := i0.below hW2 i0.lt
        have q2 := i2.below hW2 i2.lt
        have q3 := i3.below hW2 i3.lt
        have qX := bX.below hW2 bX.lt
        have qO : Only [u + 1 + 1] W0 W2 := hO2.out.onto hW2
        have qK : KeepsOthers W W2 := keeps_below hW2
        have IO2 := Lib.hid (own_below IO.out hW2)
        have hle : (filtB (headB L across) pre).length ≤ 100 := Nat.le_trans (filtB_le _ _) hpl
        clear r0 c0 c1 rx cx i0 i1 i2 i3 bX hW2 hO IO
        obtain ⟨r0, -⟩ := q0.later
        obtain ⟨-, c2⟩ := q2.later
        obtain ⟨-, c3⟩ := q3.later
        obtain ⟨-, cx⟩ := qX.later
        obtain ⟨rl, hrl⟩ : ∃ rl : Nat, runLen L across xj xk = rl := ⟨_, rfl⟩
        have HRU := Lib.hid (show ∀ w, Calls Try.prog 100 #[.agg L.cells, .agg #[.int .i8 xj, .int .i8 xk], .func (.func bh) #[] #[]] w fun e w' => e = .returned (.agg #[.int .i8 xj, .int .i8 xk, .int .i8 rl]) ∧ Below w.heap.size w w' from fun w => hrl ▸ HR.out _ _ HGG.out w)
        have HRL := Lib.hid hrl
        clear hrl
        go_wp2_with fail
        gi_wp2_with fail
        refine wpIn_region_make 5 rfl rfl (by kernel_rfl) rfl (by rintro ⟨_, _, h⟩; exact h) (by kernel_rfl) (by kernel_rfl) ?_
        simp only [List.take_succ_cons, List.take_zero, List.drop_succ_cons, List.drop_zero]
        iterate 5
          apply wpGrowB_plain rfl
          · intro w' hw' K hK
            have cx' := cx _ hw'
            have c2' := c2 _ hw'
            have c3' := c3 _ hw'
            go_wp2_with (go_at_call 100; refine (HRU.out _).mono ?_; rintro e w2 ⟨rfl, hb2⟩)
            first | exact hK _ _ rfl (Below.refl _ _) | exact hK _ _ rfl hb2
          simp only [Act.put, List.setIfInBounds_toArray, List.set_cons_succ, List.set_cons_zero]
        refine wpGrowB_nil ⟨fun g => .slice (some ⟨g, 0, none⟩) 1 1, .cells #[.int .i8 xj, .int .i8 xk, .int .i8 rl] 37, fun w1 hw1 K hK => ?_, ?_⟩
        · go_wp2_with fail
          exact hK _ _ rfl rfl
        intro g W3 hg3 hW3 hobj
        have p3 := q3.below hW3 q3.lt
        have pO1 : Only [u + 1 + 1] W0 W3 := qO.onto hW3
        have pK1 : KeepsOthers W W3 := qK.trans (keeps_below hW3)
        have IO3 := Lib.hid (own_below IO2.out hW3)
        have hg : Holds W3 g #[.int .i8 xj, .int .i8 xk, .int .i8 rl] := ⟨_, hobj⟩
        have hgs : W0.heap.size ≤ g := Nat.le_trans qO.size hg3
        have HGc := Lib.hid hg
        clear r0 c2 c3 cx q0 q2 q3 qX qO qK IO2 hW3 hobj hg3 hg
        obtain ⟨-, -, c3, z3, l3⟩ := p3.facts
        simp only [List.setIfInBounds_toArray, List.set_cons_succ, List.set_cons_zero]
        go_wp2_with (at_builtin; refine wpList_append_own_at _ rfl _ _ 31 rfl (u + 4) 37 ci (.agg #[.int .i8 0, .int .i8 0, .int .i8 0]) 3 3 Try.underlying31 HCI.out.1 HCI.out.2.1 HCI.out.2.2.1 HCI.out.2.2.2 rfl (by decide) _ _ _ rfl IO3.out ⟨g, 0, none⟩ 1 1 [.int .i8 xj, .int .i8 xk, .int .i8 rl] rfl rfl ?c1 ?c2 ?c3 ?c4 ?c5 ?_)
        case c1 =>
          intro m u hu
          match m, hu with
          | 0, hu => simp at hu; subst hu; exact HGc.out.cell 0
          | 1, hu => simp at hu; subst hu; exact HGc.out.cell 1
          | 2, hu => simp at hu; subst hu; exact HGc.out.cell 2
        case c2 => intro u hu; simp at hu; rcases hu with rfl | rfl | rfl <;> rfl
        case c3 => unfold maxLen; omega
        case c4 => omega
        case c5 => have := pO1.size; omega
        intro v' w3 hown' hgrow _ hat
        have ho3 : w3.ownsRow (u + 4) 37 3 v' (filtB (headB L across) (pre ++ [(⟨xj, hxj⟩, ⟨xk, hxk⟩)])).length (runsV L across (filtB (headB L across) (pre ++ [(⟨xj, hxj⟩, ⟨xk, hxk⟩)]))) := by
          rw [filtB_hit (p := headB L across) (c := (⟨xj, hxj⟩, ⟨xk, hxk⟩)) hhead.out, runsV_append, List.length_append]
          simp only [runsV, List.flatMap_cons, List.flatMap_nil, List.append_nil, HRL.out]
          exact hown'
        have p4 := held_grown p3 IO3.out hgrow (by omega)
        have pO : Only [u + 1 + 1] W0 w3 := pO1.grown hgrow (fun k hk => .inr (by have := own_far IO3.out k hk; omega))
        have pK : KeepsOthers W w3 := pK1.trans (own_others IO3.out hgrow)
        have HO3 := Lib.hid ho3
        obtain ⟨g', cap', rfl, -, -⟩ := own_form hown' (by omega)
        clear hown' hgrow ho3 hat IO3 p3 pO1 pK1 c3 z3 l3 HGc
        obtain ⟨-, -, c3, z3, l3⟩ := p4.facts
        have hf3 := own_far HO3.out g' rfl
        go_wp2_with fail
        exact eachDone (b := u + 1 + 1 + 1) (by omega) (by simp) hO2.out (pK.trans (KeepsOthers.setCell _ _ _)) (pO.setCell (a := ⟨u + 1 + 1, 0, none⟩) (.inl (by simp)) _)
          ⟨_, p4.setCell 0 _, HO3.out.kept (grownBy_setCell' w3 (u + 1 + 1) _) (.inr (by simp [Value.ownBlock]; omega))⟩
  case done =>
    rintro D W hD hO ⟨v, i3, io⟩ hK
    obtain ⟨a, c, rfl⟩ := own_slice io
    have IO := Lib.hid io
    have hB2 : Below w.heap.size w W := hB0.trans (hO.toBelow (by simp; omega) (by omega))
    obtain ⟨-, f1, c1, z1, l1⟩ := i3.facts
    clear io g0 g1 g2 g3 g4 HE
    gi_wp2
    refine ⟨by simp, .inl ⟨_, _, rfl, run_takeDeferred hK, ?_⟩⟩
    refine ⟨.tuple #[.slice a (filtB (headB L across) (allC Wn Hn)).length c, .int .i64 0], ?_, ⟨⟨_, rfl, ?_⟩, hB2.trans (belowK_b (w := w) (Nat.le_refl _) _ D _ _ (by omega) hK rfl rfl)⟩⟩
    · simp [results, Try.f26, go_sem]
    · exact ownsRow_low (own_putD IO.out hK) (by omega)
  case stop =>
    rintro D c pre W hD _ h hK
    exact h.elim

/-- What RunsOf lists. -/
def runsC (L : Lawn) (across : Bool) : List (Fin L.wide.toNat × Fin L.high.toNat) := if validB L then filtB (headB L across) (allC L.wide.toNat L.high.toNat) else []
def validC (L : Lawn) : Int := if validB L then 0 else 1
theorem runsC_le (L : Lawn) (across : Bool) : (runsC L across).length ≤ 100 := by
  unfold runsC
  split
  · rename_i hv
    obtain ⟨h1, h2, -⟩ := validB_true hv
    refine Nat.le_trans (filtB_le _ _) ?_
    rw [allC_length]
    exact Nat.le_trans (Nat.mul_le_mul (show L.high.toNat ≤ 10 by omega) (show L.wide.toNat ≤ 10 by omega)) (by omega)
  · simp

set_option maxRecDepth 100000 in
set_option maxHeartbeats 1000000 in
theorem implRuns_any (L : Lawn) (hL : L.Fits) (across : Bool) (w : World) :
    Calls Try.prog 26 #[.agg L.cells, .bool across] w fun e w' => (∃ v, e = .returned (.tuple #[v, .int .i64 (validC L)]) ∧ w'.ownsRow w.heap.size 37 3 v (runsC L across).length (runsV L across (runsC L across))) ∧ Below w.heap.size w w' := by
  cases hv : validB L
  case true =>
    have e1 : validC L = 0 := by simp [validC, hv]
    have e2 : runsC L across = filtB (headB L across) (allC L.wide.toNat L.high.toNat) := by simp [runsC, hv]
    rw [e1, e2]
    obtain ⟨h1, h2, -⟩ := validB_true hv
    exact runs_loop L.wide.toNat L.high.toNat (by omega) (by omega) L (by omega) (by omega) hL hv across w
  case false =>
    have e1 : validC L = 1 := by simp [validC, hv]
    have e2 : runsC L across = [] := by simp [runsC, hv]
    rw [e1, e2]
    have HI' := Lib.hid (show ∀ w : World, Calls Try.prog 96 #[.agg L.cells] w fun e w' => e = .returned (.bool false) ∧ Below w.heap.size w w' from fun w => hv ▸ implValid_any L hL w)
    clear e1 e2 hv hL
    go_enter Try.func26, Try.ntmps26
    go_wp2_with fail
    have hb0 := (Below.refl w.heap.size w).alloc (Nat.le_refl _) (.cells L.cells 28)
    refine (HI'.out _).mono ?_
    rintro e w1 ⟨rfl, hb1⟩
    have jB := below_onto hb0 hb1
    clear hb0 hb1
    go_wp2_with fail
    go_ret2
    exact ⟨⟨_, rfl, World.ownsRow_nil _ _ _ _⟩, jB⟩
end Go.Proofs.YtgmahakpmjfhhaaRR
