/- RunsOf of the program. CellsOf of the program. CountKind, of the program and of the model. CellsOf of the model. RunsOf of the model. -/
import Derived.Test.YtabemgplddfemaaGreatDoorZC
import Derived.Test.YtabemgplddfemaaGreatDoorZD
import Derived.Laws.EntriesVeiled
import Derived.Test.YtabemgplddfemaaGreatDoorZB
import Derived.Maps.OwnIn
namespace Go.Proofs.YtabemgplddfemaaGreatDoor
open Go.RowKit Go.Shelf
set_option linter.unusedVariables false
attribute [local go_sem] Oper.semAt_some
attribute [local go_sem ↓] loadRow loadGrid loadLawn loadMirror storeRow storeGrid storeLawn allocRow allocGrid allocLawn buildZero buildSides loadRow' loadGrid' loadLawn' loadMirror' storeRow' storeGrid' storeLawn' allocRow' allocGrid' allocLawn' buildZero' buildSides'

/-- A run begins at a cell. -/
def headB (L : Lawn) (across : Bool) (y x : Nat) : Bool := grassB L x y && !grassB L ((x : Int) - stepX across) ((y : Int) - stepY across)
/-- The cells of the runs that begin at some cells. -/
def runsV {W H : Nat} (L : Lawn) (across : Bool) (l : List (Fin W × Fin H)) : List Value := l.flatMap fun c => [.int .i8 c.1.val, .int .i8 c.2.val, .int .i8 (runLen L across c.1.val c.2.val)]
theorem runsV_append {W H : Nat} (L : Lawn) (across : Bool) (l l' : List (Fin W × Fin H)) : runsV L across (l ++ l') = runsV L across l ++ runsV L across l' := by simp [runsV]
theorem runsV_get {W H : Nat} (L : Lawn) (across : Bool) : ∀ (l : List (Fin W × Fin H)) (i : Nat) (c : Fin W × Fin H), l[i]? = some c →
    (runsV L across l)[i * 3]? = some (.int .i8 c.1.val) ∧ (runsV L across l)[i * 3 + 1]? = some (.int .i8 c.2.val) ∧ (runsV L across l)[i * 3 + 2]? = some (.int .i8 (runLen L across c.1.val c.2.val))
  | [], i, c, h => by simp at h
  | a :: l, 0, c, h => by simp at h; subst h; exact ⟨rfl, rfl, rfl⟩
  | a :: l, i + 1, c, h => by
    have ih := runsV_get L across l i c (by simpa using h)
    simp only [runsV, List.flatMap_cons] at ih ⊢
    rw [show (i + 1) * 3 = i * 3 + 3 by omega, show i * 3 + 3 + 1 = i * 3 + 1 + 3 by omega, show i * 3 + 3 + 2 = i * 3 + 2 + 3 by omega]
    simpa using ih
theorem runsV_ints {W H : Nat} (L : Lawn) (across : Bool) (l : List (Fin W × Fin H)) (n : Nat) (hn : l.length = n) : ∀ j, j < n * 3 → ∃ z, (runsV L across l)[j]? = some (.int .i8 z) := by
  intro j hj
  obtain ⟨c, hc⟩ : ∃ c, l[j / 3]? = some c := ⟨_, List.getElem?_eq_getElem (by omega)⟩
  obtain ⟨h1, h2, h3⟩ := runsV_get L across _ _ _ hc
  have : j % 3 = 0 ∨ j % 3 = 1 ∨ j % 3 = 2 := by omega
  rcases this with h | h | h
  · exact ⟨_, by rw [show j = j / 3 * 3 by omega]; exact h1⟩
  · exact ⟨_, by rw [show j = j / 3 * 3 + 1 by omega]; exact h2⟩
  · exact ⟨_, by rw [show j = j / 3 * 3 + 2 by omega]; exact h3⟩



/-- What RunsOf lists. -/
def runsC (L : Lawn) (across : Bool) : List (Fin L.wide.toNat × Fin L.high.toNat) := if validB L then filtB (headB L across) (allC L.wide.toNat L.high.toNat) else []
def validC (L : Lawn) : Int := if validB L then 0 else 1
theorem runsC_le (L : Lawn) (across : Bool) : (runsC L across).length ≤ 100 := by
  unfold runsC
  split
  · rename_i hv
    obtain ⟨h1, h2, -⟩ := validB_true hv
    refine Nat.le_trans (filtB_le _ _) ?_
    rw [allC_length]
    exact Nat.le_trans (Nat.mul_le_mul (show L.high.toNat ≤ 10 by omega) (show L.wide.toNat ≤ 10 by omega)) (by omega)
  · simp

end Go.Proofs.YtabemgplddfemaaGreatDoor

namespace Go.Proofs.YtabemgplddfemaaGreatDoor
open Go.RowKit Go.Shelf
attribute [local go_sem] Oper.semAt_some
attribute [local go_sem ↓] loadRow loadGrid loadLawn loadMirror storeRow storeGrid storeLawn allocRow allocGrid allocLawn buildZero buildSides loadRow' loadGrid' loadLawn' loadMirror' storeRow' storeGrid' storeLawn' allocRow' allocGrid' allocLawn' buildZero' buildSides'

/-- Those of the cells that have come that are of a kind. -/
def filtK {W H : Nat} (L : Lawn) (K : Int) (pre : List (Fin W × Fin H)) : List (Fin W × Fin H) := pre.filter fun c => L.kind c.2 c.1 == K
theorem own_own {β : Type} {W H : Nat} (s B : Nat) (e : TypeId) (size : Nat) (f : β → List (Fin W × Fin H)) : Own (fun (b : β) w => ∃ v, Holds w s #[v] ∧ w.ownsRow B e size v (f b).length (flatV (f b))) := by
  rintro b W W' row ⟨v, h1, h2⟩ hg hr
  refine ⟨v, h1.grown hg hr, h2.kept hg ?_⟩
  rcases h2.2 with ⟨rfl, -⟩ | ⟨g, cap, cur, rfl, hb, hgg, -⟩
  · exact .inl rfl
  · refine .inr fun he => ?_
    obtain ⟨o, ho, hc⟩ := hr g he.symm
    rw [hgg] at ho
    cases ho
    cases hc






set_option maxRecDepth 100000 in
set_option maxHeartbeats 2000000 in
theorem cells_loop (Wn Hn : Nat) (hW : Wn ≤ 10) (hH : Hn ≤ 10) (hW1 : 1 ≤ Wn) (hH1 : 1 ≤ Hn) (L : Lawn) (hLw : L.wide = Wn) (hLh : L.high = Hn) (hL : L.Fits) (hV : validB L = true) (K : Int) (hK : inB K 0 3 = true) (w : World) :
    Calls Tryz.prog 21 #[.agg L.cells, .int .i64 K] w fun e w' => (∃ v, e = .returned (.tuple #[v, .int .i64 0]) ∧ w'.ownsRow w.heap.size 30 2 v (ofKind L Wn Hn K).length (flatV (ofKind L Wn Hn K))) ∧ Below w.heap.size w w' := by
  have HI : ∀ w : World, Calls Tryz.prog 42 #[.agg L.cells] w fun e w' => e = .returned (.bool true) ∧ Below w.heap.size w w' := fun w => hV ▸ implValid_any L hL w
  have HI' := Lib.hid HI
  obtain ⟨ci, hi, hz0, hz1, hz2⟩ := info_parts cellInfo
  have HCI := Lib.hid (show Tryz.prog.info? 30 = some ci ∧ ci.zero = some (.agg #[.int .i8 0, .int .i8 0]) ∧ ci.size = 2 ∧ ci.bytes = 2 from ⟨hi, hz0, hz1, hz2⟩)
  clear hi hz0 hz1 hz2
  have HF := Lib.hid hL
  have HL : Hid (L = ⟨(Wn : Int), (Hn : Int), L.kind⟩) := Lib.hid (by cases L; simp_all)
  clear hLw hLh HI hV hL
  refine (callsIn_wide (n := 9)).1 ?_
  refine callsIn_of_wp_marks Tryz.func21 rfl trivial ?_ rfl
  simp only [Tryz.ntmps21, List.size_toArray, List.length_cons, List.length_nil, Nat.reduceAdd, Nat.reduceSub, Array.replicate_succ, Array.replicate_zero, List.push_toArray, List.append_toArray, List.nil_append, List.cons_append]
  gi_wp2_with fail
  have g0 := (Holds.new w L.cells 33).alloc (.cells #[.int .i64 K] 2)
  have g1 := Holds.new' (w.alloc (.cells L.cells 33)) #[.int .i64 K] 2 (w.heap.size + 1) (by simp)
  have hb0 := ((Below.refl w.heap.size w).alloc (Nat.le_refl _) (.cells L.cells 33)).alloc (by simp) (.cells #[.int .i64 K] 2)
  refine ⟨trivial, (callsIn_wide.2 (HI'.out _)).mono ?_⟩
  rintro e w1 ⟨rfl, hb1⟩
  have j0 := g0.below hb1 g0.lt
  have j1 := g1.below hb1 g1.lt
  have jB := below_onto hb0 hb1
  clear g0 g1 hb0 hb1
  obtain ⟨r0, -, -, -, l0⟩ := j0.facts
  obtain ⟨-, -, c1, -, l1⟩ := j1.facts
  gi_wp2_with (first | (refine ⟨trivial, ?_⟩; gi_at_call 43; refine (callsIn_wide.2 (kind_is _ _ hK _)).mono ?_; rintro e w2 ⟨rfl, rfl⟩) | (refine ⟨trivial, ?_⟩; gi_at_call 44; refine (each_in Fence.wide _ trivial rfl _ _).mono ?_; rintro e w2 ⟨rfl, rfl⟩))
  have hwf : ∀ y x : Nat, y < 10 → x < 10 → IntKind.i64.wrap (L.kind y x) = L.kind y x := fun y x hy hx => IntWalk.i64_in _ (by have := HF.out.k0 y x hy hx; have := HF.out.k1 y x hy hx; omega)
  have HWF := Lib.hid hwf
  clear hwf r0 c1
  obtain ⟨s, hs⟩ : ∃ s, w1.heap.size = s := ⟨_, rfl⟩
  obtain ⟨W0, hW0⟩ : ∃ W0, (w1.alloc (.cells #[.slice none 0 0] 47)).alloc (.cells L.cells 33) = W0 := ⟨_, rfl⟩
  have g0 : Holds W0 w.heap.size L.cells := by rw [← hW0]; exact (j0.alloc _).alloc _
  have g1 : Holds W0 (w.heap.size + 1) #[.int .i64 K] := by rw [← hW0]; exact (j1.alloc _).alloc _
  have g2 : Holds W0 s #[.slice none 0 0] := by rw [← hW0]; exact (Holds.new' _ _ _ _ hs.symm).alloc _
  have g3 : Holds W0 (s + 1) L.cells := by rw [← hW0]; exact Holds.new' _ _ _ _ (by simp; omega)
  have hB0 : Below w.heap.size w W0 := by rw [← hW0]; exact (jB.alloc jB.size _).alloc (by simp; omega) _
  have hsz : W0.heap.size = s + 2 := by rw [← hW0]; simp; omega
  rw [hs] at l0 l1 ⊢
  rw [hW0]
  have hsw : w.heap.size + 1 < s := by omega
  clear hW0 hs jB j0 j1
  refine wpIn_rangeFunc_ownH (α := Fin Wn × Fin Hn) rfl (by omega) (gf := 63) (lb := #[.pointer (some ⟨s + 1, 0, none⟩)]) rfl trivial (enters_of Tryz.func63 (by kernel_rfl) rfl)
    (each_stops Fence.wide _ trivial rfl (by omega) (s + 1) Wn Hn hW hH L.kind W0 (by omega) (by rw [← HL.out]; exact g3)) keepB_t (keepB_b (by omega)) (Below.refl _ _) (fun _ => rfl)
    (fun pre W => (Holds W w.heap.size L.cells ∧ Holds W (w.heap.size + 1) #[.int .i64 K] ∧ (∃ v, Holds W s #[v] ∧ W.ownsRow (s + 2) 30 2 v (filtK L K pre).length (flatV (filtK L K pre))) ∧ Holds W (s + 1) L.cells) ∧ Below w.heap.size w W)
    (fun c pre W => False)
    (OwnFrom.and (Own.from (ownAnd (holds_own _ (fun _ => L.cells)) (ownAnd (holds_own _ (fun _ => #[.int .i64 K])) (ownAnd (own_own s (s + 2) 30 2 (filtK L K)) (holds_own _ (fun _ => L.cells))))) _) (ownFrom_below (Nat.le_refl _) (by omega)))
    (fun c => fun _ _ _ _ h _ _ => h.elim)
    ⟨⟨g0, g1, ⟨_, g2, World.ownsRow_nil _ _ _ _⟩, g3⟩, hB0⟩
    (fun x a' W => ∃ Bx, s + 2 ≤ Bx ∧ Holds W Bx #[.int .i8 ((x.1 : Nat) : Int), .int .i8 ((x.2 : Nat) : Int)] ∧ a' = { tmps := #[.agg L.cells, .int .i64 K, .pointer (some ⟨w.heap.size, 0, none⟩), .pointer (some ⟨w.heap.size + 1, 0, none⟩), .slice none 0 0, .int .i64 0, .pointer (some ⟨s, 0, none⟩), .pointer (some ⟨Bx, 0, none⟩), .agg L.cells, .bool true, .bool false, .int .i64 K, .bool true, .bool false, .agg L.cells, .func (.func 63) #[] #[.pointer (some ⟨s + 1, 0, none⟩)], .agg #[.int .i8 ((x.1 : Nat) : Int), .int .i8 ((x.2 : Nat) : Int)], undef, undef, undef, undef, undef, undef, undef, undef, undef, undef, undef], defers := [] })
    (fun x a' => fun _ W W' row ⟨Bx, h1, h2, h3⟩ hg hr => ⟨Bx, h1, h2.grown hg (fun r e => (hr r e).2), h3⟩)
    ?assign ?body ?done ?stop
  case assign =>
    rintro l pre x W K' ⟨⟨i0, i1, ⟨v, i2, io⟩, i3⟩, iB⟩ hK
    have hlt := i3.lt
    simp only [cellA, cellV]
    gi_wp2
    exact hK _ _ ((KeepsOthers.alloc _ _).from _) (KeepB.of_below ((Below.refl _ W).alloc (Nat.le_refl _) _) hlt) ⟨⟨i0.alloc _, i1.alloc _, ⟨v, i2.alloc _, io.alloc _⟩, i3.alloc _⟩, iB.alloc iB.size _⟩ ⟨_, by omega, Holds.new _ _ _, rfl⟩
  case body =>
    rintro l pre x a' W hl ⟨r, hr⟩ ⟨⟨i0, i1, ⟨v, i2, io⟩, i3⟩, iB⟩ ⟨Bx, hBx, bX, rfl⟩ hlt
    have hx := x.1.isLt
    have hy := x.2.isLt
    obtain ⟨⟨xj, hxj⟩, ⟨xk, hxk⟩⟩ := x
    dsimp only at *
    have IO := Lib.hid io
    have hwf := HWF.out xk xj (by omega) (by omega)
    have hpl : pre.length ≤ 100 := by
      have h2 : (allC Wn Hn).length ≤ 100 := by rw [allC_length]; exact Nat.le_trans (Nat.mul_le_mul hH hW) (by omega)
      omega
    clear hr hsz io g0 g1 g2 g3 hB0 hlt hl
    obtain ⟨r0, c0⟩ := i0.later
    obtain ⟨r1, c1⟩ := i1.later
    obtain ⟨rx, cx⟩ := bX.later
    gi_wp2_with fail
    refine wpIn_region_grow 5 (by kernel_rfl) rfl (by rintro ⟨_, _, h⟩; exact h) (by kernel_rfl) ?_
    simp only [List.take_succ_cons, List.take_zero, List.drop_succ_cons, List.drop_zero]
    iterate 5
      apply wpGrow_plain rfl
      · intro w' hw' K hK
        have cx' := cx _ hw'
        have c1' := c1 _ hw'
        go_wp2_with (go_at_call 45; refine (kind_any L xj xk (by omega) (by omega) _).mono ?_; rintro e w2 ⟨rfl, hb2⟩)
        first | exact hK _ _ rfl hw' | exact hK _ _ rfl (below_onto hw' hb2)
      simp only [Act.put, List.setIfInBounds_toArray, List.set_cons_succ, List.set_cons_zero]
    refine wpGrow_nil ?_
    intro W2 hW2
    have q0 := i0.below hW2 i0.lt
    have q1 := i1.below hW2 i1.lt
    have q2 := i2.below hW2 i2.lt
    have q3 := i3.below hW2 i3.lt
    have qX := bX.below hW2 bX.lt
    have qB : Below w.heap.size w W2 := below_onto iB hW2
    have qK : KeepsOthers W W2 := ⟨hW2.size, fun k o hk _ => (hW2.block k (Array.getElem?_eq_some_iff.1 hk).1).trans hk⟩
    have qb : KeepB (s + 1) W W2 := KeepB.of_below hW2 i3.lt
    have IO2 := Lib.hid (IO.out.kept (row := none) ⟨hW2.os, hW2.tape, hW2.output, hW2.size, fun k hk _ => hW2.block k hk⟩ (by cases hx : Value.ownBlock _ <;> simp))
    clear r0 c0 r1 c1 rx cx i0 i1 i2 i3 bX IO hW2 hwf
    by_cases hk : L.kind xk xj = K
    · have hkd : ((L.kind xk xj : Int) == K) = true := by simp [hk]
      have HK := Lib.hid hk
      have hle : (filtK L K pre).length ≤ 100 := Nat.le_trans (List.length_filter_le _ _) hpl
      obtain ⟨-, -, c2, z2, l2⟩ := q2.facts
      obtain ⟨-, -, cX, -, lX⟩ := qX.facts
      clear hk
      go_wp2_with fail
      gi_wp2_with (gi_at_builtin; refine wpListIn_append_own_at _ rfl _ _ 47 rfl (s + 2) 30 ci (.agg #[.int .i8 0, .int .i8 0]) 2 2 Tryz.underlying47 HCI.out.1 HCI.out.2.1 HCI.out.2.2.1 HCI.out.2.2.2 rfl (by decide) _ _ _ rfl (IO2.out.alloc _) ⟨W2.heap.size, 0, none⟩ 1 1 [.int .i8 xj, .int .i8 xk] rfl rfl ?c1 ?c2 ?c3 ?c4 ?c5 ?_)
      case c1 =>
        intro m u hu
        match m, hu with
        | 0, hu => simp at hu; subst hu; exact (Holds.new W2 #[.int .i8 xj, .int .i8 xk] 30).cell 0
        | 1, hu => simp at hu; subst hu; exact (Holds.new W2 #[.int .i8 xj, .int .i8 xk] 30).cell 1
      case c2 => intro u hu; simp at hu; rcases hu with rfl | rfl <;> rfl
      case c3 => unfold maxLen; omega
      case c4 => omega
      case c5 => have := lX; simp; omega
      · intro v' w3 hown' hgrow _ hat
        have ho3 : w3.ownsRow (s + 2) 30 2 v' (filtK L K (pre ++ [(⟨xj, hxj⟩, ⟨xk, hxk⟩)])).length (flatV (filtK L K (pre ++ [(⟨xj, hxj⟩, ⟨xk, hxk⟩)]))) := by
          have e : filtK L K (pre ++ [(⟨xj, hxj⟩, ⟨xk, hxk⟩)]) = filtK L K pre ++ [(⟨xj, hxj⟩, ⟨xk, hxk⟩)] := by simp [filtK, HK.out]
          rw [e, flatV_append, List.length_append]
          exact hown'
        have p0 := held_grown (q0.alloc (.cells #[.int .i8 xj, .int .i8 xk] 30)) (IO2.out.alloc _) hgrow (by omega)
        have p1 := held_grown (q1.alloc (.cells #[.int .i8 xj, .int .i8 xk] 30)) (IO2.out.alloc _) hgrow (by omega)
        have p2 := held_grown (q2.alloc (.cells #[.int .i8 xj, .int .i8 xk] 30)) (IO2.out.alloc _) hgrow (by omega)
        have p3 := held_grown (q3.alloc (.cells #[.int .i8 xj, .int .i8 xk] 30)) (IO2.out.alloc _) hgrow (by omega)
        have pB : Below w.heap.size w w3 := by
          refine (qB.alloc qB.size _).grown hgrow (by have := qB.size; simp; omega) fun k hk => ?_
          have := own_far IO2.out k hk
          omega
        have pb : KeepB (s + 1) W w3 := by
          refine keepB_t (keepB_t qb (KeepB.of_below ((Below.refl _ W2).alloc (Nat.le_refl _) (.cells #[.int .i8 xj, .int .i8 xk] 30)) q3.lt)) (hgrow.block (s + 1) (by have := q3.lt; simp; omega) fun hk => ?_)
          have := own_far IO2.out _ hk.symm
          omega
        have pK : KeepsOthers W w3 := (qK.trans (KeepsOthers.alloc _ _)).trans (own_others (IO2.out.alloc _) hgrow)
        have HO3 := Lib.hid ho3
        obtain ⟨g', cap', rfl, -, -⟩ := own_form hown' (by omega)
        clear hown' hgrow ho3 hat IO2 q0 q1 q2 q3 qX qB qK qb c2 z2 cX lX l2
        obtain ⟨-, -, c2, z2, l2⟩ := p2.facts
        have hf3 := own_far HO3.out g' rfl
        gi_wp2_with fail
        exact ⟨(pK.trans (KeepsOthers.setCell _ _ _)).from _, keepB_t pb (Below.heap_setCell _ _ _ _ (by dsimp only; omega)),
          ⟨p0.setCell_other _ _ (by dsimp only; omega), p1.setCell_other _ _ (by dsimp only; omega), ⟨_, p2.setCell 0 _, HO3.out.kept (grownBy_setCell' w3 s _) (.inr (by simp [Value.ownBlock]; omega))⟩, p3.setCell_other _ _ (by dsimp only; omega)⟩,
          pB.setCell (p := ⟨s, 0, none⟩) (by dsimp only; omega) _⟩
    · have hkd : ((L.kind xk xj : Int) == K) = false := by simp [hk]
      have hf : filtK L K (pre ++ [(⟨xj, hxj⟩, ⟨xk, hxk⟩)]) = filtK L K pre := by simp [filtK, hk]
      have HF2 := Lib.hid hf
      clear hf hk
      go_wp2_with fail
      gi_wp2_with fail
      exact ⟨qK.from _, qb, ⟨q0, q1, ⟨v, q2, by rw [HF2.out]; exact IO2.out⟩, q3⟩, qB⟩
  case done =>
    rintro D ys W hD rfl ⟨⟨i0, i1, ⟨v, i2, io⟩, i3⟩, iB⟩ hK
    have hform : ∃ a n c, v = .slice a n c := by
      rcases io.2 with ⟨rfl, -⟩ | ⟨g, cap, cur, rfl, -⟩
      · exact ⟨_, _, _, rfl⟩
      · exact ⟨_, _, _, rfl⟩
    obtain ⟨a, n, c, rfl⟩ := hform
    have IO := Lib.hid io
    obtain ⟨-, f1, c1, z1, l1⟩ := i2.facts
    clear io g0 g1 g2 g3
    gi_wp2
    refine ⟨by simp, .inl ⟨_, _, rfl, run_takeDeferred hK, ?_⟩⟩
    refine ⟨.tuple #[.slice a n c, .int .i64 0], ?_, ⟨⟨_, rfl, ?_⟩, iB.trans (belowK_b (w := w) (Nat.le_refl _) _ D _ _ (by omega) hK rfl rfl)⟩⟩
    · simp [results, Tryz.f21, go_sem]
    · refine ownsRow_low (B := s + 2) ?_ (by omega)
      refine World.ownsRow.kept IO.out (grownBy_putObj' _ D (.deferred none)) ?_
      rcases IO.out.2 with ⟨he, -⟩ | ⟨g, cap, cur, he, hb, hgg, -⟩
      · rw [he]; exact .inl rfl
      · rw [he]
        refine .inr fun hgD => ?_
        simp only [Value.ownBlock, Option.some.injEq] at hgD
        subst hgD
        rw [hgg] at hK
        cases hK
  case stop =>
    rintro D c pre W hD hpre h hK
    exact h.elim
end Go.Proofs.YtabemgplddfemaaGreatDoor

namespace Go.Proofs.YtabemgplddfemaaGreatDoor
open Go.RowKit
attribute [local go_sem ↓] loadRow loadGrid loadLawn loadMirror storeRow storeGrid storeLawn allocRow allocGrid allocLawn buildZero buildSides

/-- The cells that CellsOf answers. -/
def cellsL (L : Lawn) (K : Int) : List (Fin L.wide.toNat × Fin L.high.toNat) := if told (validB L) (inB K 0 3) = 0 then ofKind L L.wide.toNat L.high.toNat K else []

set_option maxRecDepth 100000 in
set_option maxHeartbeats 1000000 in
theorem implCells_any (L : Lawn) (hL : L.Fits) (K : Int) (w : World) :
    Calls Tryz.prog 21 #[.agg L.cells, .int .i64 K] w fun e w' => (∃ v, e = .returned (.tuple #[v, .int .i64 (told (validB L) (inB K 0 3))]) ∧ w'.ownsRow w.heap.size 30 2 v (cellsL L K).length (flatV (cellsL L K))) ∧ Below w.heap.size w w' := by
  cases hv : validB L <;> cases hf : inB K 0 3
  case true.true =>
    obtain ⟨h1, h2, -⟩ := validB_true hv
    have e : cellsL L K = ofKind L L.wide.toNat L.high.toNat K := by simp [cellsL, told, hv, hf]
    rw [e]
    exact cells_loop L.wide.toNat L.high.toNat (by omega) (by omega) (by omega) (by omega) L (by omega) (by omega) hL hv K hf w
  all_goals
    have e : cellsL L K = [] := by simp [cellsL, told, hv, hf]
    rw [e]
    have HI : ∀ w : World, Calls Tryz.prog 42 #[.agg L.cells] w fun e w' => e = .returned (.bool _) ∧ Below w.heap.size w w' := fun w => hv ▸ implValid_any L hL w
    have HI' := Lib.hid HI
    have HF := Lib.hid hf
    clear HI hv hf e hL
    go_enter Tryz.func21, Tryz.ntmps21
    go_wp2_with fail
    have g1 := Holds.new' (w.alloc (.cells L.cells 33)) #[.int .i64 K] 2 (w.heap.size + 1) (by simp)
    have hb0 := ((Below.refl w.heap.size w).alloc (Nat.le_refl _) (.cells L.cells 33)).alloc (by simp) (.cells #[.int .i64 K] 2)
    refine (HI'.out _).mono ?_
    rintro e w1 ⟨rfl, hb1⟩
    have j1 := g1.below hb1 g1.lt
    have jB := below_onto hb0 hb1
    clear g1 hb0 hb1
    obtain ⟨-, -, c1, -, l1⟩ := j1.facts
    go_wp2_with (go_at_call 43; refine (kind_is _ _ HF.out _).mono ?_; rintro e w2 ⟨rfl, rfl⟩)
    go_ret2
    exact ⟨⟨_, rfl, World.ownsRow_nil _ _ _ _⟩, jB⟩

theorem cellsL_le (L : Lawn) (K : Int) : (cellsL L K).length ≤ 100 := by
  unfold cellsL
  split
  · rename_i h
    have hv : validB L = true := by
      cases e : validB L with
      | true => rfl
      | false => rw [e] at h; simp [told] at h
    obtain ⟨h1, h2, -⟩ := validB_true hv
    refine Nat.le_trans (List.length_filter_le _ _) ?_
    rw [allC_length]
    exact Nat.le_trans (Nat.mul_le_mul (show L.high.toNat ≤ 10 by omega) (show L.wide.toNat ≤ 10 by omega)) (by omega)
  · simp


end Go.Proofs.YtabemgplddfemaaGreatDoor

namespace Go.Proofs.YtabemgplddfemaaGreatDoor
open Go.RowKit
attribute [local go_sem ↓] loadRow loadGrid loadLawn loadMirror storeRow storeGrid storeLawn allocRow allocGrid allocLawn buildZero buildSides

end Go.Proofs.YtabemgplddfemaaGreatDoor

namespace Go.Proofs.YtabemgplddfemaaGreatDoor
open Go.RowKit
set_option linter.unusedVariables false
attribute [local go_sem ↓] loadRow loadGrid loadLawn loadMirror storeRow storeGrid storeLawn allocRow allocGrid allocLawn buildZero buildSides


set_option maxRecDepth 100000 in
set_option maxHeartbeats 1000000 in
theorem grass_any (L : Lawn) (hv : validB L = true) (hL : L.Fits) (b : Nat) (x y : Int) (x0 : -128 ≤ x) (x1 : x ≤ 127) (y0 : -128 ≤ y) (y1 : y ≤ 127) (w : World) (h : Holds w b L.cells) :
    Calls Tryz.prog 53 #[.pointer (some ⟨b, 0, none⟩), .agg #[.int .i8 x, .int .i8 y]] w fun e w' => e = .returned (.bool (grassB L x y)) ∧ Below w.heap.size w w' := by
  cases hi : isB L x y
  case false =>
    have e : grassB L x y = false := by simp [grassB, hi]
    rw [e]
    have h1 := h.alloc (.cells #[.int .i8 x, .int .i8 y] 30)
    have hb0 := (Below.refl w.heap.size w).alloc (Nat.le_refl _) (.cells #[.int .i8 x, .int .i8 y] 30)
    have HB := Lib.hid (l01Is_is L hL b x y _ h1 x0 x1 y0 y1 false hi)
    clear e hi hv hL h h1
    go_enter Tryz.func53, Tryz.ntmps53
    go_wp2_with fail
    refine HB.out.mono ?_
    rintro e w1 ⟨rfl, hb1⟩
    have hb2 := below_onto hb0 hb1
    clear hb0 hb1
    go_wp2_with fail
    go_ret
    exact ⟨rfl, hb2⟩
  case true =>
    have h1 := h.alloc (.cells #[.int .i8 x, .int .i8 y] 30)
    have HB := Lib.hid (l01Is_is L hL b x y _ h1 x0 x1 y0 y1 true hi)
    obtain ⟨i, j, hi10, hj10, rfl, rfl⟩ := cell_nat hv hi
    have e : grassB L i j = (L.kind j i == 0) := by simp [grassB, hi]
    rw [e]
    have hb0 := (Below.refl w.heap.size w).alloc (Nat.le_refl _) (.cells #[.int .i8 i, .int .i8 j] 30)
    have c0 := Holds.new w #[.int .i8 i, .int .i8 j] 30
    clear e hi hv h x0 x1 y0 y1
    go_enter Tryz.func53, Tryz.ntmps53
    go_wp2_with fail
    refine HB.out.mono ?_
    rintro e w1 ⟨rfl, hb1⟩
    have hb2 := below_onto hb0 hb1
    have h2 := h1.below hb1 h1.lt
    have c1 := c0.below hb1 c0.lt
    clear hb0 hb1 h1 c0
    obtain ⟨-, -, d1, -⟩ := c1.facts
    go_wp2_with fail
    refine (at_any L hL b i j hi10 hj10 _ h2).mono ?_
    rintro e w2 ⟨rfl, hb1⟩
    have hb3 := below_onto hb2 hb1
    clear hb2 hb1 h2 c1 d1 hL
    go_wp2_with fail
    go_ret
    exact ⟨rfl, hb3⟩

theorem isB_fin {L : Lawn} {W H : Nat} (hW : L.wide = W) (hH : L.high = H) (c : Fin W × Fin H) : isB L c.1.val c.2.val = true := by
  have := c.1.isLt; have := c.2.isLt
  simp only [isB, inB, Bool.and_eq_true, decide_eq_true_eq]; omega
theorem heads_of_grass {L : Lawn} {W H : Nat} (across : Bool) (l : List (Fin W × Fin H)) : filtB (headB L across) (l.filter fun c => L.kind c.2 c.1 == 0) = filtB (headB L across) l := by
  unfold filtB
  rw [List.filter_filter]
  apply List.filter_congr
  intro c _
  cases h : headB L across c.2 c.1
  · simp
  · simp only [headB, grassB, Bool.and_eq_true] at h
    simpa using h.1.2


end Go.Proofs.YtabemgplddfemaaGreatDoor
