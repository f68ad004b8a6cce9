/- MownTimes, of the program and of the model; every code. -/
import Derived.Test.YtgmahakpmjfhhaaRRTimes
import Derived.Test.YtgmahakpmjfhhaaRRSGone
import Derived.Test.YtgmahakpmjfhhaaRRSStepsFrom

namespace Go.Proofs.YtgmahakpmjfhhaaRR
open Go.RowKit Go.Shelf
set_option linter.unusedVariables false
attribute [local go_sem] Oper.semAt_some
attribute [local go_sem ↓] loadRow loadGrid loadLawn loadMirror storeRow storeGrid storeLawn allocRow allocGrid allocLawn buildZero buildSides loadRow' loadGrid' loadLawn' loadMirror' storeRow' storeGrid' storeLawn' allocRow' allocGrid' allocLawn' buildZero' buildSides'

def timesV {W H : Nat} (L : Lawn) (cs : List Pt) (l : List (Fin W × Fin H)) : List Value := l.map fun c => .int .i64 (timeN L cs ((c.1.val : Int), (c.2.val : Int)))
theorem timesV_append {W H : Nat} (L : Lawn) (cs : List Pt) (l l' : List (Fin W × Fin H)) : timesV L cs (l ++ l') = timesV L cs l ++ timesV L cs l' := by simp [timesV]

set_option maxRecDepth 100000 in
set_option maxHeartbeats 2000000 in
theorem mown_loop (Wn Hn : Nat) (hW : Wn ≤ 10) (hH : Hn ≤ 10) (L : Lawn) (hLw : L.wide = Wn) (hLh : L.high = Hn) (hL : L.Fits) (x y : Int) (s : ByteArray) (hs : s.size ≤ maxLen) (n : Nat) (hn : Goes L x y s n) (h0 : alongC L x y s n = 0) (w : World) :
    Calls Try.prog 45 #[.agg L.cells, .agg #[.int .i8 x, .int .i8 y], .string s] w fun e w' => (∃ v, e = .returned (.tuple #[v, .int .i64 0]) ∧ w'.ownsRow w.heap.size 2 1 v (allC Wn Hn).length (timesV L (cellsK (x, y) s.data.toList (s.size + 1)) (allC Wn Hn))) ∧ Below w.heap.size w w' := by
  obtain ⟨cs, hcs⟩ : ∃ cs, cellsK (x, y) s.data.toList (s.size + 1) = cs := ⟨_, rfl⟩
  have HT := Lib.hid (show ∀ w, Calls Try.prog 122 #[.agg L.cells, .agg #[.int .i8 x, .int .i8 y], .string s] w fun e w' => (∃ b, e = .returned (.tuple #[.map (some b), .int .i64 0]) ∧ w.heap.size ≤ b ∧ MapIs w' b cellK valI (timesM L cs)) ∧ Below w.heap.size w w' from fun w =>
    (times_any L hL x y s hs n hn w).mono (by
      rintro e w' ⟨⟨v, rfl, -, h2⟩, h3⟩
      obtain ⟨b, rfl, h4, h5⟩ := h2 h0
      exact ⟨⟨b, by rw [h0], h4, hcs ▸ h5⟩, h3⟩))
  obtain ⟨ci, hi, hz0, hz1, hz2⟩ := info_parts int64Info
  have HCI := Lib.hid (show Try.prog.info? 2 = some ci ∧ ci.zero = some (.int .i64 0) ∧ ci.size = 1 ∧ ci.bytes = 8 from ⟨hi, hz0, hz1, hz2⟩)
  have HL : Hid (L = ⟨(Wn : Int), (Hn : Int), L.kind⟩) := Lib.hid (by cases L; simp_all)
  rw [hcs]
  obtain ⟨F, hF⟩ : ∃ F, timesM L cs = F := ⟨_, rfl⟩
  have HTN := Lib.hid (show ∀ p, timeN L cs p = (alLook F p).getD 0 from fun p => by unfold timeN; rw [hF])
  rw [hF] at HT
  clear hi hz0 hz1 hz2 hLw hLh hL hF hcs h0 hn hs
  refine (callsIn_wide (n := 9)).1 ?_
  refine callsIn_of_wp_marks Try.func45 rfl trivial ?_ rfl
  simp only [Try.ntmps45, List.size_toArray, List.length_cons, List.length_nil, Nat.reduceAdd, Nat.reduceSub, Array.replicate_succ, Array.replicate_zero, List.push_toArray, List.append_toArray, List.nil_append, List.cons_append]
  obtain ⟨g0, c0, hb⟩ := cell_new w L x y
  obtain ⟨-, -, d0, -, -⟩ := c0.facts
  gi_wp2_with fail
  refine ⟨trivial, (callsIn_wide.2 (HT.out _)).mono ?_⟩
  rintro e w3 ⟨⟨b, rfl, hbm, hM⟩, hb1⟩
  have g3 := g0.below hb1 g0.lt
  have jB3 := below_onto hb hb1
  have hw2 : w.heap.size + 1 + 1 ≤ b := by simpa using hbm
  clear g0 c0 d0 hb hb1 hbm
  have l3 := g3.lt
  have r0 := ((g3.alloc (.cells #[.map (some b)] 134)).alloc (.cells #[.slice none 0 0] 59)).row
  gi_wp2_with (refine ⟨trivial, ?_⟩; gi_at_call 98; refine (each_in Fence.wide _ trivial rfl _ _).mono ?_; rintro e w2 ⟨rfl, rfl⟩)
  obtain ⟨u, hu⟩ : ∃ u, w3.heap.size = u := ⟨_, rfl⟩
  obtain ⟨W0, hW0⟩ : ∃ W0, ((w3.alloc (.cells #[.map (some b)] 134)).alloc (.cells #[.slice none 0 0] 59)).alloc (.cells L.cells 28) = W0 := ⟨_, rfl⟩
  have hml := hM.lt
  have g0 : Holds W0 u #[.map (some b)] := by rw [← hW0]; exact ((Holds.new' _ _ _ _ hu.symm).alloc _).alloc _
  have g1 : Holds W0 (u + 1) #[.slice none 0 0] := by rw [← hW0]; exact (Holds.new' _ _ _ _ (by simp; omega)).alloc _
  have g2 : Holds W0 (u + 1 + 1) L.cells := by rw [← hW0]; exact Holds.new' _ _ _ _ (by simp; omega)
  have gM : MapIs W0 b cellK valI F := by rw [← hW0]; exact ((hM.alloc _).alloc _).alloc _
  have hB0 : Below w.heap.size w W0 := by rw [← hW0]; exact ((jB3.alloc jB3.size _).alloc (by have := jB3.size; simp; omega) _).alloc (by have := jB3.size; simp; omega) _
  have hz1 : u + 3 ≤ W0.heap.size := by rw [← hW0]; simp; omega
  have hz2 : W0.heap.size ≤ u + 3 := by rw [← hW0]; simp; omega
  have hbu : b < u := by omega
  have hwu : w.heap.size ≤ u := by have := jB3.size; omega
  rw [hu] at l3 ⊢
  rw [hW0]
  clear hW0 hu g3 jB3 r0 hM hml
  refine each_range (by omega) (p := 24) (q := 11) [u + 1] Wn Hn hW hH L.kind rfl (by rw [← HL.out]; exact g2)
    (fun pre W => Gathers64 (u + 1) (u + 3) (timesV L cs pre) pre.length W) (fun c pre W => False)
    (Own.from (gathers64_own _ _ _ _) _) (fun c => fun _ _ _ _ h _ _ => h.elim) ⟨_, g1, World.ownsRow_nil _ _ _ _⟩ ?assign ?body ?done ?stop
  case assign =>
    intro l x y W K hK
    simp only [cellV]
    gi_wp2
    exact hK
  case body =>
    rintro l pre x Bx W hl hr hO ⟨v, i1, io⟩ hBx bX hlt
    have hx := x.1.isLt
    have hy := x.2.isLt
    obtain ⟨⟨xj, hxj⟩, ⟨xk, hxk⟩⟩ := x
    dsimp only at *
    simp only [cellV, List.setIfInBounds_toArray, List.set_cons_succ, List.set_cons_zero]
    have IO := Lib.hid io
    have hpl : pre.length ≤ 100 := by
      have h2 : (allC Wn Hn).length ≤ 100 := by rw [allC_length]; exact Nat.le_trans (Nat.mul_le_mul hH hW) (by omega)
      omega
    have i0 := hO.holds g0 (by simp <;> omega)
    have iM : MapIs W b cellK valI F := gM.block (hO.block b gM.lt (by simp; omega))
    have hO2 := Lib.hid hO
    clear hr io hlt hl
    obtain ⟨-, c0⟩ := i0.later
    obtain ⟨-, c1⟩ := i1.later
    obtain ⟨-, cx⟩ := bX.later
    obtain ⟨r, hr⟩ : ∃ r, (alLook F ((xj : Int), (xk : Int))).getD 0 = r := ⟨_, rfl⟩
    have HAT := Lib.hid (show timeN L cs ((xj : Int), (xk : Int)) = r by rw [HTN.out, hr])
    have HLK := Lib.hid (show ∀ w', Below W.heap.size W w' → (Instr.lookup 134 (.map (some b)) (.agg #[.int .i8 (xj : Int), .int .i8 (xk : Int)]) false).run Try.prog w' = .ok (.int .i64 r) w' from fun w' hw => by
      have := ((iM.below hw iM.lt).look cellKey Try.underlying134 zero64 ((xj : Int), (xk : Int))).1
      rw [hr] at this
      exact this)
    have hsz := hO.size
    clear hr hO
    gi_wp2_with fail
    refine wpIn_region_make 4 rfl rfl (by kernel_rfl) rfl (by rintro ⟨_, _, h⟩; exact h) (by kernel_rfl) (by kernel_rfl) ?_
    simp only [List.take_succ_cons, List.take_zero, List.drop_succ_cons, List.drop_zero]
    iterate 4
      apply wpGrowB_plain rfl
      · intro w' hw' K hK
        have c0' := c0 _ hw'
        have c1' := c1 _ hw'
        have cx' := cx _ hw'
        have lk' := HLK.out _ hw'
        go_wp2_with fail
        exact hK _ _ rfl (Below.refl _ _)
      simp only [Act.put, List.setIfInBounds_toArray, List.set_cons_succ, List.set_cons_zero]
    refine wpGrowB_nil ⟨fun g => .slice (some ⟨g, 0, none⟩) 1 1, .cells #[.int .i64 r] 2, fun w1 hw1 K hK => ?_, ?_⟩
    · go_wp2_with fail
      exact hK _ _ rfl rfl
    intro g W3 hg3 hW3 hobj
    have p3 := i1.below hW3 i1.lt
    have pO1 : Only [u + 1] W0 W3 := hO2.out.onto hW3
    have pK1 : KeepsOthers W W3 := keeps_below hW3
    have IO3 := Lib.hid (own_below IO.out hW3)
    have hg : Holds W3 g #[.int .i64 r] := ⟨_, hobj⟩
    have HGc := Lib.hid hg
    have hgs : W0.heap.size ≤ g := Nat.le_trans hO2.out.size hg3
    clear c0 c1 cx i0 i1 iM bX IO hW3 hobj hg3 hg HLK
    obtain ⟨-, -, c3, z3, l3⟩ := p3.facts
    simp only [List.setIfInBounds_toArray, List.set_cons_succ, List.set_cons_zero]
    go_wp2_with (at_builtin; refine wpList_append_own_at _ rfl _ _ 59 rfl (u + 3) 2 ci (.int .i64 0) 1 8 Try.underlying59 HCI.out.1 HCI.out.2.1 HCI.out.2.2.1 HCI.out.2.2.2 rfl (by decide) _ _ _ rfl IO3.out ⟨g, 0, none⟩ 1 1 [.int .i64 r] rfl rfl ?c1 ?c2 ?c3 ?c4 ?c5 ?_)
    case c1 =>
      intro m z hz
      match m, hz with
      | 0, hz => simp at hz; subst hz; exact HGc.out.cell 0
    case c2 => intro z hz; simp at hz; subst hz; rfl
    case c3 => unfold maxLen; omega
    case c4 => omega
    case c5 => have := pO1.size; omega
    intro v' w4 hown' hgrow _ hat
    have ho3 : w4.ownsRow (u + 3) 2 1 v' (pre ++ [((⟨xj, hxj⟩, ⟨xk, hxk⟩) : Fin Wn × Fin Hn)]).length (timesV L cs (pre ++ [((⟨xj, hxj⟩, ⟨xk, hxk⟩) : Fin Wn × Fin Hn)])) := by
      rw [timesV_append, List.length_append]
      simp only [timesV, List.map_cons, List.map_nil, HAT.out]
      exact hown'
    have p4 := held_grown p3 IO3.out hgrow (by omega)
    have pO : Only [u + 1] W0 w4 := pO1.grown hgrow (fun k hk => .inr (by have := own_far IO3.out k hk; omega))
    have pK : KeepsOthers W w4 := pK1.trans (own_others IO3.out hgrow)
    have HO3 := Lib.hid ho3
    obtain ⟨g', cap', rfl, -, -⟩ := own_form hown' (by omega)
    clear hown' hgrow ho3 hat IO3 p3 pO1 pK1 c3 z3 l3 HGc
    obtain ⟨-, -, c3, z3, l3⟩ := p4.facts
    have hf3 := own_far HO3.out g' rfl
    go_wp2_with fail
    exact eachDone (b := u + 1 + 1) (by omega) (by simp) hO2.out (pK.trans (KeepsOthers.setCell _ _ _)) (pO.setCell (a := ⟨u + 1, 0, none⟩) (.inl (by simp)) _)
      ⟨_, p4.setCell 0 _, HO3.out.kept (grownBy_setCell' w4 (u + 1) _) (.inr (by simp [Value.ownBlock]; omega))⟩
  case done =>
    rintro D W hD hO ⟨v, i1, io⟩ hK
    obtain ⟨a, c, rfl⟩ := own_slice io
    have IO := Lib.hid io
    have hB2 : Below w.heap.size w W := hB0.trans (hO.toBelow (by simp; omega) (by omega))
    obtain ⟨-, f1, c1, z1, l1⟩ := i1.facts
    clear io g0 g1 g2 gM
    gi_wp2
    refine ⟨by simp, .inl ⟨_, _, rfl, run_takeDeferred hK, ?_⟩⟩
    refine ⟨.tuple #[.slice a (allC Wn Hn).length c, .int .i64 0], ?_, ⟨⟨_, rfl, ?_⟩, hB2.trans (belowK_b (w := w) (Nat.le_refl _) _ D _ _ (by omega) hK rfl rfl)⟩⟩
    · simp [results, Try.f45, go_sem]
    · exact ownsRow_low (own_putD IO.out hK) (by omega)
  case stop =>
    rintro D c pre W hD _ h hK
    exact h.elim
end Go.Proofs.YtgmahakpmjfhhaaRR

namespace Go.Proofs.YtgmahakpmjfhhaaRR
open Go.RowKit
set_option linter.unusedVariables false
attribute [local go_sem ↓] loadRow loadGrid loadLawn loadMirror storeRow storeGrid storeLawn allocRow allocGrid allocLawn buildZero buildSides loadG64 storeG64 allocG64 buildG64

set_option maxRecDepth 100000 in
set_option maxHeartbeats 2000000 in
theorem smown_loop (Wn Hn : Nat) (hW : Wn ≤ 10) (hH : Hn ≤ 10) (L : Lawn) (hLw : L.wide = Wn) (hLh : L.high = Hn) (hL : L.Fits) (x y : Int) (x0 : -128 ≤ x) (x1 : x ≤ 127) (y0 : -128 ≤ y) (y1 : y ≤ 127) (way : ByteArray) (hs : way.size ≤ maxLen) (n : Nat) (hn : Goes L x y way n) (h0 : alongC L x y way n = 0) (w : World) :
    Calls Try.prog 46 #[.agg L.cells, .agg #[.int .i8 x, .int .i8 y], .string way] w fun e w' => (∃ v, e = .returned (.tuple #[v, .int .i64 0]) ∧ w'.ownsRow w.heap.size 2 1 v (allC Wn Hn).length (timesV L (cellsK (x, y) way.data.toList (way.size + 1)) (allC Wn Hn))) ∧ Below w.heap.size w w' := by
  obtain ⟨hV, hI, hwz, hgo⟩ := alongC_zero h0
  have hwle := wayC_le hwz
  obtain ⟨ci, hi, hz0, hz1, hz2⟩ := info_parts int64Info
  have HCI := Lib.hid (show Try.prog.info? 2 = some ci ∧ ci.zero = some (.int .i64 0) ∧ ci.size = 1 ∧ ci.bytes = 8 from ⟨hi, hz0, hz1, hz2⟩)
  have hwh : 0 < Wn ∧ 0 < Hn := by obtain ⟨h1, h2, -⟩ := validB_true hV; omega
  have HWH := Lib.hid hwh
  have hall : ∀ c ∈ cellsK (x, y) way.data.toList (way.size + 1), openP L c = true := fun c hc => by
    simp only [cellsK, List.mem_map, List.mem_range] at hc
    obtain ⟨j, hj, rfl⟩ := hc
    exact hn.all j (by omega)
  have hcl : (cellsK (x, y) way.data.toList (way.size + 1)).length = way.size + 1 := by simp [cellsK]
  obtain ⟨cs, hcs⟩ : ∃ cs, cellsK (x, y) way.data.toList (way.size + 1) = cs := ⟨_, rfl⟩
  have HG := Lib.hid (show ∀ w', Holds w' w.heap.size L.cells → Calls Try.prog 119 #[.pointer (some ⟨w.heap.size, 0, none⟩), .agg #[.int .i8 x, .int .i8 y], .string way] w' fun e w'' => (∃ v, e = .returned (.tuple #[v, .int .i64 0]) ∧ w''.ownsRow w'.heap.size 35 2 v (way.size + 1) (flatP cs)) ∧ Below w'.heap.size w' w'' from fun w' h => by
    have := l02Gone_any L hL w.heap.size x y x0 x1 y0 y1 way hs n hn w' h
    rw [h0, show alongM L x y way n = way.size + 1 by unfold alongM; rw [if_pos h0], show alongX L x y way n = flatP cs by unfold alongX; rw [if_pos h0, hcs]] at this
    exact this)
  rw [hcs] at hall hcl ⊢
  have HTM := Lib.hid (fun (g cap : Nat) (w' : World) (h : Holds w' w.heap.size L.cells) (B : Nat) ho => l02Times_any L hL hV w.heap.size g cap (way.size + 1) cs hcl (by omega) hall B w' h ho)
  have HLw := Lib.hid hLw
  have HLh := Lib.hid hLh
  clear hi hz0 hz1 hz2 hLw hLh hL hI hV hwh hn hs hall hcl hcs h0 hgo hwz
  obtain ⟨g0, c0, hb⟩ := cell_new w L x y
  obtain ⟨-, -, d0, -, -⟩ := c0.facts
  go_enter Try.func46, Try.ntmps46
  go_wp2_with fail
  refine (HG.out _ g0).mono ?_
  rintro e w3 ⟨⟨vc, rfl, hoc⟩, hb1⟩
  have g3 := g0.below hb1 g0.lt
  have jB3 := below_onto hb hb1
  clear g0 c0 d0 hb hb1
  obtain ⟨gc, cc, rfl, -, -⟩ := own_form hoc (by omega)
  go_wp2_with fail
  refine (HTM.out gc cc _ g3 _ hoc).mono ?_
  obtain ⟨G, hG⟩ : ∃ G, timesG L cs = G := ⟨_, rfl⟩
  have HGV := Lib.hid (show ∀ i j : Nat, G j i = timeN L cs ((i : Int), (j : Int)) from fun i j => by rw [← hG]; rfl)
  rw [hG]
  rintro e w4 ⟨rfl, hb1⟩
  have g4 := g3.below hb1 g3.lt
  have jB4 := below_onto jB3 hb1
  clear g3 jB3 hb1 hG hoc
  go_wp2_with fail
  obtain ⟨s, hs⟩ : ∃ s, w4.heap.size = s := ⟨_, rfl⟩
  obtain ⟨W0, hW0⟩ : ∃ W0, (w4.alloc (.cells (grid64 G) 138)).alloc (.cells #[] 2) = W0 := ⟨_, rfl⟩
  have hG0 : Holds W0 s (grid64 G) := by rw [← hW0]; exact (Holds.new' _ _ _ _ hs.symm).alloc _
  have hL0 : Holds W0 w.heap.size L.cells := by rw [← hW0]; exact (g4.alloc _).alloc _
  have hm : W0.ownsRow (s + 1) 2 1 (.slice (some ⟨s + 1, 0, none⟩) 0 0) 0 [] := by
    have := World.ownsRow_made (e := 2) (size := 1) (w4.alloc (.cells (grid64 G) 138)) #[] 0 (Nat.le_refl _) (by simp [maxLen]) rfl
    rw [hW0] at this
    simpa [hs] using this
  have hB0 : Below w.heap.size w W0 := by rw [← hW0]; exact (jB4.alloc jB4.size _).alloc (by have := jB4.size; simp; omega) _
  have hws : w.heap.size < s := by have := g4.lt; omega
  have hz0 : s + 2 ≤ W0.heap.size := by rw [← hW0]; simp; omega
  rw [hW0, hs]
  clear hW0 hs g4 jB4
  refine (l01All_any Wn Hn hW hH L HLw.out HLh.out _ W0 hL0).mono ?_
  rintro e w5 ⟨vA, rfl, hoA, hb1⟩
  have hn : 0 < Hn * Wn := Nat.mul_pos HWH.out.2 HWH.out.1
  have hn1 : Hn * Wn ≤ 100 := Nat.le_trans (Nat.mul_le_mul hH hW) (by omega)
  obtain ⟨g, cap, rfl, hg0, hg1⟩ := own_form hoA hn
  have hb2 := below_onto hB0 hb1
  have k0 := hG0.below hb1 hG0.lt
  have hm1 := own_below hm hb1
  clear hm hB0 hb1 hG0 hL0
  obtain ⟨N, hN⟩ : ∃ N, Hn * Wn = N := ⟨_, rfl⟩
  have hall : (allC Wn Hn).length = N := by rw [allC_length, hN]
  rw [hN] at hoA hn hn1 ⊢
  have HA := Lib.hid hall
  clear hN hall
  go_wp2_with fail
  go_loopw [11, 13] (fun v x wr => ∃ i : Nat, i ≤ N ∧ x = .int .i64 i ∧ wr.ownsRow (s + 1) 2 1 v i (timesV L cs ((allC Wn Hn).take i)) ∧ wr.ownsRow W0.heap.size 35 2 (.slice (some ⟨g, 0, none⟩) N cap) N (flatV (allC Wn Hn)) ∧ v.ownBlock ≠ some g ∧ g < wr.heap.size ∧ Holds wr s (grid64 G) ∧ Below w.heap.size w wr) (fun _ x _ => N - (intOf x).toNat)
  case atStart => exact ⟨0, by omega, rfl, by simpa [timesV] using hm1, hoA, by simp [Value.ownBlock]; omega, hg1, k0, hb2⟩
  case round =>
    obtain ⟨i, hi, rfl, ho, hA', hv, hg, k0, hb⟩ := hrel
    have HO := Lib.hid ho
    have HAo := Lib.hid hA'
    have HV2 := Lib.hid hv
    clear ho hA' hv hm1 hoA hb2
    by_cases hlt : i < N
    · have hd : decide ((i : Int) < (N : Int)) = true := by simp; omega
      obtain ⟨q, hq⟩ : ∃ q, (allC Wn Hn)[i]? = some q := ⟨_, List.getElem?_eq_getElem (by rw [HA.out]; exact hlt)⟩
      have HC := Lib.hid hq
      obtain ⟨fa, fb⟩ := flatV_get _ _ _ hq
      obtain ⟨⟨e1, he1⟩, ⟨e2, he2⟩⟩ := q
      dsimp only at fa fb
      have hw1 : e1 < 10 := by omega
      have hw2 : e2 < 10 := by omega
      have hO1 := grid64_get G e2 e1 hw2 hw1
      obtain ⟨v, hv⟩ : ∃ v, G e2 e1 = v := ⟨_, rfl⟩
      rw [hv] at hO1
      have HVV := Lib.hid (show timeN L cs ((e1 : Int), (e2 : Int)) = v by rw [← hv, HGV.out])
      have FX := Lib.hid (show ∀ w', Below wr.heap.size wr w' → w'.cell? ⟨g, i * 2, none⟩ = some (.int .i8 e1) ∧ w'.cell? ⟨g, i * 2 + 1, none⟩ = some (.int .i8 e2) ∧ w'.cell? ⟨s, e2 * 10 + e1, none⟩ = some (.int .i64 v) from fun w' hw' =>
        ⟨own_cell (own_below HAo.out hw') _ _ fa, own_cell (own_below HAo.out hw') _ _ fb, by rw [(k0.below hw' k0.lt).cell, hO1]⟩)
      have hsz := k0.lt
      clear hq fa fb hO1 hv
      go_wp2_with fail
      refine wp_region_make 14 rfl rfl (by kernel_rfl) (by kernel_rfl) (by kernel_rfl) ?_
      simp only [List.take_succ_cons, List.take_zero, List.drop_succ_cons, List.drop_zero]
      iterate 14
        apply wpGrowB_plain rfl
        · intro w' hw' K hK
          obtain ⟨f1, f2, f3⟩ := FX.out _ hw'
          go_wp2_with fail
          exact hK _ _ rfl (Below.refl _ _)
        simp only [Act.put, List.setIfInBounds_toArray, List.set_cons_succ, List.set_cons_zero]
      refine wpGrowB_nil ⟨fun g => .slice (some ⟨g, 0, none⟩) 1 1, .cells #[.int .i64 v] 2, fun w1 hw1 K hK => ?_, ?_⟩
      · go_wp2_with fail
        exact hK _ _ rfl rfl
      intro gg W3 hg3 hW3 hobj
      have HO3 := Lib.hid (own_below HO.out hW3)
      have HA3 := Lib.hid (own_below HAo.out hW3)
      have k3 := k0.below hW3 k0.lt
      have hb3 := hb.trans (hW3.mono hb.size)
      have hgg : Holds W3 gg #[.int .i64 v] := ⟨_, hobj⟩
      have HG3 := Lib.hid hgg
      have hgs := hgg.lt
      have hgw : g < W3.heap.size := Nat.lt_of_lt_of_le hg hW3.size
      clear HO HAo k0 hb hW3 hobj FX hgg
      simp only [List.setIfInBounds_toArray, List.set_cons_succ, List.set_cons_zero]
      go_wp2_with (at_builtin; refine wpList_append_own_at _ rfl _ _ 59 rfl (s + 1) 2 ci (.int .i64 0) 1 8 Try.underlying59 HCI.out.1 HCI.out.2.1 HCI.out.2.2.1 HCI.out.2.2.2 rfl (by decide) _ _ _ rfl HO3.out ⟨gg, 0, none⟩ 1 1 [.int .i64 v] rfl rfl ?c1 ?c2 ?c3 ?c4 ?c5 ?_)
      case c1 =>
        intro m z hz
        match m, hz with
        | 0, hz => simp at hz; subst hz; exact HG3.out.cell 0
      case c2 => intro z hz; simp at hz; subst hz; rfl
      case c3 => unfold maxLen; omega
      case c4 => omega
      case c5 => have := k3.lt; omega
      intro v' w9 hown' hgrow _ hat
      have hb9 : Below w.heap.size w w9 := hb3.grown hgrow hb3.size (fun k hk => by have := own_far HO3.out k hk; omega)
      have k9 := held_grown k3 HO3.out hgrow (by omega)
      have HA9 := Lib.hid (HA3.out.kept hgrow (.inr (fun e => HV2.out e.symm)))
      have hap9 : v'.ownBlock ≠ some g := by
        rcases hat with h | h
        · rw [h]; exact HV2.out
        · rw [h]; intro e; cases e; omega
      have ho9 : w9.ownsRow (s + 1) 2 1 v' (i + 1) (timesV L cs ((allC Wn Hn).take (i + 1))) := by
        rw [List.take_add_one, HC.out, Option.toList_some, timesV_append]
        simp only [timesV, List.map_cons, List.map_nil, HVV.out]
        exact hown'
      have HO9 := Lib.hid ho9
      have HP9 := Lib.hid hap9
      have hg9 : g < w9.heap.size := Nat.lt_of_lt_of_le hgw hgrow.size
      clear hown' hgrow hat ho9 hap9
      go_wp2_with fail
      go_roundw
      case rel => exact ⟨i + 1, by omega, by go_num, HO9.out, HA9.out, HP9.out, hg9, k9, hb9⟩
      case measure => simp [intOf]; omega
    · have hiN : i = N := by omega
      have hd : decide ((i : Int) < (N : Int)) = false := by simp; omega
      have HF := Lib.hid (show wr.ownsRow (s + 1) 2 1 _ (allC Wn Hn).length (timesV L cs (allC Wn Hn)) by
        have := HO.out
        rw [hiN, ← HA.out, List.take_length] at this
        exact this)
      obtain ⟨av, cv, hve⟩ := own_slice HO.out
      subst hve
      clear hiN
      go_wp2_with fail
      go_ret2
      exact ⟨⟨_, rfl, ownsRow_low HF.out (by omega)⟩, hb⟩

end Go.Proofs.YtgmahakpmjfhhaaRR

namespace Go.Proofs.YtgmahakpmjfhhaaRR
open Go.RowKit
set_option linter.unusedVariables false
attribute [local go_sem ↓] loadRow loadGrid loadLawn loadMirror storeRow storeGrid storeLawn allocRow allocGrid allocLawn buildZero buildSides

def mownN (L : Lawn) (x y : Int) (s : ByteArray) (n : Nat) : Nat := if alongC L x y s n = 0 then (allC L.wide.toNat L.high.toNat).length else 0
def mownL (L : Lawn) (x y : Int) (s : ByteArray) (n : Nat) : List Value := if alongC L x y s n = 0 then timesV L (cellsK (x, y) s.data.toList (s.size + 1)) (allC L.wide.toNat L.high.toNat) else []

set_option maxRecDepth 100000 in
set_option maxHeartbeats 1000000 in
theorem implMown_any (L : Lawn) (hL : L.Fits) (x y : Int) (s : ByteArray) (hs : s.size ≤ maxLen) (n : Nat) (hn : Goes L x y s n) (w : World) :
    Calls Try.prog 45 #[.agg L.cells, .agg #[.int .i8 x, .int .i8 y], .string s] w fun e w' => (∃ v, e = .returned (.tuple #[v, .int .i64 (alongC L x y s n)]) ∧ w'.ownsRow w.heap.size 2 1 v (mownN L x y s n) (mownL L x y s n)) ∧ Below w.heap.size w w' := by
  by_cases h0 : alongC L x y s n = 0
  · have e1 : mownN L x y s n = (allC L.wide.toNat L.high.toNat).length := by unfold mownN; rw [if_pos h0]
    have e2 : mownL L x y s n = timesV L (cellsK (x, y) s.data.toList (s.size + 1)) (allC L.wide.toNat L.high.toNat) := by unfold mownL; rw [if_pos h0]
    obtain ⟨h1, h2, -⟩ := validB_true (alongC_zero h0).1
    rw [e1, e2, h0]
    exact mown_loop L.wide.toNat L.high.toNat (by omega) (by omega) L (by omega) (by omega) hL x y s hs n hn h0 w
  · have e1 : mownN L x y s n = 0 := by unfold mownN; rw [if_neg h0]
    have e2 : mownL L x y s n = [] := by unfold mownL; rw [if_neg h0]
    rw [e1, e2]
    have HT := Lib.hid (show ∀ w, Calls Try.prog 122 #[.agg L.cells, .agg #[.int .i8 x, .int .i8 y], .string s] w fun e w' => e = .returned (.tuple #[.map none, .int .i64 (alongC L x y s n)]) ∧ Below w.heap.size w w' from fun w =>
      (times_any L hL x y s hs n hn w).mono (by
        rintro e w' ⟨⟨v, rfl, h1, -⟩, h3⟩
        exact ⟨by rw [h1 h0], h3⟩))
    obtain ⟨c, hc⟩ : ∃ c, alongC L x y s n = c := ⟨_, rfl⟩
    rw [hc] at HT h0 ⊢
    have hb1 : (c != 0) = true := by simpa [bne] using h0
    clear hc e1 e2 hn hs hL h0
    obtain ⟨g0, c0, hb0⟩ := cell_new w L x y
    obtain ⟨-, -, d0, -, -⟩ := c0.facts
    go_enter Try.func45, Try.ntmps45
    go_wp2_with fail
    refine (HT.out _).mono ?_
    rintro e w1 ⟨rfl, hb2⟩
    have hb3 := below_onto hb0 hb2
    clear g0 c0 d0 hb0 hb2
    go_wp2_with fail
    go_ret2
    exact ⟨⟨_, rfl, World.ownsRow_nil _ _ _ _⟩, hb3.alloc hb3.size _⟩

set_option maxRecDepth 100000 in
set_option maxHeartbeats 1000000 in
theorem specMown_any (L : Lawn) (hL : L.Fits) (x y : Int) (x0 : -128 ≤ x) (x1 : x ≤ 127) (y0 : -128 ≤ y) (y1 : y ≤ 127) (s : ByteArray) (hs : s.size ≤ maxLen) (n : Nat) (hn : Goes L x y s n) (w : World) :
    Calls Try.prog 46 #[.agg L.cells, .agg #[.int .i8 x, .int .i8 y], .string s] w fun e w' => (∃ v, e = .returned (.tuple #[v, .int .i64 (alongC L x y s n)]) ∧ w'.ownsRow w.heap.size 2 1 v (mownN L x y s n) (mownL L x y s n)) ∧ Below w.heap.size w w' := by
  by_cases h0 : alongC L x y s n = 0
  · have e1 : mownN L x y s n = (allC L.wide.toNat L.high.toNat).length := by unfold mownN; rw [if_pos h0]
    have e2 : mownL L x y s n = timesV L (cellsK (x, y) s.data.toList (s.size + 1)) (allC L.wide.toNat L.high.toNat) := by unfold mownL; rw [if_pos h0]
    obtain ⟨h1, h2, -⟩ := validB_true (alongC_zero h0).1
    rw [e1, e2, h0]
    exact smown_loop L.wide.toNat L.high.toNat (by omega) (by omega) L (by omega) (by omega) hL x y x0 x1 y0 y1 s hs n hn h0 w
  · have e1 : mownN L x y s n = 0 := by unfold mownN; rw [if_neg h0]
    have e2 : mownL L x y s n = [] := by unfold mownL; rw [if_neg h0]
    rw [e1, e2]
    have HG := Lib.hid (show ∀ w', Holds w' w.heap.size L.cells → Calls Try.prog 119 #[.pointer (some ⟨w.heap.size, 0, none⟩), .agg #[.int .i8 x, .int .i8 y], .string s] w' fun e w'' => (∃ v, e = .returned (.tuple #[v, .int .i64 (alongC L x y s n)])) ∧ Below w'.heap.size w' w'' from fun w' h => (l02Gone_any L hL w.heap.size x y x0 x1 y0 y1 s hs n hn w' h).mono (by
      rintro e w'' ⟨⟨v, rfl, -⟩, h3⟩
      exact ⟨⟨v, rfl⟩, h3⟩))
    obtain ⟨c, hc⟩ : ∃ c, alongC L x y s n = c := ⟨_, rfl⟩
    rw [hc] at HG h0 ⊢
    have hb1 : (c != 0) = true := by simpa [bne] using h0
    clear hc e1 e2 hn hs hL h0
    obtain ⟨g0, c0, hb0⟩ := cell_new w L x y
    obtain ⟨-, -, d0, -, -⟩ := c0.facts
    go_enter Try.func46, Try.ntmps46
    go_wp2_with fail
    refine (HG.out _ g0).mono ?_
    rintro e w1 ⟨⟨v, rfl⟩, hb2⟩
    have hb3 := below_onto hb0 hb2
    clear g0 c0 d0 hb0 hb2
    go_wp2_with fail
    go_ret2
    exact ⟨⟨_, rfl, own_none rfl rfl hb3.size⟩, hb3.alloc hb3.size _⟩
end Go.Proofs.YtgmahakpmjfhhaaRR
