/- MownBy, LeftBy, IsWhole: the cells that are mown, and all others. -/
import Derived.Test.YtlfmadnhjleofaaTimes
import Derived.Test.YtlfmadnhjleofaaZE
namespace Go.Proofs.Ytlfmadnhjleofaa
open Go.RowKit Go.Shelf
set_option linter.unusedVariables false
attribute [local go_sem] Oper.semAt_some
attribute [local go_sem ↓] loadRow loadGrid loadLawn loadMirror storeRow storeGrid storeLawn allocRow allocGrid allocLawn buildZero buildSides loadRow' loadGrid' loadLawn' loadMirror' storeRow' storeGrid' storeLawn' allocRow' allocGrid' allocLawn' buildZero' buildSides'

/-- Grass that is mown, or not. -/
def mownB (L : Lawn) (cs : List Pt) (mown : Bool) (y x : Nat) : Bool := grassB L x y && (decide (0 < timeN L cs ((x : Int), (y : Int))) == mown)

set_option maxRecDepth 100000 in
set_option maxHeartbeats 2000000 in
theorem grass_loop (Wn Hn : Nat) (hW : Wn ≤ 10) (hH : Hn ≤ 10) (L : Lawn) (hLw : L.wide = Wn) (hLh : L.high = Hn) (hL : L.Fits) (x y : Int) (s : ByteArray) (hs : s.size ≤ maxLen) (n : Nat) (hn : Goes L x y s n) (h0 : alongC L x y s n = 0) (mown : Bool) (w : World) :
    Calls Try.prog 108 #[.agg L.cells, .agg #[.int .i8 x, .int .i8 y], .string s, .bool mown] w fun e w' => (∃ v, e = .returned (.tuple #[v, .int .i64 0]) ∧ w'.ownsRow w.heap.size 35 2 v (filtB (mownB L (cellsK (x, y) s.data.toList (s.size + 1)) mown) (allC Wn Hn)).length (flatV (filtB (mownB L (cellsK (x, y) s.data.toList (s.size + 1)) mown) (allC Wn Hn)))) ∧ Below w.heap.size w w' := by
  obtain ⟨cs, hcs⟩ : ∃ cs, cellsK (x, y) s.data.toList (s.size + 1) = cs := ⟨_, rfl⟩
  have HT := Lib.hid (show ∀ w, Calls Try.prog 110 #[.agg L.cells, .agg #[.int .i8 x, .int .i8 y], .string s] w fun e w' => (∃ b, e = .returned (.tuple #[.map (some b), .int .i64 0]) ∧ w.heap.size ≤ b ∧ MapIs w' b cellK valI (timesM L cs)) ∧ Below w.heap.size w w' from fun w =>
    (times_any L hL x y s hs n hn w).mono (by
      rintro e w' ⟨⟨v, rfl, -, h2⟩, h3⟩
      obtain ⟨b, rfl, h4, h5⟩ := h2 h0
      exact ⟨⟨b, by rw [h0], h4, hcs ▸ h5⟩, h3⟩))
  obtain ⟨ci, hi, hz0, hz1, hz2⟩ := info_parts cellInfo
  have HG := Lib.hid (isGrass_any L (alongC_zero h0).1 hL)
  have HCI := Lib.hid (show Try.prog.info? 35 = some ci ∧ ci.zero = some (.agg #[.int .i8 0, .int .i8 0]) ∧ ci.size = 2 ∧ ci.bytes = 2 from ⟨hi, hz0, hz1, hz2⟩)
  have HL : Hid (L = ⟨(Wn : Int), (Hn : Int), L.kind⟩) := Lib.hid (by cases L; simp_all)
  rw [hcs]
  obtain ⟨F, hF⟩ : ∃ F, timesM L cs = F := ⟨_, rfl⟩
  have HTN := Lib.hid (show ∀ p, timeN L cs p = (alLook F p).getD 0 from fun p => by unfold timeN; rw [hF])
  rw [hF] at HT
  clear hi hz0 hz1 hz2 hLw hLh hL hF hcs h0 hn hs
  refine (callsIn_wide (n := 9)).1 ?_
  refine callsIn_of_wp_marks Try.func108 rfl trivial ?_ rfl
  simp only [Try.ntmps108, List.size_toArray, List.length_cons, List.length_nil, Nat.reduceAdd, Nat.reduceSub, Array.replicate_succ, Array.replicate_zero, List.push_toArray, List.append_toArray, List.nil_append, List.cons_append]
  have g0 : Holds (((w.alloc (.cells L.cells 28)).alloc (.cells #[.int .i8 x, .int .i8 y] 35)).alloc (.cells #[.bool mown] 4)) w.heap.size L.cells := ((Holds.new _ _ _).alloc _).alloc _
  have c0 : Holds (((w.alloc (.cells L.cells 28)).alloc (.cells #[.int .i8 x, .int .i8 y] 35)).alloc (.cells #[.bool mown] 4)) (w.heap.size + 1) #[.int .i8 x, .int .i8 y] := (Holds.new' _ _ _ _ (by simp)).alloc _
  have m0 : Holds (((w.alloc (.cells L.cells 28)).alloc (.cells #[.int .i8 x, .int .i8 y] 35)).alloc (.cells #[.bool mown] 4)) (w.heap.size + 1 + 1) #[.bool mown] := Holds.new' _ _ _ _ (by simp)
  have hb : Below w.heap.size w (((w.alloc (.cells L.cells 28)).alloc (.cells #[.int .i8 x, .int .i8 y] 35)).alloc (.cells #[.bool mown] 4)) := (((Below.refl _ _).alloc (Nat.le_refl _) _).alloc (by simp) _).alloc (by simp; omega) _
  obtain ⟨-, -, d0, -, -⟩ := c0.facts
  gi_wp2_with fail
  refine ⟨trivial, (callsIn_wide.2 (HT.out _)).mono ?_⟩
  rintro e w3 ⟨⟨b, rfl, hbm, hM⟩, hb1⟩
  have g3 := g0.below hb1 g0.lt
  have m3 := m0.below hb1 m0.lt
  have jB3 := below_onto hb hb1
  have hw2 : w.heap.size + 1 + 1 + 1 ≤ b := by simpa using hbm
  clear g0 c0 d0 m0 hb hb1 hbm
  have l3 := g3.lt
  have r0 := ((g3.alloc (.cells #[.map (some b)] 138)).alloc (.cells #[.slice none 0 0] 42)).row
  gi_wp2_with (refine ⟨trivial, ?_⟩; gi_at_call 86; refine (each_in Fence.wide _ trivial rfl _ _).mono ?_; rintro e w2 ⟨rfl, rfl⟩)
  obtain ⟨u, hu⟩ : ∃ u, w3.heap.size = u := ⟨_, rfl⟩
  obtain ⟨W0, hW0⟩ : ∃ W0, ((w3.alloc (.cells #[.map (some b)] 138)).alloc (.cells #[.slice none 0 0] 42)).alloc (.cells L.cells 28) = W0 := ⟨_, rfl⟩
  have hml := hM.lt
  have g0 : Holds W0 u #[.map (some b)] := by rw [← hW0]; exact ((Holds.new' _ _ _ _ hu.symm).alloc _).alloc _
  have g1 : Holds W0 (u + 1) #[.slice none 0 0] := by rw [← hW0]; exact (Holds.new' _ _ _ _ (by simp; omega)).alloc _
  have g2 : Holds W0 (u + 1 + 1) L.cells := by rw [← hW0]; exact Holds.new' _ _ _ _ (by simp; omega)
  have gL : Holds W0 w.heap.size L.cells := by rw [← hW0]; exact ((g3.alloc _).alloc _).alloc _
  have gB : Holds W0 (w.heap.size + 1 + 1) #[.bool mown] := by rw [← hW0]; exact ((m3.alloc _).alloc _).alloc _
  have gM : MapIs W0 b cellK valI F := by rw [← hW0]; exact ((hM.alloc _).alloc _).alloc _
  have hB0 : Below w.heap.size w W0 := by rw [← hW0]; exact ((jB3.alloc jB3.size _).alloc (by have := jB3.size; simp; omega) _).alloc (by have := jB3.size; simp; omega) _
  have hz1 : u + 3 ≤ W0.heap.size := by rw [← hW0]; simp; omega
  have hz2 : W0.heap.size ≤ u + 3 := by rw [← hW0]; simp; omega
  have hbu : b < u := by omega
  have hwu : w.heap.size ≤ u := by have := jB3.size; omega
  rw [hu] at l3 ⊢
  rw [hW0]
  clear hW0 hu g3 m3 jB3 r0 hM hml
  refine each_range (by omega) (p := 26) (q := 13) [u + 1] Wn Hn hW hH L.kind rfl (by rw [← HL.out]; exact g2)
    (fun pre W => ∃ v, Holds W (u + 1) #[v] ∧ W.ownsRow (u + 3) 35 2 v (filtB (mownB L cs mown) pre).length (flatV (filtB (mownB L cs mown) pre))) (fun c pre W => False)
    (Own.from (own_own (u + 1) (u + 3) 35 2 (fun pre => filtB (mownB L cs mown) pre)) _) (fun c => fun _ _ _ _ h _ _ => h.elim) ⟨_, g1, World.ownsRow_nil _ _ _ _⟩ ?assign ?body ?done ?stop
  case assign =>
    intro l x y W K hK
    simp only [cellV]
    gi_wp2
    exact hK
  case body =>
    rintro l pre x Bx W hl hr hO ⟨v, i1, io⟩ hBx bX hlt
    have hx := x.1.isLt
    have hy := x.2.isLt
    obtain ⟨⟨xj, hxj⟩, ⟨xk, hxk⟩⟩ := x
    dsimp only at *
    simp only [cellV, List.setIfInBounds_toArray, List.set_cons_succ, List.set_cons_zero]
    have IO := Lib.hid io
    have hpl : (filtB (mownB L cs mown) pre).length ≤ 100 := by
      have h2 : (allC Wn Hn).length ≤ 100 := by rw [allC_length]; exact Nat.le_trans (Nat.mul_le_mul hH hW) (by omega)
      have h3 := filtB_le (mownB L cs mown) pre
      omega
    have i0 := hO.holds g0 (by simp <;> omega)
    have iL := hO.holds gL (by simp <;> omega)
    have iB := hO.holds gB (by simp <;> omega)
    have iM : MapIs W b cellK valI F := gM.block (hO.block b gM.lt (by simp; omega))
    have hO2 := Lib.hid hO
    clear hr io hlt hl
    obtain ⟨-, c0⟩ := i0.later
    obtain ⟨rL, -⟩ := iL.later
    obtain ⟨-, cB⟩ := iB.later
    obtain ⟨-, cx⟩ := bX.later
    obtain ⟨r, hr⟩ : ∃ r, (alLook F ((xj : Int), (xk : Int))).getD 0 = r := ⟨_, rfl⟩
    have HAT := Lib.hid (show timeN L cs ((xj : Int), (xk : Int)) = r by rw [HTN.out, hr])
    have HLK := Lib.hid (show ∀ w', Below W.heap.size W w' → (Instr.lookup 138 (.map (some b)) (.agg #[.int .i8 (xj : Int), .int .i8 (xk : Int)]) false).run Try.prog w' = .ok (.int .i64 r) w' from fun w' hw => by
      have := ((iM.below hw iM.lt).look cellKey Try.underlying138 zero64 ((xj : Int), (xk : Int))).1
      rw [hr] at this
      exact this)
    have hsz := hO.size
    obtain ⟨gg, hgg⟩ : ∃ gg, grassB L xj xk = gg := ⟨_, rfl⟩
    obtain ⟨d, hdd⟩ : ∃ d, decide ((0 : Int) < r) = d := ⟨_, rfl⟩
    have HGA := Lib.hid (show ∀ w, Calls Try.prog 87 #[.agg L.cells, .agg #[.int .i8 xj, .int .i8 xk]] w fun e w' => e = .returned (.bool gg) ∧ Below w.heap.size w w' from fun w => hgg ▸ HG.out _ _ w)
    have HMB := Lib.hid (show mownB L cs mown xk xj = (gg && (d == mown)) by simp only [mownB, hgg, HAT.out, hdd])
    have HDD := Lib.hid hdd
    clear hr hO hgg hdd
    gi_wp2_with fail
    refine wpIn_region_grow 10 (by kernel_rfl) rfl (by rintro ⟨_, _, h⟩; exact h) (by kernel_rfl) ?_
    simp only [List.take_succ_cons, List.take_zero, List.drop_succ_cons, List.drop_zero]
    iterate 4
      apply wpGrow_plain rfl
      · intro w' hw' K hK
        have cx' := cx _ hw'
        go_wp2_with (go_at_call 87; refine (HGA.out _).mono ?_; rintro e w2 ⟨rfl, hb2⟩)
        first | exact hK _ _ rfl hw' | exact hK _ _ rfl (below_onto hw' hb2)
      simp only [Act.put, List.setIfInBounds_toArray, List.set_cons_succ, List.set_cons_zero]
    cases gg
    case false =>
      iterate 6
        apply wpGrow_off rfl
        simp only [Act.put, List.setIfInBounds_toArray, List.set_cons_succ, List.set_cons_zero]
      refine wpGrow_nil ?_
      intro W2 hW2
      have q3 := i1.below hW2 i1.lt
      have qO : Only [u + 1] W0 W2 := hO2.out.onto hW2
      have qK : KeepsOthers W W2 := keeps_below hW2
      have IO2 := Lib.hid (own_below IO.out hW2)
      have HF2 := Lib.hid (filtB_miss (p := mownB L cs mown) (pre := pre) (c := ((⟨xj, hxj⟩, ⟨xk, hxk⟩) : Fin Wn × Fin Hn)) HMB.out)
      clear c0 rL cB cx i0 i1 iL iB iM bX hW2
      go_wp2_with fail
      gi_wp2_with fail
      exact eachDone (b := u + 1 + 1) (by omega) (by simp) hO2.out qK qO ⟨v, q3, by rw [HF2.out]; exact IO2.out⟩
    case true =>
      iterate 3
        apply wpGrow_on rfl
        · intro w' hw' K hK
          have cx' := cx _ hw'
          have c0' := c0 _ hw'
          have lk' := HLK.out _ hw'
          go_wp2_with fail
          exact hK _ _ rfl hw'
        simp only [Act.put, List.setIfInBounds_toArray, List.set_cons_succ, List.set_cons_zero]
      refine wpGrow_on (v := .bool d) rfl ?_ ?_
      · intro w' hw' K hK
        have hdd := HDD.out
        go_wp2_with fail
        exact hK _ _ rfl hw'
      simp only [Act.put, List.setIfInBounds_toArray, List.set_cons_succ, List.set_cons_zero]
      iterate 2
        apply wpGrow_on rfl
        · intro w' hw' K hK
          have cB' := cB _ hw'
          go_wp2_with fail
          exact hK _ _ rfl hw'
        simp only [Act.put, List.setIfInBounds_toArray, List.set_cons_succ, List.set_cons_zero]
      refine wpGrow_nil ?_
      intro W2 hW2
      have q3 := i1.below hW2 i1.lt
      have qX := bX.below hW2 bX.lt
      have qO : Only [u + 1] W0 W2 := hO2.out.onto hW2
      have qK : KeepsOthers W W2 := keeps_below hW2
      have IO2 := Lib.hid (own_below IO.out hW2)
      clear c0 rL cB cx i0 i1 iL iB iM bX hW2 HLK
      obtain ⟨q, hq⟩ : ∃ q, (d == mown) = q := ⟨_, rfl⟩
      have HMB2 := Lib.hid (show mownB L cs mown xk xj = q by rw [HMB.out, hq, Bool.true_and])
      rw [hq]
      cases q
      case false =>
        have HF2 := Lib.hid (filtB_miss (p := mownB L cs mown) (pre := pre) (c := ((⟨xj, hxj⟩, ⟨xk, hxk⟩) : Fin Wn × Fin Hn)) HMB2.out)
        go_wp2_with fail
        gi_wp2_with fail
        exact eachDone (b := u + 1 + 1) (by omega) (by simp) hO2.out qK qO ⟨v, q3, by rw [HF2.out]; exact IO2.out⟩
      case true =>
        obtain ⟨-, -, c3, z3, l3⟩ := q3.facts
        obtain ⟨-, -, cX, -, lX⟩ := qX.facts
        go_wp2_with fail
        gi_wp2_with (gi_at_builtin; refine wpListIn_append_own_at _ rfl _ _ 42 rfl (u + 3) 35 ci (.agg #[.int .i8 0, .int .i8 0]) 2 2 Try.underlying42 HCI.out.1 HCI.out.2.1 HCI.out.2.2.1 HCI.out.2.2.2 rfl (by decide) _ _ _ rfl (IO2.out.alloc _) ⟨W2.heap.size, 0, none⟩ 1 1 [.int .i8 xj, .int .i8 xk] rfl rfl ?c1 ?c2 ?c3 ?c4 ?c5 ?_)
        case c1 =>
          intro m z hz
          match m, hz with
          | 0, hz => simp at hz; subst hz; exact (Holds.new W2 #[.int .i8 xj, .int .i8 xk] 35).cell 0
          | 1, hz => simp at hz; subst hz; exact (Holds.new W2 #[.int .i8 xj, .int .i8 xk] 35).cell 1
        case c2 => intro z hz; simp at hz; rcases hz with rfl | rfl <;> rfl
        case c3 => unfold maxLen; omega
        case c4 => omega
        case c5 => have := qO.size; simp; omega
        intro v' w4 hown' hgrow _ hat
        have ho3 : w4.ownsRow (u + 3) 35 2 v' (filtB (mownB L cs mown) (pre ++ [((⟨xj, hxj⟩, ⟨xk, hxk⟩) : Fin Wn × Fin Hn)])).length (flatV (filtB (mownB L cs mown) (pre ++ [((⟨xj, hxj⟩, ⟨xk, hxk⟩) : Fin Wn × Fin Hn)]))) := by
          rw [filtB_hit (p := mownB L cs mown) (c := ((⟨xj, hxj⟩, ⟨xk, hxk⟩) : Fin Wn × Fin Hn)) HMB2.out, flatV_append, List.length_append]
          exact hown'
        have p4 := held_grown (q3.alloc (.cells #[.int .i8 xj, .int .i8 xk] 35)) (IO2.out.alloc _) hgrow (by omega)
        have pO : Only [u + 1] W0 w4 := (qO.alloc _).grown hgrow (fun k hk => .inr (by have := own_far IO2.out k hk; omega))
        have pK : KeepsOthers W w4 := (qK.trans (KeepsOthers.alloc _ _)).trans (own_others (IO2.out.alloc _) hgrow)
        have HO3 := Lib.hid ho3
        obtain ⟨g', cap', rfl, -, -⟩ := own_form hown' (by omega)
        clear hown' hgrow ho3 hat IO2 q3 qO qK qX c3 z3 l3 cX lX
        obtain ⟨-, -, c3, z3, l3⟩ := p4.facts
        have hf3 := own_far HO3.out g' rfl
        gi_wp2_with fail
        exact eachDone (b := u + 1 + 1) (by omega) (by simp) hO2.out (pK.trans (KeepsOthers.setCell _ _ _)) (pO.setCell (a := ⟨u + 1, 0, none⟩) (.inl (by simp)) _)
          ⟨_, p4.setCell 0 _, HO3.out.kept (grownBy_setCell' w4 (u + 1) _) (.inr (by simp [Value.ownBlock]; omega))⟩
  case done =>
    rintro D W hD hO ⟨v, i1, io⟩ hK
    obtain ⟨a, c, rfl⟩ := own_slice io
    have IO := Lib.hid io
    have hB2 : Below w.heap.size w W := hB0.trans (hO.toBelow (by simp; omega) (by omega))
    obtain ⟨-, f1, c1, z1, l1⟩ := i1.facts
    clear io g0 g1 g2 gM gB gL
    gi_wp2
    refine ⟨by simp, .inl ⟨_, _, rfl, run_takeDeferred hK, ?_⟩⟩
    refine ⟨.tuple #[.slice a (filtB (mownB L cs mown) (allC Wn Hn)).length c, .int .i64 0], ?_, ⟨⟨_, rfl, ?_⟩, hB2.trans (belowK_b (w := w) (Nat.le_refl _) _ D _ _ (by omega) hK rfl rfl)⟩⟩
    · simp [results, Try.f108, go_sem]
    · exact ownsRow_low (own_putD IO.out hK) (by omega)
  case stop =>
    rintro D c pre W hD _ h hK
    exact h.elim
end Go.Proofs.Ytlfmadnhjleofaa
