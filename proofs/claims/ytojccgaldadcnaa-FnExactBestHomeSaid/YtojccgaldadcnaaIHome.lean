/- BestHome, of the program. -/
import Derived.Test.YtojccgaldadcnaaHomeP
import Derived.Test.YtojccgaldadcnaaZE
import Derived.BigRegionIn
namespace Go.Proofs.Ytojccgaldadcnaa
open Go.RowKit Go.Shelf
set_option linter.unusedVariables false
set_option linter.unusedSimpArgs false
attribute [local go_sem] Oper.semAt_some
attribute [local go_sem ↓] loadRow loadGrid loadLawn loadMirror storeRow storeGrid storeLawn allocRow allocGrid allocLawn buildZero buildSides loadRow' loadGrid' loadLawn' loadMirror' storeRow' storeGrid' storeLawn' allocRow' allocGrid' allocLawn' buildZero' buildSides'

theorem results_cell_tmp2 {P : Program} {fn : Func} {p u v : Tmp} {ty : TypeId} {n : Nat} {x y : Value} (h : fn.results = #[.cell p ty, .tmp u, .tmp v]) (hw : wideB P ty n = true) (tmps : Array Value) {w : World} {g : Nat} {cs : Array Value}
    (hp : tmps.getD p undef = .pointer (some ⟨g, 0, none⟩)) (hx : tmps.getD u undef = x) (hy : tmps.getD v undef = y) (hg : Holds w g cs) (hn : cs.size = n) : (results fn tmps).run P w = .ok (.tuple #[.agg cs, x, y]) w := by
  have hp' : tmps[p]?.getD undef = .pointer (some ⟨g, 0, none⟩) := by simpa using hp
  subst hx hy
  simp [results, h, hp', asAddr, (wide_of hw).loadVar hg hn]
theorem MapIs.len_run2 {κ ν : Type} {enc : κ → Value} {val : ν → Value} {P : Program} {w : World} {b : Nat} {l : List (κ × ν)} (h : MapIs w b enc val l) (t ty : TypeId) (hT : P.underlying t = some (.map (P.mapKeyOf t) (P.mapElemOf t))) : (Builtin.len_ #[t] ty #[.map (some b)]).run P w = .ok (.int .i64 (l.length : Int)) w := by
  obtain ⟨es, c, h1, h2, -⟩ := h
  have e : es.size = l.length := by simpa using congrArg List.length h2
  rw [run_len_map w t ty b es c hT h1, ← e]
  rfl
def ptV (s : Int × Int × Int) : Array Value := #[.int .i8 s.1, .int .i8 s.2.1]
def homeC (m : Int) : Int := if m < 0 then 6 else 0
def homeR (s : Int × Int × Int) : Value := if s.2.2 < 0 then .tuple #[.agg #[.int .i8 0, .int .i8 0], .int .i64 0, .int .i64 6] else .tuple #[.agg (ptV s), .int .i64 s.2.2, .int .i64 0]

set_option maxRecDepth 100000 in
set_option maxHeartbeats 2000000 in
theorem home_loop (Wn Hn : Nat) (hW : Wn ≤ 10) (hH : Hn ≤ 10) (L : Lawn) (hL : L.Fits) (hLw : L.wide = Wn) (hLh : L.high = Hn) (hV : validB L = true) (n : Int) (hn : n = (ofKind L Wn Hn 0).length)
    (HCN : ∀ w : World, Calls Try.prog 57 #[.agg L.cells, .int .i64 0] w fun e w' => e = .returned (.tuple #[.int .i64 n, .int .i64 0]) ∧ Below w.heap.size w w') (w : World) :
    Calls Try.prog 22 #[.agg L.cells] w fun e w' => e = .returned (homeR (homeL L (allC Wn Hn))) ∧ Below w.heap.size w w' := by
  have HOP := Lib.hid (fun (c : Fin Wn × Fin Hn) (w : World) => isOpen_any L hV hL c.1.val c.2.val w)
  have HAR := Lib.hid (fun (c : Fin Wn × Fin Hn) (h : openB L c.1.val c.2.val = true) (w : World) => around_lawn L hL hV c.1.val c.2.val h w)
  have HWL := Lib.hid (fun (c : Fin Wn × Fin Hn) (h : openB L c.1.val c.2.val = true) => whole_length (W := Wn) (H := Hn) hLw hLh h)
  have HZB := Lib.hid (fun (c : Fin Wn × Fin Hn) (h : openB L c.1.val c.2.val = true) => around_val hV h)
  have HLB := Lib.hid (fun l : List (Fin Wn × Fin Hn) => homeL_bound hV l)
  have HL : Hid (L = ⟨(Wn : Int), (Hn : Int), L.kind⟩) := Lib.hid (by cases L; simp_all)
  have HCT := Lib.hid HCN
  have HNN := Lib.hid hn
  clear hLw hLh hV hL hn HCN
  refine (callsIn_wide (n := 9)).1 ?_
  refine callsIn_of_wp_marks Try.func22 rfl trivial ?_ rfl
  simp only [Try.ntmps22, List.size_toArray, List.length_cons, List.length_nil, Nat.reduceAdd, Nat.reduceSub, Array.replicate_succ, Array.replicate_zero, List.push_toArray, List.append_toArray, List.nil_append, List.cons_append]
  obtain ⟨W0, hW0⟩ : ∃ W0, (w.alloc (.cells L.cells 30)).alloc (.cells #[.int .i8 0, .int .i8 0] 43) = W0 := ⟨_, rfl⟩
  obtain ⟨s, hs⟩ : ∃ s, w.heap.size = s := ⟨_, rfl⟩
  have g0 : Holds W0 s L.cells := by rw [← hW0]; exact (Holds.new' _ _ _ _ hs.symm).alloc _
  have g1 : Holds W0 (s + 1) #[.int .i8 0, .int .i8 0] := by rw [← hW0]; exact Holds.new' _ _ _ _ (by simp; omega)
  have hB0 : Below w.heap.size w W0 := by rw [← hW0]; exact ((Below.refl w.heap.size w).alloc (Nat.le_refl _) _).alloc (by simp) _
  have rr := g0.row
  gi_wp2_with fail
  try rw [hW0]
  clear hW0 rr
  refine ⟨trivial, (callsIn_wide.2 (HCT.out _)).mono ?_⟩
  rintro e w1 ⟨rfl, hb1⟩
  have k0 := g0.below hb1 g0.lt
  have k1 := g1.below hb1 g1.lt
  have hb2 := below_onto hB0 hb1
  clear g0 g1 hB0 hb1
  obtain ⟨u, hu⟩ : ∃ u, w1.heap.size = u := ⟨_, rfl⟩
  have hsu : s + 1 < u := by have := k1.lt; omega
  have r0 := ((((k0.alloc (.cells #[.int .i64 n] 2)).alloc (.cells #[.int .i8 0, .int .i8 0] 43)).alloc (.cells #[.int .i64 (-1)] 2))).row
  gi_wp2_with (refine ⟨trivial, ?_⟩; gi_at_call 42; refine (each_in Fence.wide _ trivial rfl _ _).mono ?_; rintro e w2 ⟨rfl, rfl⟩)
  clear r0
  obtain ⟨W0, hW0⟩ : ∃ W0, (((w1.alloc (.cells #[.int .i64 n] 2)).alloc (.cells #[.int .i8 0, .int .i8 0] 43)).alloc (.cells #[.int .i64 (-1)] 2)).alloc (.cells L.cells 30) = W0 := ⟨_, rfl⟩
  have g0 : Holds W0 s L.cells := by rw [← hW0]; exact (((k0.alloc _).alloc _).alloc _).alloc _
  have g1 : Holds W0 (s + 1) #[.int .i8 0, .int .i8 0] := by rw [← hW0]; exact (((k1.alloc _).alloc _).alloc _).alloc _
  have g2 : Holds W0 u #[.int .i64 n] := by rw [← hW0]; exact (((Holds.new' _ _ _ _ hu.symm).alloc _).alloc _).alloc _
  have g3 : Holds W0 (u + 1) #[.int .i8 0, .int .i8 0] := by rw [← hW0]; exact ((Holds.new' _ _ _ _ (by simp; omega)).alloc _).alloc _
  have g4 : Holds W0 (u + 1 + 1) #[.int .i64 (-1)] := by rw [← hW0]; exact (Holds.new' _ _ _ _ (by simp; omega)).alloc _
  have g5 : Holds W0 (u + 1 + 1 + 1) L.cells := by rw [← hW0]; exact Holds.new' _ _ _ _ (by simp; omega)
  have hB0 : Below w.heap.size w W0 := by rw [← hW0]; exact (((hb2.alloc hb2.size _).alloc (by have := hb2.size; simp; omega) _).alloc (by have := hb2.size; simp; omega) _).alloc (by have := hb2.size; simp; omega) _
  have hz1 : u + 4 ≤ W0.heap.size := by rw [← hW0]; simp; omega
  have hz2 : W0.heap.size ≤ u + 4 := by rw [← hW0]; simp; omega
  try rw [hu]
  try rw [hW0]
  clear hW0 hu k0 k1 hb2
  rw [hs] at hB0
  refine each_range (by omega) (p := 23) (q := 9) [u + 1, u + 1 + 1] Wn Hn hW hH L.kind rfl (by rw [← HL.out]; exact g5)
    (fun pre W => Holds W (u + 1) (ptV (homeL L pre)) ∧ Holds W (u + 1 + 1) #[.int .i64 (homeL L pre).2.2]) (fun c pre W => False)
    (Own.from (ownAnd (holds_own _ (fun pre => ptV (homeL L pre))) (holds_own _ (fun pre => #[.int .i64 (homeL L pre).2.2]))) _) (fun c => fun _ _ _ _ h _ _ => h.elim) ⟨g3, g4⟩ ?assign ?body ?done ?stop
  case assign =>
    intro l x y W K hK
    simp only [cellV]
    gi_wp2
    exact hK
  case body =>
    rintro l pre x Bx W hl hr hO ⟨i3, i4⟩ hBx bX hlt
    have HOx := Lib.hid (HOP.out x)
    have HAx := Lib.hid (HAR.out x)
    have HWx := Lib.hid (HWL.out x)
    have HZx := Lib.hid (HZB.out x)
    have HST := Lib.hid (homeL_snoc L pre x)
    have hlb := HLB.out pre
    have HOK : Hid (homeOk L x = (openB L x.1.val x.2.val && wholeB L Wn Hn x.1.val x.2.val)) := Lib.hid rfl
    have HHZ : Hid (homeZ L x = 2 * mostZ (aroundL L x.1.val x.2.val)) := Lib.hid rfl
    obtain ⟨o, ho⟩ : ∃ o, openB L x.1.val x.2.val = o := ⟨_, rfl⟩
    rw [ho] at HOx HAx HWx HZx HOK
    obtain ⟨⟨bx, by', m⟩, hst⟩ : ∃ st, homeL L pre = st := ⟨_, rfl⟩
    rw [hst] at HST i3 i4 hlb
    have HSE : Hid (homeStep L (bx, by', m) x = if homeOk L x && (decide (m < 0) || decide (homeZ L x < m)) then ((x.1.val : Int), (x.2.val : Int), homeZ L x) else (bx, by', m)) := Lib.hid rfl
    obtain ⟨z, hz⟩ : ∃ z, homeZ L x = z := ⟨_, rfl⟩
    obtain ⟨ok, hok⟩ : ∃ ok, homeOk L x = ok := ⟨_, rfl⟩
    rw [hz, hok] at HSE
    rw [hz] at HHZ
    rw [hok] at HOK
    have HAL : Hid ((found (openP L) ((x.1.val : Int), (x.2.val : Int)) 100).filter (fun p => grassP L p.1) = aroundL L x.1.val x.2.val) := Lib.hid rfl
    rw [HAL.out] at HAx
    obtain ⟨al, hal⟩ : ∃ al, aroundL L x.1.val x.2.val = al := ⟨_, rfl⟩
    rw [hal] at HAx HWx HZx HHZ
    obtain ⟨wh, hwh⟩ : ∃ wh, wholeB L Wn Hn x.1.val x.2.val = wh := ⟨_, rfl⟩
    rw [hwh] at HWx HOK
    dsimp only at hlb i4
    have i3 : Holds W (u + 1) #[.int .i8 bx, .int .i8 by'] := i3
    obtain ⟨⟨xj, hxj⟩, ⟨xk, hxk⟩⟩ := x
    dsimp only at *
    simp only [cellV, List.setIfInBounds_toArray, List.set_cons_succ, List.set_cons_zero]
    have i0 := hO.holds g0 (by simp; omega)
    have i2 := hO.holds g2 (by simp; omega)
    have hO2 := Lib.hid hO
    have hsz := hO.size
    clear hr hlt hl hO ho hst hz hok hal hwh HAL g0 g1 g2 g3 g4 g5
    have rr := i0.row
    obtain ⟨-, -, cx, -, -⟩ := bX.facts
    gi_wp2_with fail
    refine ⟨trivial, (CallsIn.inRound l (callsIn_wide.2 (HOx.out _))).mono ?_⟩
    rintro e w2 ⟨rfl, hb1⟩
    have j0 := i0.below hb1 i0.lt
    have j2 := i2.below hb1 i2.lt
    have j3 := i3.below hb1 i3.lt
    have j4 := i4.below hb1 i4.lt
    have jX := bX.below hb1 bX.lt
    have jO : Only [u + 1, u + 1 + 1] W0 w2 := hO2.out.onto hb1
    have jK : KeepsOthers W w2 := keeps_below hb1
    clear i0 i2 i3 i4 bX hb1 rr cx
    cases o
    · have HEQ := Lib.hid (show homeStep L (bx, by', m) (⟨xj, hxj⟩, ⟨xk, hxk⟩) = (bx, by', m) by rw [HSE.out, HOK.out]; rfl)
      gi_wp2_with fail
      exact eachDone (b := u + 1 + 1 + 1) (by omega) (by simp <;> omega) hO2.out jK jO ⟨by rw [HST.out, HEQ.out]; exact j3, by rw [HST.out, HEQ.out]; exact j4⟩
    · have rr := j0.row
      obtain ⟨-, -, cx, -, -⟩ := jX.facts
      gi_wp2_with fail
      refine ⟨trivial, (CallsIn.inRound l (callsIn_wide.2 (HAx.out trivial _))).mono ?_⟩
      rintro e w3 ⟨⟨b, al', rfl, hbb, hM, hP⟩, hb1⟩
      have q0 := j0.below hb1 j0.lt
      have q2 := j2.below hb1 j2.lt
      have q3 := j3.below hb1 j3.lt
      have q4 := j4.below hb1 j4.lt
      have qX := jX.below hb1 jX.lt
      have qO : Only [u + 1, u + 1 + 1] W0 w3 := jO.onto hb1
      have qK : KeepsOthers W w3 := jK.trans (keeps_below hb1)
      clear j0 j2 j3 j4 jX jO jK hb1 rr cx
      have HCH := Lib.hid (charge_any al' (fun p hm => HZx.out trivial p (hP.mem_iff.1 hm)) _ ((mostZ_is al).perm hP) b w3 hM)
      rw [← HHZ.out] at HCH
      gi_wp2_with fail
      refine ⟨trivial, (CallsIn.inRound l (callsIn_wide.2 HCH.out)).mono ?_⟩
      rintro e w4 ⟨rfl, hb1⟩
      have j0 := q0.below hb1 q0.lt
      have j2 := q2.below hb1 q2.lt
      have j3 := q3.below hb1 q3.lt
      have j4 := q4.below hb1 q4.lt
      have jX := qX.below hb1 qX.lt
      have jM := hM.below hb1 hM.lt
      have jO : Only [u + 1, u + 1 + 1] W0 w4 := qO.onto hb1
      have jK : KeepsOthers W w4 := qK.trans (keeps_below hb1)
      clear q0 q2 q3 q4 qX qO qK hb1 HCH
      have hln := jM.len_run2 (P := Try.prog) 94 3 Try.underlying94
      have HLE := Lib.hid (show ((al'.length : Int) == n) = wh by
        rw [← HWx.out (by trivial), HNN.out, hP.length_eq]
        by_cases e : al.length = (ofKind L Wn Hn 0).length
        · simp [e]
        · have : ¬ (al.length : Int) = ((ofKind L Wn Hn 0).length : Int) := by omega
          simp [e, this])
      have hle := HLE.out
      obtain ⟨-, -, cx, -, -⟩ := jX.facts
      obtain ⟨-, -, c2, -, -⟩ := j2.facts
      obtain ⟨-, -, c3, f3, l3⟩ := j3.facts
      obtain ⟨-, -, c4, f4, l4⟩ := j4.facts
      cases wh
      · have HEQ := Lib.hid (show homeStep L (bx, by', m) (⟨xj, hxj⟩, ⟨xk, hxk⟩) = (bx, by', m) by rw [HSE.out, HOK.out]; rfl)
        gi_wp2_with fail
        exact eachDone (b := u + 1 + 1 + 1) (by omega) (by simp <;> omega) hO2.out jK jO ⟨by rw [HST.out, HEQ.out]; exact j3, by rw [HST.out, HEQ.out]; exact j4⟩
      · by_cases hm0 : m < 0
        · have hd0 : decide (m < 0) = true := by simpa using hm0
          have HEQ := Lib.hid (show homeStep L (bx, by', m) (⟨xj, hxj⟩, ⟨xk, hxk⟩) = ((xj : Int), (xk : Int), z) by rw [HSE.out, HOK.out, hd0]; rfl)
          have v3 := ((j3.setCell 0 (.int .i8 xj)).setCell 1 (.int .i8 xk)).setCell_other ⟨u + 1 + 1, 0, none⟩ (.int .i64 z) (by dsimp only; omega)
          have v4 := ((j4.setCell_other ⟨u + 1, 0, none⟩ (.int .i8 xj) (by dsimp only; omega)).setCell_other ⟨u + 1, 1, none⟩ (.int .i8 xk) (by dsimp only; omega)).setCell 0 (.int .i64 z)
          gi_wp2_with fail
          exact eachDone (b := u + 1 + 1 + 1) (by omega) (by simp <;> omega) hO2.out (((jK.trans (KeepsOthers.setCell _ _ _)).trans (KeepsOthers.setCell _ _ _)).trans (KeepsOthers.setCell _ _ _)) (((jO.setCell (.inl (by simp)) _).setCell (.inl (by simp)) _).setCell (.inl (by simp)) _) ⟨by rw [HST.out, HEQ.out]; exact v3, by rw [HST.out, HEQ.out]; exact v4⟩
        · have hd0 : decide (m < 0) = false := by simpa using hm0
          by_cases hzm : z < m
          · have hd1 : decide (z < m) = true := by simpa using hzm
            have HEQ := Lib.hid (show homeStep L (bx, by', m) (⟨xj, hxj⟩, ⟨xk, hxk⟩) = ((xj : Int), (xk : Int), z) by rw [HSE.out, HOK.out, hd0, hd1]; rfl)
            have v3 := ((j3.setCell 0 (.int .i8 xj)).setCell 1 (.int .i8 xk)).setCell_other ⟨u + 1 + 1, 0, none⟩ (.int .i64 z) (by dsimp only; omega)
            have v4 := ((j4.setCell_other ⟨u + 1, 0, none⟩ (.int .i8 xj) (by dsimp only; omega)).setCell_other ⟨u + 1, 1, none⟩ (.int .i8 xk) (by dsimp only; omega)).setCell 0 (.int .i64 z)
            gi_wp2_with fail
            exact eachDone (b := u + 1 + 1 + 1) (by omega) (by simp <;> omega) hO2.out (((jK.trans (KeepsOthers.setCell _ _ _)).trans (KeepsOthers.setCell _ _ _)).trans (KeepsOthers.setCell _ _ _)) (((jO.setCell (.inl (by simp)) _).setCell (.inl (by simp)) _).setCell (.inl (by simp)) _) ⟨by rw [HST.out, HEQ.out]; exact v3, by rw [HST.out, HEQ.out]; exact v4⟩
          · have hd1 : decide (z < m) = false := by simpa using hzm
            have HEQ := Lib.hid (show homeStep L (bx, by', m) (⟨xj, hxj⟩, ⟨xk, hxk⟩) = (bx, by', m) by rw [HSE.out, HOK.out, hd0, hd1]; rfl)
            gi_wp2_with fail
            exact eachDone (b := u + 1 + 1 + 1) (by omega) (by simp <;> omega) hO2.out jK jO ⟨by rw [HST.out, HEQ.out]; exact j3, by rw [HST.out, HEQ.out]; exact j4⟩
  case done =>
    rintro D W hD hO ⟨i3, i4⟩ hK
    have hB2 : Below s w W := hB0.trans (hO.toBelow (by intro k hk; simp at hk; omega) (by omega))
    have hlb := HLB.out (allC Wn Hn)
    obtain ⟨⟨bx, by', m⟩, hst⟩ : ∃ st, homeL L (allC Wn Hn) = st := ⟨_, rfl⟩
    have HHM := Lib.hid hst
    rw [hst] at i3 i4 hlb
    dsimp only at i4 hlb
    have i3 : Holds W (u + 1) #[.int .i8 bx, .int .i8 by'] := i3
    have i1 := hO.holds g1 (by simp; omega)
    clear hst g0 g1 g2 g3 g4 g5 hO
    obtain ⟨-, -, c3, f3, l3⟩ := i3.facts
    obtain ⟨-, -, c4, f4, l4⟩ := i4.facts
    obtain ⟨-, -, c1, f1, l1⟩ := i1.facts
    by_cases hm0 : m < 0
    · have hd0 : decide (m < 0) = true := by simpa using hm0
      have v1 := (i1.setCell 0 (.int .i8 0)).setCell 1 (.int .i8 0)
      have hB3 := (hB2.setCell (p := ⟨s + 1, 0, none⟩) (by dsimp only; omega) (.int .i8 0)).setCell (p := ⟨s + 1, 1, none⟩) (by dsimp only; omega) (.int .i8 0)
      have hK' := ((KeepsOthers.setCell W ⟨s + 1, 0, none⟩ (.int .i8 0)).trans (KeepsOthers.setCell _ ⟨s + 1, 1, none⟩ (.int .i8 0))).same D _ hK rfl
      gi_wp2_with fail
      refine ⟨by simp, .inl ⟨_, _, rfl, run_takeDeferred hK', ?_⟩⟩
      refine ⟨.tuple #[.agg #[.int .i8 0, .int .i8 0], .int .i64 0, .int .i64 6], ?_, ?_, hs ▸ hB3.trans (belowK_b (w := w) (by omega) _ D _ _ (by omega) hK' rfl rfl)⟩
      · exact results_cell_tmp2 (n := 2) (p := 2) (u := 3) (v := 4) rfl (by kernel_rfl) _ rfl rfl rfl (v1.grown (grownBy_putObj' _ D _) (fun r e => by cases e; exact ⟨_, hK', rfl⟩)) rfl
      · rw [HHM.out]; unfold homeR; rw [if_pos hm0]
    · have hd0 : decide (m < 0) = false := by simpa using hm0
      gi_wp2_with fail
      gi_region
      have v1 : Holds ((W.setCell ⟨s + 1, 0, none⟩ (.int .i8 bx)).setCell ⟨s + 1, 1, none⟩ (.int .i8 by')).drew (s + 1) #[.int .i8 bx, .int .i8 by'] := (i1.setCell 0 (.int .i8 bx)).setCell 1 (.int .i8 by')
      have hB3 := ((hB2.setCell (p := ⟨s + 1, 0, none⟩) (by dsimp only; omega) (.int .i8 bx)).setCell (p := ⟨s + 1, 1, none⟩) (by dsimp only; omega) (.int .i8 by')).drew
      have hK' : ((W.setCell ⟨s + 1, 0, none⟩ (.int .i8 bx)).setCell ⟨s + 1, 1, none⟩ (.int .i8 by')).drew.heap[D]? = _ := ((KeepsOthers.setCell W ⟨s + 1, 0, none⟩ (.int .i8 bx)).trans (KeepsOthers.setCell _ ⟨s + 1, 1, none⟩ (.int .i8 by'))).same D _ hK rfl
      gi_wp2_with fail
      refine ⟨by simp, .inl ⟨_, _, rfl, run_takeDeferred hK', ?_⟩⟩
      refine ⟨.tuple #[.agg #[.int .i8 bx, .int .i8 by'], .int .i64 m, .int .i64 0], ?_, ?_, hs ▸ hB3.trans (belowK_b (w := w) (by omega) _ D _ _ (by omega) hK' rfl rfl)⟩
      · exact results_cell_tmp2 (n := 2) (p := 2) (u := 3) (v := 4) rfl (by kernel_rfl) _ rfl rfl rfl (v1.grown (grownBy_putObj' _ D _) (fun r e => by cases e; exact ⟨_, hK', rfl⟩)) rfl
      · rw [HHM.out]; unfold homeR; rw [if_neg (show ¬ m < 0 by omega)]; rfl
  case stop =>
    rintro D c pre W hD _ h hK
    exact h.elim

/-- What BestHome answers. -/
def bestHomeV (L : Lawn) : Value := if validB L then homeR (homeL L (allC L.wide.toNat L.high.toNat)) else .tuple #[.agg #[.int .i8 0, .int .i8 0], .int .i64 0, .int .i64 1]

set_option maxRecDepth 100000 in
set_option maxHeartbeats 1000000 in
theorem implHome_any (L : Lawn) (hL : L.Fits) (w : World) :
    Calls Try.prog 22 #[.agg L.cells] w fun e w' => e = .returned (bestHomeV L) ∧ Below w.heap.size w w' := by
  have HC := implCount_any L hL 0
  cases hv : validB L
  case true =>
    obtain ⟨h1, h2, -⟩ := validB_true hv
    unfold bestHomeV
    rw [if_pos hv]
    have e : cellsL L 0 = ofKind L L.wide.toNat L.high.toNat 0 := by simp [cellsL, told, hv, inB]
    have e2 : countV L 0 = .tuple #[.int .i64 ((ofKind L L.wide.toNat L.high.toNat 0).length : Int), .int .i64 0] := by
      unfold countV
      simp [told, hv, inB]
    exact home_loop L.wide.toNat L.high.toNat (by omega) (by omega) L hL (by omega) (by omega) hv _ rfl (fun w => e2 ▸ HC w) w
  case false =>
    unfold bestHomeV
    rw [hv]
    have e2 : countV L 0 = .tuple #[.int .i64 0, .int .i64 1] := by
      unfold countV
      simp [told, hv, inB]
    rw [e2] at HC
    have HC' := Lib.hid HC
    simp only [Bool.false_eq_true, if_false]
    clear HC hv hL e2
    obtain ⟨W0, hW0⟩ : ∃ W0, (w.alloc (.cells L.cells 30)).alloc (.cells #[.int .i8 0, .int .i8 0] 43) = W0 := ⟨_, rfl⟩
    have g0 : Holds W0 w.heap.size L.cells := by rw [← hW0]; exact (Holds.new _ _ _).alloc _
    have g1 : Holds W0 (w.heap.size + 1) #[.int .i8 0, .int .i8 0] := by rw [← hW0]; exact Holds.new' _ _ _ _ (by simp)
    have hb0 : Below w.heap.size w W0 := by rw [← hW0]; exact ((Below.refl w.heap.size w).alloc (Nat.le_refl _) _).alloc (by simp) _
    have rr := g0.row
    go_enter Try.func22, Try.ntmps22
    go_wp2_with fail
    try rw [hW0]
    clear hW0 rr
    refine (HC'.out _).mono ?_
    rintro e w1 ⟨rfl, hb1⟩
    have k1 := (g1.below hb1 g1.lt).alloc (.cells #[.int .i64 0] 2)
    have hb2 := (below_onto hb0 hb1).alloc (below_onto hb0 hb1).size (.cells #[.int .i64 0] 2)
    clear g0 g1 hb0 hb1
    obtain ⟨-, -, c1, f1, l1⟩ := k1.facts
    have v1 := (k1.setCell 0 (.int .i8 0)).setCell 1 (.int .i8 0)
    have hb3 := (hb2.setCell (p := ⟨w.heap.size + 1, 0, none⟩) (by dsimp only; omega) (.int .i8 0)).setCell (p := ⟨w.heap.size + 1, 1, none⟩) (by dsimp only; omega) (.int .i8 0)
    go_wp2_with fail
    exact bodyPost_ret (results_cell_tmp2 (n := 2) (p := 2) (u := 3) (v := 4) rfl (by kernel_rfl) _ rfl rfl rfl v1 rfl) rfl ⟨rfl, hb3⟩
end Go.Proofs.Ytojccgaldadcnaa
