/- PiecesOf, of the program. -/
import Derived.Test.YtaeenkjbmlgcmaaIPiece
import Derived.Test.YtaeenkjbmlgcmaaZQ
import Derived.Test.YtaeenkjbmlgcmaaRowsC
import Derived.WalkMore
import Derived.Test.YtaeenkjbmlgcmaaGrowC
namespace Go.Proofs.Ytaeenkjbmlgcmaa
open Go.RowKit Go.Shelf
set_option linter.unusedVariables false
set_option linter.unusedSimpArgs false
attribute [local go_sem] Oper.semAt_some
attribute [local go_sem ↓] loadRow loadGrid loadLawn loadMirror storeRow storeGrid storeLawn allocRow allocGrid allocLawn buildZero buildSides loadRow' loadGrid' loadLawn' loadMirror' storeRow' storeGrid' storeLawn' allocRow' allocGrid' allocLawn' buildZero' buildSides'

/-- The rows of cells that a loop has gathered, in its variable at block s. -/
def GathersPR (s B : Nat) (rows : List (List Value)) (W : World) : Prop := ∃ v hs, Holds W s #[v] ∧ RowsAt W B v hs rows
theorem gathersPR_own {β : Type} (s B : Nat) (rows : β → List (List Value)) : Own (fun (b : β) w => GathersPR s B (rows b) w) := by
  rintro b W W' row ⟨v, hs, h1, h2⟩ hg hr
  have key : ∀ {e : TypeId} {size n : Nat} {u : Value} {xs : List Value}, W.ownsRow B e size u n xs → W'.ownsRow B e size u n xs := fun {e size n u xs} h =>
    own_of_own (B := B) (e := e) (size := size) (v := fun _ : Unit => u) (n := fun _ => n) (xs := fun _ => xs) () W W' row h hg hr
  exact ⟨v, hs, h1.grown hg hr, key h2.1, fun i r xs h3 h4 => key (h2.2.1 i r xs h3 h4), h2.2.2⟩
theorem rowsInfo : (Try.prog.info? 45).map (fun i => (i.zero, i.size, i.bytes)) = some (some (.slice none 0 0), 1, 24) := by kernel_rfl
def ptsOf {W H : Nat} (l : List (Fin W × Fin H)) : List Pt := l.map fun c => ((c.1.val : Int), (c.2.val : Int))
theorem flatP_pts {W H : Nat} (l : List (Fin W × Fin H)) : flatP (ptsOf l) = flatV l := by simp [flatP, ptsOf, flatV, List.flatMap_map]
theorem pts_has {W H : Nat} (l : List (Fin W × Fin H)) (c : Fin W × Fin H) : (ptsOf l).contains ((c.1.val : Int), (c.2.val : Int)) = l.contains c := by
  rw [Bool.eq_iff_iff, List.contains_iff_mem, List.contains_iff_mem]
  unfold ptsOf
  rw [List.mem_map]
  constructor
  · rintro ⟨a, ha, he⟩
    simp only [Prod.mk.injEq] at he
    have : a = c := Prod.ext (Fin.ext (by omega)) (Fin.ext (by omega))
    exact this ▸ ha
  · intro h
    exact ⟨c, h, rfl⟩
def rowsOf {W H : Nat} (P : List (List (Fin W × Fin H))) : List (List Value) := P.map flatV
theorem inP_no {W H : Nat} {P : List (List (Fin W × Fin H))} {c : Fin W × Fin H} (h : ∀ j p, j < P.length → P[j]? = some p → p.contains c = false) : inP P c = false := by
  unfold inP
  rw [List.any_eq_false]
  intro p hp
  obtain ⟨j, hj⟩ := List.mem_iff_getElem?.1 hp
  rw [h j p (List.getElem?_eq_some_iff.1 hj).1 hj]
  simp
theorem inP_yes {W H : Nat} {P : List (List (Fin W × Fin H))} {c : Fin W × Fin H} {j : Nat} {p : List (Fin W × Fin H)} (hj : P[j]? = some p) (h : p.contains c = true) : inP P c = true := by
  unfold inP
  rw [List.any_eq_true]
  exact ⟨p, List.mem_of_getElem? hj, h⟩

set_option maxRecDepth 100000 in
set_option maxHeartbeats 4000000 in
theorem piecesOf_loop (Wn Hn : Nat) (hW : Wn ≤ 10) (hH : Hn ≤ 10) (L : Lawn) (hLw : L.wide = Wn) (hLh : L.high = Hn) (hL : L.Fits) (hV : validB L = true) (w : World) :
    Calls Try.prog 49 #[.agg L.cells] w fun e w' => (∃ v, e = .returned (.tuple #[v, .int .i64 0]) ∧ RowsC w' w.heap.size v (rowsOf (piecesF L (allC Wn Hn)))) ∧ Below w.heap.size w w' := by
  have HI' := Lib.hid (show ∀ w : World, Calls Try.prog 98 #[.agg L.cells] w fun e w' => e = .returned (.bool true) ∧ Below w.heap.size w w' from fun w => hV ▸ implValid_any L hL w)
  have HGr := Lib.hid (show ∀ (c : Fin Wn × Fin Hn) (w : World), Calls Try.prog 55 #[.agg L.cells, .agg #[.int .i8 c.1.val, .int .i8 c.2.val]] w fun e w' => e = .returned (.bool (L.kind c.2 c.1 == 0)) ∧ Below w.heap.size w w' from fun c w => by
    have h := isGrass_any L hV hL c.1.val c.2.val w
    have e : grassB L c.1.val c.2.val = (L.kind c.2 c.1 == 0) := by
      unfold grassB isB inB
      have := c.1.isLt; have := c.2.isLt
      rw [Bool.eq_iff_iff]
      simp only [Bool.and_eq_true, decide_eq_true_eq, Int.toNat_natCast]
      exact ⟨fun h => h.2, fun h => ⟨by omega, h⟩⟩
    rwa [e] at h)
  have HPc := Lib.hid (fun (c : Fin Wn × Fin Hn) (h : (L.kind c.2 c.1 == 0) = true) (w : World) => piece_loop Wn Hn hW hH L hLw hLh hL hV c (by
    unfold passG grassP grassB isB inB
    have := c.1.isLt; have := c.2.isLt
    simp only [if_true, Bool.and_eq_true, decide_eq_true_eq, Int.toNat_natCast]
    exact ⟨by omega, h⟩) w)
  have HLe := Lib.hid (fun (pre : List (Fin Wn × Fin Hn)) => And.intro (piecesF_le L pre) (piecesF_mem L pre))
  have HBare := Lib.hid (fun (pre : List (Fin Wn × Fin Hn)) (c : Fin Wn × Fin Hn) => piecesF_bare (L := L) (pre := pre) (c := c))
  have HOld := Lib.hid (fun (pre : List (Fin Wn × Fin Hn)) (c : Fin Wn × Fin Hn) => piecesF_old (L := L) (pre := pre) (c := c))
  have HNew := Lib.hid (fun (pre : List (Fin Wn × Fin Hn)) (c : Fin Wn × Fin Hn) => piecesF_new (L := L) (pre := pre) (c := c))
  have hP0 : piecesF L ([] : List (Fin Wn × Fin Hn)) = [] := rfl
  obtain ⟨P, hP⟩ : ∃ P : List (Fin Wn × Fin Hn) → List (List (Fin Wn × Fin Hn)), piecesF L = P := ⟨_, rfl⟩
  obtain ⟨Q, hQ⟩ : ∃ Q : Fin Wn × Fin Hn → List (Fin Wn × Fin Hn), pieceL L = Q := ⟨_, rfl⟩
  rw [hP] at HLe HBare HOld HNew hP0 ⊢
  rw [hQ] at HPc HNew
  obtain ⟨ci, hi, hz0, hz1, hz2⟩ := info_parts rowsInfo
  have HCI := Lib.hid (show Try.prog.info? 45 = some ci ∧ ci.zero = some (.slice none 0 0) ∧ ci.size = 1 ∧ ci.bytes = 24 from ⟨hi, hz0, hz1, hz2⟩)
  have HL : Hid (L = ⟨(Wn : Int), (Hn : Int), L.kind⟩) := Lib.hid (by cases L; simp_all)
  clear hi hz0 hz1 hz2 hLw hLh hV hL hP hQ
  refine (callsIn_wide (n := 9)).1 ?_
  refine callsIn_of_wp_marks Try.func49 rfl trivial ?_ rfl
  simp only [Try.ntmps49, List.size_toArray, List.length_cons, List.length_nil, Nat.reduceAdd, Nat.reduceSub, Array.replicate_succ, Array.replicate_zero, List.push_toArray, List.append_toArray, List.nil_append, List.cons_append]
  have g0 := Holds.new w L.cells 29
  obtain ⟨r00, -, -, -, l00⟩ := g0.facts
  gi_wp2_with fail
  refine wpIn_wide.2 ?_
  apply wp_scope_straight
  refine (wpIn_wide (n := 9)).1 ?_
  gi_wp2_with fail
  clear r00 l00
  have hb0 := (Below.refl w.heap.size w).alloc (Nat.le_refl _) (.cells L.cells 29)
  refine ⟨trivial, (callsIn_wide.2 (HI'.out _)).mono ?_⟩
  rintro e w1 ⟨rfl, hb1⟩
  have j0 := g0.below hb1 g0.lt
  have jB := below_onto hb0 hb1
  clear g0 hb0 hb1
  have r0 := (j0.alloc (.cells #[.slice none 0 0] 72)).row
  have l0 := j0.lt
  gi_wp2_with fail
  apply wpIn_label
  gi_wp2_with (refine ⟨trivial, ?_⟩; gi_at_call 99; refine (each_in Fence.wide _ trivial rfl _ _).mono ?_; rintro e w2 ⟨rfl, rfl⟩)
  obtain ⟨u, hu⟩ : ∃ u, w1.heap.size = u := ⟨_, rfl⟩
  obtain ⟨W0, hW0⟩ : ∃ W0, (w1.alloc (.cells #[.slice none 0 0] 72)).alloc (.cells L.cells 29) = W0 := ⟨_, rfl⟩
  have g0 : Holds W0 w.heap.size L.cells := by rw [← hW0]; exact (j0.alloc _).alloc _
  have g1 : Holds W0 u #[.slice none 0 0] := by rw [← hW0]; exact (Holds.new' _ _ _ _ hu.symm).alloc _
  have g2 : Holds W0 (u + 1) L.cells := by rw [← hW0]; exact Holds.new' _ _ _ _ (by simp; omega)
  have hB0 : Below w.heap.size w W0 := by rw [← hW0]; exact (jB.alloc jB.size _).alloc (by have := jB.size; simp; omega) _
  have hz1 : u + 2 ≤ W0.heap.size := by rw [← hW0]; simp; omega
  have hz2 : W0.heap.size ≤ u + 2 := by rw [← hW0]; simp; omega
  have hwu : w.heap.size < u := by omega
  rw [hu] at l0 ⊢
  rw [hW0]
  clear hW0 hu j0 jB r0
  refine each_range (by omega) (p := 13) (q := 5) [u] Wn Hn hW hH L.kind rfl (by rw [← HL.out]; exact g2)
    (fun pre W => GathersPR u (u + 2) (rowsOf (P pre)) W) (fun c pre W => False)
    (Own.from (gathersPR_own _ _ _) _) (fun c => fun _ _ _ _ h _ _ => h.elim) ⟨_, [], g1, by rw [hP0]; exact RowsAt.empty _ _⟩ ?assign ?body ?done ?stop
  case assign =>
    intro l x y W K hK
    simp only [cellV]
    gi_wp2
    exact hK
  case body =>
    rintro l pre a Bx W hl hr hO ⟨v, hs, i1, ir⟩ hBx bX hlt
    have hpl : (P pre).length ≤ 100 := by
      have h2 : (allC Wn Hn).length ≤ 100 := by rw [allC_length]; exact Nat.le_trans (Nat.mul_le_mul hH hW) (by omega)
      have := (HLe.out pre).1
      omega
    have HGA := Lib.hid (HGr.out a)
    have HPA := Lib.hid (HPc.out a)
    have HB1 := Lib.hid (HBare.out pre a)
    have HO1 := Lib.hid (HOld.out pre a)
    have HN1 := Lib.hid (HNew.out pre a)
    have HM1 := Lib.hid (HLe.out pre).2
    obtain ⟨kg, hkg⟩ : ∃ b, (L.kind a.2 a.1 == 0) = b := ⟨_, rfl⟩
    rw [hkg] at HGA HPA HB1 HO1 HN1
    have i0 := hO.holds g0 (by simp <;> omega)
    have hO2 := Lib.hid hO
    have IR := Lib.hid ir
    have hsz := hO.size
    obtain ⟨n, hn⟩ : ∃ n, (P pre).length = n := ⟨_, rfl⟩
    have HN := Lib.hid hn
    have hrl : (rowsOf (P pre)).length = n := by simp [rowsOf, hn]
    have HRL := Lib.hid hrl
    obtain ⟨av, cv, rfl⟩ := own_slice ir.1
    rw [hrl] at IR i1
    rw [hn] at hpl
    clear hr hO ir hlt hl hkg hn hrl
    obtain ⟨r0, -, -, -, -⟩ := i0.facts
    obtain ⟨rX, -, dX, -, -⟩ := bX.facts
    obtain ⟨-, -, d1, z1, l1⟩ := i1.facts
    simp only [cellV, List.setIfInBounds_toArray, List.set_cons_succ, List.set_cons_zero]
    gi_wp2_with fail
    refine ⟨trivial, (CallsIn.inRound l (callsIn_wide.2 (HGA.out _))).mono ?_⟩
    rintro e w2 ⟨rfl, hb2⟩
    have qK : KeepsOthers W w2 := keeps_below hb2
    have qO : Only [u] W0 w2 := hO2.out.onto hb2
    have i02 := i0.below hb2 i0.lt
    have i12 := i1.below hb2 i1.lt
    have bX2 := bX.below hb2 bX.lt
    have IR2 := Lib.hid (IR.out.below hb2)
    clear hb2 i0 i1 bX r0 rX dX d1 z1 l1 IR
    cases kg
    · have HBr := Lib.hid (HB1.out rfl)
      clear HB1 HO1 HN1
      gi_wp2_with fail
      refine eachDone (b := u + 1) (by omega) (by simp) hO2.out qK qO ?_
      rw [HBr.out]
      exact ⟨_, _, i12, IR2.out⟩
    · have HOl := Lib.hid (HO1.out rfl)
      have HNw := Lib.hid (HN1.out rfl)
      have HPA' := Lib.hid (HPA.out rfl)
      clear HB1 HO1 HN1 HPA
      obtain ⟨r0, -, -, -, -⟩ := i02.facts
      obtain ⟨rX, -, dX, -, -⟩ := bX2.facts
      obtain ⟨-, -, d1, z1, l1⟩ := i12.facts
      gi_wp2_with fail
      gi_loopw [20] (fun i wr => ∃ j : Nat, j ≤ n ∧ i = .int .i64 j ∧ (∀ m p, m < j → (P pre)[m]? = some p → p.contains a = false) ∧ Below w2.heap.size w2 wr) (fun i _ => n - (intOf i).toNat)
      case atStart => exact ⟨0, by omega, rfl, fun m p hm _ => by omega, Below.refl _ _⟩
      case round =>
        obtain ⟨j, hj, rfl, hall, hb⟩ := hrel
        have HA := Lib.hid hall
        have sK := qK.trans (keeps_below hb)
        have sO := qO.onto hb
        have i03 := i02.below hb i02.lt
        have i13 := i12.below hb i12.lt
        have bX3 := bX2.below hb bX2.lt
        have IR3 := Lib.hid (IR2.out.below hb)
        have HBB := Lib.hid hb
        clear hall hb i02 i12 bX2 r0 rX dX d1 z1 l1 qK qO
        obtain ⟨r0, -, -, -, -⟩ := i03.facts
        obtain ⟨rX, -, dX, -, -⟩ := bX3.facts
        obtain ⟨-, -, d1, z1, l1⟩ := i13.facts
        by_cases hjn : j < n
        · have hd : decide ((j : Int) < (n : Int)) = true := by simp; omega
          obtain ⟨p, hp⟩ : ∃ p, (P pre)[j]? = some p := ⟨_, List.getElem?_eq_getElem (by rw [HN.out]; exact hjn)⟩
          have hlp := HM1.out p (List.mem_of_getElem? hp)
          obtain ⟨r, xs, hr, hxs, ho⟩ := IR3.out.get (show j < (rowsOf (P pre)).length by rw [HRL.out]; exact hjn)
          have hxp : xs = flatV p := by
            rw [rowsOf, List.getElem?_map, hp] at hxs
            exact (Option.some.inj hxs).symm
          subst hxp
          rw [flatV_half, ← flatP_pts] at ho
          have ho1 := IR3.out.1
          rw [HRL.out] at ho1
          obtain ⟨g, cap, he, -, -⟩ := own_form ho1 (by omega)
          simp only [Value.slice.injEq, true_and] at he
          obtain ⟨rfl, rfl⟩ := he
          have c0 := own_cell ho1 _ _ hr
          obtain ⟨q, hq⟩ : ∃ q, p.contains a = q := ⟨_, rfl⟩
          have hl100 : p.length ≤ 100 := Nat.le_trans hlp (Nat.le_trans (Nat.mul_le_mul hH hW) (by omega))
          have HCN := Lib.hid (containsC_any _ p.length _ (by omega) (ptsOf p) (by simp [ptsOf]) (a.1.val : Int) (a.2.val : Int) q (by rw [pts_has]; exact hq) _ ho)
          have HPJ := Lib.hid hp
          have HQ := Lib.hid hq
          clear ho ho1 hr hxs hp hlp hl100 hq
          gi_wp2_with fail
          refine ⟨trivial, (CallsIn.inRound l (callsIn_wide.2 HCN.out)).mono ?_⟩
          rintro e w4 ⟨rfl, hb4⟩
          have tK := sK.trans (keeps_below hb4)
          have tO := sO.onto hb4
          have i14 := i13.below hb4 i13.lt
          have IR4 := Lib.hid (IR3.out.below hb4)
          cases q
          · have HA2 := Lib.hid (show ∀ m p, m < j + 1 → (P pre)[m]? = some p → p.contains a = false from fun m p hm hp => by
              by_cases e : m = j
              · subst e; rw [HPJ.out] at hp; cases hp; exact HQ.out
              · exact HA.out m p (by omega) hp)
            have hb5 := below_onto HBB.out hb4
            clear c0 r0 rX dX d1 z1 l1
            gi_wp2_with fail
            go_roundw
            case rel => exact ⟨j + 1, by omega, by go_num, HA2.out, hb5⟩
            case measure => simp [intOf]; omega
          · have HY := Lib.hid (HOl.out (inP_yes HPJ.out HQ.out))
            clear c0 r0 rX dX d1 z1 l1
            gi_wp2_with fail
            refine eachDone (b := u + 1) (by omega) (by simp) hO2.out tK tO ?_
            rw [HY.out]
            exact ⟨_, _, i14, IR4.out⟩
        · have hd : decide ((j : Int) < (n : Int)) = false := by simp; omega
          have HX := Lib.hid (HNw.out (inP_no fun m p hm hp => HA.out m p (by have := HN.out; omega) hp))
          have hsz3 := sO.size
          have HPX := Lib.hid (fun w' (hw' : Below wr.heap.size wr w') => HPA'.out w')
          obtain ⟨-, cc0⟩ := i03.later
          obtain ⟨ll, -⟩ := i03.later
          obtain ⟨-, cc1⟩ := i13.later
          obtain ⟨rXl, cXl⟩ := bX3.later
          obtain ⟨ho1, hinn, hapt⟩ := IR3.out
          rw [HRL.out] at ho1
          have HO1 := Lib.hid ho1
          clear r0 rX dX d1 z1 l1 cc0 ho1
          gi_wp2_with fail
          refine wpIn_region_call 3 rfl rfl rfl rfl (by kernel_rfl) (by kernel_rfl) rfl (by rintro ⟨_, _, h⟩; exact h) (by kernel_rfl) (by kernel_rfl) (fun q w' => w'.ownsRow wr.heap.size 37 2 q (Q a).length (flatV (Q a))) (fun q w1 w2 h hb => own_below h hb) (fun q g => .slice (some ⟨g, 0, none⟩) 1 1) (fun q => .cells #[q] 45) ?_
          simp only [List.take_succ_cons, List.take_zero, List.drop_succ_cons, List.drop_zero]
          iterate 3
            apply wpGrowB_plain rfl
            · intro w' hw' K hK
              have e1 := cc1 _ hw'
              have e2 := ll _ hw'
              have e3 := rXl _ hw'
              have e4 := cXl _ hw'
              go_wp2_with fail
              exact hK _ _ rfl (Below.refl _ _)
            simp only [Act.put, List.setIfInBounds_toArray, List.set_cons_succ, List.set_cons_zero]
          refine wpGrowB_nil ⟨fun w1 hw1 K hK => ?_, fun q w1 hw1 hq K hK => ?_, ?_⟩
          · have HK := Lib.hid (HPX.out w1 hw1)
            have hws := hw1.size
            go_wp2_with (go_at_call 101; refine HK.out.mono ?_; rintro e w2 ⟨⟨v, rfl, hov⟩, hb2⟩)
            exact hK _ _ _ rfl hb2 (ownsRow_low hov hws)
          · obtain ⟨aq, cq, rfl⟩ := own_slice hq
            go_wp2_with fail
            exact hK _ _ rfl rfl
          intro q g W3 hg3 hW3 hq hobj
          obtain ⟨aq, cq, rfl⟩ := own_slice hq
          have p3 := i13.below hW3 i13.lt
          have pO1 : Only [u] W0 W3 := sO.onto hW3
          have pK1 : KeepsOthers W W3 := sK.trans (keeps_below hW3)
          have HO3 := Lib.hid (own_below HO1.out hW3)
          have HQ3 := Lib.hid hq
          have IR4 := Lib.hid (IR3.out.below hW3)
          have hg : Holds W3 g #[.slice aq (Q a).length cq] := ⟨_, hobj⟩
          have HGc := Lib.hid hg
          have hgl := hg.lt
          obtain ⟨-, -, c3, z3, l3⟩ := p3.facts
          clear ll cc1 rXl cXl hW3 hobj hq hg i03 i13 bX3 HPX
          simp only [List.setIfInBounds_toArray, List.set_cons_succ, List.set_cons_zero]
          go_wp2_with (at_builtin; refine wpList_append_own_at _ rfl _ _ 72 rfl (u + 2) 45 ci (.slice none 0 0) 1 24 Try.underlying72 HCI.out.1 HCI.out.2.1 HCI.out.2.2.1 HCI.out.2.2.2 rfl (by decide) _ _ _ rfl HO3.out ⟨g, 0, none⟩ 1 1 [.slice aq (Q a).length cq] rfl rfl ?c1 ?c2 ?c3 ?c4 ?c5 ?_)
          case c1 =>
            intro m z hz
            match m, hz with
            | 0, hz => simp at hz; subst hz; exact HGc.out.cell 0
          case c2 => intro z hz; simp at hz; subst hz; rfl
          case c3 => unfold maxLen; omega
          case c4 => omega
          case c5 => omega
          intro v' w9 hown' hgrow _ hat
          have p4 : Holds w9 u #[.slice av n cv] := held_grown p3 HO3.out hgrow (by omega)
          have hR9 : RowsAt w9 (u + 2) v' (hs ++ [.slice aq (Q a).length cq]) (rowsOf (P (pre ++ [a]))) := by
            rw [HX.out, show rowsOf (P pre ++ [Q a]) = rowsOf (P pre) ++ [flatV (Q a)] from List.map_append]
            refine IR4.out.more (by rw [flatV_half]; exact ownsRow_low HQ3.out (by omega)) (IR3.out.fresh (B' := wr.heap.size) (Nat.le_refl _) HQ3.out) hgrow ?_
            rw [show (rowsOf (P pre)).length = n from HRL.out]
            exact hown'
          have pO : Only [u] W0 w9 := pO1.grown hgrow (fun k hk => .inr (by have := own_far HO3.out k hk; omega))
          have pK : KeepsOthers W w9 := pK1.trans (own_others HO3.out hgrow)
          have HR9 := Lib.hid hR9
          obtain ⟨g', cap', rfl, -, -⟩ := own_form hown' (by omega)
          have hf3 := own_far hown' g' rfl
          clear hown' hgrow hR9 hat HO3 p3 pO1 pK1 c3 z3 l3 HGc
          obtain ⟨-, -, c3, z3, l3⟩ := p4.facts
          go_wp2_with fail
          exact eachDone (b := u + 1) (by omega) (by simp) hO2.out (pK.trans (KeepsOthers.setCell _ _ _)) (pO.setCell (a := ⟨u, 0, none⟩) (.inl (by simp)) _)
            ⟨_, _, p4.setCell 0 _, HR9.out.kept (grownBy_setCell' w9 u _) (by intro k hk; cases hk; omega)⟩
  case done =>
    rintro D W hD hO ⟨v, hs, i1, ir⟩ hK
    have IR := Lib.hid ir
    have hB2 : Below w.heap.size w W := hB0.trans (hO.toBelow (by simp; omega) (by omega))
    obtain ⟨a, c, rfl⟩ := own_slice ir.1
    obtain ⟨-, f1, c1, z1, l1⟩ := i1.facts
    clear ir g0 g1 g2
    gi_wp2
    rw [Exit.noGoto_ret]
    refine ⟨by simp, .inl ⟨_, _, rfl, run_takeDeferred hK, ?_⟩⟩
    refine ⟨.tuple #[.slice a (rowsOf (P (allC Wn Hn))).length c, .int .i64 0], ?_, ⟨⟨_, rfl, ?_⟩, hB2.trans (belowK_b (w := w) (Nat.le_refl _) _ D _ _ (by omega) hK rfl rfl)⟩⟩
    · simp [results, Try.f49, go_sem]
    · exact ⟨hs, ⟨own_putD IR.out.1 hK, fun i r xs h1 h2 => own_putD (IR.out.2.1 i r xs h1 h2) hK, IR.out.2.2⟩ |> fun h => RowsAt.low h (by omega)⟩
  case stop =>
    rintro D c pre W hD _ h hK
    exact h.elim

set_option maxRecDepth 100000 in
set_option maxHeartbeats 2000000 in
theorem implPieces_any (L : Lawn) (hL : L.Fits) (w : World) :
    Calls Try.prog 49 #[.agg L.cells] w fun e w' => (∃ v, e = .returned (.tuple #[v, .int .i64 (pcC L)]) ∧ RowsC w' w.heap.size v (pcR L)) ∧ Below w.heap.size w w' := by
  cases hv : validB L
  case true =>
    obtain ⟨h1, h2, -⟩ := validB_true hv
    have := piecesOf_loop L.wide.toNat L.high.toNat (by omega) (by omega) L (by omega) (by omega) hL hv w
    rw [piecesF_is] at this
    unfold pcC pcR
    rw [hv]
    exact this
  case false =>
    have HI := Lib.hid (show ∀ w : World, Calls Try.prog 98 #[.agg L.cells] w fun e w' => e = .returned (.bool false) ∧ Below w.heap.size w w' from fun w => hv ▸ implValid_any L hL w)
    have e1 : pcC L = 1 := by unfold pcC; rw [hv]; rfl
    have e2 : pcR L = [] := by unfold pcR; rw [hv]; rfl
    rw [e1, e2]
    clear hv hL e1 e2
    have g0 := Holds.new w L.cells 29
    obtain ⟨r00, -, -, -, l00⟩ := g0.facts
    have hb : Below w.heap.size w (w.alloc (.cells L.cells 29)) := (Below.refl _ _).alloc (Nat.le_refl _) _
    go_enter Try.func49, Try.ntmps49
    go_wp2_with fail
    go_step3
    go_wp2_with fail
    refine (HI.out _).mono ?_
    rintro e w1 ⟨rfl, hb1⟩
    have hb2 := below_onto hb hb1
    go_wp2_with fail
    rw [Exit.noGoto_ret]
    go_ret2
    exact ⟨⟨_, rfl, [], RowsAt.empty _ _⟩, hb2⟩
end Go.Proofs.Ytaeenkjbmlgcmaa
