/- pieceFrom, of the program. -/
import Derived.Test.YtaeenkjbmlgcmaaZG
import Derived.Test.YtaeenkjbmlgcmaaPieceP
import Derived.Test.YtaeenkjbmlgcmaaZE
namespace Go.Proofs.Ytaeenkjbmlgcmaa
open Go.RowKit Go.Shelf
set_option linter.unusedVariables false
set_option linter.unusedSimpArgs false
attribute [local go_sem] Oper.semAt_some
attribute [local go_sem ↓] loadRow loadGrid loadLawn loadMirror storeRow storeGrid storeLawn allocRow allocGrid allocLawn buildZero buildSides loadRow' loadGrid' loadLawn' loadMirror' storeRow' storeGrid' storeLawn' allocRow' allocGrid' allocLawn' buildZero' buildSides'

/-- The list of cells that a loop over the cells has gathered, in its variable at block s. -/
def GathersC (s B : Nat) (l : List Value) (n : Nat) (W : World) : Prop := ∃ v, Holds W s #[v] ∧ W.ownsRow B 37 2 v n l
theorem gathersC_own {β : Type} (s B : Nat) (l : β → List Value) (n : β → Nat) : Own (fun (b : β) w => GathersC s B (l b) (n b) w) := by
  rintro b W W' row ⟨v, h1, h2⟩ hg hr
  exact ⟨v, h1.grown hg hr, own_of_own (B := B) (e := 37) (size := 2) (v := fun _ : Unit => v) (n := fun _ => n b) (xs := fun _ => l b) () W W' row h2 hg hr⟩

set_option maxRecDepth 100000 in
set_option maxHeartbeats 2000000 in
theorem piece_loop (Wn Hn : Nat) (hW : Wn ≤ 10) (hH : Hn ≤ 10) (L : Lawn) (hLw : L.wide = Wn) (hLh : L.high = Hn) (hL : L.Fits) (hV : validB L = true) (c : Fin Wn × Fin Hn) (hO : passG L true ((c.1.val : Int), (c.2.val : Int)) = true) (w : World) :
    Calls Try.prog 101 #[.agg L.cells, .agg #[.int .i8 c.1.val, .int .i8 c.2.val]] w fun e w' => (∃ v, e = .returned v ∧ w'.ownsRow w.heap.size 37 2 v (pieceL L c).length (flatV (pieceL L c))) ∧ Below w.heap.size w w' := by
  have HST := Lib.hid (show ∀ w, Calls Try.prog 77 #[.agg #[.int .i8 c.1.val, .int .i8 c.2.val], .func (.func 55) #[.agg L.cells] #[]] w fun e w' => (∃ b, e = .returned (.map (some b)) ∧ w.heap.size ≤ b ∧ MapIs w' b cellK valI (found (passG L true) ((c.1.val : Int), (c.2.val : Int)) 100)) ∧ Below w.heap.size w w' from fun w =>
    steps_any L _ (passG L true) (pass_isGrass L) (fun x y w => isGrass_any L hV hL x y w) (passG_near hV true) ((c.1.val : Int), (c.2.val : Int)) hO w)
  obtain ⟨ci, hi, hz0, hz1, hz2⟩ := info_parts cellInfo
  have HCI := Lib.hid (show Try.prog.info? 37 = some ci ∧ ci.zero = some (.agg #[.int .i8 0, .int .i8 0]) ∧ ci.size = 2 ∧ ci.bytes = 2 from ⟨hi, hz0, hz1, hz2⟩)
  have HL : Hid (L = ⟨(Wn : Int), (Hn : Int), L.kind⟩) := Lib.hid (by cases L; simp_all)
  have HHit := Lib.hid (show ∀ a : Fin Wn × Fin Hn, hitB L c a = (alLook (found (passG L true) ((c.1.val : Int), (c.2.val : Int)) 100) ((a.1.val : Int), (a.2.val : Int))).isSome from fun a => rfl)
  have HPL := Lib.hid (show pieceL L c = pieceT L c (allC Wn Hn) from rfl)
  obtain ⟨F, hF⟩ : ∃ F, found (passG L true) ((c.1.val : Int), (c.2.val : Int)) 100 = F := ⟨_, rfl⟩
  rw [hF] at HST HHit
  have hTS := Lib.hid (fun (pre : List (Fin Wn × Fin Hn)) a => pieceT_snoc L c a pre)
  have hTL := Lib.hid (fun (pre : List (Fin Wn × Fin Hn)) => show (pieceT L c pre).length ≤ pre.length from List.length_filter_le _ _)
  have hT0 : pieceT L c ([] : List (Fin Wn × Fin Hn)) = [] := rfl
  obtain ⟨x, hx⟩ : ∃ x : Nat, c.1.val = x := ⟨_, rfl⟩
  obtain ⟨y, hy⟩ : ∃ y : Nat, c.2.val = y := ⟨_, rfl⟩
  rw [hx, hy] at HST ⊢
  obtain ⟨Q, hQ⟩ : ∃ Q, pieceL L c = Q := ⟨_, rfl⟩
  rw [hQ] at HPL ⊢
  obtain ⟨T, hT⟩ : ∃ T : List (Fin Wn × Fin Hn) → List (Fin Wn × Fin Hn), pieceT L c = T := ⟨_, rfl⟩
  obtain ⟨hit, hh⟩ : ∃ hit : Fin Wn × Fin Hn → Bool, hitB L c = hit := ⟨_, rfl⟩
  rw [hT] at HPL hTS hTL hT0
  rw [hh] at HHit hTS
  clear hi hz0 hz1 hz2 hLw hLh hV hL hO hF hx hy hQ hT hh
  refine (callsIn_wide (n := 9)).1 ?_
  refine callsIn_of_wp_marks Try.func101 rfl trivial ?_ rfl
  simp only [Try.ntmps101, List.size_toArray, List.length_cons, List.length_nil, Nat.reduceAdd, Nat.reduceSub, Array.replicate_succ, Array.replicate_zero, List.push_toArray, List.append_toArray, List.nil_append, List.cons_append]
  gi_wp2_with fail
  have g0 : Holds ((w.alloc (.cells L.cells 29)).alloc (.cells #[.int .i8 x, .int .i8 y] 37)) w.heap.size L.cells := (Holds.new _ _ _).alloc _
  have hb : Below w.heap.size w ((w.alloc (.cells L.cells 29)).alloc (.cells #[.int .i8 x, .int .i8 y] 37)) := ((Below.refl w.heap.size w).alloc (Nat.le_refl _) _).alloc (by simp) _
  refine ⟨trivial, (callsIn_wide.2 (HST.out _)).mono ?_⟩
  rintro e w3 ⟨⟨b, rfl, hbm, hM⟩, hb1⟩
  have g3 := g0.below hb1 g0.lt
  have jB3 := below_onto hb hb1
  clear g0 hb1 hb
  have l3 := g3.lt
  have r0 := ((g3.alloc (.cells #[.map (some b)] 112)).alloc (.cells #[.slice none 0 0] 45)).row
  gi_wp2_with (refine ⟨trivial, ?_⟩; gi_at_call 99; refine (each_in Fence.wide _ trivial rfl _ _).mono ?_; rintro e w2 ⟨rfl, rfl⟩)
  obtain ⟨u, hu⟩ : ∃ u, w3.heap.size = u := ⟨_, rfl⟩
  obtain ⟨W0, hW0⟩ : ∃ W0, ((w3.alloc (.cells #[.map (some b)] 112)).alloc (.cells #[.slice none 0 0] 45)).alloc (.cells L.cells 29) = W0 := ⟨_, rfl⟩
  have hml := hM.lt
  have g0 : Holds W0 u #[.map (some b)] := by rw [← hW0]; exact ((Holds.new' _ _ _ _ hu.symm).alloc _).alloc _
  have g1 : Holds W0 (u + 1) #[.slice none 0 0] := by rw [← hW0]; exact (Holds.new' _ _ _ _ (by simp; omega)).alloc _
  have g2 : Holds W0 (u + 1 + 1) L.cells := by rw [← hW0]; exact Holds.new' _ _ _ _ (by simp; omega)
  have gM : MapIs W0 b cellK valI F := by rw [← hW0]; exact ((hM.alloc _).alloc _).alloc _
  have hB0 : Below w.heap.size w W0 := by rw [← hW0]; exact ((jB3.alloc jB3.size _).alloc (by have := jB3.size; simp; omega) _).alloc (by have := jB3.size; simp; omega) _
  have hz1 : u + 3 ≤ W0.heap.size := by rw [← hW0]; simp; omega
  have hz2 : W0.heap.size ≤ u + 3 := by rw [← hW0]; simp; omega
  have hbu : b < u := by omega
  have hwu : w.heap.size ≤ u := by have := jB3.size; omega
  rw [hu] at l3 ⊢
  rw [hW0]
  clear hW0 hu g3 jB3 r0 hM hml
  refine each_range (by omega) (p := 16) (q := 7) [u + 1] Wn Hn hW hH L.kind rfl (by rw [← HL.out]; exact g2)
    (fun pre W => GathersC (u + 1) (u + 3) (flatV (T pre)) (T pre).length W) (fun c pre W => False)
    (Own.from (gathersC_own _ _ _ _) _) (fun c => fun _ _ _ _ h _ _ => h.elim) ⟨_, g1, by rw [hT0]; exact World.ownsRow_nil _ _ _ _⟩ ?assign ?body ?done ?stop
  case assign =>
    intro l x y W K hK
    simp only [cellV]
    gi_wp2
    exact hK
  case body =>
    rintro l pre a Bx W hl hr hO ⟨v, i1, io⟩ hBx bX hlt
    have HSN := Lib.hid (hTS.out pre a)
    have HHA := Lib.hid (HHit.out a)
    have hx := a.1.isLt
    have hy := a.2.isLt
    have hpl : (T pre).length ≤ 100 := by
      have h2 : (allC Wn Hn).length ≤ 100 := by rw [allC_length]; exact Nat.le_trans (Nat.mul_le_mul hH hW) (by omega)
      have := hTL.out pre
      omega
    obtain ⟨hv, hhv⟩ : ∃ b, hit a = b := ⟨_, rfl⟩
    rw [hhv] at HSN HHA
    obtain ⟨⟨xj, hxj⟩, ⟨xk, hxk⟩⟩ := a
    dsimp only at *
    simp only [cellV, List.setIfInBounds_toArray, List.set_cons_succ, List.set_cons_zero]
    have IO := Lib.hid io
    have i0 := hO.holds g0 (by simp <;> omega)
    have iM : MapIs W b cellK valI F := gM.block (hO.block b gM.lt (by simp; omega))
    have hO2 := Lib.hid hO
    clear hr io hlt hl hhv
    obtain ⟨-, -, d0, -, -⟩ := i0.facts
    obtain ⟨-, -, dX, -, -⟩ := bX.facts
    obtain ⟨-, -, d1, z1, l1⟩ := i1.facts
    have hlk := (iM.look cellKey Try.underlying112 zero64 ((xj : Int), (xk : Int))).2
    obtain ⟨r, hr⟩ : ∃ r, alLook F ((xj : Int), (xk : Int)) = r := ⟨_, rfl⟩
    rw [hr] at hlk HHA
    simp only [cellK, cellV, valI] at hlk
    have hsz := hO.size
    clear hr hO
    cases r
    · have hF := HHA.out
      simp only [Option.getD_none, Option.isSome_none, Option.getD_some, Option.isSome_some] at hlk hF
      subst hF
      have HN := Lib.hid (show T (pre ++ [((⟨xj, hxj⟩, ⟨xk, hxk⟩) : Fin Wn × Fin Hn)]) = T pre by rw [HSN.out]; simp)
      clear HSN HHA
      gi_wp2_with fail
      refine eachDone (b := u + 1 + 1) (by omega) (by simp) hO2.out (KeepsOthers.refl _) hO2.out ?_
      rw [HN.out]
      exact ⟨_, i1, IO.out⟩
    · have hF := HHA.out
      simp only [Option.getD_none, Option.isSome_none, Option.getD_some, Option.isSome_some] at hlk hF
      subst hF
      have HN := Lib.hid (show T (pre ++ [((⟨xj, hxj⟩, ⟨xk, hxk⟩) : Fin Wn × Fin Hn)]) = T pre ++ [((⟨xj, hxj⟩, ⟨xk, hxk⟩) : Fin Wn × Fin Hn)] by rw [HSN.out]; simp)
      clear HSN HHA
      gi_wp2_with (gi_at_builtin; refine wpListIn_append_own_at _ rfl _ _ 45 rfl (u + 3) 37 ci (.agg #[.int .i8 0, .int .i8 0]) 2 2 Try.underlying45 HCI.out.1 HCI.out.2.1 HCI.out.2.2.1 HCI.out.2.2.2 rfl (by decide) _ _ _ rfl (IO.out.alloc _) ⟨W.heap.size, 0, none⟩ 1 1 [.int .i8 xj, .int .i8 xk] rfl rfl ?c1 ?c2 ?c3 ?c4 ?c5 ?_)
      case c1 =>
        intro m z hz
        match m, hz with
        | 0, hz => simp at hz; subst hz; exact (Holds.new W #[.int .i8 xj, .int .i8 xk] 37).cell 0
        | 1, hz => simp at hz; subst hz; exact (Holds.new W #[.int .i8 xj, .int .i8 xk] 37).cell 1
      case c2 => intro z hz; simp at hz; rcases hz with rfl | rfl <;> rfl
      case c3 => unfold maxLen; omega
      case c4 => omega
      case c5 => simp; omega
      intro v' w4 hown' hgrow _ hat
      have ho3 : w4.ownsRow (u + 3) 37 2 v' (T (pre ++ [((⟨xj, hxj⟩, ⟨xk, hxk⟩) : Fin Wn × Fin Hn)])).length (flatV (T (pre ++ [((⟨xj, hxj⟩, ⟨xk, hxk⟩) : Fin Wn × Fin Hn)]))) := by
        rw [HN.out, flatV_append, List.length_append]
        exact hown'
      have p1 := held_grown (i1.alloc (.cells #[.int .i8 xj, .int .i8 xk] 37)) (IO.out.alloc _) hgrow (by omega)
      have pO : Only [u + 1] W0 w4 := (hO2.out.alloc _).grown hgrow (fun k hk => .inr (by have := own_far IO.out k hk; omega))
      have pK : KeepsOthers W w4 := (KeepsOthers.alloc _ _).trans (own_others (IO.out.alloc _) hgrow)
      have HO3 := Lib.hid ho3
      obtain ⟨g', cap', rfl, -, -⟩ := own_form hown' (by omega)
      clear hown' hgrow ho3 hat IO d1 z1 l1 hlk d0 dX i0 iM
      obtain ⟨-, -, d1, z1, l1⟩ := p1.facts
      have hf3 := own_far HO3.out g' rfl
      gi_wp2_with fail
      exact eachDone (b := u + 1 + 1) (by omega) (by simp) hO2.out (pK.trans (KeepsOthers.setCell _ _ _)) (pO.setCell (a := ⟨u + 1, 0, none⟩) (.inl (by simp)) _)
        ⟨_, p1.setCell 0 _, HO3.out.kept (grownBy_setCell' w4 (u + 1) _) (.inr (by simp [Value.ownBlock]; omega))⟩
  case done =>
    rintro D W hD hO ⟨v, i1, io⟩ hK
    obtain ⟨a, c, rfl⟩ := own_slice io
    rw [← HPL.out] at io
    have IO := Lib.hid io
    have hB2 : Below w.heap.size w W := hB0.trans (hO.toBelow (by simp; omega) (by omega))
    obtain ⟨-, f1, c1, z1, l1⟩ := i1.facts
    clear io g0 g1 g2 gM
    gi_wp2
    refine ⟨by simp, .inl ⟨_, _, rfl, run_takeDeferred hK, ?_⟩⟩
    refine ⟨.slice a (T (allC Wn Hn)).length c, ?_, ⟨⟨_, rfl, ?_⟩, hB2.trans (belowK_b (w := w) (Nat.le_refl _) _ D _ _ (by omega) hK rfl rfl)⟩⟩
    · simp [results, Try.f101, go_sem]
    · rw [← HPL.out]; exact ownsRow_low (own_putD IO.out hK) (by omega)
  case stop =>
    rintro D c pre W hD _ h hK
    exact h.elim
end Go.Proofs.Ytaeenkjbmlgcmaa
