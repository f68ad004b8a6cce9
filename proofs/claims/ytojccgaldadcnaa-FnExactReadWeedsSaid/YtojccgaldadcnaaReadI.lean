/- ReadWeeds, of the program. -/
import Derived.Test.YtojccgaldadcnaaReadP
namespace Go.Proofs.Ytojccgaldadcnaa
open Go.RowKit Go.Shelf
set_option linter.unusedVariables false
set_option linter.unusedSimpArgs false
attribute [local go_sem] Oper.semAt_some
attribute [local go_sem ↓] loadRow loadGrid loadLawn loadMirror storeRow storeGrid storeLawn allocRow allocGrid allocLawn buildZero buildSides loadRow' loadGrid' loadLawn' loadMirror' storeRow' storeGrid' storeLawn' allocRow' allocGrid' allocLawn' buildZero' buildSides' loadWd storeWd allocWd buildZWd eqlWd loadWd' storeWd' allocWd' buildZWd' eqlWd'

theorem letter_is (s : ByteArray) (P : Nat) (h : P < s.size) : (((s[P]'h).toNat : Int) == 119) = (s.data.toList[P]? == some 119) := by
  have e : s.data.toList[P]? = some (s[P]'h) := by
    rw [Array.getElem?_toList]
    exact Array.getElem?_eq_getElem h
  rw [e]
  generalize s[P]'h = a
  by_cases ha : a = 119
  · subst ha; rfl
  · have h1 : ((a.toNat : Int) == 119) = false := by
      simp only [beq_eq_false_iff_ne, ne_eq]
      intro hh
      exact ha (UInt8.toNat_inj.1 (by show a.toNat = 119; omega))
    rw [h1]
    symm
    simpa using ha
theorem place_is (y W x P : Nat) (h : y * (W + 1) + x = P) (hx : x ≤ 10) (hP : P ≤ 200) : ∃ M : Nat, wrap64 ((y : Int) * ((W : Int) + 1)) = (M : Int) ∧ wrap64 ((M : Int) + (x : Int)) = (P : Int) := by
  refine ⟨y * (W + 1), ?_, ?_⟩
  · rw [show (y : Int) * ((W : Int) + 1) = ((y * (W + 1) : Nat) : Int) by push_cast; rfl]
    exact IntWalk.wrap64_in _ (by omega)
  · rw [show ((y * (W + 1) : Nat) : Int) + (x : Int) = (P : Int) by rw [← h]; push_cast; rfl]
    exact IntWalk.wrap64_in _ (by omega)

set_option maxRecDepth 100000 in
set_option maxHeartbeats 4000000 in
theorem readI_loop (Wn Hn : Nat) (hW : Wn ≤ 10) (hH : Hn ≤ 10) (L : Lawn) (hLw : L.wide = Wn) (hLh : L.high = Hn) (hL : L.Fits) (hV : validB L = true) (s : ByteArray) (hs : s.size ≤ maxLen) (w : World) :
    Calls Try.prog 16 #[.agg L.cells, .string s] w fun e w' => e = .returned (.tuple #[.agg (bV 10 (readR L s)), .int .i64 (readC L s)]) ∧ Below w.heap.size w w' := by
  have HI := Lib.hid (show ∀ w : World, Calls Try.prog 48 #[.agg L.cells] w fun e w' => e = .returned (.bool true) ∧ Below w.heap.size w w' from fun w => hV ▸ implValid_any L hL w)
  have hs64 : (s.size : Int) ≤ 9223372036854775807 := by unfold maxLen at hs; omega
  have HL : Hid (L = ⟨(Wn : Int), (Hn : Int), L.kind⟩) := Lib.hid (by cases L; simp_all)
  have HLw := Lib.hid (show L.cells[0]? = some (.int .i8 (Wn : Int)) by rw [← hLw]; exact Lawn.cells_0 L)
  have HG := Lib.hid (show readG L s.data.toList = rdG Wn Hn s.data.toList by unfold readG; rw [hLw, hLh]; rfl)
  have HALL := Lib.hid (layS_all (W := Wn) (H := Hn) hLw hLh (rdG Wn Hn s.data.toList) (fun y x h => by
    simp only [rdG, Bool.and_eq_true, decide_eq_true_eq] at h
    rw [isB_nat hLw hLh]
    simp [h.1, h.2.1]))
  have HT := Lib.hid (fun w => implWeedT_any L hL (readG L s.data.toList) w)
  have HC := Lib.hid (show readC L s = if textW L (readG L s.data.toList) = s then 0 else 5 by unfold readC; rw [hV, if_pos rfl])
  have HR := Lib.hid (show readR L s = if readC L s = 0 then readG L s.data.toList else fun _ _ => false from rfl)
  obtain ⟨G, hG⟩ : ∃ G, rdG Wn Hn s.data.toList = G := ⟨_, rfl⟩
  rw [hG] at HG HALL
  rw [HG.out] at HT HC HR
  have HGD := Lib.hid (fun (y x : Nat) (hx : x < Wn) (hy : y < Hn) => show (s.data.toList[y * (Wn + 1) + x]? == some 119) = G y x by rw [← hG]; simp [rdG, hx, hy])
  clear hLw hLh hL hV hG HG
  obtain ⟨u, hu⟩ : ∃ u, w.heap.size = u := ⟨_, rfl⟩
  obtain ⟨W1, hW1⟩ : ∃ W1, ((w.alloc (.cells L.cells 30)).alloc (.cells #[.string s] 9)).alloc (.cells (bV 10 fun _ _ => false) 32) = W1 := ⟨_, rfl⟩
  have g0 : Holds W1 u L.cells := by rw [← hW1]; exact ((Holds.new' _ _ _ _ hu.symm).alloc _).alloc _
  have g1 : Holds W1 (u + 1) #[.string s] := by rw [← hW1]; exact (Holds.new' _ _ _ _ (by simp; omega)).alloc _
  have g2 : Holds W1 (u + 2) (bV 10 fun _ _ => false) := by rw [← hW1]; exact Holds.new' _ _ _ _ (by simp; omega)
  have hB1 : Below u w W1 := by rw [← hW1]; exact (((Below.refl u w).alloc (by omega) _).alloc (by simp; omega) _).alloc (by simp; omega) _
  have HU := Lib.hid hu
  obtain ⟨r0, -, -, -, l0⟩ := g0.facts
  refine (callsIn_wide (n := 9)).1 ?_
  refine callsIn_of_wp_marks Try.func16 rfl trivial ?_ rfl
  simp only [Try.ntmps16, List.size_toArray, List.length_cons, List.length_nil, Nat.reduceAdd, Nat.reduceSub, Array.replicate_succ, Array.replicate_zero, List.push_toArray, List.append_toArray, List.nil_append, List.cons_append]
  gi_wp2_with fail
  try simp only [hu, Nat.add_assoc, Nat.reduceAdd]
  try rw [hW1]
  clear hW1 hu r0 l0
  refine ⟨trivial, (callsIn_wide.2 (HI.out _)).mono ?_⟩
  rintro e W2 ⟨rfl, hb2⟩
  have j0 := g0.below hb2 g0.lt
  have j1 := g1.below hb2 g1.lt
  have j2 := g2.below hb2 g2.lt
  have hB2 : Below u w W2 := hB1.trans (hb2.mono (by have := g0.lt; omega))
  clear hb2 g0 g1 g2 hB1
  obtain ⟨z, hz⟩ : ∃ z, W2.heap.size = z := ⟨_, rfl⟩
  have hzu : u + 3 ≤ z := by have := j2.lt; omega
  obtain ⟨W0, hW0⟩ : ∃ W0, (W2.alloc (.cells (bV 10 fun _ _ => false) 32)).alloc (.cells L.cells 30) = W0 := ⟨_, rfl⟩
  have g0 : Holds W0 u L.cells := by rw [← hW0]; exact (j0.alloc _).alloc _
  have g1 : Holds W0 (u + 1) #[.string s] := by rw [← hW0]; exact (j1.alloc _).alloc _
  have g2 : Holds W0 (u + 2) (bV 10 fun _ _ => false) := by rw [← hW0]; exact (j2.alloc _).alloc _
  have g3 : Holds W0 z (bV 10 fun _ _ => false) := by rw [← hW0]; exact (Holds.new' _ _ _ _ hz.symm).alloc _
  have g4 : Holds W0 (z + 1) L.cells := by rw [← hW0]; exact Holds.new' _ _ _ _ (by simp; omega)
  have hB0 : Below u w W0 := by rw [← hW0]; exact (hB2.alloc (by omega) _).alloc (by simp; omega) _
  have hsz : W0.heap.size = z + 2 := by rw [← hW0]; simp; omega
  obtain ⟨r0, -, -, -, l0⟩ := (j0.alloc (.cells (bV 10 fun _ _ => false) 32)).facts
  gi_wp2_with (refine ⟨trivial, ?_⟩; gi_at_call 42; refine (each_in Fence.wide _ trivial rfl _ _).mono ?_; rintro e w2 ⟨rfl, rfl⟩)
  try simp only [hz, World.alloc_size, Nat.add_assoc, Nat.reduceAdd]
  try rw [hW0]
  have hz1 : z + 2 ≤ W0.heap.size := by omega
  have hz2 : W0.heap.size ≤ z + 2 := by omega
  clear hW0 hz j0 j1 j2 hB2 r0 l0 hsz
  refine each_range (by omega) (p := 15) (q := 7) [z] Wn Hn hW hH L.kind rfl (by rw [← HL.out]; exact g4)
    (fun pre W => Holds W z (bV 10 (layS (G) pre))) (fun c pre W => False)
    (Own.from (holds_own _ (fun pre => bV 10 (layS (G) pre))) _) (fun c => fun _ _ _ _ h _ _ => h.elim) (by rw [layS_nil]; exact g3) ?assign ?body ?done ?stop
  case assign =>
    intro l x y W K hK
    simp only [cellV]
    gi_wp2
    exact hK
  case body =>
    rintro l pre x Bx W hl hr hO i3 hBx bX hlt
    have hx := x.1.isLt
    have hy := x.2.isLt
    have HHit := Lib.hid (layS_hit (G) pre x)
    have HMiss := Lib.hid (layS_miss (G) pre x)
    obtain ⟨kb, hkb⟩ : ∃ kb, G x.2.val x.1.val = kb := ⟨_, rfl⟩
    rw [hkb] at HHit HMiss
    obtain ⟨⟨xj, hxj⟩, ⟨xk, hxk⟩⟩ := x
    dsimp only at *
    simp only [cellV, List.setIfInBounds_toArray, List.set_cons_succ, List.set_cons_zero]
    obtain ⟨P, hP⟩ : ∃ P, xk * (Wn + 1) + xj = P := ⟨_, rfl⟩
    have hPb : P ≤ 200 := by
      have := Nat.mul_le_mul (show xk ≤ 10 by omega) (show Wn + 1 ≤ 11 by omega)
      omega
    have HKB := Lib.hid (show (s.data.toList[P]? == some 119) = kb by rw [← hkb, ← hP]; exact HGD.out xk xj hxj hxk)
    have i0 := hO.holds g0 (by simp; omega)
    have i1 := hO.holds g1 (by simp; omega)
    have hO2 := Lib.hid hO
    clear hr hlt hl hO hkb
    obtain ⟨-, -, c0, -, l0⟩ := i0.facts
    have cw := (c0 0).trans HLw.out
    obtain ⟨-, -, c1, -, l1⟩ := i1.facts
    have cs := (c1 0).trans (show _ = some (.string s) from rfl)
    obtain ⟨-, -, cx, -, lx⟩ := bX.facts
    have cx0 := (cx 0).trans (show _ = some (.int .i8 (xj : Int)) from rfl)
    have cx1 := (cx 1).trans (show _ = some (.int .i8 (xk : Int)) from rfl)
    obtain ⟨M, em, ep⟩ := place_is xk Wn xj P hP (by omega) hPb
    clear hP c0 c1 cx
    iterate 48 (first | go_values | gi_guarded | gi_step | gi_upon)
    simp only [em, ep]
    clear em ep
    by_cases hPs : P < s.size
    · have hPd : decide ((P : Int) < (s.size : Int)) = true := by simp; omega
      have hbk : (((s[P]'hPs).toNat : Int) == 119) = kb := by rw [← HKB.out]; exact letter_is s P hPs
      clear HKB
      cases kb
      · have HN := Lib.hid (HMiss.out rfl)
        clear HHit HMiss
        gi_wp2_with fail
        refine eachDone (b := z + 1) (by omega) (by simp) hO2.out (KeepsOthers.refl _) hO2.out ?_
        rw [HN.out]
        exact i3
      · have HN := Lib.hid (HHit.out rfl)
        clear HHit HMiss
        obtain ⟨r3, f3, c3, z3, l3⟩ := i3.facts
        obtain ⟨rx, -, -, -, -⟩ := bX.facts
        clear c3
        gi_wp2_with fail
        refine ⟨trivial, (CallsIn.inRound l (callsIn_wide.2 (wdWith_any _ xj xk (by omega) (by omega) _))).mono ?_⟩
        rintro e w4 ⟨rfl, hb4⟩
        have q3 := i3.below hb4 i3.lt
        have qO : Only [z] W0 w4 := hO2.out.onto hb4
        have qK : KeepsOthers W w4 := keeps_below hb4
        clear r3 f3 z3 l3 rx cw l0 cs l1 cx0 cx1 lx i0 i1 i3 bX hb4 hbk
        obtain ⟨r3, f3, -, z3, l3⟩ := q3.facts
        gi_wp2_with fail
        refine eachDone (b := z + 1) (by omega) (by simp) hO2.out (qK.trans (keeps_setRow _ _ _)) (qO.setRow (.inl (by simp)) _) ?_
        rw [← HN.out]
        exact q3.setRow _
    · have hPd : decide ((P : Int) < (s.size : Int)) = false := by simp; omega
      have HN := Lib.hid (HMiss.out (by rw [← HKB.out, List.getElem?_eq_none (by rw [Array.length_toList]; exact Nat.le_of_not_lt hPs)]; rfl))
      clear HKB HHit HMiss
      gi_wp2_with fail
      refine eachDone (b := z + 1) (by omega) (by simp) hO2.out (KeepsOthers.refl _) hO2.out ?_
      rw [HN.out]
      exact i3
  case done =>
    rintro D W hD hO i3 hK
    have hB2 : Below u w W := hB0.trans (hO.toBelow (by simp; omega) (by omega))
    have i0 := hO.holds g0 (by simp; omega)
    have i1 := hO.holds g1 (by simp; omega)
    have i2 := hO.holds g2 (by simp; omega)
    rw [HALL.out] at i3
    obtain ⟨l0, -⟩ := i0.later
    obtain ⟨l3, -⟩ := i3.later
    obtain ⟨-, c1⟩ := i1.later
    have c10 : ∀ w', Below W.heap.size W w' → w'.cell? ⟨u + 1, 0, none⟩ = some (.string s) := fun w' hw => (c1 w' hw 0).trans rfl
    clear g0 g1 g2 g3 g4 HL HLw c1
    gi_wp2_with fail
    refine wpIn_wide.2 ?_
    refine wp_region_grow 4 (by kernel_rfl) (by kernel_rfl) ?_
    simp only [List.take_succ_cons, List.take_zero, List.drop_succ_cons, List.drop_zero]
    apply wpGrow_plain rfl (v := .agg L.cells)
    · intro w' hw' K hK
      go_wp2_with fail
      exact hK _ _ rfl hw'
    simp only [Act.put, withD, List.setIfInBounds_toArray, List.set_cons_succ, List.set_cons_zero]
    apply wpGrow_plain rfl (v := .agg (bV 10 G))
    · intro w' hw' K hK
      go_wp2_with fail
      exact hK _ _ rfl hw'
    simp only [Act.put, List.setIfInBounds_toArray, List.set_cons_succ, List.set_cons_zero]
    apply wpGrow_plain rfl (v := .string (textW L G))
    · intro w' hw' K hK
      go_wp2_with fail
      refine (HT.out _).mono ?_
      rintro e w5 ⟨rfl, hb5⟩
      go_wp2_with fail
      exact hK _ _ rfl (below_onto hw' hb5)
    simp only [Act.put, List.setIfInBounds_toArray, List.set_cons_succ, List.set_cons_zero]
    apply wpGrow_plain rfl (v := .string s)
    · intro w' hw' K hK
      have e1 := c10 _ hw'
      go_wp2_with fail
      exact hK _ _ rfl hw'
    simp only [Act.put, List.setIfInBounds_toArray, List.set_cons_succ, List.set_cons_zero]
    refine wpGrow_nil ?_
    intro W4 hW4
    have k2 := i2.below hW4 i2.lt
    have k3 := i3.below hW4 i3.lt
    have hB4 : Below u w W4 := hB2.trans (hW4.mono (by have := i2.lt; omega))
    have hK4 : W4.heap[D]? = some (.deferred (some [])) := (hW4.block D (Array.getElem?_eq_some_iff.1 hK).1).trans hK
    obtain ⟨r2, f2, -, z2, l2⟩ := k2.facts
    obtain ⟨r3, -, -, -, l3'⟩ := k3.facts
    obtain ⟨T, hTT⟩ : ∃ T, textW L G = T := ⟨_, rfl⟩
    rw [hTT] at HC ⊢
    clear hTT HT hW4 i0 i1 i2 i3 hK c10 l0 l3 hO hB2
    by_cases hE : T = s
    · have hq : (T.toList == s.toList) = true := by rw [hE]; simp
      have HC0 := Lib.hid (show readC L s = 0 by rw [HC.out, if_pos hE])
      have HR0 := Lib.hid (show readR L s = G by rw [HR.out, if_pos HC0.out])
      clear hE
      go_wp2_with fail
      gi_wp2
      have q2 := k2.setRow (bV 10 G)
      have hK' : (W4.setRow (u + 2) (bV 10 G)).heap[D]? = some (.deferred (some [])) := (setRow_other W4 _ D _ (by omega)).trans hK4
      have hB5 : Below w.heap.size w (W4.setRow (u + 2) (bV 10 G)) := by rw [HU.out]; exact below_setRow' hB4 (g := u + 2) (by omega) _
      refine ⟨by simp, .inl ⟨_, _, rfl, run_takeDeferred hK', ?_⟩⟩
      exact ⟨_, results_cell_tmp_holds rfl wideWd _ rfl (q2.grown (grownBy_putObj' _ D _) (fun r e => by cases e; exact ⟨_, hK', rfl⟩)) (by simp), by rw [HC0.out, HR0.out]; rfl, hB5.trans (belowK_b (w := w) (Nat.le_refl _) _ D _ _ (by have := HU.out; omega) hK' rfl rfl)⟩
    · have hq : (T.toList == s.toList) = false := by
        rw [ByteArray.toList_eq, ByteArray.toList_eq]
        refine beq_eq_false_iff_ne.2 fun h => hE ?_
        rw [← arr_list T, ← arr_list s, h]
      have HC0 := Lib.hid (show readC L s = 5 by rw [HC.out, if_neg hE])
      have HR0 := Lib.hid (show readR L s = fun _ _ => false by rw [HR.out, if_neg (by rw [HC0.out]; decide)])
      clear hE
      go_wp2_with fail
      gi_wp2
      have q2 := k2.setRow (bV 10 fun _ _ => false)
      have hK' : (W4.setRow (u + 2) (bV 10 fun _ _ => false)).heap[D]? = some (.deferred (some [])) := (setRow_other W4 _ D _ (by omega)).trans hK4
      have hB5 : Below w.heap.size w (W4.setRow (u + 2) (bV 10 fun _ _ => false)) := by rw [HU.out]; exact below_setRow' hB4 (g := u + 2) (by omega) _
      refine ⟨by simp, .inl ⟨_, _, rfl, run_takeDeferred hK', ?_⟩⟩
      exact ⟨_, results_cell_tmp_holds rfl wideWd _ rfl (q2.grown (grownBy_putObj' _ D _) (fun r e => by cases e; exact ⟨_, hK', rfl⟩)) (by simp), by rw [HC0.out, HR0.out]; rfl, hB5.trans (belowK_b (w := w) (Nat.le_refl _) _ D _ _ (by have := HU.out; omega) hK' rfl rfl)⟩
  case stop =>
    rintro D c pre W hD _ h hK
    exact h.elim
set_option maxRecDepth 100000 in
set_option maxHeartbeats 2000000 in
theorem implRead_any (L : Lawn) (hL : L.Fits) (s : ByteArray) (hs : s.size ≤ maxLen) (w : World) :
    Calls Try.prog 16 #[.agg L.cells, .string s] w fun e w' => e = .returned (.tuple #[.agg (bV 10 (readR L s)), .int .i64 (readC L s)]) ∧ Below w.heap.size w w' := by
  cases hv : validB L
  case true =>
    obtain ⟨h1, h2, -⟩ := validB_true hv
    exact readI_loop L.wide.toNat L.high.toNat (by omega) (by omega) L (by omega) (by omega) hL hv s hs w
  case false =>
    have HI := Lib.hid (show ∀ w : World, Calls Try.prog 48 #[.agg L.cells] w fun e w' => e = .returned (.bool false) ∧ Below w.heap.size w w' from fun w => hv ▸ implValid_any L hL w)
    have HC0 := Lib.hid (show readC L s = 1 by unfold readC; rw [hv]; rfl)
    have HR0 := Lib.hid (show readR L s = fun _ _ => false by unfold readR; rw [if_neg (by rw [HC0.out]; decide)])
    clear hv hL
    obtain ⟨u, hu⟩ : ∃ u, w.heap.size = u := ⟨_, rfl⟩
    obtain ⟨W1, hW1⟩ : ∃ W1, ((w.alloc (.cells L.cells 30)).alloc (.cells #[.string s] 9)).alloc (.cells (bV 10 fun _ _ => false) 32) = W1 := ⟨_, rfl⟩
    have g0 : Holds W1 u L.cells := by rw [← hW1]; exact ((Holds.new' _ _ _ _ hu.symm).alloc _).alloc _
    have g2 : Holds W1 (u + 2) (bV 10 fun _ _ => false) := by rw [← hW1]; exact Holds.new' _ _ _ _ (by simp; omega)
    have hB1 : Below u w W1 := by rw [← hW1]; exact (((Below.refl u w).alloc (by omega) _).alloc (by simp; omega) _).alloc (by simp; omega) _
    have HU := Lib.hid hu
    obtain ⟨r0, -, -, -, l0⟩ := g0.facts
    go_enter Try.func16, Try.ntmps16
    go_wp2_with fail
    try simp only [hu, Nat.add_assoc, Nat.reduceAdd]
    try rw [hW1]
    clear hW1 hu r0 l0
    refine (HI.out _).mono ?_
    rintro e w1 ⟨rfl, hb1⟩
    have j2 := g2.below hb1 g2.lt
    have hb2 : Below u w w1 := hB1.trans (hb1.mono (by have := g0.lt; omega))
    clear hB1 hb1 g0 g2
    obtain ⟨r2, f2, -, z2, l2⟩ := j2.facts
    go_wp2_with fail
    exact bodyPost_ret (results_cell_tmp_holds rfl wideWd _ rfl (j2.setRow (bV 10 fun _ _ => false)) (by simp)) rfl ⟨by rw [HC0.out, HR0.out]; rfl, by rw [HU.out]; exact below_setRow' hb2 (by omega) _⟩
end Go.Proofs.Ytojccgaldadcnaa
