/- MoveAll, of the model. -/
import Derived.Test.YteaajkkhbflmdaaDoorSMoveA
import Derived.Test.YteaajkkhbflmdaaDoorZC
namespace Go.Proofs.YteaajkkhbflmdaaDoor
open Go.RowKit Go.Shelf
set_option linter.unusedVariables false
set_option linter.unusedSimpArgs false
attribute [local go_sem ↓] loadRow loadGrid loadLawn loadMirror storeRow storeGrid storeLawn allocRow allocGrid allocLawn buildZero buildSides loadR8 loadL8 loadLv storeR8 storeLv allocR8 allocLv buildZLv

set_option maxRecDepth 100000 in
set_option maxHeartbeats 4000000 in
theorem specMvAll_good (L : Lawn) (hL : L.Fits) (g : Nat → Nat → Int) (hg : LevFits g) (hv : levB L g = true) (B n : Nat) (v : Value) (l : List Hl) (hl : l.length = n) (hF : ∀ h ∈ l, HlFits h) (hn : n ≤ 60) (w : World) (ho : w.ownsRow B 41 5 v n (hlV l)) :
    Calls Tryd.prog 15 #[.agg L.cells, .agg (levV g), v] w fun e w' => e = .returned (.tuple #[.agg (levV (mvG L g l)), .int .i64 (mvC L g l)]) ∧ Below w.heap.size w w' := by
  obtain ⟨s, hs⟩ : ∃ s, w.heap.size = s := ⟨_, rfl⟩
  have HVL := Lib.hid (show ∀ w : World, Holds w s L.cells → Holds w (s + 1) (levV g) → Calls Tryd.prog 33 #[.pointer (some ⟨s, 0, none⟩), .pointer (some ⟨s + 1, 0, none⟩)] w fun e w' => e = .returned (.bool true) ∧ Below w.heap.size w w' from fun w h1 h2 => hv ▸ l06Ok_any L hL g hg s (s + 1) w h1 h2)
  have HMV := Lib.hid (show ∀ (G : Nat → Nat → Int) (h : Hl), levB L G = true → HlFits h → ∀ w, Holds w s L.cells → Holds w (s + 1) (levV G) → Calls Tryd.prog 34 #[.pointer (some ⟨s, 0, none⟩), .pointer (some ⟨s + 1, 0, none⟩), .agg #[.int .i8 h.1, .int .i8 h.2.1, .int .i8 h.2.2.1, .int .i8 h.2.2.2.1, .int .i8 h.2.2.2.2]] w fun e w' => e = .returned (.int .i64 (hlC L G h)) ∧ Holds w' s L.cells ∧ Holds w' (s + 1) (levV (hlN L G h)) ∧ Only [s + 1] w w' from fun G h hG hF w h1 h2 => smove_any L hL G hG s (s + 1) (by omega) h hF (s + 1) (Nat.le_refl _) w h1 h2)
  have HO := Lib.hid ho
  have HL := Lib.hid hl
  have HV := Lib.hid hv
  have HF := Lib.hid hF
  obtain ⟨av, cv, rfl⟩ := own_slice ho
  clear ho hl hL hg hv hF
  obtain ⟨W0, hW0⟩ : ∃ W0, ((w.alloc (.cells L.cells 36)).alloc (.cells (levV g) 33)).alloc (.cells (levV fun _ _ => 0) 33) = W0 := ⟨_, rfl⟩
  have g0 : Holds W0 s L.cells := by rw [← hW0]; exact ((Holds.new' _ _ _ _ hs.symm).alloc _).alloc _
  have g1 : Holds W0 (s + 1) (levV g) := by rw [← hW0]; exact (Holds.new' _ _ _ _ (by simp; omega)).alloc _
  have g2 : Holds W0 (s + 1 + 1) (levV fun _ _ => 0) := by rw [← hW0]; exact Holds.new' _ _ _ _ (by simp; omega)
  have hb : Below s w W0 := by rw [← hW0]; exact (((Below.refl s w).alloc (by omega) _).alloc (by simp; omega) _).alloc (by simp; omega) _
  have HS := Lib.hid hs
  rw [hs]
  go_enter Tryd.func15, Tryd.ntmps15
  go_wp2_with fail
  clear hW0
  refine (HVL.out _ g0 g1).mono ?_
  rintro e w1 ⟨rfl, hb1⟩
  have k0 := g0.below hb1 g0.lt
  have k1 := g1.below hb1 g1.lt
  have k2 := g2.below hb1 g2.lt
  have hb2 : Below s w w1 := hb.trans (hb1.mono (by have := g0.lt; omega))
  have hd60 : decide ((60 : Int) < (n : Int)) = false := by simp; omega
  clear g0 g1 g2 hb hb1
  go_wp2_with fail
  go_loopw [8] (fun x wr => ∃ (k : Nat) (G : Nat → Nat → Int), k ≤ n ∧ x = .int .i64 k ∧ levB L G = true ∧ (mvC L g l = mvC L G (l.drop k) ∧ mvG L g l = mvG L G (l.drop k)) ∧ Holds wr s L.cells ∧ Holds wr (s + 1) (levV G) ∧ Holds wr (s + 1 + 1) (levV fun _ _ => 0) ∧ Below s w wr) (fun x _ => n - (intOf x).toNat)
  case atStart => exact ⟨0, g, by omega, rfl, HV.out, ⟨by simp, by simp⟩, k0, k1, k2, hb2⟩
  case round =>
    obtain ⟨k, G, hk, rfl, hG, heq, h0, h1, h2, hb⟩ := hrel
    clear k0 k1 k2 hb2
    have HGV := Lib.hid hG
    have HEQ := Lib.hid heq
    have hbw : Below w.heap.size w _ := HS.out.symm ▸ hb
    have HO1 := Lib.hid (own_below HO.out hbw)
    clear hG heq
    by_cases hlt : k < n
    · have hd : decide ((k : Int) < (n : Int)) = true := by simp; omega
      obtain ⟨h, hh⟩ : ∃ h, l[k]? = some h := ⟨_, List.getElem?_eq_getElem (by rw [HL.out]; exact hlt)⟩
      have HH := Lib.hid hh
      have HFh := Lib.hid (HF.out h (List.mem_of_getElem? hh))
      obtain ⟨f0, f1, f2, f3, f4⟩ := hlV_get l k h hh
      obtain ⟨g', cap', he, -, -⟩ := own_form HO1.out (by omega)
      simp only [Value.slice.injEq, true_and] at he
      obtain ⟨rfl, rfl⟩ := he
      have c0 := own_cell HO1.out _ _ f0
      have c1 := own_cell HO1.out _ _ f1
      have c2 := own_cell HO1.out _ _ f2
      have c3 := own_cell HO1.out _ _ f3
      have c4 := own_cell HO1.out _ _ f4
      clear hh f0 f1 f2 f3 f4
      go_wp2_with fail
      refine (HMV.out G h HGV.out HFh.out _ h0 h1).mono ?_
      have h2l := h2.lt
      cases hk5 : hlE5 L G h
      case none =>
        have HFI := Lib.hid (hlE_fine hk5)
        have HGO := Lib.hid (mv_good HH.out hk5)
        have e1 : hlC L G h = 0 := by unfold hlC; rw [hk5]
        have e2 : hlN L G h = hlG5 G h := by unfold hlN; rw [hk5]
        rw [e1, e2]
        clear e1 e2 hk5
        rintro e w2 ⟨rfl, j0, j1, hO⟩
        have j2 := hO.holds h2 (by simp)
        have hb5 : Below s w w2 := hb.trans (hO.toBelow (by simp) (by have := h0.lt; omega))
        clear h0 h1 h2 hb hbw hO c0 c1 c2 c3 c4
        go_wp2_with fail
        go_roundw
        case rel => exact ⟨k + 1, _, by omega, by go_num, HFI.out, ⟨HEQ.out.1.trans HGO.out.1, HEQ.out.2.trans HGO.out.2⟩, j0, j1, j2, hb5⟩
        case measure => simp [intOf]; omega
      case some kk =>
        have HBD := Lib.hid (mv_bad HH.out hk5)
        have e1 : hlC L G h = errZ kk := by unfold hlC; rw [hk5]
        have e2 : hlN L G h = G := by unfold hlN; rw [hk5]
        have hz : errZ kk = 2 ∨ errZ kk = 4 ∨ errZ kk = 1 := by unfold errZ; split <;> (try split) <;> simp
        rw [e1, e2]
        obtain ⟨z, hz2⟩ : ∃ z, errZ kk = z := ⟨_, rfl⟩
        rw [hz2] at hz HBD ⊢
        have hnz : decide (z = 0) = false := by simp; omega
        have hnz2 : (z != 0) = true := by simp; omega
        clear e1 e2 hk5 hz2
        rintro e w2 ⟨rfl, j0, j1, hO⟩
        have j2 := hO.holds h2 (by simp)
        have hb5 : Below s w w2 := hb.trans (hO.toBelow (by simp) (by have := h0.lt; omega))
        obtain ⟨r2, f2, -, z2, l2⟩ := j2.facts
        clear h0 h1 h2 hb hbw hO c0 c1 c2 c3 c4
        go_wp2_with fail
        exact bodyPost_ret (results_cell_tmp_holds rfl wideLv _ rfl (j2.setRow (levV fun _ _ => 0)) (by simp)) rfl ⟨by rw [HEQ.out.1, HEQ.out.2, HBD.out.1, HBD.out.2]; rfl, below_setRow' hb5 (by omega) _⟩
    · have hd : decide ((k : Int) < (n : Int)) = false := by simp; omega
      have hkn : k = n := by omega
      have HF := Lib.hid (show mvC L g l = 0 ∧ mvG L g l = G by
        obtain ⟨e1, e2⟩ := HEQ.out
        obtain ⟨e3, e4⟩ := mv_end L G l
        rw [HL.out] at e3 e4
        rw [hkn] at e1 e2
        exact ⟨e1.trans e3, e2.trans e4⟩)
      obtain ⟨r1, f1, -, z1, l1⟩ := h1.facts
      obtain ⟨r2, f2, -, z2, l2⟩ := h2.facts
      have q2 := h2.setRow (levV G)
      clear hkn HEQ
      go_wp2_with fail
      exact bodyPost_ret (results_cell_tmp_holds rfl wideLv _ rfl q2 (by simp)) rfl ⟨by rw [HF.out.1, HF.out.2]; rfl, below_setRow' hb (by omega) _⟩

set_option maxRecDepth 100000 in
set_option maxHeartbeats 2000000 in
theorem specMvAll_any (L : Lawn) (hL : L.Fits) (g : Nat → Nat → Int) (hg : LevFits g) (B n : Nat) (v : Value) (l : List Hl) (hl : l.length = n) (hF : ∀ h ∈ l, HlFits h) (hn : n ≤ 9223372036854775807) (w : World) (ho : w.ownsRow B 41 5 v n (hlV l)) :
    Calls Tryd.prog 15 #[.agg L.cells, .agg (levV g), v] w fun e w' => e = .returned (.tuple #[.agg (levV (mvAG L g l)), .int .i64 (mvAC L g l)]) ∧ Below w.heap.size w w' := by
  obtain ⟨b, hv⟩ : ∃ b, levB L g = b := ⟨_, rfl⟩
  by_cases hgood : b = true ∧ n ≤ 60
  · obtain ⟨rfl, h60⟩ := hgood
    have e1 : mvAC L g l = mvC L g l := by unfold mvAC; rw [hv, if_pos rfl, if_neg (by omega)]
    have e2 : mvAG L g l = mvG L g l := by unfold mvAG; rw [hv, if_pos rfl, if_neg (by omega)]
    rw [e1, e2]
    exact specMvAll_good L hL g hg hv B n v l hl hF h60 w ho
  obtain ⟨c, hc⟩ : ∃ c : Int, c = if b then 3 else 1 := ⟨_, rfl⟩
  have e1 : mvAC L g l = c := by
    rw [hc]; unfold mvAC; rw [hv]
    cases b with
    | false => rfl
    | true => rw [if_pos rfl, if_pos (by simp at hgood; omega)]; rfl
  have e2 : mvAG L g l = fun _ _ => 0 := by
    unfold mvAG; rw [hv]
    cases b with
    | false => rfl
    | true => rw [if_pos rfl, if_pos (by simp at hgood; omega)]
  rw [e1, e2]
  obtain ⟨s, hs⟩ : ∃ s, w.heap.size = s := ⟨_, rfl⟩
  have HVL := Lib.hid (show ∀ w : World, Holds w s L.cells → Holds w (s + 1) (levV g) → Calls Tryd.prog 33 #[.pointer (some ⟨s, 0, none⟩), .pointer (some ⟨s + 1, 0, none⟩)] w fun e w' => e = .returned (.bool b) ∧ Below w.heap.size w w' from fun w h1 h2 => hv ▸ l06Ok_any L hL g hg s (s + 1) w h1 h2)
  obtain ⟨av, cv, rfl⟩ := own_slice ho
  have hb60 : b = true → decide ((60 : Int) < (n : Int)) = true := fun h => by simp; have : ¬ n ≤ 60 := fun h2 => hgood ⟨h, h2⟩; omega
  have HB60 := Lib.hid hb60
  clear ho hl hL hg hv e1 e2 hgood hb60 hF
  obtain ⟨W0, hW0⟩ : ∃ W0, ((w.alloc (.cells L.cells 36)).alloc (.cells (levV g) 33)).alloc (.cells (levV fun _ _ => 0) 33) = W0 := ⟨_, rfl⟩
  have g0 : Holds W0 s L.cells := by rw [← hW0]; exact ((Holds.new' _ _ _ _ hs.symm).alloc _).alloc _
  have g1 : Holds W0 (s + 1) (levV g) := by rw [← hW0]; exact (Holds.new' _ _ _ _ (by simp; omega)).alloc _
  have g2 : Holds W0 (s + 1 + 1) (levV fun _ _ => 0) := by rw [← hW0]; exact Holds.new' _ _ _ _ (by simp; omega)
  have hb : Below s w W0 := by rw [← hW0]; exact (((Below.refl s w).alloc (by omega) _).alloc (by simp; omega) _).alloc (by simp; omega) _
  rw [hs]
  go_enter Tryd.func15, Tryd.ntmps15
  go_wp2_with fail
  clear hW0
  refine (HVL.out _ g0 g1).mono ?_
  rintro e w1 ⟨rfl, hb1⟩
  have k2 := g2.below hb1 g2.lt
  have hb2 : Below s w w1 := hb.trans (hb1.mono (by have := g0.lt; omega))
  obtain ⟨r2, f2, -, z2, l2⟩ := k2.facts
  clear g0 g1 g2 hb hb1
  cases b
  · simp only [Bool.false_eq_true, if_false] at hc
    subst hc
    go_wp2_with fail
    exact bodyPost_ret (results_cell_tmp_holds rfl wideLv _ rfl (k2.setRow (levV fun _ _ => 0)) (by simp)) rfl ⟨rfl, below_setRow' hb2 (by omega) _⟩
  · have hd := HB60.out rfl
    simp only [if_true] at hc
    subst hc
    go_wp2_with fail
    exact bodyPost_ret (results_cell_tmp_holds rfl wideLv _ rfl (k2.setRow (levV fun _ _ => 0)) (by simp)) rfl ⟨rfl, below_setRow' hb2 (by omega) _⟩
end Go.Proofs.YteaajkkhbflmdaaDoor
