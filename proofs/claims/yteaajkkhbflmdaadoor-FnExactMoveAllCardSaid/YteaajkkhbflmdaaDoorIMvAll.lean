/- MoveAll, of the program. -/
import Derived.Test.YteaajkkhbflmdaaDoorMovedA
import Derived.Test.YteaajkkhbflmdaaDoorMoveL
import Derived.Test.YteaajkkhbflmdaaDoorErrs
import Derived.Test.YteaajkkhbflmdaaDoorZC
namespace Go.Proofs.YteaajkkhbflmdaaDoor
open Go.RowKit Go.Shelf
set_option linter.unusedVariables false
set_option linter.unusedSimpArgs false
attribute [local go_sem ↓] loadRow loadGrid loadLawn loadMirror storeRow storeGrid storeLawn allocRow allocGrid allocLawn buildZero buildSides loadR8 loadL8 loadLv storeR8 storeLv allocR8 allocLv buildZLv

/-- The code of the error that is met. -/
theorem codeOf_any {a0 a1 a2 a3 a4 : Addr} (k : Nat) (hk : k < 4) : ∃ a : Addr, errV a0 a1 a2 a3 (some k) = .iface 137 (.pointer (some a)) ∧ ∀ w, ErrsIn w a0 a1 a2 a3 a4 → Calls Tryd.prog 37 #[.iface 137 (.pointer (some a))] w fun e w' => e = .returned (.int .i64 (errZ k)) ∧ w' = w := by
  have : k = 0 ∨ k = 1 ∨ k = 2 ∨ k = 3 := by omega
  rcases this with rfl | rfl | rfl | rfl
  · exact ⟨a0, rfl, fun w h => codeOf_0 w h⟩
  · exact ⟨a1, rfl, fun w h => codeOf_1 w h⟩
  · exact ⟨a2, rfl, fun w h => codeOf_2 w h⟩
  · exact ⟨a3, rfl, fun w h => codeOf_3 w h⟩

set_option maxRecDepth 100000 in
set_option maxHeartbeats 4000000 in
theorem implMvAll_good (L : Lawn) (hL : L.Fits) (g : Nat → Nat → Int) (hg : LevFits g) (hv : levB L g = true) (B n : Nat) (v : Value) (l : List Hl) (hl : l.length = n) (hn : n ≤ 60) {a0 a1 a2 a3 a4 : Addr} (w : World) (hE : ErrsIn w a0 a1 a2 a3 a4) (ho : w.ownsRow B 41 5 v n (hlV l)) :
    Calls Tryd.prog 17 #[.agg L.cells, .agg (levV g), v] w fun e w' => e = .returned (.tuple #[.agg (levV (mvG L g l)), .int .i64 (mvC L g l)]) ∧ Below w.heap.size w w' := by
  have HVL := Lib.hid (show ∀ w : World, Calls Tryd.prog 35 #[.agg L.cells, .agg (levV g)] w fun e w' => e = .returned (.bool true) ∧ Below w.heap.size w w' from fun w => hv ▸ implLevels_any L hL g w)
  have HMV := Lib.hid (show ∀ (G : Nat → Nat → Int) (h : Hl), levB L G = true → ∀ w, ErrsIn w a0 a1 a2 a3 a4 → Calls Tryd.prog 36 #[.agg (levV G), .agg L.cells, .agg #[.int .i8 h.1, .int .i8 h.2.1, .int .i8 h.2.2.1, .int .i8 h.2.2.2.1, .int .i8 h.2.2.2.2]] w fun e w' => e = .returned (.tuple #[.agg (levV (hlR L G h.1 h.2.1 h.2.2.1 h.2.2.2.1 h.2.2.2.2)), errV a0 a1 a2 a3 (hlE5 L G h)]) ∧ Below w.heap.size w w' from fun G h hG w hE => moved_any L hL G hG h.1 h.2.1 h.2.2.1 h.2.2.2.1 h.2.2.2.2 w hE)
  have HO := Lib.hid ho
  have HE := Lib.hid hE
  have HL := Lib.hid hl
  have HV := Lib.hid hv
  obtain ⟨av, cv, rfl⟩ := own_slice ho
  clear ho hE hl hL hg hv
  obtain ⟨s, hs⟩ : ∃ s, w.heap.size = s := ⟨_, rfl⟩
  obtain ⟨W0, hW0⟩ : ∃ W0, ((w.alloc (.cells L.cells 36)).alloc (.cells (levV g) 33)).alloc (.cells (levV fun _ _ => 0) 33) = W0 := ⟨_, rfl⟩
  have g0 : Holds W0 s L.cells := by rw [← hW0]; exact ((Holds.new' _ _ _ _ hs.symm).alloc _).alloc _
  have g1 : Holds W0 (s + 1) (levV g) := by rw [← hW0]; exact (Holds.new' _ _ _ _ (by simp; omega)).alloc _
  have g2 : Holds W0 (s + 1 + 1) (levV fun _ _ => 0) := by rw [← hW0]; exact Holds.new' _ _ _ _ (by simp; omega)
  have hb : Below s w W0 := by rw [← hW0]; exact (((Below.refl s w).alloc (by omega) _).alloc (by simp; omega) _).alloc (by simp; omega) _
  have HS := Lib.hid hs
  rw [hs]
  obtain ⟨r0, -, -, -, l0⟩ := g0.facts
  obtain ⟨r1, -, -, -, l1⟩ := g1.facts
  go_enter Tryd.func17, Tryd.ntmps17
  go_wp2_with fail
  clear hW0 r0 l0 r1 l1
  refine (HVL.out _).mono ?_
  rintro e w1 ⟨rfl, hb1⟩
  have k0 := g0.below hb1 g0.lt
  have k1 := g1.below hb1 g1.lt
  have k2 := g2.below hb1 g2.lt
  have hb2 : Below s w w1 := hb.trans (hb1.mono (by have := g0.lt; omega))
  have hd60 : decide ((60 : Int) < (n : Int)) = false := by simp; omega
  clear g0 g1 g2 hb hb1
  go_wp2_with fail
  go_loopw [23] (fun x wr => ∃ (k : Nat) (G : Nat → Nat → Int), k ≤ n ∧ x = .int .i64 k ∧ levB L G = true ∧ (mvC L g l = mvC L G (l.drop k) ∧ mvG L g l = mvG L G (l.drop k)) ∧ Holds wr s L.cells ∧ Holds wr (s + 1) (levV G) ∧ Holds wr (s + 1 + 1) (levV fun _ _ => 0) ∧ Below s w wr) (fun x _ => n - (intOf x).toNat)
  case atStart => exact ⟨0, g, by omega, rfl, HV.out, ⟨by simp, by simp⟩, k0, k1, k2, hb2⟩
  case round =>
    obtain ⟨k, G, hk, rfl, hG, heq, h0, h1, h2, hb⟩ := hrel
    clear k0 k1 k2 hb2
    have HGV := Lib.hid hG
    have HEQ := Lib.hid heq
    have hbw : Below w.heap.size w _ := HS.out.symm ▸ hb
    have HE1 := Lib.hid (HE.out.below hbw)
    have HO1 := Lib.hid (own_below HO.out hbw)
    clear hG heq
    by_cases hlt : k < n
    · have hd : decide ((k : Int) < (n : Int)) = true := by simp; omega
      obtain ⟨h, hh⟩ : ∃ h, l[k]? = some h := ⟨_, List.getElem?_eq_getElem (by rw [HL.out]; exact hlt)⟩
      have HH := Lib.hid hh
      obtain ⟨f0, f1, f2, f3, f4⟩ := hlV_get l k h hh
      obtain ⟨g', cap', he, -, -⟩ := own_form HO1.out (by omega)
      simp only [Value.slice.injEq, true_and] at he
      obtain ⟨rfl, rfl⟩ := he
      have c0 := own_cell HO1.out _ _ f0
      have c1 := own_cell HO1.out _ _ f1
      have c2 := own_cell HO1.out _ _ f2
      have c3 := own_cell HO1.out _ _ f3
      have c4 := own_cell HO1.out _ _ f4
      obtain ⟨hf, hhf⟩ : ∃ hf : Array Value, hf = #[Value.int .i8 h.1, .int .i8 h.2.1, .int .i8 h.2.2.1, .int .i8 h.2.2.2.1, .int .i8 h.2.2.2.2] := ⟨_, rfl⟩
      obtain ⟨r0, -, -, -, l0⟩ := h0.facts
      obtain ⟨r1, -, -, -, l1⟩ := h1.facts
      clear hh f0 f1 f2 f3 f4 hhf
      go_wp2_with fail
      clear c0 c1 c2 c3 c4 r0 l0 r1 l1
      obtain ⟨Wa, hWa⟩ : ∃ Wa, wr.alloc (.cells #[.int .i8 h.1, .int .i8 h.2.1, .int .i8 h.2.2.1, .int .i8 h.2.2.2.1, .int .i8 h.2.2.2.2] 41) = Wa := ⟨_, rfl⟩
      have hba : Below wr.heap.size wr Wa := by rw [← hWa]; exact (Below.refl _ _).alloc (Nat.le_refl _) _
      rw [hWa]
      clear hWa
      refine (HMV.out G h HGV.out Wa (HE1.out.below hba)).mono ?_
      rintro e w2 ⟨rfl, hb3⟩
      have hb4 := below_onto hba hb3
      have j0 := h0.below hb4 h0.lt
      have j1 := h1.below hb4 h1.lt
      have j2 := h2.below hb4 h2.lt
      have hb5 : Below s w w2 := hb.trans (hb4.mono (by have := h0.lt; omega))
      have HE2 := Lib.hid (HE1.out.below hb4)
      clear hba hb3 hb4 h0 h1 h2 hb hbw
      cases hk5 : hlE5 L G h
      case none =>
        have eR : hlR L G h.1 h.2.1 h.2.2.1 h.2.2.2.1 h.2.2.2.2 = hlG5 G h := by
          have hk6 : hlE L G h.1 h.2.1 h.2.2.1 h.2.2.2.1 h.2.2.2.2 = none := hk5
          funext y x
          simp [hlR, hk6, hlG5]
        have HFI := Lib.hid (hlE_fine hk5)
        have HGO := Lib.hid (mv_good HH.out hk5)
        rw [eR]
        clear eR hk5
        obtain ⟨r1, f1, -, z1, l1⟩ := j1.facts
        obtain ⟨G2, hG2⟩ : ∃ G2, hlG5 G h = G2 := ⟨_, rfl⟩
        rw [hG2] at HFI HGO ⊢
        clear hG2
        simp only [errV]
        go_wp2_with fail
        go_roundw
        case rel =>
          have hO := (Only.refl [s + 1] w2).setRow (g := s + 1) (.inl (by simp)) (levV G2)
          exact ⟨k + 1, G2, by omega, by go_num, HFI.out, ⟨HEQ.out.1.trans HGO.out.1, HEQ.out.2.trans HGO.out.2⟩, (hO.holds j0 (by simp)).alloc _, (j1.setRow (levV G2)).alloc _, (hO.holds j2 (by simp)).alloc _, (below_setRow' hb5 (by omega) _).alloc (by have := hb5.size; simp [World.setRow]; have := j0.lt; omega) _⟩
        case measure => simp [intOf]; omega
      case some kk =>
        obtain ⟨ae, hae, hce⟩ := codeOf_any (a0 := a0) (a1 := a1) (a2 := a2) (a3 := a3) (a4 := a4) kk (hlE_small hk5)
        have HBD := Lib.hid (mv_bad HH.out hk5)
        have HCE := Lib.hid hce
        rw [hae]
        obtain ⟨R, hR⟩ : ∃ R, hlR L G h.1 h.2.1 h.2.2.1 h.2.2.2.1 h.2.2.2.2 = R := ⟨_, rfl⟩
        rw [hR]
        clear hae hce hR
        go_wp2_with fail
        have hwa : Below w2.heap.size w2 (w2.alloc (.cells (levV R) 33)) := (Below.refl _ _).alloc (Nat.le_refl _) _
        obtain ⟨Wb, hWb⟩ : ∃ Wb, w2.alloc (.cells (levV R) 33) = Wb := ⟨_, rfl⟩
        rw [hWb] at hwa ⊢
        have q2 := j2.below hwa j2.lt
        have hb6 : Below s w Wb := hb5.trans (hwa.mono (by have := j0.lt; omega))
        obtain ⟨r2, f2, -, z2, l2⟩ := q2.facts
        clear hWb
        refine (HCE.out Wb (HE2.out.below hwa)).mono ?_
        rintro e w9 ⟨rfl, hw9⟩
        rw [hw9]
        clear hw9
        go_wp2_with fail
        exact bodyPost_ret (results_cell_tmp_holds rfl wideLv _ rfl (q2.setRow (levV fun _ _ => 0)) (by simp)) rfl ⟨by rw [HEQ.out.1, HEQ.out.2, HBD.out.1, HBD.out.2]; rfl, below_setRow' hb6 (by omega) _⟩
    · have hd : decide ((k : Int) < (n : Int)) = false := by simp; omega
      have hkn : k = n := by omega
      have HF := Lib.hid (show mvC L g l = 0 ∧ mvG L g l = G by
        obtain ⟨e1, e2⟩ := HEQ.out
        obtain ⟨e3, e4⟩ := mv_end L G l
        rw [HL.out] at e3 e4
        rw [hkn] at e1 e2
        exact ⟨e1.trans e3, e2.trans e4⟩)
      obtain ⟨r1, f1, -, z1, l1⟩ := h1.facts
      obtain ⟨r2, f2, -, z2, l2⟩ := h2.facts
      have q2 := h2.setRow (levV G)
      clear hkn HEQ
      go_wp2_with fail
      exact bodyPost_ret (results_cell_tmp_holds rfl wideLv _ rfl q2 (by simp)) rfl ⟨by rw [HF.out.1, HF.out.2]; rfl, below_setRow' hb (by omega) _⟩

set_option maxRecDepth 100000 in
set_option maxHeartbeats 2000000 in
theorem implMvAll_any (L : Lawn) (hL : L.Fits) (g : Nat → Nat → Int) (hg : LevFits g) (B n : Nat) (v : Value) (l : List Hl) (hl : l.length = n) (hn : n ≤ 9223372036854775807) {a0 a1 a2 a3 a4 : Addr} (w : World) (hE : ErrsIn w a0 a1 a2 a3 a4) (ho : w.ownsRow B 41 5 v n (hlV l)) :
    Calls Tryd.prog 17 #[.agg L.cells, .agg (levV g), v] w fun e w' => e = .returned (.tuple #[.agg (levV (mvAG L g l)), .int .i64 (mvAC L g l)]) ∧ Below w.heap.size w w' := by
  obtain ⟨b, hv⟩ : ∃ b, levB L g = b := ⟨_, rfl⟩
  by_cases hgood : b = true ∧ n ≤ 60
  · obtain ⟨rfl, h60⟩ := hgood
    have e1 : mvAC L g l = mvC L g l := by unfold mvAC; rw [hv, if_pos rfl, if_neg (by omega)]
    have e2 : mvAG L g l = mvG L g l := by unfold mvAG; rw [hv, if_pos rfl, if_neg (by omega)]
    rw [e1, e2]
    exact implMvAll_good L hL g hg hv B n v l hl h60 w hE ho
  obtain ⟨c, hc⟩ : ∃ c : Int, c = if b then 3 else 1 := ⟨_, rfl⟩
  have e1 : mvAC L g l = c := by
    rw [hc]; unfold mvAC; rw [hv]
    cases b with
    | false => rfl
    | true => rw [if_pos rfl, if_pos (by simp at hgood; omega)]; rfl
  have e2 : mvAG L g l = fun _ _ => 0 := by
    unfold mvAG; rw [hv]
    cases b with
    | false => rfl
    | true => rw [if_pos rfl, if_pos (by simp at hgood; omega)]
  rw [e1, e2]
  have HVL := Lib.hid (show ∀ w : World, Calls Tryd.prog 35 #[.agg L.cells, .agg (levV g)] w fun e w' => e = .returned (.bool b) ∧ Below w.heap.size w w' from fun w => hv ▸ implLevels_any L hL g w)
  obtain ⟨av, cv, rfl⟩ := own_slice ho
  have hb60 : b = true → decide ((60 : Int) < (n : Int)) = true := fun h => by simp; have : ¬ n ≤ 60 := fun h2 => hgood ⟨h, h2⟩; omega
  have HB60 := Lib.hid hb60
  clear ho hE hl hL hg hv e1 e2 hgood hb60
  obtain ⟨s, hs⟩ : ∃ s, w.heap.size = s := ⟨_, rfl⟩
  obtain ⟨W0, hW0⟩ : ∃ W0, ((w.alloc (.cells L.cells 36)).alloc (.cells (levV g) 33)).alloc (.cells (levV fun _ _ => 0) 33) = W0 := ⟨_, rfl⟩
  have g0 : Holds W0 s L.cells := by rw [← hW0]; exact ((Holds.new' _ _ _ _ hs.symm).alloc _).alloc _
  have g1 : Holds W0 (s + 1) (levV g) := by rw [← hW0]; exact (Holds.new' _ _ _ _ (by simp; omega)).alloc _
  have g2 : Holds W0 (s + 1 + 1) (levV fun _ _ => 0) := by rw [← hW0]; exact Holds.new' _ _ _ _ (by simp; omega)
  have hb : Below s w W0 := by rw [← hW0]; exact (((Below.refl s w).alloc (by omega) _).alloc (by simp; omega) _).alloc (by simp; omega) _
  rw [hs]
  obtain ⟨r0, -, -, -, l0⟩ := g0.facts
  obtain ⟨r1, -, -, -, l1⟩ := g1.facts
  go_enter Tryd.func17, Tryd.ntmps17
  go_wp2_with fail
  clear hW0 r0 l0 r1 l1
  refine (HVL.out _).mono ?_
  rintro e w1 ⟨rfl, hb1⟩
  have k2 := g2.below hb1 g2.lt
  have hb2 : Below s w w1 := hb.trans (hb1.mono (by have := g0.lt; omega))
  obtain ⟨r2, f2, -, z2, l2⟩ := k2.facts
  clear g0 g1 g2 hb hb1
  cases b
  · simp only [Bool.false_eq_true, if_false] at hc
    subst hc
    go_wp2_with fail
    exact bodyPost_ret (results_cell_tmp_holds rfl wideLv _ rfl (k2.setRow (levV fun _ _ => 0)) (by simp)) rfl ⟨rfl, below_setRow' hb2 (by omega) _⟩
  · have hd := HB60.out rfl
    simp only [if_true] at hc
    subst hc
    go_wp2_with fail
    exact bodyPost_ret (results_cell_tmp_holds rfl wideLv _ rfl (k2.setRow (levV fun _ _ => 0)) (by simp)) rfl ⟨rfl, below_setRow' hb2 (by omega) _⟩
end Go.Proofs.YteaajkkhbflmdaaDoor
