/- passNights, of the program. -/
import Derived.Test.YteaajkkhbflmdaaDoorNight
namespace Go.Proofs.YteaajkkhbflmdaaDoor
open Go.RowKit Go.Shelf
set_option linter.unusedVariables false
set_option linter.unusedSimpArgs false
attribute [local go_sem ↓] loadRow loadGrid loadLawn loadMirror storeRow storeGrid storeLawn allocRow allocGrid allocLawn buildZero buildSides loadR8 loadL8 loadLv storeR8 storeLv allocR8 allocLv buildZLv

/-- Levels, the mole's cell and the one before, behind k nights. -/
def stQ (L : Lawn) (g : Nat → Nat → Int) (q : Q10) : Nat → (Nat → Nat → Int) × Q10 × Q10
  | 0 => (g, q, q)
  | k + 1 => (nightG (stQ L g q k).1 (nextQ L (stQ L g q k).1 (stQ L g q k).2.1 (stQ L g q k).2.2), nextQ L (stQ L g q k).1 (stQ L g q k).2.1 (stQ L g q k).2.2, (stQ L g q k).2.1)
theorem stQ_fine {L : Lawn} {g : Nat → Nat → Int} (hv : levB L g = true) {q : Q10} (hq : grassP L (ptQ q) = true) : ∀ k, levB L (stQ L g q k).1 = true ∧ grassP L (ptQ (stQ L g q k).2.1) = true
  | 0 => ⟨hv, hq⟩
  | k + 1 => by
    obtain ⟨h1, h2⟩ := stQ_fine hv hq k
    have h3 := nextQ_grass (levB_true hv).1 (stQ L g q k).1 (stQ L g q k).2.1 (stQ L g q k).2.2 h2
    exact ⟨night_fine h1 h3, h3⟩
/-- The cells at which it is. -/
def pathQ (L : Lawn) (g : Nat → Nat → Int) (q : Q10) (k : Nat) : List Q10 := (List.range (k + 1)).map fun i => (stQ L g q i).2.1
theorem pathQ_zero (L : Lawn) (g : Nat → Nat → Int) (q : Q10) : pathQ L g q 0 = [q] := rfl
theorem pathQ_succ (L : Lawn) (g : Nat → Nat → Int) (q : Q10) (k : Nat) : pathQ L g q (k + 1) = pathQ L g q k ++ [(stQ L g q (k + 1)).2.1] := by
  unfold pathQ
  rw [List.range_succ, List.map_append]
  rfl
theorem pathQ_length (L : Lawn) (g : Nat → Nat → Int) (q : Q10) (k : Nat) : (pathQ L g q k).length = k + 1 := by simp [pathQ]
theorem results_cell_own {P : Program} {fn : Func} {p u : Tmp} {ty : TypeId} {n : Nat} (h : fn.results = #[.cell p ty, .tmp u]) (hw : wideB P ty n = true) (tmps : Array Value) {w : World} {g : Nat} {cs : Array Value}
    (hp : tmps.getD p undef = .pointer (some ⟨g, 0, none⟩)) (hg : Holds w g cs) (hn : cs.size = n) {v : Value} (hv : tmps.getD u undef = v) : (results fn tmps).run P w = .ok (.tuple #[.agg cs, v]) w := hv ▸ results_cell_tmp_holds h hw tmps hp hg hn

set_option maxRecDepth 100000 in
set_option maxHeartbeats 4000000 in
theorem passNights_any (L : Lawn) (hL : L.Fits) (g : Nat → Nat → Int) (hv : levB L g = true) (q : Q10) (hq : grassP L (ptQ q) = true) (N : Nat) (hN : N ≤ 60) (w : World) :
    Calls Tryd.prog 44 #[.agg (levV g), .agg #[.int .i8 q.1.val, .int .i8 q.2.val], .int .i64 N, .func (.func 42) #[.agg L.cells] #[]] w fun e w' => (∃ v, e = .returned (.tuple #[.agg (levV (stQ L g q N).1), v]) ∧ w'.ownsRow w.heap.size 39 2 v (N + 1) (flatV (pathQ L g q N))) ∧ Below w.heap.size w w' := by
  obtain ⟨ci, hi, hz0, hz1, hz2⟩ := info_parts cellInfo
  have HCI := Lib.hid (show Tryd.prog.info? 39 = some ci ∧ ci.zero = some (.agg #[.int .i8 0, .int .i8 0]) ∧ ci.size = 2 ∧ ci.bytes = 2 from ⟨hi, hz0, hz1, hz2⟩)
  have HNI := Lib.hid (show ∀ (k : Nat) (w : World), Calls Tryd.prog 42 #[.agg L.cells, .agg (levV (stQ L g q k).1), .agg (moleV (stQ L g q k).2.1 (stQ L g q k).2.2)] w fun e w' => e = .returned (.tuple #[.agg (levV (stQ L g q (k + 1)).1), .agg (moleV (stQ L g q (k + 1)).2.1 (stQ L g q (k + 1)).2.2)]) ∧ Below w.heap.size w w' from fun k w => night_any L hL _ (stQ_fine hv hq k).1 _ _ w)
  have HE1 : ∀ args w, (callFunc 42 args).run Tryd.prog w = .ok (.enter 42 args) w := fun args w => enters_of Tryd.func42 (by kernel_rfl) rfl args w
  have HPS := Lib.hid (fun k => pathQ_succ L g q k)
  have HPL := Lib.hid (fun k => pathQ_length L g q k)
  have hP0 : pathQ L g q 0 = [q] := rfl
  have hS0 : (stQ L g q 0) = (g, q, q) := rfl
  obtain ⟨S, hS⟩ : ∃ S, stQ L g q = S := ⟨_, rfl⟩
  obtain ⟨P, hP⟩ : ∃ P, pathQ L g q = P := ⟨_, rfl⟩
  rw [hS] at HNI hS0 HPS ⊢
  rw [hP] at HPS HPL hP0 ⊢
  clear hi hz0 hz1 hz2 hS hP hv hq hL
  obtain ⟨s, hs⟩ : ∃ s, w.heap.size = s := ⟨_, rfl⟩
  obtain ⟨W0, hW0⟩ : ∃ W0, (((((w.alloc (.cells (levV g) 33)).alloc (.cells #[.int .i8 q.1.val, .int .i8 q.2.val] 39)).alloc (.cells (levV fun _ _ => 0) 33)).alloc (.cells #[.int .i8 q.1.val, .int .i8 q.2.val, .int .i8 q.1.val, .int .i8 q.2.val] 86)).alloc (.cells #[.int .i8 q.1.val, .int .i8 q.2.val] 39)) = W0 := ⟨_, rfl⟩
  have g0 : Holds W0 s (levV g) := by rw [← hW0]; exact ((((Holds.new' _ _ _ _ hs.symm).alloc _).alloc _).alloc _).alloc _
  have g2 : Holds W0 (s + 1 + 1) (levV fun _ _ => 0) := by rw [← hW0]; exact ((Holds.new' _ _ _ _ (by simp <;> omega)).alloc _).alloc _
  have g3 : Holds W0 (s + 1 + 1 + 1) (moleV q q) := by rw [← hW0]; exact (Holds.new' _ _ _ _ (by simp <;> omega)).alloc _
  have g4 : W0.ownsRow (s + 4) 39 2 (.slice (some ⟨s + 1 + 1 + 1 + 1, 0, none⟩) 1 1) 1 (flatV [q]) := by
    rw [← hW0]
    exact ⟨rfl, .inr ⟨s + 1 + 1 + 1 + 1, 1, #[.int .i8 q.1.val, .int .i8 q.2.val], rfl, by omega, by rw [show s + 1 + 1 + 1 + 1 = ((((w.alloc (.cells (levV g) 33)).alloc (.cells #[.int .i8 q.1.val, .int .i8 q.2.val] 39)).alloc (.cells (levV fun _ _ => 0) 33)).alloc (.cells #[.int .i8 q.1.val, .int .i8 q.2.val, .int .i8 q.1.val, .int .i8 q.2.val] 86)).heap.size by simp; omega]; exact heap_alloc_new _ _, Nat.le_refl _, by simp [maxLen], rfl, rfl⟩⟩
  have hb : Below s w W0 := by rw [← hW0]; exact (((((Below.refl s w).alloc (by omega) _).alloc (by simp; omega) _).alloc (by simp; omega) _).alloc (by simp; omega) _).alloc (by simp; omega) _
  rw [hs]
  go_enter Tryd.func44, Tryd.ntmps44
  go_wp2_with fail
  try rw [hW0]
  clear hW0
  go_loopw [11, 18] (fun v x wr => ∃ k : Nat, k ≤ N ∧ x = .int .i64 k ∧ Holds wr s (levV (S k).1) ∧ Holds wr (s + 1 + 1 + 1) (moleV (S k).2.1 (S k).2.2) ∧ Holds wr (s + 1 + 1) (levV fun _ _ => 0) ∧ wr.ownsRow (s + 4) 39 2 v (k + 1) (flatV (P k)) ∧ Below s w wr) (fun _ x _ => N - (intOf x).toNat)
  case atStart => exact ⟨0, by omega, rfl, by rw [hS0]; exact g0, by rw [hS0]; exact g3, g2, by rw [hP0]; exact g4, hb⟩
  case round =>
    obtain ⟨k, hk, rfl, k0, k3, k2, ho, hb⟩ := hrel
    have HO := Lib.hid ho
    clear ho g0 g2 g3 g4
    by_cases hlt : k < N
    · have hd : decide ((k : Int) < (N : Int)) = true := by simp; omega
      obtain ⟨r0, f0, -, z0, l0⟩ := k0.facts
      have c0 := (k3.cell 0).trans (show _ = some (.int .i8 (S k).2.1.1.val) from rfl)
      have c1 := (k3.cell 1).trans (show _ = some (.int .i8 (S k).2.1.2.val) from rfl)
      have c2 := (k3.cell 2).trans (show _ = some (.int .i8 (S k).2.2.1.val) from rfl)
      have c3 := (k3.cell 3).trans (show _ = some (.int .i8 (S k).2.2.2.val) from rfl)
      have l3 := k3.lt
      have HNK := Lib.hid (HNI.out k)
      have HPK := Lib.hid (HPS.out k)
      have HPN := Lib.hid (HPL.out k)
      obtain ⟨A, hA⟩ : ∃ A, S k = A := ⟨_, rfl⟩
      obtain ⟨C, hC⟩ : ∃ C, S (k + 1) = C := ⟨_, rfl⟩
      have HSC := Lib.hid hC
      rw [hA] at k0 k3 r0 c0 c1 c2 c3 HNK
      rw [hC] at HNK HPK
      clear hA hC
      go_wp2_with fail
      refine (HNK.out _).mono ?_
      rintro e w2 ⟨rfl, hb1⟩
      have m0 := k0.below hb1 k0.lt
      have m3 := k3.below hb1 k3.lt
      have m2 := k2.below hb1 k2.lt
      have HO2 := Lib.hid (own_below HO.out hb1)
      have hb2 : Below s w w2 := hb.trans (hb1.mono (by omega))
      have hz := m3.lt
      clear k0 k3 k2 hb hb1 HO r0 f0 z0 l0 c0 c1 c2 c3 l3
      obtain ⟨r0, f0, -, z0, l0⟩ := m0.facts
      have e1 : Holds (w2.setRow s (levV C.1)) (s + 1 + 1 + 1) (moleV A.2.1 A.2.2) := ((Only.refl [s] w2).setRow (g := s) (.inl (by simp)) (levV C.1)).holds m3 (by simp <;> omega)
      have e2 := e1.setCell 0 (.int .i8 C.2.1.1.val)
      have e3 := e2.setCell 1 (.int .i8 C.2.1.2.val)
      have e4 := e3.setCell 2 (.int .i8 C.2.2.1.val)
      have c30 := (e1.cell 0).trans (show _ = some (.int .i8 A.2.1.1.val) from rfl)
      have c31 := (e2.cell 1).trans (show _ = some (.int .i8 A.2.1.2.val) from rfl)
      have c32 := (e3.cell 2).trans (show _ = some (.int .i8 A.2.2.1.val) from rfl)
      have c33 := (e4.cell 3).trans (show _ = some (.int .i8 A.2.2.2.val) from rfl)
      have z30 := e1.free 0
      have z31 := e2.free 1
      have z32 := e3.free 2
      have z33 := e4.free 3
      clear e1 e2 e3 e4
      obtain ⟨W4, hW4⟩ : ∃ W4, ((((w2.setRow s (levV C.1)).setCell ⟨s + 1 + 1 + 1, 0, none⟩ (.int .i8 C.2.1.1.val)).setCell ⟨s + 1 + 1 + 1, 1, none⟩ (.int .i8 C.2.1.2.val)).setCell ⟨s + 1 + 1 + 1, 2, none⟩ (.int .i8 C.2.2.1.val)).setCell ⟨s + 1 + 1 + 1, 3, none⟩ (.int .i8 C.2.2.2.val) = W4 := ⟨_, rfl⟩
      have hO4 : Only [s, s + 1 + 1 + 1] w2 W4 := by rw [← hW4]; exact (((((Only.refl _ w2).setRow (.inl (by simp)) _).setCell (.inl (by simp)) _).setCell (.inl (by simp)) _).setCell (.inl (by simp)) _).setCell (.inl (by simp)) _
      have n0 : Holds W4 s (levV C.1) := by rw [← hW4]; exact ((((m0.setRow (levV C.1)).setCell_other _ _ (by dsimp only; omega)).setCell_other _ _ (by dsimp only; omega)).setCell_other _ _ (by dsimp only; omega)).setCell_other _ _ (by dsimp only; omega)
      have n3 : Holds W4 (s + 1 + 1 + 1) (moleV C.2.1 C.2.2) := by rw [← hW4]; exact ((((((Only.refl [s] w2).setRow (g := s) (.inl (by simp)) (levV C.1)).holds m3 (by simp <;> omega)).setCell 0 _).setCell 1 _).setCell 2 _).setCell 3 _
      have n2 := hO4.holds m2 (by simp <;> omega)
      have HO4 := Lib.hid (hO4.own HO2.out (fun z hz => by have := own_far HO2.out z hz; simp; omega))
      have hb4 : Below s w W4 := hb2.trans (hO4.toBelow (by simp; omega) (by omega))
      have hz4 := n3.lt
      have q0 := (n3.cell 0).trans (show _ = some (.int .i8 C.2.1.1.val) from rfl)
      have q1 := (n3.cell 1).trans (show _ = some (.int .i8 C.2.1.2.val) from rfl)
      simp only [moleV]
      clear m0 m2 m3 hb2 HO2 hO4
      go_wp2_with (at_builtin; refine wpList_append_own_at _ rfl _ _ 57 rfl (s + 4) 39 ci (.agg #[.int .i8 0, .int .i8 0]) 2 2 Tryd.underlying57 HCI.out.1 HCI.out.2.1 HCI.out.2.2.1 HCI.out.2.2.2 rfl (by decide) _ _ _ rfl (HO4.out.alloc _) ⟨W4.heap.size, 0, none⟩ 1 1 [.int .i8 C.2.1.1.val, .int .i8 C.2.1.2.val] rfl rfl ?c1 ?c2 ?c3 ?c4 ?c5 ?_)
      case c1 =>
        intro m z hz
        match m, hz with
        | 0, hz => simp at hz; subst hz; exact (Holds.new W4 #[.int .i8 C.2.1.1.val, .int .i8 C.2.1.2.val] 39).cell 0
        | 1, hz => simp at hz; subst hz; exact (Holds.new W4 #[.int .i8 C.2.1.1.val, .int .i8 C.2.1.2.val] 39).cell 1
      case c2 => intro z hz; simp at hz; rcases hz with rfl | rfl <;> rfl
      case c3 => unfold maxLen; omega
      case c4 => omega
      case c5 => simp; omega
      intro v' w9 hown' hgrow _ hat
      have ho9 : w9.ownsRow (s + 4) 39 2 v' (k + 1 + 1) (flatV (P (k + 1))) := by
        rw [HPK.out, flatV_append]
        exact hown'
      have p0 := held_grown (n0.alloc (.cells #[.int .i8 C.2.1.1.val, .int .i8 C.2.1.2.val] 39)) (HO4.out.alloc _) hgrow (by omega)
      have p2 := held_grown (n2.alloc (.cells #[.int .i8 C.2.1.1.val, .int .i8 C.2.1.2.val] 39)) (HO4.out.alloc _) hgrow (by omega)
      have p3 := held_grown (n3.alloc (.cells #[.int .i8 C.2.1.1.val, .int .i8 C.2.1.2.val] 39)) (HO4.out.alloc _) hgrow (by omega)
      have hb9 : Below s w w9 := (hb4.alloc (by omega) (.cells #[.int .i8 C.2.1.1.val, .int .i8 C.2.1.2.val] 39)).grown hgrow (by simp; omega) (fun z hz => by have := own_far HO4.out z hz; omega)
      have HO9 := Lib.hid ho9
      clear hown' hgrow hat ho9 n0 n2 n3 hb4 HO4 q0 q1
      go_wp2_with fail
      go_roundw
      case rel => exact ⟨k + 1, by omega, by go_num, by rw [HSC.out]; exact p0, by rw [HSC.out]; exact p3, p2, HO9.out, hb9⟩
      case measure => simp [intOf]; omega
    · have hd : decide ((k : Int) < (N : Int)) = false := by simp; omega
      have hkN : k = N := by omega
      rw [hkN] at HO k0
      obtain ⟨av, cv, hve⟩ := own_slice HO.out
      subst hve
      obtain ⟨r0, f0, -, z0, l0⟩ := k0.facts
      obtain ⟨r2, f2, -, z2, l2⟩ := k2.facts
      have q2 := k2.setRow (levV (S N).1)
      have HF := Lib.hid (show (wr.setRow (s + 1 + 1) (levV (S N).1)).ownsRow s 39 2 (.slice av (N + 1) cv) (N + 1) (flatV (P N)) from ownsRow_low (((Only.refl [s + 1 + 1] wr).setRow (.inl (by simp)) _).own HO.out (fun z hz => by have := own_far HO.out z hz; simp; omega)) (by omega))
      clear hkN k3
      go_wp2_with fail
      exact bodyPost_ret (results_cell_own (v := .slice av (N + 1) cv) rfl wideLv _ rfl q2 (by simp) rfl) rfl ⟨⟨_, rfl, HF.out⟩, below_setRow' hb (by omega) _⟩
end Go.Proofs.YteaajkkhbflmdaaDoor
