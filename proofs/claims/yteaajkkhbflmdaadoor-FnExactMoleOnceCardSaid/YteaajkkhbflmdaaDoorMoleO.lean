/- MoleOnce, of the program and of the model. -/
import Derived.Test.YteaajkkhbflmdaaDoorINightF
import Derived.Test.YteaajkkhbflmdaaDoorCellSt
namespace Go.Proofs.YteaajkkhbflmdaaDoor
open Go.RowKit Go.Shelf
set_option linter.unusedVariables false
set_option linter.unusedSimpArgs false
attribute [local go_sem ↓] loadRow loadGrid loadLawn loadMirror storeRow storeGrid storeLawn allocRow allocGrid allocLawn buildZero buildSides loadR8 loadL8 loadLv storeR8 storeLv allocR8 allocLv buildZLv storeCl

theorem results_cells_ct {P : Program} {fn : Func} {p u z : Tmp} {ty ty2 : TypeId} {n m : Nat} (h : fn.results = #[.cell p ty, .cell u ty2, .tmp z]) (hw : wideB P ty n = true) (hw2 : wideB P ty2 m = true) (tmps : Array Value) {w : World} {g k : Nat} {cs ds : Array Value}
    (hp : tmps.getD p undef = .pointer (some ⟨g, 0, none⟩)) (hu : tmps.getD u undef = .pointer (some ⟨k, 0, none⟩)) (hg : Holds w g cs) (hn : cs.size = n) (hk : Holds w k ds) (hm : ds.size = m) {v2 : Value} (hv2 : tmps.getD z undef = v2) : (results fn tmps).run P w = .ok (.tuple #[.agg cs, .agg ds, v2]) w := by
  have hp' : tmps[p]?.getD undef = .pointer (some ⟨g, 0, none⟩) := by simpa using hp
  have hu' : tmps[u]?.getD undef = .pointer (some ⟨k, 0, none⟩) := by simpa using hu
  have hv2' : tmps[z]?.getD undef = v2 := by simpa using hv2
  simp [results, h, hp', hu', hv2', asAddr, (wide_of hw).loadVar hg hn, (wide_of hw2).loadVar hk hm]

set_option maxRecDepth 100000 in
set_option maxHeartbeats 4000000 in
theorem ionce_bad (L : Lawn) (hL : L.Fits) (g : Nat → Nat → Int) (x y x' y' : Int) (k : Nat) (hk : chkE L g true [(x, y), (x', y')] = some k) {a0 a1 a2 a3 a4 : Addr} (w : World) (hE : ErrsIn w a0 a1 a2 a3 a4) :
    Calls Tryd.prog 21 #[.agg L.cells, .agg (levV g), .agg #[.int .i8 x, .int .i8 y], .agg #[.int .i8 x', .int .i8 y']] w fun e w' => e = .returned (.tuple #[.agg (levV fun _ _ => 0), .agg #[.int .i8 0, .int .i8 0], .int .i64 (errZ k)]) ∧ Below w.heap.size w w' := by
  obtain ⟨s, hs⟩ : ∃ s, w.heap.size = s := ⟨_, rfl⟩
  obtain ⟨aE, hv, hco⟩ := chk_code (a0 := a0) (a1 := a1) (a2 := a2) (a3 := a3) (a4 := a4) hk
  have HCK := Lib.hid (show ∀ (w : World) (B : Nat) (v : Value), ErrsIn w a0 a1 a2 a3 a4 → w.ownsRow B 39 2 v 2 (flatP [(x, y), (x', y')]) → Calls Tryd.prog 41 #[.agg L.cells, .agg (levV g), .int .i64 1, v] w fun e w' => e = .returned (.iface 137 (.pointer (some aE))) ∧ Below w.heap.size w w' from fun w B v hE ho => by
    have h := checkMoles_any L hL g 1 B 2 v (by omega) [(x, y), (x', y')] rfl w hE ho
    rwa [show upZ 1 60 = true from rfl, hk, hv] at h)
  have HCO := Lib.hid hco
  obtain ⟨z, hz⟩ : ∃ z, errZ k = z := ⟨_, rfl⟩
  rw [hz] at HCO ⊢
  clear hL hk hv hco hz
  obtain ⟨W0, hW0⟩ : ∃ W0, (((((w.alloc (.cells L.cells 36)).alloc (.cells (levV g) 33)).alloc (.cells #[.int .i8 x, .int .i8 y] 39)).alloc (.cells #[.int .i8 x', .int .i8 y'] 39)).alloc (.cells (levV fun _ _ => 0) 33)).alloc (.cells #[.int .i8 0, .int .i8 0] 39) = W0 := ⟨_, rfl⟩
  have g0 : Holds W0 s L.cells := by rw [← hW0]; exact (((((Holds.new' _ _ _ _ hs.symm).alloc _).alloc _).alloc _).alloc _).alloc _
  have g1 : Holds W0 (s + 1) (levV g) := by rw [← hW0]; exact ((((Holds.new' _ _ _ _ (by simp <;> omega)).alloc _).alloc _).alloc _).alloc _
  have g2 : Holds W0 (s + 1 + 1) #[.int .i8 x, .int .i8 y] := by rw [← hW0]; exact (((Holds.new' _ _ _ _ (by simp <;> omega)).alloc _).alloc _).alloc _
  have g3 : Holds W0 (s + 1 + 1 + 1) #[.int .i8 x', .int .i8 y'] := by rw [← hW0]; exact ((Holds.new' _ _ _ _ (by simp <;> omega)).alloc _).alloc _
  have g4 : Holds W0 (s + 1 + 1 + 1 + 1) (levV fun _ _ => 0) := by rw [← hW0]; exact (Holds.new' _ _ _ _ (by simp <;> omega)).alloc _
  have g5 : Holds W0 (s + 1 + 1 + 1 + 1 + 1) #[.int .i8 0, .int .i8 0] := by rw [← hW0]; exact Holds.new' _ _ _ _ (by simp <;> omega)
  have hb : Below s w W0 := by rw [← hW0]; exact ((((((Below.refl s w).alloc (by omega) _).alloc (by simp; omega) _).alloc (by simp; omega) _).alloc (by simp; omega) _).alloc (by simp; omega) _).alloc (by simp; omega) _
  have hE0 : ErrsIn W0 a0 a1 a2 a3 a4 := hE.below (hs.symm ▸ hb)
  have HE := Lib.hid hE0
  obtain ⟨r0, -, -, -, l0⟩ := g0.facts
  obtain ⟨r1, -, -, -, l1⟩ := g1.facts
  have l2 := g2.lt
  have l3 := g3.lt
  have c20 := (g2.cell 0).trans (show _ = some (.int .i8 x) from rfl)
  have c21 := (g2.cell 1).trans (show _ = some (.int .i8 y) from rfl)
  have c30 := (g3.cell 0).trans (show _ = some (.int .i8 x') from rfl)
  have c31 := (g3.cell 1).trans (show _ = some (.int .i8 y') from rfl)
  have k0 := g0.alloc (.cells #[.int .i8 x, .int .i8 y, .int .i8 x', .int .i8 y'] 39)
  have k1 := g1.alloc (.cells #[.int .i8 x, .int .i8 y, .int .i8 x', .int .i8 y'] 39)
  have k2 := g2.alloc (.cells #[.int .i8 x, .int .i8 y, .int .i8 x', .int .i8 y'] 39)
  have k3 := g3.alloc (.cells #[.int .i8 x, .int .i8 y, .int .i8 x', .int .i8 y'] 39)
  have k4 := g4.alloc (.cells #[.int .i8 x, .int .i8 y, .int .i8 x', .int .i8 y'] 39)
  have k5 := g5.alloc (.cells #[.int .i8 x, .int .i8 y, .int .i8 x', .int .i8 y'] 39)
  have HOW := Lib.hid (own_cell2 W0 x y x' y')
  have hbA : Below W0.heap.size W0 (W0.alloc (.cells #[.int .i8 x, .int .i8 y, .int .i8 x', .int .i8 y'] 39)) := (Below.refl _ _).alloc (Nat.le_refl _) _
  have hEA := hE0.below hbA
  clear hE hE0
  clear g0 g1 g2 g3 g4 g5
  rw [hs]
  go_enter Tryd.func21, Tryd.ntmps21
  go_wp2_with fail
  try rw [hW0]
  clear hW0
  refine (HCK.out _ _ _ hEA HOW.out).mono ?_
  rintro e w1 ⟨rfl, hb1⟩
  have hbB := below_onto hbA hb1
  have hb2 : Below s w w1 := hb.trans (hbB.mono (by omega))
  have m0 := k0.below hb1 k0.lt
  have m1 := k1.below hb1 k1.lt
  have m2 := k2.below hb1 k2.lt
  have m3 := k3.below hb1 k3.lt
  have m4 := k4.below hb1 k4.lt
  have m5 := k5.below hb1 k5.lt
  have HE1 := Lib.hid (HE.out.below hbB)
  clear k0 k1 k2 k3 k4 k5 c20 c21 c30 c31 hb hb1 hbA hbB r0 r1 l0 l1 l2 l3 HOW hEA HE HCK
  obtain ⟨r4, f4, -, -, l4⟩ := m4.facts
  obtain ⟨r5, f5, -, -, l5⟩ := m5.facts
  have HF := Lib.hid (show Holds ((w1.setRow (s + 1 + 1 + 1 + 1) (levV fun _ _ => 0)).setRow (s + 1 + 1 + 1 + 1 + 1) #[.int .i8 0, .int .i8 0]) (s + 1 + 1 + 1 + 1) (levV fun _ _ => 0) ∧ Holds ((w1.setRow (s + 1 + 1 + 1 + 1) (levV fun _ _ => 0)).setRow (s + 1 + 1 + 1 + 1 + 1) #[.int .i8 0, .int .i8 0]) (s + 1 + 1 + 1 + 1 + 1) #[.int .i8 0, .int .i8 0] ∧ Below s w ((w1.setRow (s + 1 + 1 + 1 + 1) (levV fun _ _ => 0)).setRow (s + 1 + 1 + 1 + 1 + 1) #[.int .i8 0, .int .i8 0]) from
    ⟨(m4.setRow _).setRow_other _ (by omega), (m5.setRow_other _ (by omega)).setRow _, below_setRow' (below_setRow' hb2 (by omega) _) (by omega) _⟩)
  clear m0 m1 m2 m3 m4 m5
  go_wp2_with fail
  refine (HCO.out _ HE1.out).mono ?_
  rintro e w2 ⟨rfl, hw2⟩
  rw [hw2]
  clear hw2
  go_wp2_with fail
  exact bodyPost_ret (results_cells_ct (v2 := .int .i64 z) rfl wideLv wideCl _ rfl rfl HF.out.1 (by simp) HF.out.2.1 rfl rfl) rfl ⟨rfl, HF.out.2.2⟩
set_option maxRecDepth 100000 in
set_option maxHeartbeats 4000000 in
theorem sonce_bad (L : Lawn) (hL : L.Fits) (g : Nat → Nat → Int) (hg : LevFits g) (x y x' y' : Int) (hf : (-128 ≤ x ∧ x ≤ 127) ∧ -128 ≤ y ∧ y ≤ 127) (hf' : (-128 ≤ x' ∧ x' ≤ 127) ∧ -128 ≤ y' ∧ y' ≤ 127) (c : Int) (hc : chkC L g true [(x, y), (x', y')] = c) (hne : c ≠ 0) (w : World) :
    Calls Tryd.prog 19 #[.agg L.cells, .agg (levV g), .agg #[.int .i8 x, .int .i8 y], .agg #[.int .i8 x', .int .i8 y']] w fun e w' => e = .returned (.tuple #[.agg (levV fun _ _ => 0), .agg #[.int .i8 0, .int .i8 0], .int .i64 c]) ∧ Below w.heap.size w w' := by
  obtain ⟨s, hs⟩ : ∃ s, w.heap.size = s := ⟨_, rfl⟩
  have HBL := Lib.hid (show ∀ (w : World) (B : Nat) (v : Value), Holds w s L.cells → Holds w (s + 1) (levV g) → w.ownsRow B 39 2 v 2 (flatP [(x, y), (x', y')]) → Calls Tryd.prog 39 #[.pointer (some ⟨s, 0, none⟩), .pointer (some ⟨s + 1, 0, none⟩), v, .bool true] w fun e w' => e = .returned (.int .i64 c) ∧ Below w.heap.size w w' from fun w B v kl kg ho => by
    have h := sbelow_any L hL g hg s (s + 1) true B 2 v (by omega) [(x, y), (x', y')] rfl (fun d hd => by
      simp only [List.mem_cons, List.not_mem_nil, or_false] at hd
      rcases hd with rfl | rfl
      · exact hf
      · exact hf') w kl kg ho
    rwa [hc] at h)
  have hcc : (c != 0) = true := by simpa using hne
  clear hL hg hf hf' hc
  obtain ⟨W0, hW0⟩ : ∃ W0, (((((w.alloc (.cells L.cells 36)).alloc (.cells (levV g) 33)).alloc (.cells #[.int .i8 x, .int .i8 y] 39)).alloc (.cells #[.int .i8 x', .int .i8 y'] 39)).alloc (.cells (levV fun _ _ => 0) 33)).alloc (.cells #[.int .i8 0, .int .i8 0] 39) = W0 := ⟨_, rfl⟩
  have g0 : Holds W0 s L.cells := by rw [← hW0]; exact (((((Holds.new' _ _ _ _ hs.symm).alloc _).alloc _).alloc _).alloc _).alloc _
  have g1 : Holds W0 (s + 1) (levV g) := by rw [← hW0]; exact ((((Holds.new' _ _ _ _ (by simp <;> omega)).alloc _).alloc _).alloc _).alloc _
  have g2 : Holds W0 (s + 1 + 1) #[.int .i8 x, .int .i8 y] := by rw [← hW0]; exact (((Holds.new' _ _ _ _ (by simp <;> omega)).alloc _).alloc _).alloc _
  have g3 : Holds W0 (s + 1 + 1 + 1) #[.int .i8 x', .int .i8 y'] := by rw [← hW0]; exact ((Holds.new' _ _ _ _ (by simp <;> omega)).alloc _).alloc _
  have g4 : Holds W0 (s + 1 + 1 + 1 + 1) (levV fun _ _ => 0) := by rw [← hW0]; exact (Holds.new' _ _ _ _ (by simp <;> omega)).alloc _
  have g5 : Holds W0 (s + 1 + 1 + 1 + 1 + 1) #[.int .i8 0, .int .i8 0] := by rw [← hW0]; exact Holds.new' _ _ _ _ (by simp <;> omega)
  have hb : Below s w W0 := by rw [← hW0]; exact ((((((Below.refl s w).alloc (by omega) _).alloc (by simp; omega) _).alloc (by simp; omega) _).alloc (by simp; omega) _).alloc (by simp; omega) _).alloc (by simp; omega) _
  obtain ⟨r0, -, -, -, l0⟩ := g0.facts
  obtain ⟨r1, -, -, -, l1⟩ := g1.facts
  have l2 := g2.lt
  have l3 := g3.lt
  have c20 := (g2.cell 0).trans (show _ = some (.int .i8 x) from rfl)
  have c21 := (g2.cell 1).trans (show _ = some (.int .i8 y) from rfl)
  have c30 := (g3.cell 0).trans (show _ = some (.int .i8 x') from rfl)
  have c31 := (g3.cell 1).trans (show _ = some (.int .i8 y') from rfl)
  have k0 := g0.alloc (.cells #[.int .i8 x, .int .i8 y, .int .i8 x', .int .i8 y'] 39)
  have k1 := g1.alloc (.cells #[.int .i8 x, .int .i8 y, .int .i8 x', .int .i8 y'] 39)
  have k2 := g2.alloc (.cells #[.int .i8 x, .int .i8 y, .int .i8 x', .int .i8 y'] 39)
  have k3 := g3.alloc (.cells #[.int .i8 x, .int .i8 y, .int .i8 x', .int .i8 y'] 39)
  have k4 := g4.alloc (.cells #[.int .i8 x, .int .i8 y, .int .i8 x', .int .i8 y'] 39)
  have k5 := g5.alloc (.cells #[.int .i8 x, .int .i8 y, .int .i8 x', .int .i8 y'] 39)
  have HOW := Lib.hid (own_cell2 W0 x y x' y')
  have hbA : Below W0.heap.size W0 (W0.alloc (.cells #[.int .i8 x, .int .i8 y, .int .i8 x', .int .i8 y'] 39)) := (Below.refl _ _).alloc (Nat.le_refl _) _
  clear g0 g1 g2 g3 g4 g5
  rw [hs]
  go_enter Tryd.func19, Tryd.ntmps19
  go_wp2_with fail
  try rw [hW0]
  clear hW0
  refine (HBL.out _ _ _ k0 k1 HOW.out).mono ?_
  rintro e w1 ⟨rfl, hb1⟩
  have hbB := below_onto hbA hb1
  have hb2 : Below s w w1 := hb.trans (hbB.mono (by omega))
  have m0 := k0.below hb1 k0.lt
  have m1 := k1.below hb1 k1.lt
  have m2 := k2.below hb1 k2.lt
  have m3 := k3.below hb1 k3.lt
  have m4 := k4.below hb1 k4.lt
  have m5 := k5.below hb1 k5.lt
  clear k0 k1 k2 k3 k4 k5 c20 c21 c30 c31 hb hb1 hbA hbB r0 r1 l0 l1 l2 l3 HOW
  obtain ⟨r4, f4, -, -, l4⟩ := m4.facts
  obtain ⟨r5, f5, -, -, l5⟩ := m5.facts
  have HF := Lib.hid (show Holds ((w1.setRow (s + 1 + 1 + 1 + 1) (levV fun _ _ => 0)).setRow (s + 1 + 1 + 1 + 1 + 1) #[.int .i8 0, .int .i8 0]) (s + 1 + 1 + 1 + 1) (levV fun _ _ => 0) ∧ Holds ((w1.setRow (s + 1 + 1 + 1 + 1) (levV fun _ _ => 0)).setRow (s + 1 + 1 + 1 + 1 + 1) #[.int .i8 0, .int .i8 0]) (s + 1 + 1 + 1 + 1 + 1) #[.int .i8 0, .int .i8 0] ∧ Below s w ((w1.setRow (s + 1 + 1 + 1 + 1) (levV fun _ _ => 0)).setRow (s + 1 + 1 + 1 + 1 + 1) #[.int .i8 0, .int .i8 0]) from
    ⟨(m4.setRow _).setRow_other _ (by omega), (m5.setRow_other _ (by omega)).setRow _, below_setRow' (below_setRow' hb2 (by omega) _) (by omega) _⟩)
  clear m0 m1 m2 m3 m4 m5
  go_wp2_with fail
  exact bodyPost_ret (results_cells_ct (v2 := .int .i64 c) rfl wideLv wideCl _ rfl rfl HF.out.1 (by simp) HF.out.2.1 rfl rfl) rfl ⟨rfl, HF.out.2.2⟩
set_option maxRecDepth 100000 in
set_option maxHeartbeats 4000000 in
theorem ionce_good (L : Lawn) (hL : L.Fits) (g : Nat → Nat → Int) (hv : levB L g = true) (q t : Q10) (hq : grassP L (ptQ q) = true) (ht : grassP L (ptQ t) = true) {a0 a1 a2 a3 a4 : Addr} (w : World) (hE : ErrsIn w a0 a1 a2 a3 a4) :
    Calls Tryd.prog 21 #[.agg L.cells, .agg (levV g), .agg #[.int .i8 q.1.val, .int .i8 q.2.val], .agg #[.int .i8 t.1.val, .int .i8 t.2.val]] w fun e w' => e = .returned (.tuple #[.agg (levV (nightG g (nextQ L g q t))), .agg #[.int .i8 (nextQ L g q t).1.val, .int .i8 (nextQ L g q t).2.val], .int .i64 0]) ∧ Below w.heap.size w w' := by
  obtain ⟨s, hs⟩ : ∃ s, w.heap.size = s := ⟨_, rfl⟩
  have HCK := Lib.hid (show ∀ (w : World) (B : Nat) (v : Value), ErrsIn w a0 a1 a2 a3 a4 → w.ownsRow B 39 2 v 2 (flatP [((q.1.val : Int), (q.2.val : Int)), ((t.1.val : Int), (t.2.val : Int))]) → Calls Tryd.prog 41 #[.agg L.cells, .agg (levV g), .int .i64 1, v] w fun e w' => e = .returned .nilIface ∧ Below w.heap.size w w' from fun w B v hE ho => by
    have h := checkMoles_any L hL g 1 B 2 v (by omega) [ptQ q, ptQ t] rfl w hE ho
    rwa [show upZ 1 60 = true from rfl, chkE_good hv (fun c hc => by
      simp only [List.mem_cons, List.not_mem_nil, or_false] at hc
      rcases hc with rfl | rfl
      · exact hq
      · exact ht)] at h)
  have HNI := Lib.hid (show ∀ w, Calls Tryd.prog 42 #[.agg L.cells, .agg (levV g), .agg #[.int .i8 q.1.val, .int .i8 q.2.val, .int .i8 t.1.val, .int .i8 t.2.val]] w fun e w' => e = .returned (.tuple #[.agg (levV (nightG g (nextQ L g q t))), .agg #[.int .i8 (nextQ L g q t).1.val, .int .i8 (nextQ L g q t).2.val, .int .i8 q.1.val, .int .i8 q.2.val]]) ∧ Below w.heap.size w w' from fun w => night_any L hL g hv q t w)
  obtain ⟨NX, hNX⟩ : ∃ NX, nextQ L g q t = NX := ⟨_, rfl⟩
  rw [hNX] at HNI ⊢
  obtain ⟨G9, hG9⟩ : ∃ G9, nightG g NX = G9 := ⟨_, rfl⟩
  rw [hG9] at HNI ⊢
  obtain ⟨q1, hq1'⟩ : ∃ k : Nat, q.1.val = k := ⟨_, rfl⟩
  obtain ⟨q2, hq2'⟩ : ∃ k : Nat, q.2.val = k := ⟨_, rfl⟩
  obtain ⟨t1, ht1'⟩ : ∃ k : Nat, t.1.val = k := ⟨_, rfl⟩
  obtain ⟨t2, ht2'⟩ : ∃ k : Nat, t.2.val = k := ⟨_, rfl⟩
  obtain ⟨n1, hn1'⟩ : ∃ k : Nat, NX.1.val = k := ⟨_, rfl⟩
  obtain ⟨n2, hn2'⟩ : ∃ k : Nat, NX.2.val = k := ⟨_, rfl⟩
  rw [hq1', hq2', ht1', ht2', hn1', hn2'] at HNI
  rw [hq1', hq2', ht1', ht2'] at HCK
  rw [hq1', hq2', ht1', ht2', hn1', hn2']
  clear hL hv hq ht hNX hG9 hq1' hq2' ht1' ht2' hn1' hn2'
  obtain ⟨W0, hW0⟩ : ∃ W0, (((((w.alloc (.cells L.cells 36)).alloc (.cells (levV g) 33)).alloc (.cells #[.int .i8 q1, .int .i8 q2] 39)).alloc (.cells #[.int .i8 t1, .int .i8 t2] 39)).alloc (.cells (levV fun _ _ => 0) 33)).alloc (.cells #[.int .i8 0, .int .i8 0] 39) = W0 := ⟨_, rfl⟩
  have g0 : Holds W0 s L.cells := by rw [← hW0]; exact (((((Holds.new' _ _ _ _ hs.symm).alloc _).alloc _).alloc _).alloc _).alloc _
  have g1 : Holds W0 (s + 1) (levV g) := by rw [← hW0]; exact ((((Holds.new' _ _ _ _ (by simp <;> omega)).alloc _).alloc _).alloc _).alloc _
  have g2 : Holds W0 (s + 1 + 1) #[.int .i8 q1, .int .i8 q2] := by rw [← hW0]; exact (((Holds.new' _ _ _ _ (by simp <;> omega)).alloc _).alloc _).alloc _
  have g3 : Holds W0 (s + 1 + 1 + 1) #[.int .i8 t1, .int .i8 t2] := by rw [← hW0]; exact ((Holds.new' _ _ _ _ (by simp <;> omega)).alloc _).alloc _
  have g4 : Holds W0 (s + 1 + 1 + 1 + 1) (levV fun _ _ => 0) := by rw [← hW0]; exact (Holds.new' _ _ _ _ (by simp <;> omega)).alloc _
  have g5 : Holds W0 (s + 1 + 1 + 1 + 1 + 1) #[.int .i8 0, .int .i8 0] := by rw [← hW0]; exact Holds.new' _ _ _ _ (by simp <;> omega)
  have hb : Below s w W0 := by rw [← hW0]; exact ((((((Below.refl s w).alloc (by omega) _).alloc (by simp; omega) _).alloc (by simp; omega) _).alloc (by simp; omega) _).alloc (by simp; omega) _).alloc (by simp; omega) _
  have hE0 : ErrsIn W0 a0 a1 a2 a3 a4 := hE.below (hs.symm ▸ hb)
  have HE := Lib.hid hE0
  obtain ⟨r0, -, -, -, l0⟩ := g0.facts
  obtain ⟨r1, -, -, -, l1⟩ := g1.facts
  have l2 := g2.lt
  have l3 := g3.lt
  have c20 := (g2.cell 0).trans (show _ = some (.int .i8 q1) from rfl)
  have c21 := (g2.cell 1).trans (show _ = some (.int .i8 q2) from rfl)
  have c30 := (g3.cell 0).trans (show _ = some (.int .i8 t1) from rfl)
  have c31 := (g3.cell 1).trans (show _ = some (.int .i8 t2) from rfl)
  have k0 := g0.alloc (.cells #[.int .i8 q1, .int .i8 q2, .int .i8 t1, .int .i8 t2] 39)
  have k1 := g1.alloc (.cells #[.int .i8 q1, .int .i8 q2, .int .i8 t1, .int .i8 t2] 39)
  have k2 := g2.alloc (.cells #[.int .i8 q1, .int .i8 q2, .int .i8 t1, .int .i8 t2] 39)
  have k3 := g3.alloc (.cells #[.int .i8 q1, .int .i8 q2, .int .i8 t1, .int .i8 t2] 39)
  have k4 := g4.alloc (.cells #[.int .i8 q1, .int .i8 q2, .int .i8 t1, .int .i8 t2] 39)
  have k5 := g5.alloc (.cells #[.int .i8 q1, .int .i8 q2, .int .i8 t1, .int .i8 t2] 39)
  have HOW := Lib.hid (own_cell2 W0 q1 q2 t1 t2)
  have hbA : Below W0.heap.size W0 (W0.alloc (.cells #[.int .i8 q1, .int .i8 q2, .int .i8 t1, .int .i8 t2] 39)) := (Below.refl _ _).alloc (Nat.le_refl _) _
  have hEA := hE0.below hbA
  clear hE hE0
  clear g0 g1 g2 g3 g4 g5
  rw [hs]
  go_enter Tryd.func21, Tryd.ntmps21
  go_wp2_with fail
  try rw [hW0]
  clear hW0
  refine (HCK.out _ _ _ hEA HOW.out).mono ?_
  rintro e w1 ⟨rfl, hb1⟩
  have hbB := below_onto hbA hb1
  have hb2 : Below s w w1 := hb.trans (hbB.mono (by omega))
  have m0 := k0.below hb1 k0.lt
  have m1 := k1.below hb1 k1.lt
  have m2 := k2.below hb1 k2.lt
  have m3 := k3.below hb1 k3.lt
  have m4 := k4.below hb1 k4.lt
  have m5 := k5.below hb1 k5.lt
  clear k0 k1 k2 k3 k4 k5 c20 c21 c30 c31 hb hb1 hbA hbB r0 r1 l0 l1 l2 l3 HOW hEA HE HCK
  obtain ⟨r0, -, -, -, l0⟩ := m0.facts
  obtain ⟨r1, -, -, -, l1⟩ := m1.facts
  have l2 := m2.lt
  have l3 := m3.lt
  have c20 := (m2.cell 0).trans (show _ = some (.int .i8 q1) from rfl)
  have c21 := (m2.cell 1).trans (show _ = some (.int .i8 q2) from rfl)
  have c30 := (m3.cell 0).trans (show _ = some (.int .i8 t1) from rfl)
  have c31 := (m3.cell 1).trans (show _ = some (.int .i8 t2) from rfl)
  go_wp2_with fail
  refine (HNI.out _).mono ?_
  rintro e w2 ⟨rfl, hb3⟩
  have u4 := m4.below hb3 m4.lt
  have u5 := m5.below hb3 m5.lt
  have hb4 : Below s w w2 := hb2.trans (hb3.mono (by have := hb2.size; omega))
  obtain ⟨p, hp⟩ : ∃ p, w2.heap.size = p := ⟨_, rfl⟩
  have l5' := u5.lt
  rw [hp] at l5'
  obtain ⟨W3, hW3⟩ : ∃ W3, (w2.alloc (.cells (levV G9) 33)).alloc (.cells #[.int .i8 n1, .int .i8 n2, .int .i8 q1, .int .i8 q2] 86) = W3 := ⟨_, rfl⟩
  have v1 : Holds W3 p (levV G9) := by rw [← hW3]; exact (Holds.new' _ _ _ _ hp.symm).alloc _
  have v2 : Holds W3 (p + 1) #[.int .i8 n1, .int .i8 n2, .int .i8 q1, .int .i8 q2] := by rw [← hW3]; exact Holds.new' _ _ _ _ (by simp <;> omega)
  have v4 : Holds W3 (s + 1 + 1 + 1 + 1) (levV fun _ _ => 0) := by rw [← hW3]; exact (u4.alloc _).alloc _
  have v5 : Holds W3 (s + 1 + 1 + 1 + 1 + 1) #[.int .i8 0, .int .i8 0] := by rw [← hW3]; exact (u5.alloc _).alloc _
  have hb5 : Below s w W3 := by rw [← hW3]; exact (hb4.alloc (by have := hb4.size; omega) _).alloc (by have := hb4.size; simp; omega) _
  clear m0 m1 m2 m3 m4 m5 r0 l0 r1 l1 l2 l3 c20 c21 c30 c31 hb2 hb3 HNI u4 u5 hb4
  go_wp2_with fail
  try rw [hp]
  try rw [hW3]
  clear hW3 hp
  obtain ⟨r1, -, -, -, l1⟩ := v1.facts
  have l2 := v2.lt
  have c20 := (v2.cell 0).trans (show _ = some (.int .i8 n1) from rfl)
  have c21 := (v2.cell 1).trans (show _ = some (.int .i8 n2) from rfl)
  obtain ⟨r4, f4, -, -, l4⟩ := v4.facts
  obtain ⟨r5, f5, -, -, l5⟩ := v5.facts
  have d1 : ¬ p = s + 1 + 1 + 1 + 1 := by omega
  have d2 : ¬ p = s + 1 + 1 + 1 + 1 + 1 := by omega
  have d3 : ¬ p + 1 = s + 1 + 1 + 1 + 1 := by omega
  have d4 : ¬ p + 1 = s + 1 + 1 + 1 + 1 + 1 := by omega
  have d5 : ¬ s + 1 + 1 + 1 + 1 = p := by omega
  have d6 : ¬ s + 1 + 1 + 1 + 1 + 1 = p := by omega
  have d7 : ¬ s + 1 + 1 + 1 + 1 = p + 1 := by omega
  have d8 : ¬ s + 1 + 1 + 1 + 1 + 1 = p + 1 := by omega
  have e1 := (((Only.refl [s + 1 + 1 + 1 + 1] W3).setRow (g := s + 1 + 1 + 1 + 1) (.inl (by simp)) (levV G9)).holds v2 (by simp <;> omega))
  have e10 := (e1.cell 0).trans (show _ = some (.int .i8 n1) from rfl)
  have e11 := (e1.cell 1).trans (show _ = some (.int .i8 n2) from rfl)
  clear e1
  have HF := Lib.hid (show Holds ((W3.setRow (s + 1 + 1 + 1 + 1) (levV G9)).setRow (s + 1 + 1 + 1 + 1 + 1) #[.int .i8 n1, .int .i8 n2]).drew (s + 1 + 1 + 1 + 1) (levV G9) ∧ Holds ((W3.setRow (s + 1 + 1 + 1 + 1) (levV G9)).setRow (s + 1 + 1 + 1 + 1 + 1) #[.int .i8 n1, .int .i8 n2]).drew (s + 1 + 1 + 1 + 1 + 1) #[.int .i8 n1, .int .i8 n2] ∧ Below s w ((W3.setRow (s + 1 + 1 + 1 + 1) (levV G9)).setRow (s + 1 + 1 + 1 + 1 + 1) #[.int .i8 n1, .int .i8 n2]).drew from
    ⟨((v4.setRow _).setRow_other _ (by omega)).drewN 1, ((v5.setRow_other _ (by omega)).setRow _).drewN 1, (below_setRow' (below_setRow' hb5 (by omega) _) (by omega) _).drew⟩)
  clear v1 v2 v4 v5 hb5
  go_region
  go_wp2_with fail
  exact bodyPost_ret (results_cells_ct (v2 := .int .i64 0) rfl wideLv wideCl _ rfl rfl HF.out.1 (by simp) HF.out.2.1 rfl rfl) rfl ⟨rfl, HF.out.2.2⟩

set_option maxRecDepth 100000 in
set_option maxHeartbeats 4000000 in
theorem sonce_good (L : Lawn) (hL : L.Fits) (g : Nat → Nat → Int) (hg : LevFits g) (hv : levB L g = true) (q t : Q10) (hq : grassP L (ptQ q) = true) (ht : grassP L (ptQ t) = true) (w : World) :
    Calls Tryd.prog 19 #[.agg L.cells, .agg (levV g), .agg #[.int .i8 q.1.val, .int .i8 q.2.val], .agg #[.int .i8 t.1.val, .int .i8 t.2.val]] w fun e w' => e = .returned (.tuple #[.agg (levV (nightG g (nextQ L g q t))), .agg #[.int .i8 (nextQ L g q t).1.val, .int .i8 (nextQ L g q t).2.val], .int .i64 0]) ∧ Below w.heap.size w w' := by
  obtain ⟨s, hs⟩ : ∃ s, w.heap.size = s := ⟨_, rfl⟩
  have hq1 := q.1.isLt
  have hq2 := q.2.isLt
  have ht1 := t.1.isLt
  have ht2 := t.2.isLt
  have HBL := Lib.hid (show ∀ (w : World) (B : Nat) (v : Value), Holds w s L.cells → Holds w (s + 1) (levV g) → w.ownsRow B 39 2 v 2 (flatP [((q.1.val : Int), (q.2.val : Int)), ((t.1.val : Int), (t.2.val : Int))]) → Calls Tryd.prog 39 #[.pointer (some ⟨s, 0, none⟩), .pointer (some ⟨s + 1, 0, none⟩), v, .bool true] w fun e w' => e = .returned (.int .i64 0) ∧ Below w.heap.size w w' from fun w B v kl kg ho => by
    have h := sbelow_any L hL g hg s (s + 1) true B 2 v (by omega) [ptQ q, ptQ t] rfl (fun d hd => by
      simp only [List.mem_cons, List.not_mem_nil, or_false] at hd
      rcases hd with rfl | rfl <;> simp only [ptQ] <;> omega) w kl kg ho
    rwa [chkC_good hv (fun c hc => by
      simp only [List.mem_cons, List.not_mem_nil, or_false] at hc
      rcases hc with rfl | rfl
      · exact hq
      · exact ht)] at h)
  have HNI := Lib.hid (show ∀ (bm : Nat), s ≠ bm → s + 1 ≠ bm → ∀ w : World, Holds w s L.cells → Holds w (s + 1) (levV g) → Holds w bm #[.int .i8 q.1.val, .int .i8 q.2.val, .int .i8 t.1.val, .int .i8 t.2.val] → Calls Tryd.prog 40 #[.pointer (some ⟨bm, 0, none⟩), .pointer (some ⟨s, 0, none⟩), .pointer (some ⟨s + 1, 0, none⟩)] w fun e w' => e = .returned (.tuple #[]) ∧ Holds w' (s + 1) (levV (nightG g (nextQ L g q t))) ∧ Holds w' bm #[.int .i8 (nextQ L g q t).1.val, .int .i8 (nextQ L g q t).2.val, .int .i8 q.1.val, .int .i8 q.2.val] ∧ Only [s + 1, bm] w w' from fun bm h1 h2 w kl kg km => snight_any L hL g hv q t s (s + 1) bm (by omega) h1 h2 w kl kg km)
  obtain ⟨NX, hNX⟩ : ∃ NX, nextQ L g q t = NX := ⟨_, rfl⟩
  rw [hNX] at HNI ⊢
  obtain ⟨G9, hG9⟩ : ∃ G9, nightG g NX = G9 := ⟨_, rfl⟩
  rw [hG9] at HNI ⊢
  obtain ⟨q1, hq1'⟩ : ∃ k : Nat, q.1.val = k := ⟨_, rfl⟩
  obtain ⟨q2, hq2'⟩ : ∃ k : Nat, q.2.val = k := ⟨_, rfl⟩
  obtain ⟨t1, ht1'⟩ : ∃ k : Nat, t.1.val = k := ⟨_, rfl⟩
  obtain ⟨t2, ht2'⟩ : ∃ k : Nat, t.2.val = k := ⟨_, rfl⟩
  obtain ⟨n1, hn1'⟩ : ∃ k : Nat, NX.1.val = k := ⟨_, rfl⟩
  obtain ⟨n2, hn2'⟩ : ∃ k : Nat, NX.2.val = k := ⟨_, rfl⟩
  rw [hq1', hq2', ht1', ht2', hn1', hn2'] at HNI
  rw [hq1', hq2', ht1', ht2'] at HBL
  rw [hq1', hq2', ht1', ht2', hn1', hn2']
  clear hL hg hv hq ht hNX hG9 hq1' hq2' ht1' ht2' hn1' hn2' hq1 hq2 ht1 ht2
  obtain ⟨W0, hW0⟩ : ∃ W0, (((((w.alloc (.cells L.cells 36)).alloc (.cells (levV g) 33)).alloc (.cells #[.int .i8 q1, .int .i8 q2] 39)).alloc (.cells #[.int .i8 t1, .int .i8 t2] 39)).alloc (.cells (levV fun _ _ => 0) 33)).alloc (.cells #[.int .i8 0, .int .i8 0] 39) = W0 := ⟨_, rfl⟩
  have g0 : Holds W0 s L.cells := by rw [← hW0]; exact (((((Holds.new' _ _ _ _ hs.symm).alloc _).alloc _).alloc _).alloc _).alloc _
  have g1 : Holds W0 (s + 1) (levV g) := by rw [← hW0]; exact ((((Holds.new' _ _ _ _ (by simp <;> omega)).alloc _).alloc _).alloc _).alloc _
  have g2 : Holds W0 (s + 1 + 1) #[.int .i8 q1, .int .i8 q2] := by rw [← hW0]; exact (((Holds.new' _ _ _ _ (by simp <;> omega)).alloc _).alloc _).alloc _
  have g3 : Holds W0 (s + 1 + 1 + 1) #[.int .i8 t1, .int .i8 t2] := by rw [← hW0]; exact ((Holds.new' _ _ _ _ (by simp <;> omega)).alloc _).alloc _
  have g4 : Holds W0 (s + 1 + 1 + 1 + 1) (levV fun _ _ => 0) := by rw [← hW0]; exact (Holds.new' _ _ _ _ (by simp <;> omega)).alloc _
  have g5 : Holds W0 (s + 1 + 1 + 1 + 1 + 1) #[.int .i8 0, .int .i8 0] := by rw [← hW0]; exact Holds.new' _ _ _ _ (by simp <;> omega)
  have hb : Below s w W0 := by rw [← hW0]; exact ((((((Below.refl s w).alloc (by omega) _).alloc (by simp; omega) _).alloc (by simp; omega) _).alloc (by simp; omega) _).alloc (by simp; omega) _).alloc (by simp; omega) _
  obtain ⟨r0, -, -, -, l0⟩ := g0.facts
  obtain ⟨r1, -, -, -, l1⟩ := g1.facts
  have l2 := g2.lt
  have l3 := g3.lt
  have c20 := (g2.cell 0).trans (show _ = some (.int .i8 q1) from rfl)
  have c21 := (g2.cell 1).trans (show _ = some (.int .i8 q2) from rfl)
  have c30 := (g3.cell 0).trans (show _ = some (.int .i8 t1) from rfl)
  have c31 := (g3.cell 1).trans (show _ = some (.int .i8 t2) from rfl)
  have k0 := g0.alloc (.cells #[.int .i8 q1, .int .i8 q2, .int .i8 t1, .int .i8 t2] 39)
  have k1 := g1.alloc (.cells #[.int .i8 q1, .int .i8 q2, .int .i8 t1, .int .i8 t2] 39)
  have k2 := g2.alloc (.cells #[.int .i8 q1, .int .i8 q2, .int .i8 t1, .int .i8 t2] 39)
  have k3 := g3.alloc (.cells #[.int .i8 q1, .int .i8 q2, .int .i8 t1, .int .i8 t2] 39)
  have k4 := g4.alloc (.cells #[.int .i8 q1, .int .i8 q2, .int .i8 t1, .int .i8 t2] 39)
  have k5 := g5.alloc (.cells #[.int .i8 q1, .int .i8 q2, .int .i8 t1, .int .i8 t2] 39)
  have HOW := Lib.hid (own_cell2 W0 q1 q2 t1 t2)
  have hbA : Below W0.heap.size W0 (W0.alloc (.cells #[.int .i8 q1, .int .i8 q2, .int .i8 t1, .int .i8 t2] 39)) := (Below.refl _ _).alloc (Nat.le_refl _) _
  clear g0 g1 g2 g3 g4 g5
  rw [hs]
  go_enter Tryd.func19, Tryd.ntmps19
  go_wp2_with fail
  try rw [hW0]
  clear hW0
  refine (HBL.out _ _ _ k0 k1 HOW.out).mono ?_
  rintro e w1 ⟨rfl, hb1⟩
  have hbB := below_onto hbA hb1
  have hb2 : Below s w w1 := hb.trans (hbB.mono (by omega))
  have m0 := k0.below hb1 k0.lt
  have m1 := k1.below hb1 k1.lt
  have m2 := k2.below hb1 k2.lt
  have m3 := k3.below hb1 k3.lt
  have m4 := k4.below hb1 k4.lt
  have m5 := k5.below hb1 k5.lt
  clear k0 k1 k2 k3 k4 k5 c20 c21 c30 c31 hb hb1 hbA hbB r0 r1 l0 l1 l2 l3 HOW HBL
  have l2 := m2.lt
  have l3 := m3.lt
  have c20 := (m2.cell 0).trans (show _ = some (.int .i8 q1) from rfl)
  have c21 := (m2.cell 1).trans (show _ = some (.int .i8 q2) from rfl)
  have c30 := (m3.cell 0).trans (show _ = some (.int .i8 t1) from rfl)
  have c31 := (m3.cell 1).trans (show _ = some (.int .i8 t2) from rfl)
  obtain ⟨p, hp⟩ : ∃ p, w1.heap.size = p := ⟨_, rfl⟩
  have l5' := m5.lt
  rw [hp] at l5'
  obtain ⟨W2, hW2⟩ : ∃ W2, w1.alloc (.cells #[.int .i8 q1, .int .i8 q2, .int .i8 t1, .int .i8 t2] 82) = W2 := ⟨_, rfl⟩
  have v0 : Holds W2 s L.cells := by rw [← hW2]; exact m0.alloc _
  have v1 : Holds W2 (s + 1) (levV g) := by rw [← hW2]; exact m1.alloc _
  have v2 : Holds W2 p #[.int .i8 q1, .int .i8 q2, .int .i8 t1, .int .i8 t2] := by rw [← hW2]; exact Holds.new' _ _ _ _ hp.symm
  have v4 : Holds W2 (s + 1 + 1 + 1 + 1) (levV fun _ _ => 0) := by rw [← hW2]; exact m4.alloc _
  have v5 : Holds W2 (s + 1 + 1 + 1 + 1 + 1) #[.int .i8 0, .int .i8 0] := by rw [← hW2]; exact m5.alloc _
  have hb5 : Below s w W2 := by rw [← hW2]; exact hb2.alloc (by have := hb2.size; omega) _
  clear m0 m1 m2 m3 m4 m5 hb2
  go_wp2_with fail
  try rw [hp]
  try rw [hW2]
  clear hW2 hp l2 l3 c20 c21 c30 c31
  refine (HNI.out p (by omega) (by omega) _ v0 v1 v2).mono ?_
  rintro e W3 ⟨rfl, v1, v2', hO⟩
  have v4 := hO.holds v4 (by simp <;> omega)
  have v5 := hO.holds v5 (by simp <;> omega)
  have hb5 : Below s w W3 := hb5.trans (hO.toBelow (by simp; omega) (by have := hb5.size; omega))
  clear v0 v2 hO HNI
  have v2 := v2'
  clear v2'
  go_wp2_with fail
  obtain ⟨r1, -, -, -, l1⟩ := v1.facts
  have l2 := v2.lt
  have c20 := (v2.cell 0).trans (show _ = some (.int .i8 n1) from rfl)
  have c21 := (v2.cell 1).trans (show _ = some (.int .i8 n2) from rfl)
  obtain ⟨r4, f4, -, -, l4⟩ := v4.facts
  obtain ⟨r5, f5, -, -, l5⟩ := v5.facts
  have d1 : ¬ p = s + 1 + 1 + 1 + 1 := by omega
  have d2 : ¬ p = s + 1 + 1 + 1 + 1 + 1 := by omega
  have d5 : ¬ s + 1 + 1 + 1 + 1 = p := by omega
  have d6 : ¬ s + 1 + 1 + 1 + 1 + 1 = p := by omega
  have e1 := (((Only.refl [s + 1 + 1 + 1 + 1] W3).setRow (g := s + 1 + 1 + 1 + 1) (.inl (by simp)) (levV G9)).holds v2 (by simp <;> omega))
  have e10 := (e1.cell 0).trans (show _ = some (.int .i8 n1) from rfl)
  have e11 := (e1.cell 1).trans (show _ = some (.int .i8 n2) from rfl)
  clear e1
  have HF := Lib.hid (show Holds ((W3.setRow (s + 1 + 1 + 1 + 1) (levV G9)).setRow (s + 1 + 1 + 1 + 1 + 1) #[.int .i8 n1, .int .i8 n2]).drew (s + 1 + 1 + 1 + 1) (levV G9) ∧ Holds ((W3.setRow (s + 1 + 1 + 1 + 1) (levV G9)).setRow (s + 1 + 1 + 1 + 1 + 1) #[.int .i8 n1, .int .i8 n2]).drew (s + 1 + 1 + 1 + 1 + 1) #[.int .i8 n1, .int .i8 n2] ∧ Below s w ((W3.setRow (s + 1 + 1 + 1 + 1) (levV G9)).setRow (s + 1 + 1 + 1 + 1 + 1) #[.int .i8 n1, .int .i8 n2]).drew from
    ⟨((v4.setRow _).setRow_other _ (by omega)).drewN 1, ((v5.setRow_other _ (by omega)).setRow _).drewN 1, (below_setRow' (below_setRow' hb5 (by omega) _) (by omega) _).drew⟩)
  clear v1 v2 v4 v5 hb5
  go_region
  go_wp2_with fail
  exact bodyPost_ret (results_cells_ct (v2 := .int .i64 0) rfl wideLv wideCl _ rfl rfl HF.out.1 (by simp) HF.out.2.1 rfl rfl) rfl ⟨rfl, HF.out.2.2⟩
end Go.Proofs.YteaajkkhbflmdaaDoor
