/- MoleNights, of the program and, where it is refused, of the model. -/
import Derived.Test.YtabemgplddfemaaGreatDoorZQ
namespace Go.Proofs.YtabemgplddfemaaGreatDoor
open Go.RowKit Go.Shelf
set_option linter.unusedVariables false
set_option linter.unusedSimpArgs false
attribute [local go_sem ↓] loadRow loadGrid loadLawn loadMirror storeRow storeGrid storeLawn allocRow allocGrid allocLawn buildZero buildSides loadR8 loadL8 loadLv storeR8 storeLv allocR8 allocLv buildZLv

theorem own_cellZ (w : World) (x y : Int) : (w.alloc (.cells #[.int .i8 x, .int .i8 y] 30)).ownsRow w.heap.size 30 2 (.slice (some ⟨w.heap.size, 0, none⟩) 1 1) 1 (flatP [(x, y)]) :=
  ⟨rfl, .inr ⟨w.heap.size, 1, #[.int .i8 x, .int .i8 y], rfl, Nat.le_refl _, heap_alloc_new _ _, Nat.le_refl _, by simp [maxLen], rfl, rfl⟩⟩

set_option maxRecDepth 100000 in
set_option maxHeartbeats 4000000 in
theorem inights_bad (L : Lawn) (hL : L.Fits) (g : Nat → Nat → Int) (x y n : Int) (k : Nat) (hk : chkE L g (upZ n 60) [(x, y)] = some k) {a0 a1 a2 a3 a4 : Addr} (w : World) (hE : ErrsIn w a0 a1 a2 a3 a4) :
    Calls Tryz.prog 27 #[.agg L.cells, .agg (levV g), .agg #[.int .i8 x, .int .i8 y], .int .i64 n] w fun e w' => (∃ v, e = .returned (.tuple #[.agg (levV fun _ _ => 0), v, .int .i64 (errZ k)]) ∧ w'.ownsRow w.heap.size 30 2 v 0 ([])) ∧ Below w.heap.size w w' := by
  obtain ⟨s, hs⟩ : ∃ s, w.heap.size = s := ⟨_, rfl⟩
  obtain ⟨aE, hv, hco⟩ := chk_code (a0 := a0) (a1 := a1) (a2 := a2) (a3 := a3) (a4 := a4) hk
  have HCK := Lib.hid (show ∀ (w : World) (B : Nat) (v : Value), ErrsIn w a0 a1 a2 a3 a4 → w.ownsRow B 30 2 v 1 (flatP [(x, y)]) → Calls Tryz.prog 19 #[.agg L.cells, .agg (levV g), .int .i64 n, v] w fun e w' => e = .returned (.iface 159 (.pointer (some aE))) ∧ Below w.heap.size w w' from fun w B v hE ho => by
    have h := checkMoles_any L hL g n B 1 v (by omega) [(x, y)] rfl w hE ho
    rwa [hk, hv] at h)
  have HCO := Lib.hid hco
  obtain ⟨z, hz⟩ : ∃ z, errZ k = z := ⟨_, rfl⟩
  rw [hz] at HCO ⊢
  clear hL hk hv hco hz
  obtain ⟨W0, hW0⟩ : ∃ W0, (((w.alloc (.cells L.cells 33)).alloc (.cells (levV g) 35)).alloc (.cells #[.int .i8 x, .int .i8 y] 30)).alloc (.cells (levV fun _ _ => 0) 35) = W0 := ⟨_, rfl⟩
  have g0 : Holds W0 s L.cells := by rw [← hW0]; exact (((Holds.new' _ _ _ _ hs.symm).alloc _).alloc _).alloc _
  have g1 : Holds W0 (s + 1) (levV g) := by rw [← hW0]; exact ((Holds.new' _ _ _ _ (by simp <;> omega)).alloc _).alloc _
  have g2 : Holds W0 (s + 1 + 1) #[.int .i8 x, .int .i8 y] := by rw [← hW0]; exact (Holds.new' _ _ _ _ (by simp <;> omega)).alloc _
  have g3 : Holds W0 (s + 1 + 1 + 1) (levV fun _ _ => 0) := by rw [← hW0]; exact Holds.new' _ _ _ _ (by simp <;> omega)
  have hb : Below s w W0 := by rw [← hW0]; exact ((((Below.refl s w).alloc (by omega) _).alloc (by simp; omega) _).alloc (by simp; omega) _).alloc (by simp; omega) _
  have hE0 : ErrsIn W0 a0 a1 a2 a3 a4 := hE.below (hs.symm ▸ hb)
  have HE := Lib.hid hE0
  obtain ⟨r0, -, -, -, l0⟩ := g0.facts
  obtain ⟨r1, -, -, -, l1⟩ := g1.facts
  have l2 := g2.lt
  have c20 := (g2.cell 0).trans (show _ = some (.int .i8 x) from rfl)
  have c21 := (g2.cell 1).trans (show _ = some (.int .i8 y) from rfl)
  have HOW := Lib.hid (own_cellZ W0 x y)
  have hbA : Below W0.heap.size W0 (W0.alloc (.cells #[.int .i8 x, .int .i8 y] 30)) := (Below.refl _ _).alloc (Nat.le_refl _) _
  have hEA := hE0.below hbA
  have k0 := g0.alloc (.cells #[.int .i8 x, .int .i8 y] 30)
  have k1 := g1.alloc (.cells #[.int .i8 x, .int .i8 y] 30)
  have k2 := g2.alloc (.cells #[.int .i8 x, .int .i8 y] 30)
  have k3 := g3.alloc (.cells #[.int .i8 x, .int .i8 y] 30)
  clear hE hE0 g0 g1 g2 g3
  rw [hs]
  go_enter Tryz.func27, Tryz.ntmps27
  go_wp2_with fail
  try rw [hW0]
  clear hW0
  refine (HCK.out _ _ _ hEA HOW.out).mono ?_
  rintro e w1 ⟨rfl, hb1⟩
  have hbB := below_onto hbA hb1
  have hb2 : Below s w w1 := hb.trans (hbB.mono (by omega))
  have m0 := k0.below hb1 k0.lt
  have m1 := k1.below hb1 k1.lt
  have m2 := k2.below hb1 k2.lt
  have m3 := k3.below hb1 k3.lt
  have HE1 := Lib.hid (HE.out.below hbB)
  clear k0 k1 k2 k3 c20 c21 hb hb1 hbA hbB r0 r1 l0 l1 l2 HOW hEA HE HCK
  obtain ⟨r3, f3, -, -, l3⟩ := m3.facts
  have q3 := m3.setRow (levV fun _ _ => 0)
  have HF := Lib.hid (And.intro q3 (below_setRow' hb2 (g := s + 1 + 1 + 1) (by omega) (levV fun _ _ => 0)))
  clear m0 m1 m2 m3 q3
  go_wp2_with fail
  refine (HCO.out _ HE1.out).mono ?_
  rintro e w2 ⟨rfl, hw2⟩
  rw [hw2]
  clear hw2
  go_wp2_with fail
  exact bodyPost_ret (results_cell_tt (v := .slice none 0 0) (v2 := .int .i64 z) rfl wideLv _ rfl HF.out.1 (by simp) rfl rfl) rfl ⟨⟨_, rfl, World.ownsRow_nil _ _ _ _⟩, HF.out.2⟩

set_option maxRecDepth 100000 in
set_option maxHeartbeats 4000000 in
theorem inights_good (L : Lawn) (hL : L.Fits) (g : Nat → Nat → Int) (hv : levB L g = true) (q : Q10) (hq : grassP L (ptQ q) = true) (N : Nat) (hN : N ≤ 60) {a0 a1 a2 a3 a4 : Addr} (w : World) (hE : ErrsIn w a0 a1 a2 a3 a4) :
    Calls Tryz.prog 27 #[.agg L.cells, .agg (levV g), .agg #[.int .i8 q.1.val, .int .i8 q.2.val], .int .i64 N] w fun e w' => (∃ v, e = .returned (.tuple #[.agg (levV (stQ L g q N).1), v, .int .i64 0]) ∧ w'.ownsRow w.heap.size 30 2 v (N + 1) (flatV (pathQ L g q N))) ∧ Below w.heap.size w w' := by
  obtain ⟨s, hs⟩ : ∃ s, w.heap.size = s := ⟨_, rfl⟩
  have hup : upZ (N : Int) 60 = true := by unfold upZ; simp; omega
  have HCK := Lib.hid (show ∀ (w : World) (B : Nat) (v : Value), ErrsIn w a0 a1 a2 a3 a4 → w.ownsRow B 30 2 v 1 (flatP [((q.1.val : Int), (q.2.val : Int))]) → Calls Tryz.prog 19 #[.agg L.cells, .agg (levV g), .int .i64 N, v] w fun e w' => e = .returned .nilIface ∧ Below w.heap.size w w' from fun w B v hE ho => by
    have h := checkMoles_any L hL g N B 1 v (by omega) [ptQ q] rfl w hE ho
    rwa [hup, chkE_good hv (fun c hc => by
      rw [List.mem_singleton] at hc
      subst hc
      exact hq)] at h)
  have HPN := Lib.hid (show ∀ w, Calls Tryz.prog 22 #[.agg (levV g), .agg #[.int .i8 q.1.val, .int .i8 q.2.val], .int .i64 N, .func (.func 23) #[.agg L.cells] #[]] w fun e w' => (∃ v, e = .returned (.tuple #[.agg (levV (stQ L g q N).1), v]) ∧ w'.ownsRow w.heap.size 30 2 v (N + 1) (flatV (pathQ L g q N))) ∧ Below w.heap.size w w' from fun w => passNights_any L hL g hv q hq N hN w)
  obtain ⟨P, hP⟩ : ∃ P, pathQ L g q N = P := ⟨_, rfl⟩
  obtain ⟨G9, hG9⟩ : ∃ G9, (stQ L g q N).1 = G9 := ⟨_, rfl⟩
  rw [hP, hG9] at HPN
  rw [hP, hG9]
  obtain ⟨q1, hq1'⟩ : ∃ k : Nat, q.1.val = k := ⟨_, rfl⟩
  obtain ⟨q2, hq2'⟩ : ∃ k : Nat, q.2.val = k := ⟨_, rfl⟩
  rw [hq1', hq2'] at HPN HCK
  rw [hq1', hq2']
  clear hL hv hq hP hG9 hq1' hq2' hup
  obtain ⟨W0, hW0⟩ : ∃ W0, (((w.alloc (.cells L.cells 33)).alloc (.cells (levV g) 35)).alloc (.cells #[.int .i8 q1, .int .i8 q2] 30)).alloc (.cells (levV fun _ _ => 0) 35) = W0 := ⟨_, rfl⟩
  have g0 : Holds W0 s L.cells := by rw [← hW0]; exact (((Holds.new' _ _ _ _ hs.symm).alloc _).alloc _).alloc _
  have g1 : Holds W0 (s + 1) (levV g) := by rw [← hW0]; exact ((Holds.new' _ _ _ _ (by simp <;> omega)).alloc _).alloc _
  have g2 : Holds W0 (s + 1 + 1) #[.int .i8 q1, .int .i8 q2] := by rw [← hW0]; exact (Holds.new' _ _ _ _ (by simp <;> omega)).alloc _
  have g3 : Holds W0 (s + 1 + 1 + 1) (levV fun _ _ => 0) := by rw [← hW0]; exact Holds.new' _ _ _ _ (by simp <;> omega)
  have hb : Below s w W0 := by rw [← hW0]; exact ((((Below.refl s w).alloc (by omega) _).alloc (by simp; omega) _).alloc (by simp; omega) _).alloc (by simp; omega) _
  have hE0 : ErrsIn W0 a0 a1 a2 a3 a4 := hE.below (hs.symm ▸ hb)
  have HE := Lib.hid hE0
  obtain ⟨r0, -, -, -, l0⟩ := g0.facts
  obtain ⟨r1, -, -, -, l1⟩ := g1.facts
  have l2 := g2.lt
  have c20 := (g2.cell 0).trans (show _ = some (.int .i8 q1) from rfl)
  have c21 := (g2.cell 1).trans (show _ = some (.int .i8 q2) from rfl)
  have HOW := Lib.hid (own_cellZ W0 q1 q2)
  have hbA : Below W0.heap.size W0 (W0.alloc (.cells #[.int .i8 q1, .int .i8 q2] 30)) := (Below.refl _ _).alloc (Nat.le_refl _) _
  have hEA := hE0.below hbA
  have k0 := g0.alloc (.cells #[.int .i8 q1, .int .i8 q2] 30)
  have k1 := g1.alloc (.cells #[.int .i8 q1, .int .i8 q2] 30)
  have k2 := g2.alloc (.cells #[.int .i8 q1, .int .i8 q2] 30)
  have k3 := g3.alloc (.cells #[.int .i8 q1, .int .i8 q2] 30)
  clear hE hE0 g0 g1 g2 g3
  rw [hs]
  go_enter Tryz.func27, Tryz.ntmps27
  go_wp2_with fail
  try rw [hW0]
  clear hW0
  refine (HCK.out _ _ _ hEA HOW.out).mono ?_
  rintro e w1 ⟨rfl, hb1⟩
  have hbB := below_onto hbA hb1
  have hb2 : Below s w w1 := hb.trans (hbB.mono (by omega))
  have m0 := k0.below hb1 k0.lt
  have m1 := k1.below hb1 k1.lt
  have m2 := k2.below hb1 k2.lt
  have m3 := k3.below hb1 k3.lt
  clear k0 k1 k2 k3 c20 c21 hb hb1 hbA hbB r0 r1 l0 l1 l2 HOW hEA HE HCK
  obtain ⟨r0, -, -, -, l0⟩ := m0.facts
  obtain ⟨r1, -, -, -, l1⟩ := m1.facts
  have l2 := m2.lt
  have c20 := (m2.cell 0).trans (show _ = some (.int .i8 q1) from rfl)
  have c21 := (m2.cell 1).trans (show _ = some (.int .i8 q2) from rfl)
  go_wp2_with fail
  refine (HPN.out _).mono ?_
  rintro e w2 ⟨⟨v, rfl, ho⟩, hb1⟩
  have n3 := m3.below hb1 m3.lt
  have hb3 : Below s w w2 := hb2.trans (hb1.mono (by have := hb2.size; omega))
  have hl3 := m3.lt
  obtain ⟨av, cv, rfl⟩ := own_slice ho
  obtain ⟨p, hp⟩ : ∃ p, w2.heap.size = p := ⟨_, rfl⟩
  have l3' := n3.lt
  rw [hp] at l3'
  obtain ⟨W3, hW3⟩ : ∃ W3, w2.alloc (.cells (levV G9) 35) = W3 := ⟨_, rfl⟩
  have v1 : Holds W3 p (levV G9) := by rw [← hW3]; exact Holds.new' _ _ _ _ hp.symm
  have v3 : Holds W3 (s + 1 + 1 + 1) (levV fun _ _ => 0) := by rw [← hW3]; exact n3.alloc _
  have hb5 : Below s w W3 := by rw [← hW3]; exact hb3.alloc (by have := hb3.size; omega) _
  have ho3 : W3.ownsRow w1.heap.size 30 2 (.slice av (N + 1) cv) (N + 1) (flatV P) := by rw [← hW3]; exact ho.alloc _
  have q3 := v3.setRow (levV G9)
  have HF := Lib.hid (show Holds (W3.setRow (s + 1 + 1 + 1) (levV G9)) (s + 1 + 1 + 1) (levV G9) ∧ (W3.setRow (s + 1 + 1 + 1) (levV G9)).ownsRow s 30 2 (.slice av (N + 1) cv) (N + 1) (flatV P) ∧ Below s w (W3.setRow (s + 1 + 1 + 1) (levV G9)) from
    ⟨q3, ownsRow_low (((Only.refl [s + 1 + 1 + 1] W3).setRow (.inl (by simp)) _).own ho3 (fun z hz => by have := own_far ho3 z hz; simp; omega)) (by omega), below_setRow' hb5 (by omega) _⟩)
  clear m0 m1 m2 m3 r0 r1 l0 l1 l2 c20 c21 hb1 hb2 hb3 n3 ho ho3 q3 HPN hb5
  obtain ⟨r1, -, -, -, l1⟩ := v1.facts
  obtain ⟨r3, f3, -, -, l3⟩ := v3.facts
  clear v1 v3
  go_wp2_with fail
  try rw [hW3]
  exact bodyPost_ret (results_cell_tt (v := .slice av (N + 1) cv) (v2 := .int .i64 0) rfl wideLv _ rfl HF.out.1 (by simp) rfl rfl) rfl ⟨⟨_, rfl, HF.out.2.1⟩, HF.out.2.2⟩

set_option maxRecDepth 100000 in
set_option maxHeartbeats 4000000 in
theorem snights_bad (L : Lawn) (hL : L.Fits) (g : Nat → Nat → Int) (hg : LevFits g) (x y n : Int) (hf : (-128 ≤ x ∧ x ≤ 127) ∧ -128 ≤ y ∧ y ≤ 127) (c : Int) (hc : chkC L g (upZ n 60) [(x, y)] = c) (hne : c ≠ 0) (w : World) :
    Calls Tryz.prog 16 #[.agg L.cells, .agg (levV g), .agg #[.int .i8 x, .int .i8 y], .int .i64 n] w fun e w' => (∃ v, e = .returned (.tuple #[.agg (levV fun _ _ => 0), v, .int .i64 c]) ∧ w'.ownsRow w.heap.size 30 2 v 0 ([])) ∧ Below w.heap.size w w' := by
  obtain ⟨s, hs⟩ : ∃ s, w.heap.size = s := ⟨_, rfl⟩
  obtain ⟨u, hu⟩ : ∃ u, upZ n 60 = u := ⟨_, rfl⟩
  have HIN := Lib.hid (show ∀ w, Calls Tryz.prog 29 #[.int .i64 n, .int .i64 0, .int .i64 60] w fun e w' => e = .returned (.bool u) ∧ w' = w from fun w => by
    cases u with
    | true => exact in_yes n 0 60 w (by rw [← upZ_in]; exact hu)
    | false => exact in_no n 0 60 w (by rw [← upZ_in]; exact hu))
  have HNN := Lib.hid (show ∀ w, Calls Tryz.prog 14 #[.int .i64 n] w fun e w' => e = .returned (.bool u) ∧ w' = w from fun w => by
    go_enter Tryz.func14, Tryz.ntmps14
    go_wp2_with (go_at_call 29; refine (HIN.out _).mono ?_; rintro e w2 ⟨rfl, hw2⟩; rw [hw2]; clear hw2)
    go_ret
    exact ⟨rfl, rfl⟩)
  rw [hu] at hc
  have HBL := Lib.hid (show ∀ (p : Nat) (w : World), Holds w s L.cells → Holds w (s + 1) (levV g) → w.ownsRow p 30 2 (.slice (some ⟨p, 0, none⟩) 1 1) 1 (flatP [(x, y)]) → Calls Tryz.prog 31 #[.pointer (some ⟨s, 0, none⟩), .pointer (some ⟨s + 1, 0, none⟩), .slice (some ⟨p, 0, none⟩) 1 1, .bool u] w fun e w' => e = .returned (.int .i64 c) ∧ Below w.heap.size w w' from fun p w kl kg ho => by
    have h := sbelow_any L hL g hg s (s + 1) u p 1 _ (by omega) [(x, y)] rfl (fun d hd => by
      rw [List.mem_singleton] at hd
      subst hd
      exact hf) w kl kg ho
    rwa [hc] at h)
  have hcc : (c != 0) = true := by simpa using hne
  clear hL hg hf hc hu
  obtain ⟨W0, hW0⟩ : ∃ W0, (((w.alloc (.cells L.cells 33)).alloc (.cells (levV g) 35)).alloc (.cells #[.int .i8 x, .int .i8 y] 30)).alloc (.cells (levV fun _ _ => 0) 35) = W0 := ⟨_, rfl⟩
  have g0 : Holds W0 s L.cells := by rw [← hW0]; exact (((Holds.new' _ _ _ _ hs.symm).alloc _).alloc _).alloc _
  have g1 : Holds W0 (s + 1) (levV g) := by rw [← hW0]; exact ((Holds.new' _ _ _ _ (by simp <;> omega)).alloc _).alloc _
  have g2 : Holds W0 (s + 1 + 1) #[.int .i8 x, .int .i8 y] := by rw [← hW0]; exact (Holds.new' _ _ _ _ (by simp <;> omega)).alloc _
  have g3 : Holds W0 (s + 1 + 1 + 1) (levV fun _ _ => 0) := by rw [← hW0]; exact Holds.new' _ _ _ _ (by simp <;> omega)
  have hb : Below s w W0 := by rw [← hW0]; exact ((((Below.refl s w).alloc (by omega) _).alloc (by simp; omega) _).alloc (by simp; omega) _).alloc (by simp; omega) _
  rw [hs]
  go_enter Tryz.func16, Tryz.ntmps16
  go_wp2_with fail
  try rw [hW0]
  clear hW0
  refine wp_region_growP 5 1 [4] (fun p w' => w'.ownsRow p 30 2 (.slice (some ⟨p, 0, none⟩) 1 1) 1 (flatP [(x, y)])) (fun p w1 w2 h hb => own_below h hb)
    (fun p => [.agg #[.int .i8 x, .int .i8 y], .slice (some ⟨p, 0, none⟩) 1 1, .int .i64 n, .bool u, .int .i64 c]) (by
      intro p p' j h1 h2
      match j with
      | 0 => rfl
      | 1 => exact absurd rfl h1
      | 2 => rfl
      | 3 => rfl
      | 4 => rfl
      | j + 5 => rfl) (by kernel_rfl) (by kernel_rfl) (by kernel_rfl) ?_
  intro p
  simp only [List.take_succ_cons, List.take_zero, List.drop_succ_cons, List.drop_zero]
  refine seqP_free (v := .agg #[.int .i8 x, .int .i8 y]) rfl rfl rfl rfl ?_ ?_
  · intro w' hw' K hK
    have e2 := g2.below hw' g2.lt
    have l2 := e2.lt
    have c0 := (e2.cell 0).trans (show _ = some (.int .i8 x) from rfl)
    have c1 := (e2.cell 1).trans (show _ = some (.int .i8 y) from rfl)
    go_wp2_with fail
    exact hK _ _ rfl (Below.refl _ _)
  simp only [Act.put, List.setIfInBounds_toArray, List.set_cons_succ, List.set_cons_zero]
  refine seqP_call (v := .slice (some ⟨p, 0, none⟩) 1 1) rfl rfl rfl ?_ ?_
  · intro w' hw' hp K hK
    go_wp2_with fail
    refine hK _ _ (by rw [hp]; rfl) ((Below.refl _ _).alloc (Nat.le_refl _) _) ?_
    rw [hp]
    exact own_cellZ w' x y
  simp only [Act.put, List.setIfInBounds_toArray, List.set_cons_succ, List.set_cons_zero]
  refine seqP_free (v := .int .i64 n) rfl rfl rfl rfl ?_ ?_
  · intro w' hw' K hK
    go_wp2_with fail
    exact hK _ _ rfl (Below.refl _ _)
  simp only [Act.put, List.setIfInBounds_toArray, List.set_cons_succ, List.set_cons_zero]
  refine seqP_free (v := .bool u) rfl rfl rfl rfl ?_ ?_
  · intro w' hw' K hK
    go_wp2_with fail
    refine (HNN.out _).mono ?_
    rintro e w2 ⟨rfl, hw2⟩
    rw [hw2]
    exact hK _ _ rfl (Below.refl _ _)
  simp only [Act.put, List.setIfInBounds_toArray, List.set_cons_succ, List.set_cons_zero]
  refine seqP_dep (v := .int .i64 c) rfl rfl rfl rfl ?_ ?_
  · intro w' hw' hM K hK
    have e0 := g0.below hw' g0.lt
    have e1 := g1.below hw' g1.lt
    go_wp2_with fail
    refine (HBL.out p _ e0 e1 hM).mono ?_
    rintro e w2 ⟨rfl, hb2⟩
    exact hK _ _ rfl hb2
  simp only [Act.put, List.setIfInBounds_toArray, List.set_cons_succ, List.set_cons_zero]
  refine seqP_nil ?_
  intro w1 _ hb1 _
  have k3 := g3.below hb1 g3.lt
  have hb2 : Below s w w1 := hb.trans (hb1.mono (by have := hb.size; omega))
  clear g0 g1 g2 g3 hb hb1
  obtain ⟨r3, f3, -, -, l3⟩ := k3.facts
  have hz : (w1.setRow (s + 1 + 1 + 1) (levV fun _ _ => 0)).heap.size = w1.heap.size := by simp [World.setRow]
  have HF := Lib.hid (show Holds ((w1.setRow (s + 1 + 1 + 1) (levV fun _ _ => 0)).alloc (.cells #[] 30)) (s + 1 + 1 + 1) (levV fun _ _ => 0) ∧ ((w1.setRow (s + 1 + 1 + 1) (levV fun _ _ => 0)).alloc (.cells #[] 30)).ownsRow s 30 2 (.slice (some ⟨w1.heap.size, 0, none⟩) 0 0) 0 [] ∧ Below s w ((w1.setRow (s + 1 + 1 + 1) (levV fun _ _ => 0)).alloc (.cells #[] 30)) from
    ⟨(k3.setRow _).alloc _, ⟨rfl, .inr ⟨w1.heap.size, 0, #[], rfl, by omega, by rw [← hz]; exact heap_alloc_new _ _, Nat.le_refl _, by simp [maxLen], rfl, rfl⟩⟩, (below_setRow' hb2 (by omega) _).alloc (by omega) _⟩)
  clear k3 hz
  go_wp2_with fail
  exact bodyPost_ret (results_cell_tt (v := .slice (some ⟨w1.heap.size, 0, none⟩) 0 0) (v2 := .int .i64 c) rfl wideLv _ rfl HF.out.1 (by simp) rfl rfl) rfl ⟨⟨_, rfl, HF.out.2.1⟩, HF.out.2.2⟩
end Go.Proofs.YtabemgplddfemaaGreatDoor
