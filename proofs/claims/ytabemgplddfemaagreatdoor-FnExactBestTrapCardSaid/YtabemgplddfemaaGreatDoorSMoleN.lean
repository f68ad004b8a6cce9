/- MoleNights of the model, where it is not refused. -/
import Derived.Test.YtabemgplddfemaaGreatDoorZN
import Derived.Test.YtabemgplddfemaaGreatDoorSNight
import Derived.Test.YtabemgplddfemaaGreatDoorZO
import Derived.Test.YtabemgplddfemaaGreatDoorGrowP
namespace Go.Proofs.YtabemgplddfemaaGreatDoor
open Go.RowKit Go.Shelf
set_option linter.unusedVariables false
set_option linter.unusedSimpArgs false
attribute [local go_sem ↓] loadRow loadGrid loadLawn loadMirror storeRow storeGrid storeLawn allocRow allocGrid allocLawn buildZero buildSides loadR8 loadL8 loadLv storeR8 storeLv allocR8 allocLv buildZLv

theorem chkC_good {L : Lawn} {g : Nat → Nat → Int} (hv : levB L g = true) {cs : List Pt} (h : ∀ c ∈ cs, grassP L c = true) : chkC L g true cs = 0 := by
  rw [chkC_is, hv]
  have e1 : (cs.all fun c => isB L c.1 c.2) = true := List.all_eq_true.2 fun c hc => grassB_in (h c hc)
  have e2 : (cs.all fun c => grassB L c.1 c.2) = true := List.all_eq_true.2 fun c hc => h c hc
  rw [e1, e2]
  rfl
theorem own_cell1 (w : World) (q : Q10) (q1 q2 : Nat) (h : q.1.val = q1 ∧ q.2.val = q2) : (w.alloc (.cells #[.int .i8 q1, .int .i8 q2] 30)).ownsRow w.heap.size 30 2 (.slice (some ⟨w.heap.size, 0, none⟩) 1 1) 1 (flatP [ptQ q]) := by
  obtain ⟨rfl, rfl⟩ := h
  exact ⟨rfl, .inr ⟨w.heap.size, 1, #[.int .i8 q.1.val, .int .i8 q.2.val], rfl, Nat.le_refl _, heap_alloc_new _ _, Nat.le_refl _, by simp [maxLen], rfl, rfl⟩⟩
theorem flatPV1 (q : Q10) : flatP [ptQ q] = flatV [q] := rfl
theorem results_cell_tt {P : Program} {fn : Func} {p u z : Tmp} {ty : TypeId} {n : Nat} (h : fn.results = #[.cell p ty, .tmp u, .tmp z]) (hw : wideB P ty n = true) (tmps : Array Value) {w : World} {g : Nat} {cs : Array Value}
    (hp : tmps.getD p undef = .pointer (some ⟨g, 0, none⟩)) (hg : Holds w g cs) (hn : cs.size = n) {v v2 : Value} (hv : tmps.getD u undef = v) (hv2 : tmps.getD z undef = v2) : (results fn tmps).run P w = .ok (.tuple #[.agg cs, v, v2]) w := by
  have hp' : tmps[p]?.getD undef = .pointer (some ⟨g, 0, none⟩) := by simpa using hp
  have hv' : tmps[u]?.getD undef = v := by simpa using hv
  have hv2' : tmps[z]?.getD undef = v2 := by simpa using hv2
  simp [results, h, hp', hv', hv2', asAddr, (wide_of hw).loadVar hg hn]

set_option maxRecDepth 100000 in
set_option maxHeartbeats 4000000 in
theorem smoleNights_good (L : Lawn) (hL : L.Fits) (g : Nat → Nat → Int) (hg : LevFits g) (hv : levB L g = true) (q : Q10) (hq : grassP L (ptQ q) = true) (N : Nat) (hN : N ≤ 60) (w : World) :
    Calls Tryz.prog 16 #[.agg L.cells, .agg (levV g), .agg #[.int .i8 q.1.val, .int .i8 q.2.val], .int .i64 N] w fun e w' => (∃ v, e = .returned (.tuple #[.agg (levV (stQ L g q N).1), v, .int .i64 0]) ∧ w'.ownsRow w.heap.size 30 2 v (N + 1) (flatV (pathQ L g q N))) ∧ Below w.heap.size w w' := by
  obtain ⟨ci, hi, hz0, hz1, hz2⟩ := info_parts cellInfo
  have HCI := Lib.hid (show Tryz.prog.info? 30 = some ci ∧ ci.zero = some (.agg #[.int .i8 0, .int .i8 0]) ∧ ci.size = 2 ∧ ci.bytes = 2 from ⟨hi, hz0, hz1, hz2⟩)
  obtain ⟨s, hs⟩ : ∃ s, w.heap.size = s := ⟨_, rfl⟩
  have HNI := Lib.hid (show ∀ (k bm : Nat), s ≠ bm → s + 1 ≠ bm → ∀ w : World, Holds w s L.cells → Holds w (s + 1) (levV (stQ L g q k).1) → Holds w bm (moleV (stQ L g q k).2.1 (stQ L g q k).2.2) → Calls Tryz.prog 32 #[.pointer (some ⟨bm, 0, none⟩), .pointer (some ⟨s, 0, none⟩), .pointer (some ⟨s + 1, 0, none⟩)] w fun e w' => e = .returned (.tuple #[]) ∧ Holds w' (s + 1) (levV (stQ L g q (k + 1)).1) ∧ Holds w' bm (moleV (stQ L g q (k + 1)).2.1 (stQ L g q (k + 1)).2.2) ∧ Only [s + 1, bm] w w' from fun k bm h1 h2 w kl kg km => snight_any L hL _ (stQ_fine hv hq k).1 _ _ s (s + 1) bm (by omega) h1 h2 w kl kg km)
  have HIN := Lib.hid (show ∀ w, Calls Tryz.prog 29 #[.int .i64 N, .int .i64 0, .int .i64 60] w fun e w' => e = .returned (.bool true) ∧ w' = w from fun w => in_yes N 0 60 w (inB_yes (by omega) (by omega)))
  have HNN := Lib.hid (show ∀ w, Calls Tryz.prog 14 #[.int .i64 N] w fun e w' => e = .returned (.bool true) ∧ w' = w from fun w => by
    go_enter Tryz.func14, Tryz.ntmps14
    go_wp2_with (go_at_call 29; refine (HIN.out _).mono ?_; rintro e w2 ⟨rfl, hw2⟩; rw [hw2]; clear hw2)
    go_ret
    exact ⟨rfl, rfl⟩)
  have HBL := Lib.hid (show ∀ (p : Nat) (w : World), Holds w s L.cells → Holds w (s + 1) (levV g) → w.ownsRow p 30 2 (.slice (some ⟨p, 0, none⟩) 1 1) 1 (flatP [ptQ q]) → Calls Tryz.prog 31 #[.pointer (some ⟨s, 0, none⟩), .pointer (some ⟨s + 1, 0, none⟩), .slice (some ⟨p, 0, none⟩) 1 1, .bool true] w fun e w' => e = .returned (.int .i64 0) ∧ Below w.heap.size w w' from fun p w kl kg ho => by
    have h := sbelow_any L hL g hg s (s + 1) true p 1 _ (by omega) [ptQ q] rfl (fun c hc => by
      rw [List.mem_singleton] at hc
      subst hc
      have := q.1.isLt
      have := q.2.isLt
      simp only [ptQ]
      omega) w kl kg ho
    rwa [chkC_good hv (fun c hc => by rw [List.mem_singleton] at hc; subst hc; exact hq)] at h)
  have HPS := Lib.hid (fun k => pathQ_succ L g q k)
  have HPL := Lib.hid (fun k => pathQ_length L g q k)
  have hP0 : pathQ L g q 0 = [q] := rfl
  have hS0 : (stQ L g q 0) = (g, q, q) := rfl
  obtain ⟨S, hS⟩ : ∃ S, stQ L g q = S := ⟨_, rfl⟩
  obtain ⟨P, hP⟩ : ∃ P, pathQ L g q = P := ⟨_, rfl⟩
  rw [hS] at HNI hS0 HPS ⊢
  rw [hP] at HPS HPL hP0 ⊢
  obtain ⟨q1, hq1⟩ : ∃ k : Nat, q.1.val = k := ⟨_, rfl⟩
  obtain ⟨q2, hq2⟩ : ∃ k : Nat, q.2.val = k := ⟨_, rfl⟩
  have HQ := Lib.hid (And.intro hq1 hq2)
  rw [hq1, hq2]
  clear hi hz0 hz1 hz2 hS hP hv hq hL hg hq1 hq2
  obtain ⟨W0, hW0⟩ : ∃ W0, (((w.alloc (.cells L.cells 33)).alloc (.cells (levV g) 35)).alloc (.cells #[.int .i8 q1, .int .i8 q2] 30)).alloc (.cells (levV fun _ _ => 0) 35) = W0 := ⟨_, rfl⟩
  have g0 : Holds W0 s L.cells := by rw [← hW0]; exact (((Holds.new' _ _ _ _ hs.symm).alloc _).alloc _).alloc _
  have g1 : Holds W0 (s + 1) (levV g) := by rw [← hW0]; exact ((Holds.new' _ _ _ _ (by simp <;> omega)).alloc _).alloc _
  have g2 : Holds W0 (s + 1 + 1) #[.int .i8 q1, .int .i8 q2] := by rw [← hW0]; exact (Holds.new' _ _ _ _ (by simp <;> omega)).alloc _
  have g3 : Holds W0 (s + 1 + 1 + 1) (levV fun _ _ => 0) := by rw [← hW0]; exact Holds.new' _ _ _ _ (by simp <;> omega)
  have hb : Below s w W0 := by rw [← hW0]; exact ((((Below.refl s w).alloc (by omega) _).alloc (by simp; omega) _).alloc (by simp; omega) _).alloc (by simp; omega) _
  rw [hs]
  go_enter Tryz.func16, Tryz.ntmps16
  go_wp2_with fail
  try rw [hW0]
  clear hW0
  refine wp_region_growP 5 1 [4] (fun p w' => w'.ownsRow p 30 2 (.slice (some ⟨p, 0, none⟩) 1 1) 1 (flatP [ptQ q])) (fun p w1 w2 h hb => own_below h hb)
    (fun p => [.agg #[.int .i8 q1, .int .i8 q2], .slice (some ⟨p, 0, none⟩) 1 1, .int .i64 N, .bool true, .int .i64 0]) (by
      intro p p' j h1 h2
      match j with
      | 0 => rfl
      | 1 => exact absurd rfl h1
      | 2 => rfl
      | 3 => rfl
      | 4 => rfl
      | j + 5 => rfl) (by kernel_rfl) (by kernel_rfl) (by kernel_rfl) ?_
  intro p
  simp only [List.take_succ_cons, List.take_zero, List.drop_succ_cons, List.drop_zero]
  refine seqP_free (v := .agg #[.int .i8 q1, .int .i8 q2]) rfl rfl rfl rfl ?_ ?_
  · intro w' hw' K hK
    have e2 := g2.below hw' g2.lt
    obtain ⟨r2, -, -, -, l2⟩ := e2.facts
    have c0 := (e2.cell 0).trans (show _ = some (.int .i8 q1) from rfl)
    have c1 := (e2.cell 1).trans (show _ = some (.int .i8 q2) from rfl)
    go_wp2_with fail
    exact hK _ _ rfl (Below.refl _ _)
  simp only [Act.put, List.setIfInBounds_toArray, List.set_cons_succ, List.set_cons_zero]
  refine seqP_call (v := .slice (some ⟨p, 0, none⟩) 1 1) rfl rfl rfl ?_ ?_
  · intro w' hw' hp K hK
    go_wp2_with fail
    refine hK _ _ (by rw [hp]; rfl) ((Below.refl _ _).alloc (Nat.le_refl _) _) ?_
    rw [hp]
    exact own_cell1 w' q q1 q2 HQ.out
  simp only [Act.put, List.setIfInBounds_toArray, List.set_cons_succ, List.set_cons_zero]
  refine seqP_free (v := .int .i64 N) rfl rfl rfl rfl ?_ ?_
  · intro w' hw' K hK
    go_wp2_with fail
    exact hK _ _ rfl (Below.refl _ _)
  simp only [Act.put, List.setIfInBounds_toArray, List.set_cons_succ, List.set_cons_zero]
  refine seqP_free (v := .bool true) rfl rfl rfl rfl ?_ ?_
  · intro w' hw' K hK
    go_wp2_with fail
    refine (HNN.out _).mono ?_
    rintro e w2 ⟨rfl, hw2⟩
    rw [hw2]
    exact hK _ _ rfl (Below.refl _ _)
  simp only [Act.put, List.setIfInBounds_toArray, List.set_cons_succ, List.set_cons_zero]
  refine seqP_dep (v := .int .i64 0) rfl rfl rfl rfl ?_ ?_
  · intro w' hw' hM K hK
    have e0 := g0.below hw' g0.lt
    have e1 := g1.below hw' g1.lt
    go_wp2_with fail
    refine (HBL.out p _ e0 e1 hM).mono ?_
    rintro e w2 ⟨rfl, hb2⟩
    exact hK _ _ rfl hb2
  simp only [Act.put, List.setIfInBounds_toArray, List.set_cons_succ, List.set_cons_zero]
  refine seqP_nil ?_
  intro w1 _ hb1 _
  have k0 := g0.below hb1 g0.lt
  have k1 := g1.below hb1 g1.lt
  have k2 := g2.below hb1 g2.lt
  have k3 := g3.below hb1 g3.lt
  have hb2 : Below s w w1 := hb.trans (hb1.mono (by have := hb.size; omega))
  clear g0 g1 g2 g3 hb hb1
  obtain ⟨bm, hbm⟩ : ∃ bm, w1.heap.size = bm := ⟨_, rfl⟩
  have lm := k3.lt
  rw [hbm] at lm
  obtain ⟨r2, -, -, -, l2⟩ := k2.facts
  have c0 := (k2.cell 0).trans (show _ = some (.int .i8 q1) from rfl)
  have c1 := (k2.cell 1).trans (show _ = some (.int .i8 q2) from rfl)
  have d0 := ((k2.alloc (.cells #[.int .i8 q1, .int .i8 q2, .int .i8 q1, .int .i8 q2] 76)).cell 0).trans (show _ = some (.int .i8 q1) from rfl)
  have d1 := ((k2.alloc (.cells #[.int .i8 q1, .int .i8 q2, .int .i8 q1, .int .i8 q2] 76)).cell 1).trans (show _ = some (.int .i8 q2) from rfl)
  obtain ⟨W2, hW2⟩ : ∃ W2, (w1.alloc (.cells #[.int .i8 q1, .int .i8 q2, .int .i8 q1, .int .i8 q2] 76)).alloc (.cells #[.int .i8 q1, .int .i8 q2] 30) = W2 := ⟨_, rfl⟩
  have m0 : Holds W2 s L.cells := by rw [← hW2]; exact (k0.alloc _).alloc _
  have m1 : Holds W2 (s + 1) (levV g) := by rw [← hW2]; exact (k1.alloc _).alloc _
  have m3 : Holds W2 (s + 1 + 1 + 1) (levV fun _ _ => 0) := by rw [← hW2]; exact (k3.alloc _).alloc _
  have mm : Holds W2 bm (moleV q q) := by rw [← hW2]; unfold moleV; rw [HQ.out.1, HQ.out.2]; exact (Holds.new' _ _ _ _ hbm.symm).alloc _
  have mo : W2.ownsRow (bm + 1) 30 2 (.slice (some ⟨bm + 1, 0, none⟩) 1 1) 1 (flatV [q]) := by
    have h := own_cell1 (w1.alloc (.cells #[.int .i8 q1, .int .i8 q2, .int .i8 q1, .int .i8 q2] 76)) q q1 q2 HQ.out
    rw [show (w1.alloc (.cells #[.int .i8 q1, .int .i8 q2, .int .i8 q1, .int .i8 q2] 76)).heap.size = bm + 1 by simp; omega, hW2] at h
    exact h
  have hb3 : Below s w W2 := by rw [← hW2]; exact (hb2.alloc (by have := hb2.size; omega) _).alloc (by have := hb2.size; simp; omega) _
  have HMO := Lib.hid mo
  clear mo k0 k1 k3 hb2
  go_wp2_with fail
  try rw [hW2]
  clear hW2 k2 r2 l2 c0 c1 d0 d1
  go_loopw [13, 14] (fun v x wr => ∃ k : Nat, k ≤ N ∧ x = .int .i64 k ∧ Holds wr s L.cells ∧ Holds wr (s + 1) (levV (S k).1) ∧ Holds wr bm (moleV (S k).2.1 (S k).2.2) ∧ Holds wr (s + 1 + 1 + 1) (levV fun _ _ => 0) ∧ wr.ownsRow (bm + 1) 30 2 v (k + 1) (flatV (P k)) ∧ Below s w wr) (fun _ x _ => N - (intOf x).toNat)
  case atStart => exact ⟨0, by omega, rfl, m0, by rw [hS0]; exact m1, by rw [hS0]; exact mm, m3, by rw [hP0]; exact HMO.out, hb3⟩
  case round =>
    obtain ⟨k, hk, rfl, k0, k1, km, k3, ho, hb⟩ := hrel
    have HO := Lib.hid ho
    clear ho m0 m1 mm m3 HMO hb3
    by_cases hlt : k < N
    · have hd : decide ((k : Int) < (N : Int)) = true := by simp; omega
      have HNK := Lib.hid (HNI.out k bm (by omega) (by omega))
      have HPK := Lib.hid (HPS.out k)
      have HPN := Lib.hid (HPL.out k)
      obtain ⟨A, hA⟩ : ∃ A, S k = A := ⟨_, rfl⟩
      obtain ⟨C, hC⟩ : ∃ C, S (k + 1) = C := ⟨_, rfl⟩
      have HSC := Lib.hid hC
      rw [hA] at k1 km HNK
      rw [hC] at HNK HPK
      clear hA hC
      go_wp2_with fail
      refine (HNK.out _ k0 k1 km).mono ?_
      rintro e w2 ⟨rfl, n1, nm, hO⟩
      have n0 := hO.holds k0 (by simp <;> omega)
      have n3 := hO.holds k3 (by simp <;> omega)
      have HO4 := Lib.hid (hO.own HO.out (fun z hz => by have := own_far HO.out z hz; simp; omega))
      have hb4 : Below s w w2 := hb.trans (hO.toBelow (by simp; omega) (by have := hb.size; omega))
      have hz4 := nm.lt
      have c0 := (nm.cell 0).trans (show _ = some (.int .i8 C.2.1.1.val) from rfl)
      have c1 := (nm.cell 1).trans (show _ = some (.int .i8 C.2.1.2.val) from rfl)
      clear k0 k1 km k3 hb HO hO
      go_wp2_with (at_builtin; refine wpList_append_own_at _ rfl _ _ 47 rfl (bm + 1) 30 ci (.agg #[.int .i8 0, .int .i8 0]) 2 2 Tryz.underlying47 HCI.out.1 HCI.out.2.1 HCI.out.2.2.1 HCI.out.2.2.2 rfl (by decide) _ _ _ rfl (HO4.out.alloc _) ⟨w2.heap.size, 0, none⟩ 1 1 [.int .i8 C.2.1.1.val, .int .i8 C.2.1.2.val] rfl rfl ?c1 ?c2 ?c3 ?c4 ?c5 ?_)
      case c1 =>
        intro m z hz
        match m, hz with
        | 0, hz => simp at hz; subst hz; exact (Holds.new w2 #[.int .i8 C.2.1.1.val, .int .i8 C.2.1.2.val] 30).cell 0
        | 1, hz => simp at hz; subst hz; exact (Holds.new w2 #[.int .i8 C.2.1.1.val, .int .i8 C.2.1.2.val] 30).cell 1
      case c2 => intro z hz; simp at hz; rcases hz with rfl | rfl <;> rfl
      case c3 => unfold maxLen; omega
      case c4 => omega
      case c5 => simp; omega
      intro v' w9 hown' hgrow _ hat
      have ho9 : w9.ownsRow (bm + 1) 30 2 v' (k + 1 + 1) (flatV (P (k + 1))) := by
        rw [HPK.out, flatV_append]
        exact hown'
      have p0 := held_grown (n1.alloc (.cells #[.int .i8 C.2.1.1.val, .int .i8 C.2.1.2.val] 30)) (HO4.out.alloc _) hgrow (by omega)
      have p2 := held_grown (n3.alloc (.cells #[.int .i8 C.2.1.1.val, .int .i8 C.2.1.2.val] 30)) (HO4.out.alloc _) hgrow (by omega)
      have p3 := held_grown (nm.alloc (.cells #[.int .i8 C.2.1.1.val, .int .i8 C.2.1.2.val] 30)) (HO4.out.alloc _) hgrow (by omega)
      have p4 := held_grown (n0.alloc (.cells #[.int .i8 C.2.1.1.val, .int .i8 C.2.1.2.val] 30)) (HO4.out.alloc _) hgrow (by omega)
      have hb9 : Below s w w9 := (hb4.alloc (by omega) (.cells #[.int .i8 C.2.1.1.val, .int .i8 C.2.1.2.val] 30)).grown hgrow (by simp; omega) (fun z hz => by have := own_far HO4.out z hz; omega)
      have HO9 := Lib.hid ho9
      clear hown' hgrow hat ho9 n0 n1 nm n3 hb4 HO4 c0 c1
      go_wp2_with fail
      go_roundw
      case rel => exact ⟨k + 1, by omega, by go_num, p4, by rw [HSC.out]; exact p0, by rw [HSC.out]; exact p3, p2, HO9.out, hb9⟩
      case measure => simp [intOf]; omega
    · have hd : decide ((k : Int) < (N : Int)) = false := by simp; omega
      have hkN : k = N := by omega
      rw [hkN] at HO k1
      obtain ⟨av, cv, hve⟩ := own_slice HO.out
      subst hve
      obtain ⟨r0, f0, -, z0, l0⟩ := k1.facts
      obtain ⟨r2, f2, -, z2, l2⟩ := k3.facts
      have q2 := k3.setRow (levV (S N).1)
      have HF := Lib.hid (show (wr.setRow (s + 1 + 1 + 1) (levV (S N).1)).ownsRow s 30 2 (.slice av (N + 1) cv) (N + 1) (flatV (P N)) from ownsRow_low (((Only.refl [s + 1 + 1 + 1] wr).setRow (.inl (by simp)) _).own HO.out (fun z hz => by have := own_far HO.out z hz; simp; omega)) (by omega))
      clear hkN km
      go_wp2_with fail
      exact bodyPost_ret (results_cell_tt (v := .slice av (N + 1) cv) (v2 := .int .i64 0) rfl wideLv _ rfl q2 (by simp) rfl rfl) rfl ⟨⟨_, rfl, HF.out⟩, below_setRow' hb (by omega) _⟩
end Go.Proofs.YtabemgplddfemaaGreatDoor
