/- What is told of robots is checked: one list of cells that have to be open, and targets. -/
import Derived.Test.YtaeenkjbmlgcmaaAskT
import Derived.Test.YtaeenkjbmlgcmaaChkL
import Derived.Test.YtaeenkjbmlgcmaaUpTo
import Derived.Test.YtaeenkjbmlgcmaaGrowV2
namespace Go.Proofs.Ytaeenkjbmlgcmaa
open Go.RowKit
set_option linter.unusedVariables false
set_option linter.unusedSimpArgs false
attribute [local go_sem ↓] loadRow loadGrid loadLawn loadMirror storeRow storeGrid storeLawn allocRow allocGrid allocLawn buildZero buildSides

/-- The code of a lawn, cells that have to be open, a charge, and how many of the cells are targets. -/
def askZ (L : Lawn) (l : List Pt) (full : Int) (n2 : Nat) : Int := if validB L then (if l.all (isP L) && upZ full 400 then (if 5 < n2 then 3 else if l.all (openP L) then 0 else 4) else 2) else 1

theorem indexNil_any (f : Value) (w : World) : Calls Try.prog 144 #[.slice none 0 0, f] w fun e w' => e = .returned (.int .i64 (-1)) ∧ w' = w := by
  go_enter Try.func144, Try.ntmps144
  go_wp2_with fail
  go_loopw [5, 8] (fun _ i wr => wr = w ∧ i = .int .i64 0) (fun _ _ _ => 0)
  case atStart => exact ⟨rfl, rfl⟩
  case round =>
    obtain ⟨rfl, rfl⟩ := hrel
    go_wp2_with fail
    go_ret
    exact ⟨rfl, rfl⟩
theorem containsNil_any (f : Value) (w : World) : Calls Try.prog 115 #[.slice none 0 0, f] w fun e w' => e = .returned (.bool false) ∧ w' = w := by
  have H := Lib.hid (fun w => indexNil_any f w)
  go_enter Try.func115, Try.ntmps115
  go_wp2_with fail
  refine (H.out _).mono ?_
  rintro e w' ⟨rfl, rfl⟩
  go_wp2_with fail
  go_ret
  exact ⟨rfl, rfl⟩

set_option maxRecDepth 100000 in
set_option maxHeartbeats 4000000 in
theorem askedCheck_any (L : Lawn) (hL : L.Fits) (l1 l2 : List Pt) (h1 : 1 ≤ l1.length) (h2 : l1.length + l2.length ≤ 1048577) (v1 v2 : Value) (full : Int) (w : World) (hv1 : RowP w v1 l1) (hv2 : RowP w v2 l2) :
    Calls Try.prog 71 #[.agg (askA L v1 v2 (.slice none 0 0) full)] w fun e w' => e = .returned (.int .i64 (askZ L (l1 ++ l2) full l2.length)) ∧ Below w.heap.size w w' := by
  obtain ⟨a1, c1, e1⟩ := hv1.slice
  obtain ⟨a2, c2, e2⟩ := hv2.slice
  obtain ⟨l, hl⟩ : ∃ l, l1 ++ l2 = l := ⟨_, rfl⟩
  have hll : l.length = l1.length + l2.length := by rw [← hl, List.length_append]
  have HCC := Lib.hid (fun (g cap : Nat) (w : World) (hc : ReadsP w g l) => checkCells_list L hL l (l1.length + l2.length) cap hll h2 g w hc)
  have HCO := Lib.hid (fun (g cap : Nat) (w : World) (hc : ReadsP w g l) => checkOpen_list L hL l (l1.length + l2.length) cap hll h2 g w hc)
  have HCT := Lib.hid (fun (g cap : Nat) (w : World) (hr : Holds w g #[v1, v2]) (hv1 : RowP w v1 l1) (hv2 : RowP w v2 l2) => concat_two l1 l2 h1 h2 v1 v2 g cap w hr hv1 hv2)
  have HUP := Lib.hid (fun w => upTo64_is full 400 (upZ full 400) rfl w)
  have HT := Lib.hid (show told (validB L) (l.all (isP L)) = if validB L then (if l.all (isP L) then 0 else 2) else 1 from rfl)
  have hTO : toldC L l true = if validB L then (if l.all (isP L) then (if l.all (openP L) then 0 else 4) else 2) else 1 := rfl
  have hZ : askZ L l full l2.length = if validB L then (if l.all (isP L) && upZ full 400 then (if 5 < l2.length then 3 else if l.all (openP L) then 0 else 4) else 2) else 1 := rfl
  rw [hl] at HCT ⊢
  obtain ⟨n1, hn1⟩ : ∃ n, l1.length = n := ⟨_, rfl⟩
  obtain ⟨n2, hn2⟩ : ∃ n, l2.length = n := ⟨_, rfl⟩
  obtain ⟨v, hv⟩ : ∃ v, validB L = v := ⟨_, rfl⟩
  obtain ⟨f, hf⟩ : ∃ f, l.all (isP L) = f := ⟨_, rfl⟩
  obtain ⟨o, ho⟩ : ∃ o, l.all (openP L) = o := ⟨_, rfl⟩
  obtain ⟨u, hu⟩ : ∃ u, upZ full 400 = u := ⟨_, rfl⟩
  obtain ⟨C, hC⟩ : ∃ C, askZ L l full l2.length = C := ⟨_, rfl⟩
  obtain ⟨D, hD⟩ : ∃ D, toldC L l true = D := ⟨_, rfl⟩
  rw [hC] at hZ ⊢
  rw [hn1, hn2] at HCC HCO
  rw [hD] at HCO hTO
  rw [hv, hf, hu, ho, hn2] at hZ
  rw [hv, hf, ho] at hTO
  rw [hv, hf] at HT HCC
  rw [hu] at HUP
  rw [hn1] at e1 h1 h2 HCT
  rw [hn2] at e2 h2 HCT
  rw [e1, e2] at HCT ⊢
  rw [e1] at hv1
  rw [e2] at hv2
  have HZ := Lib.hid hZ
  have HTO := Lib.hid hTO
  clear hZ hTO
  have HV1 := Lib.hid hv1
  have HV2 := Lib.hid hv2
  have hs1 := fun (i : Nat) (u : Value) => (askA_at L (.slice a1 n1 c1) (.slice a2 n2 c2) (.slice none 0 0) full)
  obtain ⟨x0, x1, x2, x3⟩ := askA_at L (.slice a1 n1 c1) (.slice a2 n2 c2) (.slice none 0 0) full
  obtain ⟨A, hA⟩ : ∃ A, askA L (.slice a1 n1 c1) (.slice a2 n2 c2) (.slice none 0 0) full = A := ⟨_, rfl⟩
  have hAs : A.size = 106 := by rw [← hA]; simp
  have hAl : A.extract 0 102 = L.cells := by rw [← hA]; simp
  rw [hA] at x0 x1 x2 x3 ⊢
  have HX := Lib.hid (show A[102]? = some (.slice a1 n1 c1) ∧ A[103]? = some (.slice a2 n2 c2) ∧ A[104]? = some (.slice none 0 0) ∧ A[105]? = some (.int .i64 full) from ⟨x0, x1, x2, x3⟩)
  have HAS := Lib.hid hAs
  have HAL := Lib.hid hAl
  obtain ⟨s, hs⟩ : ∃ s, w.heap.size = s := ⟨_, rfl⟩
  have g0 : Holds (w.alloc (.cells A 109)) s A := by rw [← hs]; exact Holds.new _ _ _
  have g1 := g0.alloc (.cells #[.slice a1 n1 c1, .slice a2 n2 c2] 45)
  have g2 := Holds.new' (w.alloc (.cells A 109)) #[.slice a1 n1 c1, .slice a2 n2 c2] 45 (s + 1) (by simp; omega)
  have hb0 : Below s w ((w.alloc (.cells A 109)).alloc (.cells #[.slice a1 n1 c1, .slice a2 n2 c2] 45)) := by rw [← hs]; exact ((Below.refl w.heap.size w).alloc (Nat.le_refl _) _).alloc (by simp) _
  have y0 : (w.alloc (.cells A 109)).cell? ⟨s, 102, none⟩ = some (.slice a1 n1 c1) := (g0.cell 102).trans x0
  have y1 : (w.alloc (.cells A 109)).cell? ⟨s, 103, none⟩ = some (.slice a2 n2 c2) := (g0.cell 103).trans x1
  have y2 : ((w.alloc (.cells A 109)).alloc (.cells #[.slice a1 n1 c1, .slice a2 n2 c2] 45)).cell? ⟨s, 104, none⟩ = some (.slice none 0 0) := (g1.cell 104).trans x2
  have HS := Lib.hid hs
  clear hs1 hA hAs hAl x0 x1 x2 x3 hn1 hn2 hv hf ho hu hC hD hl hll e1 e2 hv1 hv2 hL
  go_enter Try.func71, Try.ntmps71
  go_wp2_with fail
  obtain ⟨W0, hW0⟩ : ∃ W0, (w.alloc (.cells A 109)).alloc (.cells #[.slice a1 n1 c1, .slice a2 n2 c2] 45) = W0 := ⟨_, rfl⟩
  have r1 : RowP W0 (.slice a1 n1 c1) l1 := HV1.out.below (by rw [← hW0]; exact ((Below.refl w.heap.size w).alloc (Nat.le_refl _) _).alloc (by simp) _)
  have r2 : RowP W0 (.slice a2 n2 c2) l2 := HV2.out.below (by rw [← hW0]; exact ((Below.refl w.heap.size w).alloc (Nat.le_refl _) _).alloc (by simp) _)
  rw [hW0] at g1 g2 hb0
  try rw [hW0]
  clear hW0 y0 y1 y2 HV1 HV2 g0
  have HR1 := Lib.hid r1
  have HR2 := Lib.hid r2
  have HG1 := Lib.hid g1
  have HG2 := Lib.hid g2
  have h12 : 1 ≤ n1 + n2 := by omega
  clear r1 r2
  refine wp_region_growV 5 3 [4] (fun p w' => ∃ g c, p = .slice (some ⟨g, 0, none⟩) (n1 + n2) c ∧ ReadsP w' g l) (fun p w1 w2 ⟨g, c, h1, h2⟩ hb => ⟨g, c, h1, h2.below hb⟩)
    (fun p => [.pointer (some ⟨s, 0, none⟩), .agg L.cells, .slice (some ⟨s + 1, 0, none⟩) 2 2, p, .int .i64 (told v f)]) (by
      intro p p' j h1 h2
      match j with
      | 0 => rfl
      | 1 => rfl
      | 2 => rfl
      | 3 => exact absurd rfl h1
      | 4 => simp at h2
      | j + 5 => rfl) (by kernel_rfl) (by kernel_rfl) (by kernel_rfl) ?_
  intro p
  simp only [List.take_succ_cons, List.take_zero, List.drop_succ_cons, List.drop_zero]
  iterate 3
    refine seqV_free rfl rfl rfl rfl ?_ ?_
    · intro w' hw' K hK
      have f0 := (HG1.out.below hw' HG1.out.lt).row
      have f1 := HAS.out
      have f2 := HAL.out
      go_wp2_with fail
      exact hK _ _ rfl (Below.refl _ _)
    simp only [Act.put, List.setIfInBounds_toArray, List.set_cons_succ, List.set_cons_zero, List.getD_cons_zero, List.getD_cons_succ, Nat.reduceAdd]
  refine seqV_call rfl rfl (fun q => rfl) ?_ ?_
  · intro w' hw' K hK
    go_wp2_with fail
    refine (HCT.out _ _ _ (HG2.out.below hw' HG2.out.lt) (HR1.out.below hw') (HR2.out.below hw')).mono ?_
    rintro e w4 ⟨⟨v, rfl, ho⟩, hb4⟩
    obtain ⟨g, cap, rfl, -, -⟩ := own_form ho h12
    exact hK _ _ _ rfl hb4 ⟨g, cap, rfl, reads_own ho⟩
  simp only [Act.put, List.setIfInBounds_toArray, List.set_cons_succ, List.set_cons_zero, List.getD_cons_zero, List.getD_cons_succ, Nat.reduceAdd]
  refine seqV_dep rfl rfl rfl rfl ?_ ?_
  · rintro w' hw' ⟨g, c, rfl, hr⟩ K hK
    go_wp2_with fail
    refine (HCC.out _ _ _ hr).mono ?_
    rintro e w4 ⟨rfl, hb4⟩
    exact hK _ _ rfl hb4
  simp only [Act.put, List.setIfInBounds_toArray, List.set_cons_succ, List.set_cons_zero, List.getD_cons_zero, List.getD_cons_succ, Nat.reduceAdd]
  refine seqV_nil ?_
  rintro w2 hsz2 hbw -
  have k1 := HG1.out.below hbw HG1.out.lt
  have hb3 := hb0.trans (hbw.mono (by have := HG2.out.lt; omega))
  have q1 := HR1.out.below hbw
  have q2 := HR2.out.below hbw
  have HQ1 := Lib.hid q1
  have HQ2 := Lib.hid q2
  have hsl := k1.lt
  clear HG1 HG2 g1 g2 hbw hb0 q1 q2 HR1 HR2 HCC hsz2
  have hz := HZ.out
  have htt := HT.out
  have x1 : w2.cell? ⟨s, 103, none⟩ = some (.slice a2 n2 c2) := (k1.cell 103).trans HX.out.2.1
  have x2 : w2.cell? ⟨s, 104, none⟩ = some (.slice none 0 0) := (k1.cell 104).trans HX.out.2.2.1
  have x3 : w2.cell? ⟨s, 105, none⟩ = some (.int .i64 full) := (k1.cell 105).trans HX.out.2.2.2
  have HCN := Lib.hid (fun (f : Value) (w : World) => containsNil_any f w)
  by_cases hvf : v = true ∧ f = true
  case neg =>
    have hCT : C = told v f ∧ told v f ≠ 0 := by
      rw [hz, htt]
      cases v <;> cases f <;> simp at hvf ⊢
    obtain ⟨T, hT⟩ : ∃ T, told v f = T := ⟨_, rfl⟩
    rw [hT] at hCT ⊢
    obtain ⟨rfl, hTn⟩ := hCT
    have hTd : (C != 0) = true := by simpa using hTn
    clear hz htt hTn x1 x2 x3 hvf HCN HUP HT
    go_wp2_with fail
    go_ret
    exact ⟨rfl, HS.out ▸ hb3⟩
  obtain ⟨rfl, rfl⟩ := hvf
  rw [htt]
  clear htt
  simp only [if_true, Bool.true_and] at hz ⊢
  cases u
  · simp only [Bool.false_eq_true, if_false] at hz
    subst hz
    go_wp2_with fail
    refine (HUP.out _).mono ?_
    rintro e w4 ⟨rfl, rfl⟩
    go_wp2_with fail
    go_ret
    exact ⟨rfl, HS.out ▸ hb3⟩
  simp only [if_true] at hz
  by_cases h5 : 5 < n2
  · rw [if_pos h5] at hz
    subst hz
    have hd5 : decide (5 < n2) = true := decide_eq_true h5
    have hd5' : decide ((5 : Int) < (n2 : Int)) = true := decide_eq_true (by omega)
    clear h5
    go_wp2_with fail
    refine (HUP.out _).mono ?_
    rintro e w4 ⟨rfl, rfl⟩
    go_wp2_with fail
    go_ret
    exact ⟨rfl, HS.out ▸ hb3⟩
  · rw [if_neg h5] at hz
    have hd5 : decide (5 < n2) = false := decide_eq_false h5
    have hd5' : decide ((5 : Int) < (n2 : Int)) = false := decide_eq_false (by omega)
    have hzd : C = D := by
      rw [hz]
      have := HTO.out
      simp only [if_true] at this
      exact this.symm
    clear h5 hz
    go_wp2_with fail
    refine (HUP.out _).mono ?_
    rintro e w4 ⟨rfl, rfl⟩
    go_wp2_with fail
    refine (HCN.out _ _).mono ?_
    rintro e w4 ⟨rfl, rfl⟩
    go_wp2_with fail
    refine (HCN.out _ _).mono ?_
    rintro e w4 ⟨rfl, rfl⟩
    go_wp2_with fail
    subst hzd
    have HQ3 := Lib.hid k1
    have b1 := k1
    clear x1 x2 x3 HUP HCN HZ hd5 hd5'
    refine wp_region_growV2 9 6 7 [8] (fun p w' => ∃ g, p = .slice (some ⟨g, 0, none⟩) 2 2 ∧ Holds w' g #[.slice a1 n1 c1, .slice a2 n2 c2]) (fun p w' => ∃ g c, p = .slice (some ⟨g, 0, none⟩) (n1 + n2) c ∧ ReadsP w' g l) (fun p w1 w2 ⟨g, h1, h2⟩ hb => ⟨g, h1, h2.below hb h2.lt⟩) (fun p w1 w2 ⟨g, c, h1, h2⟩ hb => ⟨g, c, h1, h2.below hb⟩)
      (fun p q => [.pointer (some ⟨s, 0, none⟩), .agg L.cells, .pointer (some ⟨s, 102, none⟩), .slice a1 n1 c1, .pointer (some ⟨s, 103, none⟩), .slice a2 n2 c2, p, q, .int .i64 C]) (by
        intro p q p' q' j h1 h2 h3
        match j with
        | 0 => rfl
        | 1 => rfl
        | 2 => rfl
        | 3 => rfl
        | 4 => rfl
        | 5 => rfl
        | 6 => exact absurd rfl h1
        | 7 => exact absurd rfl h2
        | 8 => rfl
        | j + 9 => rfl) (fun p q => rfl) (fun p q => rfl) (by kernel_rfl) (by kernel_rfl) (by kernel_rfl) ?_
    intro p q
    simp only [List.take_succ_cons, List.take_zero, List.drop_succ_cons, List.drop_zero]
    iterate 6
      refine seqV2_free rfl rfl rfl rfl rfl ?_ ?_
      · intro w' hw' K hK
        have k := HQ3.out.below hw' HQ3.out.lt
        have f0 := k.row
        have f1 := HAS.out
        have f2 := HAL.out
        have f3 : w'.cell? ⟨s, 102, none⟩ = some (.slice a1 n1 c1) := (k.cell 102).trans HX.out.1
        have f4 : w'.cell? ⟨s, 103, none⟩ = some (.slice a2 n2 c2) := (k.cell 103).trans HX.out.2.1
        go_wp2_with fail
        exact hK _ _ rfl (Below.refl _ _)
      simp only [Act.put, List.setIfInBounds_toArray, List.set_cons_succ, List.set_cons_zero, List.getD_cons_zero, List.getD_cons_succ, Nat.reduceAdd]
    refine seqV2_call rfl rfl rfl ?_ ?_
    · intro w' hw' K hK
      have k := HQ3.out.below hw' HQ3.out.lt
      go_wp2_with fail
      exact hK _ _ _ rfl ((Below.refl _ _).alloc (Nat.le_refl _) _) ⟨_, rfl, Holds.new _ _ _⟩
    simp only [Act.put, List.setIfInBounds_toArray, List.set_cons_succ, List.set_cons_zero, List.getD_cons_zero, List.getD_cons_succ, Nat.reduceAdd]
    refine seqV2_call2 rfl rfl rfl rfl ?_ ?_
    · rintro w' hw' ⟨g, rfl, hg⟩ K hK
      go_wp2_with fail
      refine (HCT.out _ _ _ hg (HQ1.out.below hw') (HQ2.out.below hw')).mono ?_
      rintro e w4 ⟨⟨v, rfl, ho⟩, hb4⟩
      obtain ⟨g, cap, rfl, -, -⟩ := own_form ho h12
      exact hK _ _ _ rfl hb4 ⟨g, cap, rfl, reads_own ho⟩
    simp only [Act.put, List.setIfInBounds_toArray, List.set_cons_succ, List.set_cons_zero, List.getD_cons_zero, List.getD_cons_succ, Nat.reduceAdd]
    refine seqV2_dep rfl rfl rfl rfl rfl ?_ ?_
    · rintro w' hw' - ⟨g, c, rfl, hr⟩ K hK
      go_wp2_with fail
      refine (HCO.out _ _ _ hr).mono ?_
      rintro e w4 ⟨rfl, hb4⟩
      exact hK _ _ rfl hb4
    simp only [Act.put, List.setIfInBounds_toArray, List.set_cons_succ, List.set_cons_zero, List.getD_cons_zero, List.getD_cons_succ, Nat.reduceAdd]
    refine seqV2_nil ?_
    rintro w5 hsz5 hbw5 - -
    have hb6 := hb3.trans (hbw5.mono (by omega))
    go_wp2_with fail
    go_ret
    exact ⟨rfl, HS.out ▸ hb6⟩
end Go.Proofs.Ytaeenkjbmlgcmaa
