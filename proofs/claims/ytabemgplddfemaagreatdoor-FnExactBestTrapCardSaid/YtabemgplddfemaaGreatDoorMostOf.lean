/- mostOf, of the program: the first cell with the greatest number in a map that counts. -/
import Derived.Test.YtabemgplddfemaaGreatDoorVisP
import Derived.Test.YtabemgplddfemaaGreatDoorOrdered
import Derived.Test.YtabemgplddfemaaGreatDoorZR
import Derived.Test.YtabemgplddfemaaGreatDoorGrowS
namespace Go.Proofs.YtabemgplddfemaaGreatDoor
open Go.RowKit
set_option linter.unusedVariables false
set_option linter.unusedSimpArgs false
attribute [local go_sem ↓] loadRow loadGrid loadLawn loadMirror storeRow storeGrid storeLawn allocRow allocGrid allocLawn buildZero buildSides storeCl

theorem zeroK64 (w : World) : (zeroValue 2).run Tryz.prog w = .ok (valK 0) w := by kernel_rfl
theorem flat_ptQ {W H : Nat} (l : List (Fin W × Fin H)) : flatP (l.map ptOf) = flatV l := by
  unfold flatP flatV
  rw [List.flatMap_map]
  rfl

set_option maxRecDepth 100000 in
set_option maxHeartbeats 1000000 in
theorem mostCmp_any (cs : List Pt) (b g : Nat) (c d : Q10) (w : World) (hg : Holds w g #[.map (some b)]) (hM : MapIs w b cellK valK (visM cs)) :
    Calls Tryz.prog 50 #[.agg #[.int .i8 c.1.val, .int .i8 c.2.val], .agg #[.int .i8 d.1.val, .int .i8 d.2.val], .pointer (some ⟨g, 0, none⟩)] w fun e w' => e = .returned (.bool (gtN (visN cs) c d)) ∧ Below w.heap.size w w' := by
  obtain ⟨⟨cx, hcx⟩, ⟨cy, hcy⟩⟩ := c
  obtain ⟨⟨dx, hdx⟩, ⟨dy, hdy⟩⟩ := d
  dsimp only
  have hgt : gtN (visN cs) ((⟨cx, hcx⟩, ⟨cy, hcy⟩) : Q10) ((⟨dx, hdx⟩, ⟨dy, hdy⟩) : Q10) = decide (visN cs ((dx : Int), (dy : Int)) < visN cs ((cx : Int), (cy : Int))) := rfl
  rw [hgt]
  obtain ⟨W0, hW0⟩ : ∃ W0, (w.alloc (.cells #[.int .i8 cx, .int .i8 cy] 30)).alloc (.cells #[.int .i8 dx, .int .i8 dy] 30) = W0 := ⟨_, rfl⟩
  have g0 : Holds W0 w.heap.size #[.int .i8 cx, .int .i8 cy] := by rw [← hW0]; exact (Holds.new _ _ _).alloc _
  have g1 : Holds W0 (w.heap.size + 1) #[.int .i8 dx, .int .i8 dy] := by rw [← hW0]; exact Holds.new' _ _ _ _ (by simp)
  have gg : Holds W0 g #[.map (some b)] := by rw [← hW0]; exact (hg.alloc _).alloc _
  have gM : MapIs W0 b cellK valK (visM cs) := by rw [← hW0]; exact (hM.alloc _).alloc _
  have hb0 : Below w.heap.size w W0 := by rw [← hW0]; exact ((Below.refl w.heap.size w).alloc (Nat.le_refl _) _).alloc (by simp) _
  obtain ⟨nc, hnc⟩ : ∃ z, visN cs ((cx : Int), (cy : Int)) = z := ⟨_, rfl⟩
  obtain ⟨nd, hnd⟩ : ∃ z, visN cs ((dx : Int), (dy : Int)) = z := ⟨_, rfl⟩
  rw [hnc, hnd]
  have HX := Lib.hid (show ∀ w', Below W0.heap.size W0 w' → w'.cell? ⟨w.heap.size, 0, none⟩ = some (.int .i8 cx) ∧ w'.cell? ⟨w.heap.size, 1, none⟩ = some (.int .i8 cy) ∧ w'.cell? ⟨w.heap.size + 1, 0, none⟩ = some (.int .i8 dx) ∧ w'.cell? ⟨w.heap.size + 1, 1, none⟩ = some (.int .i8 dy) ∧ w'.cell? ⟨g, 0, none⟩ = some (.map (some b)) ∧
      (Instr.lookup 61 (.map (some b)) (.agg #[.int .i8 (cx : Int), .int .i8 (cy : Int)]) false).run Tryz.prog w' = .ok (.int .i64 nc) w' ∧ (Instr.lookup 61 (.map (some b)) (.agg #[.int .i8 (dx : Int), .int .i8 (dy : Int)]) false).run Tryz.prog w' = .ok (.int .i64 nd) w' from fun w' hw' => by
    have k0 := g0.below hw' g0.lt
    have k1 := g1.below hw' g1.lt
    have kg := gg.below hw' gg.lt
    have kM := gM.below hw' gM.lt
    have l1 := (kM.look cellKey Tryz.underlying61 zeroK64 ((cx : Int), (cy : Int))).1
    have l2 := (kM.look cellKey Tryz.underlying61 zeroK64 ((dx : Int), (dy : Int))).1
    unfold visN at hnc hnd
    rw [hnc] at l1
    rw [hnd] at l2
    exact ⟨k0.cell 0, k0.cell 1, k1.cell 0, k1.cell 1, kg.cell 0, l1, l2⟩)
  clear g0 g1 gg gM hg hM hnc hnd hgt
  go_enter Tryz.func50, Tryz.ntmps50
  go_wp2_with fail
  try rw [hW0]
  clear hW0
  refine wp_region_grow 7 (by kernel_rfl) (by kernel_rfl) ?_
  simp only [List.take_succ_cons, List.take_zero, List.drop_succ_cons, List.drop_zero]
  iterate 7
    apply wpGrow_plain rfl
    · intro w' hw' K hK
      obtain ⟨f1, f2, f3, f4, f5, f6, f7⟩ := HX.out _ hw'
      go_wp2_with fail
      exact hK _ _ rfl hw'
    simp only [Act.put, List.setIfInBounds_toArray, List.set_cons_succ, List.set_cons_zero]
  refine wpGrow_nil ?_
  intro W2 hW2
  have hb1 := below_onto hb0 hW2
  go_wp2_with fail
  go_ret
  exact ⟨rfl, hb1⟩

theorem map_off_row {w : World} {b g : Nat} {m : Found} {cs : Array Value} (h : MapIs w b cellK valK m) (hg : Holds w g cs) : b ≠ g := by
  rintro rfl
  obtain ⟨es, c, h1, -⟩ := h
  obtain ⟨t, h2⟩ := hg
  rw [h1] at h2
  cases h2
theorem filtC_len {W H : Nat} (p : Fin W × Fin H → Bool) : ((allC W H).filter p).length ≤ W * H := by
  refine Nat.le_trans (List.length_filter_le _ _) ?_
  rw [allC_length]
  exact Nat.le_of_eq (Nat.mul_comm _ _)
theorem visS_len (cs : List Pt) : (visS cs).length ≤ 100 := filtC_len _
theorem visS_pos (cs : List Pt) : ∀ c ∈ visS cs, 0 < visN cs (ptOf c) := fun c hc => of_decide_eq_true (List.mem_filter.1 hc).2
theorem visS_keys {cs : List Pt} (h10 : ∀ c ∈ cs, ∃ d : Q10, ptOf d = c) : sortC ((visM cs).map (·.1)) = (visS cs).map ptOf := vis_sorted h10

set_option maxRecDepth 100000 in
set_option maxHeartbeats 2000000 in
theorem mostOf_any (cs : List Pt) (h10 : ∀ c ∈ cs, ∃ d : Q10, ptOf d = c) (b : Nat) (w : World) (hM : MapIs w b cellK valK (visM cs)) :
    Calls Tryz.prog 25 #[.map (some b)] w fun e w' => e = .returned (cellNN3 (mostR (mostL (visN cs) ((visS cs).map ptOf)))) ∧ Below w.heap.size w w' := by
  have hks := visS_keys h10
  have hl100 := visS_len cs
  have hpos := visS_pos cs
  obtain ⟨S, hS⟩ : ∃ S, visS cs = S := ⟨_, rfl⟩
  rw [hS] at hks hl100 hpos ⊢
  have hlen : (visM cs).length = S.length := by
    have h1 := (sortC_perm ((visM cs).map (·.1))).length_eq
    rw [hks, List.length_map, List.length_map] at h1
    exact h1.symm
  have hbest := most_best hpos S.length (Nat.le_refl _)
  rw [List.take_length] at hbest
  have HOR := Lib.hid (show ∀ w, MapIs w b cellK valK (visM cs) → Calls Tryz.prog 48 #[.map (some b), .func (.func 49) #[] #[]] w fun e w' => (∃ v, e = .returned v ∧ w'.ownsRow w.heap.size 30 2 v S.length (flatV S)) ∧ Below w.heap.size w w' from fun w hm => by
    have := ordered_any b (visM cs) (by omega) w hm
    rw [hlen, hks, flat_ptQ] at this
    exact this)
  obtain ⟨M, hMo⟩ : ∃ M, mostL (visN cs) (S.map ptOf) = M := ⟨_, rfl⟩
  rw [hMo] at hbest ⊢
  obtain ⟨n, hn⟩ : ∃ n, S.length = n := ⟨_, rfl⟩
  rw [hn] at HOR hl100 hbest
  have HE2 := Lib.hid (show ∀ args w, (callFunc 50 args).run Tryz.prog w = .ok (.enter 50 args) w from fun args w => enters_of Tryz.func50 (by kernel_rfl) rfl args w)
  have HL100 := Lib.hid hl100
  have HN := Lib.hid hn
  have HPOS := Lib.hid hpos
  have HBE := Lib.hid hbest
  have HBS := Lib.hid (fun h : 0 < n => bestL_some (gtN (visN cs)) (l := S) h (Nat.le_of_eq hn.symm))
  have HMM := Lib.hid hM
  obtain ⟨s, hs⟩ : ∃ s, w.heap.size = s := ⟨_, rfl⟩
  obtain ⟨W0, hW0⟩ : ∃ W0, (w.alloc (.cells #[.map (some b)] 61)).alloc (.cells #[.int .i8 0, .int .i8 0] 30) = W0 := ⟨_, rfl⟩
  have g0 : Holds W0 s #[.map (some b)] := by rw [← hW0, ← hs]; exact (Holds.new _ _ _).alloc _
  have g1 : Holds W0 (s + 1) #[.int .i8 0, .int .i8 0] := by rw [← hW0, ← hs]; exact Holds.new' _ _ _ _ (by simp)
  have gM : MapIs W0 b cellK valK (visM cs) := by rw [← hW0]; exact (hM.alloc _).alloc _
  have hb0 : Below s w W0 := by rw [← hW0, ← hs]; exact ((Below.refl w.heap.size w).alloc (Nat.le_refl _) _).alloc (by simp) _
  have c0 : W0.cell? ⟨s, 0, none⟩ = some (.map (some b)) := g0.cell 0
  have hs0 : W0.heap.size = s + 2 := by rw [← hW0, ← hs]; simp
  rw [hs]
  have HS := Lib.hid hs
  have c00 : W0.cell? ⟨w.heap.size, 0, none⟩ = some (.map (some b)) := by rw [hs]; exact c0
  clear hs hM hn hpos hl100 hbest hS hMo hks hlen
  go_enter Tryz.func25, Tryz.ntmps25
  go_wp2_with fail
  try rw [hW0]
  try simp only [HS.out]
  clear hW0
  refine (HOR.out _ gM).mono ?_
  rintro e w1 ⟨⟨v, rfl, ho⟩, hb1⟩
  have k0 := g0.below hb1 g0.lt
  have k1 := g1.below hb1 g1.lt
  have kM := gM.below hb1 gM.lt
  have hb2 := hb0.trans (hb1.mono (by omega))
  have HO := Lib.hid ho
  have HK0 := Lib.hid k0
  have HKM := Lib.hid kM
  clear g0 g1 gM hb0 hb1 HOR HMM ho c0
  go_wp2_with fail
  refine (bestC_any (gtN (visN cs)) _ #[.pointer (some ⟨s, 0, none⟩)] HE2.out _ n _ HL100.out S HN.out _ (fun c d w1 hw1 => mostCmp_any cs b s c d w1 (HK0.out.below hw1 HK0.out.lt) (HKM.out.below hw1 HKM.out.lt)) HO.out).mono ?_
  rintro e w2 ⟨rfl, hb3⟩
  have k0 := k0.below hb3 k0.lt
  have k1 := k1.below hb3 k1.lt
  have kM := kM.below hb3 kM.lt
  have hb4 := hb2.trans (hb3.mono (by have := hb2.size; have := HS.out; omega))
  clear HO HK0 HKM hb2 hb3
  rcases Nat.eq_zero_or_pos n with h0 | h0
  · subst h0
    have hM0 : M = ((0, 0), 0) := HBE.out
    have hR : mostR M = ((0, 0), 0, 6) := by rw [hM0]; rfl
    have HR := Lib.hid hR
    have hd : decide (0 < 0) = false := rfl
    have hbl : (bestL (gtN (visN cs)) S 0) = none := rfl
    rw [hbl, hd]
    have hce : cellO (none : Option Q10) = #[.int .i8 0, .int .i8 0] := rfl
    rw [hce]
    have hk1s := k1.lt
    obtain ⟨r2, f2, -, -, l2⟩ := k1.facts
    have e10 := k1.cell 0
    have e11 := k1.cell 1
    have k1' := k1
    have k1 := k1.alloc (.cells #[.int .i8 0, .int .i8 0] 30)
    obtain ⟨r1, f1, -, -, l1⟩ := k1.facts
    have HB4 := Lib.hid hb4
    have HK1 := Lib.hid k1'
    clear hM0 hR hd hbl hce hb4 k0 kM
    go_wp2_with fail
    exact bodyPost_ret (results_cell_nn rfl (by kernel_rfl) _ rfl rfl rfl ((HK1.out.setRow _).alloc _) rfl) rfl ⟨by rw [HR.out]; rfl, (below_setRow' HB4.out (by omega) _).alloc (by have := HB4.out.size; have := HS.out; simp; omega) _⟩
  · obtain ⟨d, hd⟩ := HBS.out h0
    have hR : mostR M = (ptOf d, visN cs (ptOf d), 0) := by
      have h1 := HBE.out
      rw [hd] at h1
      have h2 := HPOS.out d (bestL_mem _ _ _ (by rw [HN.out]; exact hd))
      rw [h1]
      unfold mostR
      rw [if_neg (by dsimp only; omega)]
    have HR := Lib.hid hR
    have hdec : decide (0 < n) = true := by simpa using h0
    rw [hd, hdec]
    have hce : cellO (some d) = #[.int .i8 d.1.val, .int .i8 d.2.val] := rfl
    rw [hce]
    have n0 := Holds.new w2 #[.int .i8 d.1.val, .int .i8 d.2.val] 30
    obtain ⟨W3, hW3⟩ : ∃ W3, w2.alloc (.cells #[.int .i8 d.1.val, .int .i8 d.2.val] 30) = W3 := ⟨_, rfl⟩
    have j0 : Holds W3 s #[.map (some b)] := by rw [← hW3]; exact k0.alloc _
    have j1 : Holds W3 (s + 1) #[.int .i8 0, .int .i8 0] := by rw [← hW3]; exact k1.alloc _
    have jM : MapIs W3 b cellK valK (visM cs) := by rw [← hW3]; exact kM.alloc _
    have hb5 : Below s w W3 := by rw [← hW3]; exact hb4.alloc (by have := hb4.size; have := HS.out; omega) _
    rw [hW3] at n0
    have hs1 := k1.lt
    obtain ⟨g, hgs⟩ : ∃ g, w2.heap.size = g := ⟨_, rfl⟩
    rw [hgs] at n0 hs1
    have HW3 := Lib.hid hW3
    have HG := Lib.hid hgs
    have HB4 := Lib.hid hb5
    have HJ0 := Lib.hid j0
    have HJ1 := Lib.hid j1
    have HJM := Lib.hid jM
    have HN0 := Lib.hid n0
    clear hR hd hdec hce hb4 k0 k1 kM hW3 hgs n0 j0 j1 jM hb5
    go_wp2_with fail
    simp only [HW3.out, HG.out]
    refine wp_region_growS1 6 4 (s + 1) #[.int .i8 0, .int .i8 0] #[.int .i8 d.1.val, .int .i8 d.2.val] [.agg #[.int .i8 d.1.val, .int .i8 d.2.val], .map (some b), .agg #[.int .i8 d.1.val, .int .i8 d.2.val], .int .i64 (visN cs (ptOf d)), undef, .int .i64 (visN cs (ptOf d))] (by kernel_rfl) (by kernel_rfl) (by decide) HJ1.out ?_
    simp only [List.take_succ_cons, List.take_zero, List.drop_succ_cons, List.drop_zero]
    refine seqS_other (v := .agg #[.int .i8 d.1.val, .int .i8 d.2.val]) rfl rfl rfl ?_ ?_
    · intro w' hw' K hK
      have e0 := (hw'.holds HN0.out (by simp; omega)).cell
      go_wp2_with fail
      exact hK _ _ rfl (Below.refl _ _)
    simp only [Act.put, List.setIfInBounds_toArray, List.set_cons_succ, List.set_cons_zero]
    refine seqS_other (v := .map (some b)) rfl rfl rfl ?_ ?_
    · intro w' hw' K hK
      have e0 := (hw'.holds HJ0.out (by simp)).cell 0
      go_wp2_with fail
      exact hK _ _ rfl (Below.refl _ _)
    simp only [Act.put, List.setIfInBounds_toArray, List.set_cons_succ, List.set_cons_zero]
    refine seqS_other (v := .agg #[.int .i8 d.1.val, .int .i8 d.2.val]) rfl rfl rfl ?_ ?_
    · intro w' hw' K hK
      have e0 := (hw'.holds HN0.out (by simp; omega)).cell
      go_wp2_with fail
      exact hK _ _ rfl (Below.refl _ _)
    simp only [Act.put, List.setIfInBounds_toArray, List.set_cons_succ, List.set_cons_zero]
    refine seqS_other (v := .int .i64 (visN cs (ptOf d))) rfl rfl rfl ?_ ?_
    · intro w' hw' K hK
      have l1 : (Instr.lookup 61 (.map (some b)) (.agg #[.int .i8 (d.1.val : Int), .int .i8 (d.2.val : Int)]) false).run Tryz.prog w' = .ok (.int .i64 (visN cs (ptOf d))) w' := ((HJM.out.block (hw'.block b HJM.out.lt (by simp; exact map_off_row HJM.out HJ1.out))).look cellKey Tryz.underlying61 zeroK64 (ptOf d)).1
      go_wp2_with fail
      exact hK _ _ rfl (Below.refl _ _)
    simp only [Act.put, List.setIfInBounds_toArray, List.set_cons_succ, List.set_cons_zero]
    refine seqS_store rfl rfl rfl ?_ ?_
    · intro w' hO hH K hK
      obtain ⟨rr, fr, -, -, lr⟩ := hH.facts
      go_wp2_with fail
      exact hK
    refine seqS_other (v := .int .i64 (visN cs (ptOf d))) rfl rfl rfl ?_ ?_
    · intro w' hw' K hK
      go_wp2_with fail
      exact hK _ _ rfl (Below.refl _ _)
    simp only [Act.put, List.setIfInBounds_toArray, List.set_cons_succ, List.set_cons_zero]
    refine seqS_nil ?_
    intro w' hO hH
    have HH := Lib.hid hH
    have HB9 := Lib.hid (HB4.out.trans (hO.toBelow (B := s) (by intro k hk; simp at hk; omega) (by have := HB4.out.size; have := HS.out; omega)))
    clear hO hH
    go_wp2_with fail
    exact bodyPost_ret (results_cell_nn rfl (by kernel_rfl) _ rfl rfl rfl HH.out rfl) rfl ⟨by rw [HR.out]; rfl, HB9.out⟩
end Go.Proofs.YtabemgplddfemaaGreatDoor
