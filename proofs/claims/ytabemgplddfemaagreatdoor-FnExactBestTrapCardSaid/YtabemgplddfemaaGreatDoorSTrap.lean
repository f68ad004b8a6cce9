/- BestTrap, of the model. -/
import Derived.Test.YtabemgplddfemaaGreatDoorTrapP
import Derived.Test.YtabemgplddfemaaGreatDoorSMostV
import Derived.Test.YtabemgplddfemaaGreatDoorGridT
import Derived.Test.YtabemgplddfemaaGreatDoorGrowYA
import Derived.Test.YtabemgplddfemaaGreatDoorGrowS
import Derived.Test.YtabemgplddfemaaGreatDoorVLev
namespace Go.Proofs.YtabemgplddfemaaGreatDoor
open Go.RowKit Go.Shelf
set_option linter.unusedVariables false
set_option linter.unusedSimpArgs false
attribute [local go_sem ↓] loadRow loadGrid loadLawn loadMirror storeRow storeGrid storeLawn allocRow allocGrid allocLawn buildZero buildSides loadR8 loadL8 loadLv storeR8 storeLv allocR8 allocLv buildZLv storeCl loadG64 storeG64 allocG64 buildG64 loadGT storeGT allocGT buildGT

theorem l06Nights_any (n : Int) (w : World) : Calls Tryz.prog 14 #[.int .i64 n] w fun e w' => e = .returned (.bool (upZ n 60)) ∧ w' = w := by
  obtain ⟨u, hu⟩ : ∃ u, upZ n 60 = u := ⟨_, rfl⟩
  rw [hu]
  have HIN := Lib.hid (show ∀ w, Calls Tryz.prog 29 #[.int .i64 n, .int .i64 0, .int .i64 60] w fun e w' => e = .returned (.bool u) ∧ w' = w from fun w => by
    cases u with
    | true => exact in_yes n 0 60 w (by rw [← upZ_in]; exact hu)
    | false => exact in_no n 0 60 w (by rw [← upZ_in]; exact hu))
  go_enter Tryz.func14, Tryz.ntmps14
  go_wp2_with (go_at_call 29; refine (HIN.out _).mono ?_; rintro e w2 ⟨rfl, hw2⟩; rw [hw2]; clear hw2)
  go_ret
  exact ⟨rfl, rfl⟩

/-- The cells that have been seen, as a grid. -/
def seenG (ps : List Pt) (i : Nat) (y x : Nat) : Bool := (ps.take i).contains ((x : Int), (y : Int))
theorem seen_new {ps : List Pt} {i x y : Nat} (h : ps[i]? = some ((x : Int), (y : Int))) : gridT (seenG ps (i + 1)) = gridT (updB (seenG ps i) y x true) := by
  refine gridT_ext fun y' x' hy hx => ?_
  unfold seenG updB
  rw [List.take_add_one, h, Option.toList_some]
  by_cases e : y' = y ∧ x' = x
  · obtain ⟨rfl, rfl⟩ := e
    simp
  · rw [if_neg e]
    have : ¬ (((x' : Int), (y' : Int)) : Pt) = ((x : Int), (y : Int)) := fun h => e (by rw [Prod.mk.injEq] at h; omega)
    rw [Bool.eq_iff_iff, List.contains_iff_mem, List.contains_iff_mem, List.mem_append, List.mem_singleton]
    exact ⟨fun h => h.resolve_right this, .inl⟩
theorem seen_old {ps : List Pt} {i x y : Nat} (h : ps[i]? = some ((x : Int), (y : Int))) (hc : (ps.take i).contains ((x : Int), (y : Int)) = true) : gridT (seenG ps (i + 1)) = gridT (seenG ps i) := by
  refine gridT_ext fun y' x' hy hx => ?_
  unfold seenG
  rw [List.take_add_one, h, Option.toList_some]
  rw [List.contains_iff_mem] at hc
  rw [Bool.eq_iff_iff, List.contains_iff_mem, List.contains_iff_mem, List.mem_append, List.mem_singleton]
  exact ⟨fun h => h.elim id (fun k => k ▸ hc), .inl⟩

set_option maxRecDepth 100000 in
set_option maxHeartbeats 4000000 in
theorem strap_good (L : Lawn) (hL : L.Fits) (g : Nat → Nat → Int) (hg : LevFits g) (hv : levB L g = true) (N : Nat) (hN : N ≤ 60) (Wn Hn : Nat) (hW : Wn ≤ 10) (hH : Hn ≤ 10) (hW1 : 1 ≤ Wn) (hH1 : 1 ≤ Hn) (hLw : L.wide = Wn) (hLh : L.high = Hn) (d0 : Fin Wn × Fin Hn) (hd0 : (ofKind L Wn Hn 0)[0]? = some d0) (w : World) :
    Calls Tryz.prog 5 #[.agg L.cells, .agg (levV g), .int .i64 N] w fun e w' => e = .returned (cellNN3 (trapA L g N Wn Hn)) ∧ Below w.heap.size w w' := by
  obtain ⟨s, hs⟩ : ∃ s, w.heap.size = s := ⟨_, rfl⟩
  have hup : upZ (N : Int) 60 = true := by unfold upZ; simp; omega
  have HNI := Lib.hid (show ∀ w, Calls Tryz.prog 14 #[.int .i64 N] w fun e w' => e = .returned (.bool true) ∧ w' = w from fun w => hup ▸ l06Nights_any N w)
  have HAK := Lib.hid (show ∀ (w : World), Holds w s L.cells → Holds w (s + 1) (levV g) → Calls Tryz.prog 13 #[.pointer (some ⟨s, 0, none⟩), .pointer (some ⟨s + 1, 0, none⟩), .bool true] w fun e w' => e = .returned (.int .i64 0) ∧ Below w.heap.size w w' from fun w h h' => by
    have h := l06Asked_any L hL g hg s (s + 1) true w h h'
    rw [hv] at h
    exact h)
  have HCE := Lib.hid (fun (w : World) (h : Holds w s L.cells) => l01Cells_any Wn Hn hW hH hW1 hH1 L hL hLw hLh 0 s w h)
  have HPN := Lib.hid (fun (c : Fin Wn × Fin Hn) (hc : c ∈ ofKind L Wn Hn 0) (w : World) => by
    have hq : grassP L (ptQ (toQ (ptOf c))) = true := by rw [toQ_pt hW hH]; exact ofKind_grass hLw hLh hc
    have h := smoleNights_good L hL g hg hv (toQ (ptOf c)) hq N hN w
    have e : ptQ (toQ (ptOf c)) = ptOf c := toQ_pt hW hH c
    have e1 : ((toQ (ptOf c)).1.val : Int) = (c.1.val : Int) := congrArg Prod.fst e
    have e2 : ((toQ (ptOf c)).2.val : Int) = (c.2.val : Int) := congrArg Prod.snd e
    rw [e1, e2] at h
    exact h)
  have HPL := Lib.hid (fun c : Fin Wn × Fin Hn => pathQ_length L g (toQ (ptOf c)) N)
  have HTS := Lib.hid (fun (l : List (Fin Wn × Fin Hn)) c => trapC_snoc L g N l c)
  have HTL := Lib.hid (fun l : List (Fin Wn × Fin Hn) => trapC_le L g N l)
  have HBA := Lib.hid (fun d => trapA_best (d := d) hv N hW hH hLw hLh)
  have hPW : @trapW L g N Wn Hn = fun c => (pathQ L g (toQ (ptOf c)) N).map ptQ := rfl
  have hT0 : trapC L g N ([] : List (Fin Wn × Fin Hn)) = [] := rfl
  obtain ⟨A, hA⟩ : ∃ A, trapA L g N Wn Hn = A := ⟨_, rfl⟩
  obtain ⟨T, hT⟩ : ∃ T, @trapC L g N Wn Hn = T := ⟨_, rfl⟩
  obtain ⟨Pq, hP⟩ : ∃ P : Fin Wn × Fin Hn → List Q10, (fun c => pathQ L g (toQ (ptOf c)) N) = P := ⟨_, rfl⟩
  have hP' : ∀ c, pathQ L g (toQ (ptOf c)) N = Pq c := fun c => congrFun hP c
  obtain ⟨S, hS⟩ : ∃ S, ofKind L Wn Hn 0 = S := ⟨_, rfl⟩
  have hSl : S.length ≤ 100 := by
    rw [← hS]
    refine Nat.le_trans (List.length_filter_le _ _) ?_
    rw [allC_length]
    exact Nat.le_trans (Nat.mul_le_mul hH hW) (by omega)
  simp only [hP'] at HPN HPL hPW
  rw [hT] at HTS HTL HBA hT0
  rw [hPW] at HTS
  rw [hS] at HCE HPN HBA hd0
  rw [hA] at HBA ⊢
  obtain ⟨n, hn⟩ : ∃ n, S.length = n := ⟨_, rfl⟩
  rw [hn] at HCE HBA hSl
  have HN := Lib.hid hn
  have HT0 := Lib.hid hT0
  have HD0 := Lib.hid hd0
  have hn0 : 0 < n := by rw [← hn]; exact (List.getElem?_eq_some_iff.1 hd0).1
  have hnz : ((n : Int) == 0) = false := by simp; omega
  have HWH := Lib.hid (show Wn ≤ 10 ∧ Hn ≤ 10 from ⟨hW, hH⟩)
  clear hL hg hv hup hW hH hW1 hH1 hLw hLh hT hP hP' hPW hS hA hn hT0 hd0
  obtain ⟨W0, hW0⟩ : ∃ W0, ((w.alloc (.cells L.cells 33)).alloc (.cells (levV g) 35)).alloc (.cells #[.int .i8 0, .int .i8 0] 30) = W0 := ⟨_, rfl⟩
  have g0 : Holds W0 s L.cells := by rw [← hW0]; exact ((Holds.new' _ _ _ _ hs.symm).alloc _).alloc _
  have g1 : Holds W0 (s + 1) (levV g) := by rw [← hW0]; exact (Holds.new' _ _ _ _ (by simp <;> omega)).alloc _
  have g2 : Holds W0 (s + 1 + 1) #[.int .i8 0, .int .i8 0] := by rw [← hW0]; exact Holds.new' _ _ _ _ (by simp <;> omega)
  have hb : Below s w W0 := by rw [← hW0]; exact (((Below.refl s w).alloc (by omega) _).alloc (by simp; omega) _).alloc (by simp; omega) _
  rw [hs]
  go_enter Tryz.func5, Tryz.ntmps5
  go_wp2_with fail
  try rw [hW0]
  clear hW0
  refine (HNI.out _).mono ?_
  rintro e w1 ⟨rfl, hw1⟩
  rw [hw1]
  clear hw1
  go_wp2_with fail
  refine (HAK.out _ g0 g1).mono ?_
  rintro e w2 ⟨rfl, hb1⟩
  have hb2 : Below s w w2 := hb.trans (hb1.mono (by have := hb.size; omega))
  have m0 := g0.below hb1 g0.lt
  have m1 := g1.below hb1 g1.lt
  have m2 := g2.below hb1 g2.lt
  clear g0 g1 g2 hb hb1 HNI HAK
  go_wp2_with fail
  refine (HCE.out _ m0).mono ?_
  rintro e w3 ⟨v, rfl, ho, hb4⟩
  obtain ⟨ga, cS, rfl, hBg, hgw⟩ := own_form ho hn0
  have hs2 : s + 1 + 1 < w2.heap.size := m2.lt
  have j0 := (m0.below hb4 m0.lt).alloc (.cells (grid64 fun _ _ => 0) 50)
  have j1 := (m1.below hb4 m1.lt).alloc (.cells (grid64 fun _ _ => 0) 50)
  have j2 := (m2.below hb4 m2.lt).alloc (.cells (grid64 fun _ _ => 0) 50)
  have HO := Lib.hid (ho.alloc (.cells (grid64 fun _ _ => 0) 50))
  have hb5 : Below s w (w3.alloc (.cells (grid64 fun _ _ => 0) 50)) := (hb2.trans (hb4.mono (by have := hb2.size; omega))).alloc (by have := hb2.size; have := hb4.size; omega) _
  have jG : Holds (w3.alloc (.cells (grid64 fun _ _ => 0) 50)) w3.heap.size (grid64 (visG [])) := Holds.new _ _ _
  obtain ⟨b, hbb⟩ : ∃ b, w3.heap.size = b := ⟨_, rfl⟩
  obtain ⟨W4, hW4⟩ : ∃ W, w3.alloc (.cells (grid64 fun _ _ => 0) 50) = W := ⟨_, rfl⟩
  have hsb : s + 1 + 1 < b := by have := hb4.size; omega
  have hgb : ga < b := by omega
  obtain ⟨B2, hB2⟩ : ∃ B, w2.heap.size = B := ⟨_, rfl⟩
  rw [hB2] at HO
  rw [hbb] at jG
  rw [hW4] at j0 j1 j2 jG HO hb5
  have HW4 := Lib.hid hW4
  have HBB := Lib.hid hbb
  clear m0 m1 m2 hb2 hb4 ho HCE hW4 hbb hgw
  go_wp2_with fail
  try simp only [HW4.out, HBB.out]
  go_loopw [12] (fun t wr => ∃ k : Nat, k ≤ n ∧ t = .int .i64 k ∧ wr.ownsRow B2 30 2 (.slice (some ⟨ga, 0, none⟩) n cS) n (flatV S) ∧ Holds wr b (grid64 (visG (T (S.take k)))) ∧ Holds wr s L.cells ∧ Holds wr (s + 1) (levV g) ∧ Holds wr (s + 1 + 1) #[.int .i8 0, .int .i8 0] ∧ Below s w wr) (fun t _ => 300 - (intOf t).toNat)
  case atStart => exact ⟨0, Nat.zero_le _, rfl, HO.out, by rw [List.take_zero, HT0.out]; exact jG, j0, j1, j2, hb5⟩
  case round =>
    obtain ⟨k, hk, rfl, ho, qG, q0, q1, q2, hb⟩ := hrel
    have HO1 := Lib.hid ho
    clear ho HO jG j0 j1 j2 hb5 HT0 HW4 HBB
    by_cases hlt : k < n
    · have hd : decide ((k : Int) < (n : Int)) = true := by simp; omega
      obtain ⟨c, hc⟩ : ∃ c, S[k]? = some c := ⟨_, List.getElem?_eq_getElem (by rw [HN.out]; exact hlt)⟩
      have HCS := Lib.hid (HPN.out c (List.mem_of_getElem? hc))
      have HTK := Lib.hid (show T (S.take (k + 1)) = T (S.take k) ++ newK ((Pq c).map ptQ) (N + 1) by rw [← HTS.out, List.take_add_one, hc]; rfl)
      obtain ⟨fa, fb⟩ := flatV_get _ _ _ hc
      have hpl := HPL.out c
      obtain ⟨ps, hps⟩ : ∃ ps, Pq c = ps := ⟨_, rfl⟩
      obtain ⟨G9, hG9⟩ : ∃ G, (stQ L g (toQ (ptOf c)) N).1 = G := ⟨_, rfl⟩
      obtain ⟨px, hpx⟩ : ∃ p : Int, (c.1.val : Int) = p := ⟨_, rfl⟩
      obtain ⟨py, hpy⟩ : ∃ p : Int, (c.2.val : Int) = p := ⟨_, rfl⟩
      rw [hps, hG9, hpx, hpy] at HCS
      rw [hps] at HTK hpl
      rw [hpx] at fa
      rw [hpy] at fb
      have HPS := Lib.hid hpl
      have FX := Lib.hid (show ∀ w', Below wr.heap.size wr w' → w'.cell? ⟨ga, k * 2, none⟩ = some (.int .i8 px) ∧ w'.cell? ⟨ga, k * 2 + 1, none⟩ = some (.int .i8 py) from fun w' hw' =>
        ⟨own_cell (own_below HO1.out hw') _ _ fa, own_cell (own_below HO1.out hw') _ _ fb⟩)
      clear hc fa fb hps hG9 hpx hpy hpl
      go_wp2_with fail
      refine wp_region_growYA 15 7 12 13 [8, 9, 10, 11, 14] (fun y w' => w'.ownsRow wr.heap.size 30 2 y (N + 1) (flatV ps)) (levV fun _ _ => 0) (levV G9) 35 (fun _ _ _ h hb => own_below h hb) (fun y p w' h hp => own_typed h hp (by decide)) (fun y => [.agg L.cells, .agg (levV g), .slice (some ⟨ga, 0, none⟩) n cS, .int .i64 (k : Int), .pointer (some ⟨ga, k * 2, none⟩), .agg #[.int .i8 px, .int .i8 py], .int .i64 (N : Int), .tuple #[.agg (levV G9), y, .int .i64 0], .tuple #[.agg (levV G9), y, .int .i64 0], .agg (levV G9), y, .int .i64 0, undef, undef, y]) (by
        intro p p' j h1 h2
        match j with
        | 0 => rfl
        | 1 => rfl
        | 2 => rfl
        | 3 => rfl
        | 4 => rfl
        | 5 => rfl
        | 6 => rfl
        | 7 => exact absurd rfl h1
        | 8 => cases h2
        | 9 => cases h2
        | 10 => cases h2
        | 11 => cases h2
        | 12 => rfl
        | 13 => rfl
        | 14 => cases h2
        | j + 15 => rfl) (by kernel_rfl) (by kernel_rfl) (by kernel_rfl) (by kernel_rfl) ?_
      rintro ⟨y, p⟩
      simp only [List.take_succ_cons, List.take_zero, List.drop_succ_cons, List.drop_zero]
      refine seqYA_free (v := .agg L.cells) rfl rfl rfl rfl rfl rfl ?_ ?_
      · intro w' hw' K hK
        have e0 := q0.below hw' q0.lt
        obtain ⟨r0, -, -, -, l0⟩ := e0.facts
        clear e0
        go_wp2_with fail
        exact hK _ _ rfl (Below.refl _ _)
      simp only [Act.put, List.setIfInBounds_toArray, List.set_cons_succ, List.set_cons_zero]
      refine seqYA_free (v := .agg (levV g)) rfl rfl rfl rfl rfl rfl ?_ ?_
      · intro w' hw' K hK
        have e0 := q1.below hw' q1.lt
        obtain ⟨r0, -, -, -, l0⟩ := e0.facts
        clear e0
        go_wp2_with fail
        exact hK _ _ rfl (Below.refl _ _)
      simp only [Act.put, List.setIfInBounds_toArray, List.set_cons_succ, List.set_cons_zero]
      refine seqYA_free (v := .slice (some ⟨ga, 0, none⟩) n cS) rfl rfl rfl rfl rfl rfl ?_ ?_
      · intro w' hw' K hK
        go_wp2_with fail
        exact hK _ _ rfl (Below.refl _ _)
      simp only [Act.put, List.setIfInBounds_toArray, List.set_cons_succ, List.set_cons_zero]
      refine seqYA_free (v := .int .i64 (k : Int)) rfl rfl rfl rfl rfl rfl ?_ ?_
      · intro w' hw' K hK
        go_wp2_with fail
        exact hK _ _ rfl (Below.refl _ _)
      simp only [Act.put, List.setIfInBounds_toArray, List.set_cons_succ, List.set_cons_zero]
      refine seqYA_free (v := .pointer (some ⟨ga, k * 2, none⟩)) rfl rfl rfl rfl rfl rfl ?_ ?_
      · intro w' hw' K hK
        go_wp2_with fail
        exact hK _ _ rfl (Below.refl _ _)
      simp only [Act.put, List.setIfInBounds_toArray, List.set_cons_succ, List.set_cons_zero]
      refine seqYA_free (v := .agg #[.int .i8 px, .int .i8 py]) rfl rfl rfl rfl rfl rfl ?_ ?_
      · intro w' hw' K hK
        obtain ⟨f1, f2⟩ := FX.out _ hw'
        go_wp2_with fail
        exact hK _ _ rfl (Below.refl _ _)
      simp only [Act.put, List.setIfInBounds_toArray, List.set_cons_succ, List.set_cons_zero]
      refine seqYA_free (v := .int .i64 (N : Int)) rfl rfl rfl rfl rfl rfl ?_ ?_
      · intro w' hw' K hK
        go_wp2_with fail
        exact hK _ _ rfl (Below.refl _ _)
      simp only [Act.put, List.setIfInBounds_toArray, List.set_cons_succ, List.set_cons_zero]
      refine seqYA_call rfl rfl rfl (fun q => .tuple #[.agg (levV G9), q, .int .i64 0]) (fun q => rfl) ?_ ?_
      · intro w' hw' K hK
        go_wp2_with fail
        refine (HCS.out _).mono ?_
        rintro e w1 ⟨⟨v, rfl, ho⟩, hb1⟩
        exact hK v _ _ rfl hb1 (ownsRow_low ho hw'.size)
      simp only [Act.put, List.setIfInBounds_toArray, List.set_cons_succ, List.set_cons_zero]
      refine seqYA_dep (v := .tuple #[.agg (levV G9), y, .int .i64 0]) rfl rfl rfl rfl rfl rfl ?_ ?_
      · intro w' hw' hI K hK
        go_wp2_with fail
        exact hK _ _ rfl (Below.refl _ _)
      simp only [Act.put, List.setIfInBounds_toArray, List.set_cons_succ, List.set_cons_zero]
      refine seqYA_dep (v := .agg (levV G9)) rfl rfl rfl rfl rfl rfl ?_ ?_
      · intro w' hw' hI K hK
        go_wp2_with fail
        exact hK _ _ rfl (Below.refl _ _)
      simp only [Act.put, List.setIfInBounds_toArray, List.set_cons_succ, List.set_cons_zero]
      refine seqYA_dep (v := y) rfl rfl rfl rfl rfl rfl ?_ ?_
      · intro w' hw' hI K hK
        go_wp2_with fail
        exact hK _ _ rfl (Below.refl _ _)
      simp only [Act.put, List.setIfInBounds_toArray, List.set_cons_succ, List.set_cons_zero]
      refine seqYA_dep (v := .int .i64 0) rfl rfl rfl rfl rfl rfl ?_ ?_
      · intro w' hw' hI K hK
        go_wp2_with fail
        exact hK _ _ rfl (Below.refl _ _)
      simp only [Act.put, List.setIfInBounds_toArray, List.set_cons_succ, List.set_cons_zero]
      refine seqYA_make rfl rfl rfl ?_ ?_
      · intro w' hp K hK
        go_wp2_with fail
        first | done | exact hK _ (by rw [hp]; rfl)
      simp only [Act.put, List.setIfInBounds_toArray, List.set_cons_succ, List.set_cons_zero]
      refine seqYA_store rfl rfl rfl rfl rfl ?_ ?_
      · intro w' hp hH K hK
        dsimp only at hp hH hK
        have rp := hH.row
        have fp := hH.isFree
        have lp := hH.lt
        go_wp2_with fail
        exact hK
      refine seqYA_dep (v := y) rfl rfl rfl rfl rfl rfl ?_ ?_
      · intro w' hw' hI K hK
        go_wp2_with fail
        exact hK _ _ rfl (Below.refl _ _)
      simp only [Act.put, List.setIfInBounds_toArray, List.set_cons_succ, List.set_cons_zero]
      refine seqYA_nil ?_
      intro W5 hp5 hW5 hA5 os
      try dsimp only at hp5 hA5 os
      obtain ⟨gp, cp, rfl, hBp, hgpw⟩ := own_form os (by omega)
      have hbwr : b < wr.heap.size := qG.lt
      have HP5 := Lib.hid (os.alloc (.cells (gridT fun _ _ => false) 54))
      have HO5 := Lib.hid ((own_below HO1.out hW5).alloc (.cells (gridT fun _ _ => false) 54))
      have x0 := (q0.below hW5 q0.lt).alloc (.cells (gridT fun _ _ => false) 54)
      have x1 := (q1.below hW5 q1.lt).alloc (.cells (gridT fun _ _ => false) 54)
      have x2 := (q2.below hW5 q2.lt).alloc (.cells (gridT fun _ _ => false) 54)
      have xG := (qG.below hW5 qG.lt).alloc (.cells (gridT fun _ _ => false) 54)
      have hb7 := (hb.trans (hW5.mono (by have := hb.size; omega))).alloc (by have := hb.size; have := hW5.size; omega) (.cells (gridT fun _ _ => false) 54)
      have xS : Holds (W5.alloc (.cells (gridT fun _ _ => false) 54)) W5.heap.size (gridT (seenG (ps.map ptQ) 0)) := Holds.new _ _ _
      obtain ⟨u, hu⟩ : ∃ u, W5.heap.size = u := ⟨_, rfl⟩
      obtain ⟨W6, hW6⟩ : ∃ W, W5.alloc (.cells (gridT fun _ _ => false) 54) = W := ⟨_, rfl⟩
      obtain ⟨B3, hB3⟩ : ∃ B, wr.heap.size = B := ⟨_, rfl⟩
      have hB3u : B3 ≤ u := by rw [← hB3, ← hu]; exact hW5.size
      rw [hB3] at HP5 hbwr hBp
      rw [hu] at xS hgpw
      rw [hW6] at HP5 HO5 x0 x1 x2 xG xS hb7
      have HW6 := Lib.hid hW6
      have HU := Lib.hid hu
      clear hp5 hW5 hA5 os q0 q1 q2 qG hb HO1 hW6 hu hB3 FX HCS
      go_wp2_with fail
      try simp only [HW6.out, HU.out]
      clear HW6 HU
      go_loopw [17] (fun t wi => ∃ i : Nat, i ≤ N + 1 ∧ t = .int .i64 i ∧ wi.ownsRow B2 30 2 (.slice (some ⟨ga, 0, none⟩) n cS) n (flatV S) ∧ wi.ownsRow B3 30 2 (.slice (some ⟨gp, 0, none⟩) (N + 1) cp) (N + 1) (flatV ps) ∧ Holds wi b (grid64 (visG (T (S.take k) ++ newK (ps.map ptQ) i))) ∧ Holds wi u (gridT (seenG (ps.map ptQ) i)) ∧ Holds wi s L.cells ∧ Holds wi (s + 1) (levV g) ∧ Holds wi (s + 1 + 1) #[.int .i8 0, .int .i8 0] ∧ Below s w wi) (fun t _ => 100 - (intOf t).toNat)
      case atStart => exact ⟨0, Nat.zero_le _, rfl, HO5.out, HP5.out, by rw [show newK (ps.map ptQ) 0 = [] from rfl, List.append_nil]; exact xG, xS, x0, x1, x2, hb7⟩
      case round =>
        obtain ⟨i, hi, rfl, ho, hp, qG, qS, q0, q1, q2, hb⟩ := hrel
        have HO1 := Lib.hid ho
        have HP1 := Lib.hid hp
        clear ho hp HO5 HP5 x0 x1 x2 xG xS hb7
        by_cases hlt2 : i < N + 1
        · have hd2 : decide ((i : Int) < (N : Int) + 1) = true := by simp; omega
          obtain ⟨d, hdi⟩ : ∃ d, ps[i]? = some d := ⟨_, List.getElem?_eq_getElem (by rw [HPS.out]; exact hlt2)⟩
          obtain ⟨fa, fb⟩ := flatV_get _ _ _ hdi
          have ha : (ps.map ptQ)[i]? = some ((d.1.val : Int), (d.2.val : Int)) := by rw [List.getElem?_map, hdi]; rfl
          obtain ⟨⟨xn, hxn⟩, ⟨yn, hyn⟩⟩ := d
          dsimp only at fa fb ha
          obtain ⟨pp, hpp⟩ : ∃ pp, ps.map ptQ = pp := ⟨_, rfl⟩
          rw [hpp] at ha
          rw [hpp] at qG qS
          have hgs := gridT_get (seenG pp i) yn xn hyn hxn
          have hgc := grid64_get (visG (T (S.take k) ++ newK pp i)) yn xn hyn hxn
          have htg : visG (T (S.take k) ++ newK pp i) yn xn = visN (T (S.take k) ++ newK pp i) ((xn : Int), (yn : Int)) := rfl
          rw [htg] at hgc
          have hrg := visN_le (T (S.take k) ++ newK pp i) ((xn : Int), (yn : Int))
          have hln : (T (S.take k) ++ newK pp i).length ≤ 10000 := by
            have h1 := HTL.out (S.take k)
            have h2 := newK_le pp i
            have h3 : (S.take k).length ≤ 100 := by rw [List.length_take]; omega
            have h4 := Nat.mul_le_mul h3 (show N + 1 ≤ 61 by omega)
            rw [List.length_append]
            omega
          obtain ⟨tt, htt⟩ : ∃ tt, visN (T (S.take k) ++ newK pp i) ((xn : Int), (yn : Int)) = tt := ⟨_, rfl⟩
          rw [htt] at hgc hrg
          have HTT := Lib.hid htt
          obtain ⟨sb, hsb2⟩ : ∃ sb, (pp.take i).contains ((xn : Int), (yn : Int)) = sb := ⟨_, rfl⟩
          have hse : seenG pp i yn xn = sb := hsb2
          rw [hse] at hgs
          have HSB := Lib.hid hsb2
          have HAI := Lib.hid ha
          have HPP := Lib.hid hpp
          have FX := Lib.hid (show ∀ w', Below wr.heap.size wr w' → w'.cell? ⟨gp, i * 2, none⟩ = some (.int .i8 xn) ∧ w'.cell? ⟨gp, i * 2 + 1, none⟩ = some (.int .i8 yn) ∧ w'.cell? ⟨u, yn * 10 + xn, none⟩ = some (.bool sb) from fun w' hw' =>
            ⟨own_cell (own_below HP1.out hw') _ _ fa, own_cell (own_below HP1.out hw') _ _ fb, by rw [(qS.below hw' qS.lt).cell, hgs]⟩)
          have hx0 : (0 : Int) ≤ xn := by omega
          have hx1 : (xn : Int) < 10 := by omega
          have hy0 : (0 : Int) ≤ yn := by omega
          have hy1 : (yn : Int) < 10 := by omega
          have FA := Lib.hid fa
          have FB := Lib.hid fb
          have HGC := Lib.hid hgc
          have HGS := Lib.hid hgs
          clear hse hsb2 ha hdi fa fb htt htg hpp hgs hgc
          go_wp2_with fail
          refine wp_region_grow 13 (by kernel_rfl) (by kernel_rfl) ?_
          simp only [List.take_succ_cons, List.take_zero, List.drop_succ_cons, List.drop_zero]
          iterate 13
            apply wpGrow_plain rfl
            · intro w' hw' K hK
              obtain ⟨f1, f2, f3⟩ := FX.out _ hw'
              go_wp2_with fail
              exact hK _ _ rfl hw'
            simp only [Act.put, List.setIfInBounds_toArray, List.set_cons_succ, List.set_cons_zero]
          refine wpGrow_nil ?_
          intro W7 hW7
          have y0 := q0.below hW7 q0.lt
          have y1 := q1.below hW7 q1.lt
          have y2 := q2.below hW7 q2.lt
          have yG := qG.below hW7 qG.lt
          have yS := qS.below hW7 qS.lt
          have HO2 := Lib.hid (own_below HO1.out hW7)
          have HP2 := Lib.hid (own_below HP1.out hW7)
          have hb8 := hb.trans (hW7.mono (by have := hb.size; omega))
          have hbu : b < u := by omega
          clear hW7 q0 q1 q2 qG qS HO1 HP1 hb FX
          cases sb with
          | true =>
            have HG8 := Lib.hid (show Holds W7 b (grid64 (visG (T (S.take k) ++ newK (ps.map ptQ) (i + 1)))) by rw [HPP.out, newK_miss HAI.out HSB.out]; exact yG)
            have HS8 := Lib.hid (show Holds W7 u (gridT (seenG (ps.map ptQ) (i + 1))) by rw [HPP.out, seen_old HAI.out HSB.out]; exact yS)
            clear yG yS
            go_wp2_with fail
            go_roundw
            case rel => exact ⟨i + 1, by omega, by go_num, HO2.out, HP2.out, HG8.out, HS8.out, y0, y1, y2, hb8⟩
            case measure => simp [intOf]; omega
          | false =>
            have FX2 := Lib.hid (show ∀ w', Below W7.heap.size W7 w' → w'.cell? ⟨gp, i * 2, none⟩ = some (.int .i8 xn) ∧ w'.cell? ⟨gp, i * 2 + 1, none⟩ = some (.int .i8 yn) from fun w' hw' =>
              ⟨own_cell (own_below HP2.out hw') _ _ FA.out, own_cell (own_below HP2.out hw') _ _ FB.out⟩)
            go_wp2_with fail
            refine wp_region_grow 12 (by kernel_rfl) (by kernel_rfl) ?_
            simp only [List.take_succ_cons, List.take_zero, List.drop_succ_cons, List.drop_zero]
            iterate 12
              apply wpGrow_plain rfl
              · intro w' hw' K hK
                obtain ⟨f1, f2⟩ := FX2.out _ hw'
                go_wp2_with fail
                exact hK _ _ rfl hw'
              simp only [Act.put, List.setIfInBounds_toArray, List.set_cons_succ, List.set_cons_zero]
            refine wpGrow_nil ?_
            intro W8 hW8
            have z0 := y0.below hW8 y0.lt
            have z1 := y1.below hW8 y1.lt
            have z2 := y2.below hW8 y2.lt
            have zG := yG.below hW8 yG.lt
            have zS := yS.below hW8 yS.lt
            have HO3 := Lib.hid (own_below HO2.out hW8)
            have HP3 := Lib.hid (own_below HP2.out hW8)
            have hb9 := hb8.trans (hW8.mono (by have := hb8.size; omega))
            obtain ⟨-, -, c6, f6, l6⟩ := zS.facts
            have hO : Only [u] W8 (W8.setCell ⟨u, yn * 10 + xn, none⟩ (.bool true)) := (Only.refl [u] W8).setCell (a := ⟨u, yn * 10 + xn, none⟩) (.inl (by simp)) _
            have t0 := hO.holds z0 (by simp; omega)
            have t1 := hO.holds z1 (by simp; omega)
            have t2 := hO.holds z2 (by simp; omega)
            have tG := hO.holds zG (by simp; omega)
            have tS := zS.setCell (yn * 10 + xn) (.bool true)
            rw [gridT_set _ _ _ _ hyn hxn] at tS
            have HO4 := Lib.hid (hO.own HO3.out (fun q hq => by simp [Value.ownBlock] at hq; simp; omega))
            have HP4 := Lib.hid (hO.own HP3.out (fun q hq => by simp [Value.ownBlock] at hq; simp; omega))
            have hb10 := hb9.trans (hO.toBelow (B := s) (by simp; omega) (by have := hb9.size; omega))
            obtain ⟨W9, hW9⟩ : ∃ W, W8.setCell ⟨u, yn * 10 + xn, none⟩ (.bool true) = W := ⟨_, rfl⟩
            rw [hW9] at t0 t1 t2 tG tS HO4 HP4 hb10
            have hgsx := HGS.out
            have FX3 := Lib.hid (show ∀ w', Below W9.heap.size W9 w' → w'.cell? ⟨gp, i * 2, none⟩ = some (.int .i8 xn) ∧ w'.cell? ⟨gp, i * 2 + 1, none⟩ = some (.int .i8 yn) ∧ w'.cell? ⟨b, yn * 10 + xn, none⟩ = some (.int .i64 tt) from fun w' hw' =>
              ⟨own_cell (own_below HP4.out hw') _ _ FA.out, own_cell (own_below HP4.out hw') _ _ FB.out, by rw [(tG.below hw' tG.lt).cell, HGC.out]⟩)
            have HW9 := Lib.hid hW9
            clear hW8 y0 y1 y2 yG yS HO2 HP2 hb8 z0 z1 z2 zG zS HO3 HP3 hb9 hO hW9 FX2
            go_wp2_with fail
            try simp only [HW9.out]
            clear HW9 c6 f6 l6 hgsx
            refine wp_region_grow 16 (by kernel_rfl) (by kernel_rfl) ?_
            simp only [List.take_succ_cons, List.take_zero, List.drop_succ_cons, List.drop_zero]
            iterate 16
              apply wpGrow_plain rfl
              · intro w' hw' K hK
                obtain ⟨f1, f2, f3⟩ := FX3.out _ hw'
                go_wp2_with fail
                exact hK _ _ rfl hw'
              simp only [Act.put, List.setIfInBounds_toArray, List.set_cons_succ, List.set_cons_zero]
            refine wpGrow_nil ?_
            intro W10 hW10
            have z0 := t0.below hW10 t0.lt
            have z1 := t1.below hW10 t1.lt
            have z2 := t2.below hW10 t2.lt
            have zG := tG.below hW10 tG.lt
            have zS := tS.below hW10 tS.lt
            have HO5 := Lib.hid (own_below HO4.out hW10)
            have HP5 := Lib.hid (own_below HP4.out hW10)
            have hb11 := hb10.trans (hW10.mono (by have := hb10.size; omega))
            obtain ⟨-, -, c6, f6, l6⟩ := zG.facts
            have hgcx := HGC.out
            have hO : Only [b] W10 (W10.setCell ⟨b, yn * 10 + xn, none⟩ (.int .i64 (tt + 1))) := (Only.refl [b] W10).setCell (a := ⟨b, yn * 10 + xn, none⟩) (.inl (by simp)) _
            have u0 := hO.holds z0 (by simp; omega)
            have u1 := hO.holds z1 (by simp; omega)
            have u2 := hO.holds z2 (by simp; omega)
            have uS := hO.holds zS (by simp; omega)
            have uG := zG.setCell (yn * 10 + xn) (.int .i64 (tt + 1))
            rw [grid64_set _ _ _ _ hyn hxn] at uG
            have HO6 := Lib.hid (hO.own HO5.out (fun q hq => by simp [Value.ownBlock] at hq; simp; omega))
            have HP6 := Lib.hid (hO.own HP5.out (fun q hq => by simp [Value.ownBlock] at hq; simp; omega))
            have hb12 := hb11.trans (hO.toBelow (B := s) (by simp; omega) (by have := hb11.size; omega))
            have HG8 := Lib.hid (show Holds (W10.setCell ⟨b, yn * 10 + xn, none⟩ (.int .i64 (tt + 1))) b (grid64 (visG (T (S.take k) ++ newK (ps.map ptQ) (i + 1)))) by
              rw [HPP.out, newK_hit HAI.out HSB.out, ← List.append_assoc, visG_snoc, HTT.out]; exact uG)
            have HS8 := Lib.hid (show Holds (W10.setCell ⟨b, yn * 10 + xn, none⟩ (.int .i64 (tt + 1))) u (gridT (seenG (ps.map ptQ) (i + 1))) by rw [HPP.out, seen_new HAI.out]; exact uS)
            clear hW10 t0 t1 t2 tG tS HO4 HP4 hb10 z0 z1 z2 zG zS HO5 HP5 hb11 hO uS uG FX3
            go_wp2_with fail
            go_roundw
            case rel => exact ⟨i + 1, by omega, by go_num, HO6.out, HP6.out, HG8.out, HS8.out, u0, u1, u2, hb12⟩
            case measure => simp [intOf]; omega
        · obtain rfl : i = N + 1 := by omega
          have hd2 : decide (((N + 1 : Nat) : Int) < (N : Int) + 1) = false := by simp
          have HG2 := Lib.hid (show Holds wr b (grid64 (visG (T (S.take (k + 1))))) by rw [HTK.out]; exact qG)
          clear HP1 qG qS
          go_wp2_with fail
          go_roundw
          case rel => exact ⟨k + 1, by omega, by go_num, HO1.out, HG2.out, q0, q1, q2, hb⟩
          case measure => simp [intOf]; omega
    · obtain rfl : k = n := by omega
      have hd : decide ((k : Int) < (k : Int)) = false := by simp
      rw [List.take_of_length_le (by rw [HN.out]; exact Nat.le_refl _)] at qG
      obtain ⟨GV, hGV⟩ : ∃ G, visG (T S) = G := ⟨_, rfl⟩
      have HGV : Hid (∀ i j : Nat, GV j i = visN (T S) ((i : Int), (j : Int))) := Lib.hid (fun i j => by rw [← hGV]; rfl)
      rw [hGV] at qG
      obtain ⟨f0, f1⟩ := flatV_get _ _ _ HD0.out
      have c00 := own_cell HO1.out _ _ f0
      have c01 := own_cell HO1.out _ _ f1
      obtain ⟨⟨v0, hv0⟩, ⟨v1, hv1⟩⟩ := d0
      dsimp only at c00 c01 f0 f1
      have hlb : b < wr.heap.size := qG.lt
      have j2 := q2.alloc (.cells #[.int .i8 v0, .int .i8 v1] 30)
      have jG := qG.alloc (.cells #[.int .i8 v0, .int .i8 v1] 30)
      have jC := Holds.new wr #[.int .i8 v0, .int .i8 v1] 30
      have HO2 := Lib.hid (HO1.out.alloc (.cells #[.int .i8 v0, .int .i8 v1] 30))
      have hb5 := hb.alloc (by have := hb.size; omega) (.cells #[.int .i8 v0, .int .i8 v1] 30)
      obtain ⟨uC, huC⟩ : ∃ u, wr.heap.size = u := ⟨_, rfl⟩
      obtain ⟨W6, hW6⟩ : ∃ W6, wr.alloc (.cells #[.int .i8 v0, .int .i8 v1] 30) = W6 := ⟨_, rfl⟩
      rw [huC] at jC hlb
      rw [hW6] at j2 jG jC hb5 HO2
      have HU := Lib.hid huC
      have HW6 := Lib.hid hW6
      clear qG q0 q1 q2 hb HO1 hGV huC hW6 f0 f1
      go_wp2_with fail
      try simp only [HW6.out, HU.out]
      go_loopw [19] (fun t wr => ∃ (e : Fin Wn × Fin Hn) (j : Nat), 1 ≤ j ∧ j ≤ k ∧ t = .int .i64 j ∧ bestL (gtN (visN (T S))) S j = some e ∧ Holds wr uC #[.int .i8 (e.1.val : Int), .int .i8 (e.2.val : Int)] ∧ Holds wr (s + 1 + 1) #[.int .i8 0, .int .i8 0] ∧ Holds wr b (grid64 GV) ∧ wr.ownsRow B2 30 2 (.slice (some ⟨ga, 0, none⟩) k cS) k (flatV S) ∧ Below s w wr) (fun t _ => 300 - (intOf t).toNat)
      case atStart => exact ⟨(⟨v0, hv0⟩, ⟨v1, hv1⟩), 1, Nat.le_refl _, hn0, rfl, by rw [bestL_succ _ HD0.out]; rfl, jC, j2, jG, HO2.out, hb5⟩
      case round =>
        obtain ⟨e, j, hj1, hj, rfl, hM, r4, r5, rG, ro, hb⟩ := hrel
        have HM := Lib.hid hM
        have HAW := Lib.hid ro
        clear jC j2 jG HO2 hb5 ro hM c00 c01
        have hw10 := HWH.out
        obtain ⟨⟨e1, he1⟩, ⟨e2, he2⟩⟩ := e
        dsimp only at r4
        have hwe1 : e1 < 10 := by omega
        have hwe2 : e2 < 10 := by omega
        have hOE := grid64_get GV e2 e1 hwe2 hwe1
        rw [HGV.out] at hOE
        obtain ⟨m, hm⟩ : ∃ m, visN (T S) ((e1 : Int), (e2 : Int)) = m := ⟨_, rfl⟩
        rw [hm] at hOE
        have hx0 : (0 : Int) ≤ e1 := by omega
        have hx1 : (e1 : Int) < 10 := by omega
        have hy0 : (0 : Int) ≤ e2 := by omega
        have hy1 : (e2 : Int) < 10 := by omega
        have hlu : uC < wr.heap.size := r4.lt
        by_cases hlt : j < k
        · have hd : decide ((j : Int) < (k : Int)) = true := by simp; omega
          obtain ⟨c, hc⟩ : ∃ c, S[j]? = some c := ⟨_, List.getElem?_eq_getElem (by rw [HN.out]; exact hlt)⟩
          have hstep := bestL_succ (gtN (visN (T S))) hc
          rw [HM.out] at hstep
          obtain ⟨fa, fb⟩ := flatV_get _ _ _ hc
          obtain ⟨⟨c1, hc1⟩, ⟨c2, hc2⟩⟩ := c
          have hw1 : c1 < 10 := by omega
          have hw2 : c2 < 10 := by omega
          have hOG := grid64_get GV c2 c1 hw2 hw1
          rw [HGV.out] at hOG
          obtain ⟨z, hz⟩ : ∃ z, visN (T S) ((c1 : Int), (c2 : Int)) = z := ⟨_, rfl⟩
          rw [hz] at hOG
          have hgt : gtN (visN (T S)) ((⟨c1, hc1⟩, ⟨c2, hc2⟩) : Fin Wn × Fin Hn) (⟨e1, he1⟩, ⟨e2, he2⟩) = decide (m < z) := by
            show decide (visN (T S) ((e1 : Int), (e2 : Int)) < visN (T S) ((c1 : Int), (c2 : Int))) = _
            rw [hm, hz]
          simp only [pickL, hgt] at hstep
          have HST := Lib.hid hstep
          dsimp only at fa fb
          have FX := Lib.hid (show ∀ w', Below wr.heap.size wr w' → w'.cell? ⟨ga, j * 2, none⟩ = some (.int .i8 c1) ∧ w'.cell? ⟨ga, j * 2 + 1, none⟩ = some (.int .i8 c2) ∧ w'.cell? ⟨b, c2 * 10 + c1, none⟩ = some (.int .i64 z) ∧ w'.cell? ⟨uC, 0, none⟩ = some (.int .i8 e1) ∧ w'.cell? ⟨uC, 1, none⟩ = some (.int .i8 e2) ∧ w'.cell? ⟨b, e2 * 10 + e1, none⟩ = some (.int .i64 m) from fun w' hw' =>
            ⟨own_cell (own_below HAW.out hw') _ _ fa, own_cell (own_below HAW.out hw') _ _ fb, by rw [(rG.below hw' rG.lt).cell, hOG], (r4.below hw' r4.lt).cell 0, (r4.below hw' r4.lt).cell 1, by rw [(rG.below hw' rG.lt).cell, hOE]⟩)
          have hx0 : (0 : Int) ≤ c1 := by omega
          have hx1 : (c1 : Int) < 10 := by omega
          have hy0 : (0 : Int) ≤ c2 := by omega
          have hy1 : (c2 : Int) < 10 := by omega
          clear hc fa fb hOG hm hz hstep hgt hOE
          go_wp2_with fail
          refine wp_region_grow 20 (by kernel_rfl) (by kernel_rfl) ?_
          simp only [List.take_succ_cons, List.take_zero, List.drop_succ_cons, List.drop_zero]
          iterate 20
            apply wpGrow_plain rfl
            · intro w' hw' K hK
              obtain ⟨f1, f2, f3, f4, f5, f6⟩ := FX.out _ hw'
              go_wp2_with fail
              exact hK _ _ rfl hw'
            simp only [Act.put, List.setIfInBounds_toArray, List.set_cons_succ, List.set_cons_zero]
          refine wpGrow_nil ?_
          intro W3 hW3
          obtain ⟨f1, f2, -⟩ := FX.out _ hW3
          have q4 := r4.below hW3 r4.lt
          have q5 := r5.below hW3 r5.lt
          have qG := rG.below hW3 rG.lt
          have HAX := Lib.hid (own_below HAW.out hW3)
          have hb6 := hb.trans (hW3.mono (by have := hb.size; omega))
          have hga : ga < b := hgb
          clear hW3 r4 r5 rG HAW hb FX
          by_cases hz : m < z
          · have hdz : decide (m < z) = true := decide_eq_true hz
            have HS2 := Lib.hid (show bestL (gtN (visN (T S))) S (j + 1) = some (⟨c1, hc1⟩, ⟨c2, hc2⟩) by rw [HST.out, hdz]; rfl)
            obtain ⟨r9, z9, c9, -, l9⟩ := q4.facts
            have hO : Only [uC] W3 (W3.setRow uC #[.int .i8 (c1 : Int), .int .i8 (c2 : Int)]) := (Only.refl [uC] W3).setRow (.inl (by simp)) _
            have HA2 := Lib.hid (hO.own HAX.out (fun q hq => by simp [Value.ownBlock] at hq; simp; omega))
            go_wp2_with fail
            all_goals exact ⟨⟨(⟨c1, hc1⟩, ⟨c2, hc2⟩), j + 1, by omega, by omega, by go_num, HS2.out, q4.setRow _, q5.setRow_other _ (by omega), qG.setRow_other _ (by omega), HA2.out, below_setRow' hb6 (by omega) _⟩, by simp [intOf]; omega⟩
          · have hdz : decide (m < z) = false := decide_eq_false hz
            have HS2 := Lib.hid (show bestL (gtN (visN (T S))) S (j + 1) = some (⟨e1, he1⟩, ⟨e2, he2⟩) by rw [HST.out, hdz]; rfl)
            clear hz
            go_wp2_with fail
            all_goals exact ⟨⟨(⟨e1, he1⟩, ⟨e2, he2⟩), j + 1, by omega, by omega, by go_num, HS2.out, q4, q5, qG, HAX.out, hb6⟩, by simp [intOf]; omega⟩
        · obtain rfl : j = k := by omega
          have hd : decide ((j : Int) < (j : Int)) = false := by simp
          have hR := HBA.out _ HM.out
          have hR : A = (((e1 : Int), (e2 : Int)), m, 0) := by rw [hR, ← hm]; rfl
          have HRF := Lib.hid hR
          have HR5 := Lib.hid r5
          have HC9 := Lib.hid r4
          have HG9 := Lib.hid rG
          have HGC := Lib.hid hOE
          have HB8 := Lib.hid hb
          clear hR hm r4 rG r5 hb HAW hOE
          go_wp2_with fail
          refine wp_region_growS1 10 8 (s + 1 + 1) #[.int .i8 0, .int .i8 0] #[.int .i8 (e1 : Int), .int .i8 (e2 : Int)] [.agg #[.int .i8 (e1 : Int), .int .i8 (e2 : Int)], .pointer (some ⟨uC, 1, none⟩), .int .i8 (e2 : Int), .pointer (some ⟨uC, 0, none⟩), .int .i8 (e1 : Int), .pointer (some ⟨b, e2 * 10, none⟩), .pointer (some ⟨b, e2 * 10 + e1, none⟩), .int .i64 m, undef, .int .i64 m] (by kernel_rfl) (by kernel_rfl) (by decide) HR5.out ?_
          simp only [List.take_succ_cons, List.take_zero, List.drop_succ_cons, List.drop_zero]
          refine seqS_other (v := .agg #[.int .i8 (e1 : Int), .int .i8 (e2 : Int)]) rfl rfl rfl ?_ ?_
          · intro w' hw' K hK
            have e0 := hw'.holds HC9.out (by simp; omega)
            have e00 : w'.cell? ⟨uC, 0, none⟩ = some (.int .i8 (e1 : Int)) := e0.cell 0
            have e01 : w'.cell? ⟨uC, 1, none⟩ = some (.int .i8 (e2 : Int)) := e0.cell 1
            clear e0
            go_wp2_with fail
            exact hK _ _ rfl (Below.refl _ _)
          simp only [Act.put, List.setIfInBounds_toArray, List.set_cons_succ, List.set_cons_zero]
          refine seqS_other (v := .pointer (some ⟨uC, 1, none⟩)) rfl rfl rfl ?_ ?_
          · intro w' hw' K hK
            go_wp2_with fail
            exact hK _ _ rfl (Below.refl _ _)
          simp only [Act.put, List.setIfInBounds_toArray, List.set_cons_succ, List.set_cons_zero]
          refine seqS_other (v := .int .i8 (e2 : Int)) rfl rfl rfl ?_ ?_
          · intro w' hw' K hK
            have e0 := hw'.holds HC9.out (by simp; omega)
            have e00 : w'.cell? ⟨uC, 0, none⟩ = some (.int .i8 (e1 : Int)) := e0.cell 0
            have e01 : w'.cell? ⟨uC, 1, none⟩ = some (.int .i8 (e2 : Int)) := e0.cell 1
            clear e0
            go_wp2_with fail
            exact hK _ _ rfl (Below.refl _ _)
          simp only [Act.put, List.setIfInBounds_toArray, List.set_cons_succ, List.set_cons_zero]
          refine seqS_other (v := .pointer (some ⟨uC, 0, none⟩)) rfl rfl rfl ?_ ?_
          · intro w' hw' K hK
            go_wp2_with fail
            exact hK _ _ rfl (Below.refl _ _)
          simp only [Act.put, List.setIfInBounds_toArray, List.set_cons_succ, List.set_cons_zero]
          refine seqS_other (v := .int .i8 (e1 : Int)) rfl rfl rfl ?_ ?_
          · intro w' hw' K hK
            have e0 := hw'.holds HC9.out (by simp; omega)
            have e00 : w'.cell? ⟨uC, 0, none⟩ = some (.int .i8 (e1 : Int)) := e0.cell 0
            have e01 : w'.cell? ⟨uC, 1, none⟩ = some (.int .i8 (e2 : Int)) := e0.cell 1
            clear e0
            go_wp2_with fail
            exact hK _ _ rfl (Below.refl _ _)
          simp only [Act.put, List.setIfInBounds_toArray, List.set_cons_succ, List.set_cons_zero]
          refine seqS_other (v := .pointer (some ⟨b, e2 * 10, none⟩)) rfl rfl rfl ?_ ?_
          · intro w' hw' K hK
            go_wp2_with fail
            exact hK _ _ rfl (Below.refl _ _)
          simp only [Act.put, List.setIfInBounds_toArray, List.set_cons_succ, List.set_cons_zero]
          refine seqS_other (v := .pointer (some ⟨b, e2 * 10 + e1, none⟩)) rfl rfl rfl ?_ ?_
          · intro w' hw' K hK
            go_wp2_with fail
            exact hK _ _ rfl (Below.refl _ _)
          simp only [Act.put, List.setIfInBounds_toArray, List.set_cons_succ, List.set_cons_zero]
          refine seqS_other (v := .int .i64 m) rfl rfl rfl ?_ ?_
          · intro w' hw' K hK
            have e0 := ((hw'.holds HG9.out (by simp; omega)).cell (e2 * 10 + e1)).trans HGC.out
            go_wp2_with fail
            exact hK _ _ rfl (Below.refl _ _)
          simp only [Act.put, List.setIfInBounds_toArray, List.set_cons_succ, List.set_cons_zero]
          refine seqS_store rfl rfl rfl ?_ ?_
          · intro w' hO hH K hK
            obtain ⟨rr, fr, -, -, lr⟩ := hH.facts
            go_wp2_with fail
            exact hK
          refine seqS_other (v := .int .i64 m) rfl rfl rfl ?_ ?_
          · intro w' hw' K hK
            go_wp2_with fail
            exact hK _ _ rfl (Below.refl _ _)
          simp only [Act.put, List.setIfInBounds_toArray, List.set_cons_succ, List.set_cons_zero]
          refine seqS_nil ?_
          intro w' hO hH
          have HH := Lib.hid hH
          have HB9 := Lib.hid (HB8.out.trans (hO.toBelow (B := s) (by intro k hk; simp at hk; omega) (by have := HB8.out.size; omega)))
          clear hO hH
          go_wp2_with fail
          exact bodyPost_ret (results_cell_nn rfl (by kernel_rfl) _ rfl rfl rfl HH.out rfl) rfl ⟨by rw [HRF.out]; rfl, HB9.out⟩
end Go.Proofs.YtabemgplddfemaaGreatDoor
