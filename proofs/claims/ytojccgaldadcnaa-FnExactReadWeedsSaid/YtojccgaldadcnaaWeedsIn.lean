/- weedsIn: weeds in all cells of some kinds; slices.Contains over a row of kinds. -/
import Derived.Test.YtojccgaldadcnaaWeedP
import Derived.Test.YtojccgaldadcnaaZB
namespace Go.Proofs.Ytojccgaldadcnaa
open Go.RowKit Go.Shelf
set_option linter.unusedVariables false
set_option linter.unusedSimpArgs false
attribute [local go_sem] Oper.semAt_some
attribute [local go_sem ↓] loadRow loadGrid loadLawn loadMirror storeRow storeGrid storeLawn allocRow allocGrid allocLawn buildZero buildSides loadRow' loadGrid' loadLawn' loadMirror' storeRow' storeGrid' storeLawn' allocRow' allocGrid' allocLawn' buildZero' buildSides' loadWd storeWd allocWd buildZWd eqlWd loadWd' storeWd' allocWd' buildZWd' eqlWd'

/-- A row of kinds. -/
def kV (ks : List Int) : Array Value := (ks.map fun k => Value.int .u8 k).toArray
theorem kV_get (ks : List Int) (i : Nat) (h : i < ks.length) : (kV ks)[i]? = some (.int .u8 ks[i]) := by simp [kV, h]

set_option maxHeartbeats 1000000 in
theorem indexK_any (ks : List Int) (hn : ks.length ≤ 100) (k : Int) (g : Nat) (w : World) (h : Holds w g (kV ks)) :
    Calls Try.prog 124 #[.slice (some ⟨g, 0, none⟩) ks.length ks.length, .int .u8 k] w fun e w' => (∃ i : Int, e = .returned (.int .i64 i) ∧ decide (0 ≤ i) = ks.contains k) ∧ w' = w := by
  go_enter Try.func124, Try.ntmps124
  go_wp2
  go_loopw [5, 8] (fun _ i wr => ∃ j : Nat, j ≤ ks.length ∧ i = .int .i64 j ∧ wr = w ∧ ∀ m, m < j → ks[m]? ≠ some k) (fun _ i _ => ks.length - (intOf i).toNat)
  case atStart => exact ⟨0, by omega, rfl, rfl, fun m hm => by omega⟩
  case round =>
    obtain ⟨j, hj, rfl, rfl, hne⟩ := hrel
    have HNE := Lib.hid hne
    clear hne
    by_cases hlt : j < ks.length
    · have hd : decide ((j : Int) < (ks.length : Int)) = true := by simp; omega
      have ck : wr.cell? ⟨g, j, none⟩ = some (.int .u8 ks[j]) := (h.cell j).trans (kV_get ks j hlt)
      cases hq : (k == ks[j]) with
      | true =>
        have HC := Lib.hid (show decide (0 ≤ (j : Int)) = ks.contains k by
          have : k ∈ ks := by rw [beq_iff_eq] at hq; rw [hq]; exact List.getElem_mem _
          simp [this])
        go_wp2
        go_ret
        exact ⟨⟨_, rfl, HC.out⟩, rfl⟩
      | false =>
        have HN := Lib.hid (show ks[j]? ≠ some k by
          rw [List.getElem?_eq_getElem hlt]
          intro e
          rw [Option.some.inj e] at hq
          simp at hq)
        go_wp2
        go_roundw
        case rel => exact ⟨j + 1, by omega, by go_num, trivial, fun m hm => by
          rcases Nat.lt_or_ge m j with h | h
          · exact HNE.out m h
          · obtain rfl : m = j := by omega
            exact HN.out⟩
        case measure => simp [intOf]; omega
    · have hd : decide ((j : Int) < (ks.length : Int)) = false := by simp; omega
      have HC := Lib.hid (show decide ((0 : Int) ≤ -1) = ks.contains k by
        have : k ∉ ks := fun hm => by
          obtain ⟨m, hm⟩ := List.getElem?_of_mem hm
          exact HNE.out m (by have := (List.getElem?_eq_some_iff.1 hm).1; omega) hm
        simp [this])
      go_wp2
      go_ret
      exact ⟨⟨_, rfl, HC.out⟩, rfl⟩

theorem containsK_any (ks : List Int) (hn : ks.length ≤ 100) (k : Int) (g : Nat) (w : World) (h : Holds w g (kV ks)) :
    Calls Try.prog 113 #[.slice (some ⟨g, 0, none⟩) ks.length ks.length, .int .u8 k] w fun e w' => e = .returned (.bool (ks.contains k)) ∧ w' = w := by
  have HX := Lib.hid (indexK_any ks hn k g w h)
  clear h
  go_enter Try.func113, Try.ntmps113
  go_wp2_with fail
  refine HX.out.mono ?_
  rintro e w2 ⟨⟨i, rfl, hi⟩, rfl⟩
  have HI := Lib.hid hi
  clear hi
  go_wp2_with fail
  go_ret
  exact ⟨by rw [← HI.out]; rfl, rfl⟩

set_option maxRecDepth 100000 in
set_option maxHeartbeats 2000000 in
theorem weedsIn_loop (Wn Hn : Nat) (hW : Wn ≤ 10) (hH : Hn ≤ 10) (L : Lawn) (hLw : L.wide = Wn) (hLh : L.high = Hn) (hL : L.Fits) (ks : List Int) (hn : ks.length ≤ 100) (ga : Nat) (w : World) (hk : Holds w ga (kV ks)) :
    Calls Try.prog 86 #[.agg L.cells, .slice (some ⟨ga, 0, none⟩) ks.length ks.length] w fun e w' => e = .returned (.agg (bV 10 (kindS L ks))) ∧ Below w.heap.size w w' := by
  have HK := Lib.hid (fun (x y : Nat) (hx : x < 10) (hy : y < 10) (w : World) => kind_any L x y hx hy w)
  have HF := Lib.hid (layS_all hLw hLh (kindS L ks) (fun y x h => kindS_in h))
  have HS := Lib.hid (show ∀ y x : Nat, y < Hn → x < Wn → kindS L ks y x = ks.contains (L.kind y x) from fun y x hy hx => by
    rw [kindS, isB_nat hLw hLh]; simp [hy, hx])
  have HL : Hid (L = ⟨(Wn : Int), (Hn : Int), L.kind⟩) := Lib.hid (by cases L; simp_all)
  clear hLw hLh hL
  refine (callsIn_wide (n := 9)).1 ?_
  refine callsIn_of_wp_marks Try.func86 rfl trivial ?_ rfl
  simp only [Try.ntmps86, List.size_toArray, List.length_cons, List.length_nil, Nat.reduceAdd, Nat.reduceSub, Array.replicate_succ, Array.replicate_zero, List.push_toArray, List.append_toArray, List.nil_append, List.cons_append]
  gi_wp2_with (refine ⟨trivial, ?_⟩; gi_at_call 42; refine (each_in Fence.wide _ trivial rfl _ _).mono ?_; rintro e w2 ⟨rfl, rfl⟩)
  obtain ⟨s, hs⟩ : ∃ s, w.heap.size = s := ⟨_, rfl⟩
  obtain ⟨W0, hW0⟩ : ∃ W0, ((((w.alloc (.cells L.cells 30)).alloc (.cells #[.slice (some ⟨ga, 0, none⟩) ks.length ks.length] 72)).alloc (.cells (bV 10 fun _ _ => false) 32)).alloc (.cells (bV 10 fun _ _ => false) 32)).alloc (.cells L.cells 30) = W0 := ⟨_, rfl⟩
  have g0 : Holds W0 s L.cells := by rw [← hW0]; exact ((((Holds.new' _ _ _ _ hs.symm).alloc _).alloc _).alloc _).alloc _
  have g1 : Holds W0 (s + 1) #[.slice (some ⟨ga, 0, none⟩) ks.length ks.length] := by rw [← hW0]; exact (((Holds.new' _ _ _ _ (by simp; omega)).alloc _).alloc _).alloc _
  have g2 : Holds W0 (s + 2) (bV 10 fun _ _ => false) := by rw [← hW0]; exact ((Holds.new' _ _ _ _ (by simp; omega)).alloc _).alloc _
  have g3 : Holds W0 (s + 3) (bV 10 fun _ _ => false) := by rw [← hW0]; exact (Holds.new' _ _ _ _ (by simp; omega)).alloc _
  have g4 : Holds W0 (s + 4) L.cells := by rw [← hW0]; exact Holds.new' _ _ _ _ (by simp; omega)
  have gk : Holds W0 ga (kV ks) := by rw [← hW0]; exact ((((hk.alloc _).alloc _).alloc _).alloc _).alloc _
  have hga : ga < s := by rw [← hs]; exact hk.lt
  have hB0 : Below w.heap.size w W0 := by rw [← hW0]; exact (((((Below.refl w.heap.size w).alloc (Nat.le_refl _) _).alloc (by simp) _).alloc (by simp; omega) _).alloc (by simp; omega) _).alloc (by simp; omega) _
  have hsz : W0.heap.size = s + 5 := by rw [← hW0]; simp; omega
  rw [hW0]
  simp only [hs, Nat.add_assoc, Nat.reduceAdd]
  have hz1 : s + 5 ≤ W0.heap.size := by omega
  have hz2 : W0.heap.size ≤ s + 5 := by omega
  have hs1 : w.heap.size ≤ s := by omega
  have hs2 : s ≤ w.heap.size := by omega
  clear hW0 hs hsz hk
  refine each_range (by omega) (p := 9) (q := 6) [s + 3] Wn Hn hW hH L.kind rfl (by rw [← HL.out]; exact g4)
    (fun pre W => Holds W (s + 3) (bV 10 (layS (kindS L ks) pre))) (fun c pre W => False)
    (Own.from (holds_own _ (fun pre => bV 10 (layS (kindS L ks) pre))) _) (fun c => fun _ _ _ _ h _ _ => h.elim) (by rw [layS_nil]; exact g3) ?assign ?body ?done ?stop
  case assign =>
    intro l x y W K hK
    simp only [cellV]
    gi_wp2
    exact hK
  case body =>
    rintro l pre x Bx W hl hr hO i3 hBx bX hlt
    have hx := x.1.isLt
    have hy := x.2.isLt
    have HHit := Lib.hid (layS_hit (kindS L ks) pre x)
    have HMiss := Lib.hid (layS_miss (kindS L ks) pre x)
    have HSx := Lib.hid (HS.out x.2.val x.1.val hy hx)
    have HC := Lib.hid (fun w h => containsK_any ks hn (L.kind x.2.val x.1.val) ga w h)
    rw [← HSx.out] at HC
    obtain ⟨kb, hkb⟩ : ∃ kb, kindS L ks x.2.val x.1.val = kb := ⟨_, rfl⟩
    rw [hkb] at HHit HMiss HC
    obtain ⟨kd, hkd⟩ : ∃ kd, L.kind x.2.val x.1.val = kd := ⟨_, rfl⟩
    have HKx := Lib.hid (HK.out x.1.val x.2.val (by omega) (by omega))
    rw [hkd] at HKx HC
    clear hkb hkd HSx
    obtain ⟨⟨xj, hxj⟩, ⟨xk, hxk⟩⟩ := x
    dsimp only at *
    simp only [cellV, List.setIfInBounds_toArray, List.set_cons_succ, List.set_cons_zero]
    have i0 := hO.holds g0 (by simp)
    have i1 := hO.holds g1 (by simp)
    have ik := hO.holds gk (by simp; omega)
    have hO2 := Lib.hid hO
    clear hr hlt hl hO
    obtain ⟨r0, -⟩ := i0.later
    obtain ⟨-, c1⟩ := i1.later
    have c10 : ∀ w', Below W.heap.size W w' → w'.cell? ⟨s + 1, 0, none⟩ = some (.slice (some ⟨ga, 0, none⟩) ks.length ks.length) := fun w' hw => (c1 w' hw 0).trans rfl
    obtain ⟨rx, cx⟩ := bX.later
    have hj0 : (0 : Int) ≤ xj := by omega
    have hj1 : (xj : Int) < 10 := by omega
    have hk0 : (0 : Int) ≤ xk := by omega
    have hk1 : (xk : Int) < 10 := by omega
    clear c1
    gi_wp2_with fail
    refine wpIn_region_grow 4 (by kernel_rfl) rfl (by rintro ⟨_, _, h⟩; exact h) (by kernel_rfl) ?_
    simp only [List.take_succ_cons, List.take_zero, List.drop_succ_cons, List.drop_zero]
    iterate 3
      apply wpGrow_plain rfl
      · intro w' hw' K hK
        go_wp2
        exact hK _ _ rfl hw'
      simp only [Act.put, List.setIfInBounds_toArray, List.set_cons_succ, List.set_cons_zero]
    apply wpGrow_plain rfl (v := .int .u8 kd)
    · intro w' hw' K hK
      go_wp2_with fail
      refine (HKx.out _).mono ?_
      rintro e w2 ⟨rfl, hb2⟩
      go_wp2_with fail
      exact hK _ _ rfl (below_onto hw' hb2)
    simp only [Act.put, List.setIfInBounds_toArray, List.set_cons_succ, List.set_cons_zero]
    refine wpGrow_nil ?_
    intro W2 hW2
    have q3 := i3.below hW2 i3.lt
    have qX := bX.below hW2 bX.lt
    have qO : Only [s + 3] W0 W2 := hO2.out.onto hW2
    have qK : KeepsOthers W W2 := keeps_below hW2
    have ik2 := ik.below hW2 ik.lt
    clear r0 c10 rx cx hW2 i0 i1 i3 bX
    go_wp2_with fail
    refine (HC.out _ ik2).mono ?_
    rintro e w4 ⟨rfl, hw4⟩
    rw [hw4]
    clear hw4 HC
    go_wp2_with fail
    cases kb
    · have HN := Lib.hid (HMiss.out rfl)
      clear HHit HMiss
      gi_wp2_with fail
      refine eachDone (b := s + 4) (by omega) (by simp) hO2.out qK qO ?_
      rw [HN.out]
      exact q3
    · have HN := Lib.hid (HHit.out rfl)
      clear HHit HMiss
      obtain ⟨r3, f3, c3, z3, l3⟩ := q3.facts
      obtain ⟨rx, -, cx, -, -⟩ := qX.facts
      gi_wp2_with fail
      refine ⟨trivial, (CallsIn.inRound l (callsIn_wide.2 (wdWith_any _ xj xk (by omega) (by omega) _))).mono ?_⟩
      rintro e w3 ⟨rfl, hb3⟩
      have p3 := q3.below hb3 q3.lt
      have pO : Only [s + 3] W0 w3 := qO.onto hb3
      have pK : KeepsOthers W w3 := qK.trans (keeps_below hb3)
      obtain ⟨r3', f3', c3', z3', l3'⟩ := p3.facts
      clear r3 f3 c3 z3 l3 rx cx qO qK
      gi_wp2_with fail
      refine eachDone (b := s + 4) (by omega) (by simp) hO2.out (pK.trans (keeps_setRow _ _ _)) (pO.setRow (.inl (by simp)) _) ?_
      rw [← HN.out]
      exact p3.setRow _
  case done =>
    rintro D W hD hO i3 hK
    have hB2 : Below w.heap.size w W := hB0.trans (hO.toBelow (by simp; omega) (by omega))
    have i2 := hO.holds g2 (by simp)
    rw [HF.out] at i3
    obtain ⟨r3, f3, c3, z3, l3⟩ := i3.facts
    obtain ⟨r2, f2, c2, z2, l2⟩ := i2.facts
    clear g0 g1 g2 g3 g4 gk HF HK HS HL c2 c3
    gi_wp2
    have q2 := i2.setRow (bV 10 (kindS L ks))
    have hK' : (W.setRow (s + 2) (bV 10 (kindS L ks))).heap[D]? = some (.deferred (some [])) := (setRow_other W _ D _ (by omega)).trans hK
    have hB3 := below_setRow' hB2 (g := s + 2) (by omega) (bV 10 (kindS L ks))
    refine ⟨by simp, .inl ⟨_, _, rfl, run_takeDeferred hK', ?_⟩⟩
    exact ⟨_, results_cell_holds rfl wideWd _ rfl (q2.grown (grownBy_putObj' _ D _) (fun r e => by cases e; exact ⟨_, hK', rfl⟩)) (by simp), rfl, hB3.trans (belowK_b (w := w) (Nat.le_refl _) _ D _ _ (by omega) hK' rfl rfl)⟩
  case stop =>
    rintro D c pre W hD _ h hK
    exact h.elim
end Go.Proofs.Ytojccgaldadcnaa
