/- DaysUntil, of the program. -/
import Derived.Test.YtemjppchnhemjaaDoorStill
import Derived.Test.YtemjppchnhemjaaDoorSpreadD
import Derived.Test.YtemjppchnhemjaaDoorGrowX
namespace Go.Proofs.YtemjppchnhemjaaDoor
open Go.RowKit Go.Shelf
set_option linter.unusedVariables false
set_option linter.unusedSimpArgs false
attribute [local go_sem] Oper.semAt_some
attribute [local go_sem ↓] loadRow loadGrid loadLawn loadMirror storeRow storeGrid storeLawn allocRow allocGrid allocLawn buildZero buildSides loadRow' loadGrid' loadLawn' loadMirror' storeRow' storeGrid' storeLawn' allocRow' allocGrid' allocLawn' buildZero' buildSides' loadWd storeWd allocWd buildZWd eqlWd loadWd' storeWd' allocWd' buildZWd' eqlWd' neqWd neqWd'

/-- A range over the days up to those of which no more come, whose second variable is boxed. -/
theorem still_range {e : Nat} (he : 2 ≤ e) {g : Operand} {p1 p2 q1 q2 : Nat} {assign body : Code} {Q : Exit → Act → World → Prop} {a : Act} {w : World} (T : List Nat) (gr : Nat → Nat → Bool) (n : Nat) (h1 : 1 ≤ n) (h4 : n ≤ 4) (s : Nat → Nat → Bool) (N : Nat) (hN : StillAt gr n s N) (hN1 : N ≤ 160)
    {b c q : Nat} (hbc : b ≠ c) (hbq : b ≠ q) (hbq1 : b ≠ q + 1) (hb : Holds w b (bV 10 s)) (hc : Holds w c #[.func (.func 71) #[] #[.pointer (some ⟨q, 0, none⟩), .pointer (some ⟨q + 1, 0, none⟩)]]) (hq : Holds w q (bV 10 gr)) (hq1 : Holds w (q + 1) #[.int .i64 n]) (hbT : b ∈ T)
    (hg : a.eval g = .func (.func 66) #[] #[.pointer (some ⟨b, 0, none⟩), .pointer (some ⟨c, 0, none⟩)])
    (I : List (Nat × (Nat → Nat → Bool)) → World → Prop) (Ix : Code → List (Nat × (Nat → Nat → Bool)) → World → Prop) (hI : OwnFrom w.heap.size I) (hIx : ∀ c, OwnFrom w.heap.size (Ix c)) (hIS : ∀ s A cs, I s A → I s (A.setRow b cs)) (h0 : I [] w)
    (hassign : ∀ (l : Nat) (z : Int) (t : Nat → Nat → Bool) (W : World) (K : Act → World → Prop), K { tmps := (((a.tmps.setIfInBounds p1 (.int .i64 z)).setIfInBounds p2 (.agg (bV 10 t))).setIfInBounds q1 (.int .i64 z)).setIfInBounds q2 (.pointer (some ⟨W.heap.size, 0, none⟩)), defers := [] } (W.alloc (.cells (bV 10 t) 33)) →
      assign.wpIn (Fence.wide.inRound l) (e - 1 - 1) Tryd.prog (Exit.then K (fun _ _ _ => False)) { tmps := (a.tmps.setIfInBounds p1 (.int .i64 z)).setIfInBounds p2 (.agg (bV 10 t)), defers := [] } W)
    (hbody : ∀ (l : Nat) (pre : List (Nat × (Nat → Nat → Bool))) (x : Nat × (Nat → Nat → Bool)) (Bx : Nat) (W : World), w.heap.size ≤ l → Only T w W → I pre W → w.heap.size ≤ Bx → Holds W Bx (bV 10 x.2) → pre.length < N + 1 →
      body.wpIn (Fence.wide.inRound l) (e - 1 - 1) Tryd.prog (ownPostG w.heap.size (KeepT b c q) (fun pre W => Only T w W ∧ I pre W) (fun c pre W => Only T w W ∧ Ix c pre W) (pre ++ [x]) W)
        { tmps := (((a.tmps.setIfInBounds p1 (.int .i64 (x.1 : Int))).setIfInBounds p2 (.agg (bV 10 x.2))).setIfInBounds q1 (.int .i64 (x.1 : Int))).setIfInBounds q2 (.pointer (some ⟨Bx, 0, none⟩)), defers := [] } W)
    (hdone : ∀ (D : Nat) (W : World), w.heap.size ≤ D → Only T w W → I (preT gr n s (N + 1)) W → W.heap[D]? = some (.deferred (some [])) → Q .normal (withD a D) W)
    (hstop : ∀ (D : Nat) (c : Code) (m : Nat) (W : World), w.heap.size ≤ D → m ≤ N → Only T w W → Ix c (preT gr n s (m + 1)) W → W.heap[D]? = some (.deferred (some [])) → c.wpIn Fence.wide e Tryd.prog Q (withD a D) W) :
    (Code.rangeFunc g #[p1, p2] assign body).wpIn Fence.wide e Tryd.prog Q a w := by
  refine range_stopsW (α := Nat × (Nat → Nat → Bool)) rfl (by omega) (gf := 66) (lb := #[.pointer (some ⟨b, 0, none⟩), .pointer (some ⟨c, 0, none⟩)]) hg trivial (enters_of Tryd.func66 (by kernel_rfl) rfl)
    (still_stops gr n h1 h4 s N hN hN1 (e - 1) (by omega) b c q hbc hbq hbq1 w hb hc hq hq1)
    (fun A B k o hk ho ⟨cs, hcs⟩ => by rw [hcs]; exact (setRow_other A b k cs (by have := hb.lt; omega)).trans ho)
    (fun h k => ⟨keepB_t h.1 k.1, keepB_t h.2.1 k.2.1, keepB_t h.2.2.1 k.2.2.1, keepB_t h.2.2.2 k.2.2.2⟩)
    (fun W l o o' h1 h2 h3 h4 => ⟨keepB_b hb.lt W l o o' h1 h2 h3 h4, keepB_b hc.lt W l o o' h1 h2 h3 h4, keepB_b hq.lt W l o o' h1 h2 h3 h4, keepB_b hq1.lt W l o o' h1 h2 h3 h4⟩)
    (fun _ => rfl)
    (fun pre W => Only T w W ∧ I pre W) (fun c pre W => Only T w W ∧ Ix c pre W)
    (OwnFrom.and (ownFrom_only (Nat.le_refl _)) hI) (fun c => OwnFrom.and (ownFrom_only (Nat.le_refl _)) (hIx c)) (fun s A B h ⟨cs, hcs⟩ => by rw [hcs]; exact ⟨h.1.setRow (.inl hbT) _, hIS _ _ _ h.2⟩) ⟨Only.refl _ _, h0⟩
    (fun x a' W => ∃ Bx, w.heap.size ≤ Bx ∧ Holds W Bx (bV 10 x.2) ∧ a' = { tmps := (((a.tmps.setIfInBounds p1 (.int .i64 (x.1 : Int))).setIfInBounds p2 (.agg (bV 10 x.2))).setIfInBounds q1 (.int .i64 (x.1 : Int))).setIfInBounds q2 (.pointer (some ⟨Bx, 0, none⟩)), defers := [] })
    (fun x a' => fun _ W W' row ⟨Bx, h1, h2, h3⟩ hg hr => ⟨Bx, h1, h2.grown hg (fun r e => (hr r e).2), h3⟩)
    ?assign ?body ?done ?stop
  case assign =>
    rintro l pre x W K' ⟨iO, iI⟩ hK
    have ee : (#[p1, p2].zip (encT x)).foldl (fun t (p, v) => t.setIfInBounds p v) a.tmps = (a.tmps.setIfInBounds p1 (.int .i64 (x.1 : Int))).setIfInBounds p2 (.agg (bV 10 x.2)) := by simp [encT]
    rw [ee]
    have kb : ∀ k, k < w.heap.size → KeepB k W (W.alloc (.cells (bV 10 x.2) 33)) := fun k hk => KeepB.of_below ((Below.refl _ W).alloc (Nat.le_refl _) _) (Nat.lt_of_lt_of_le hk iO.size)
    exact hassign l _ _ W K' (hK _ _ ((KeepsOthers.alloc _ _).from _) ⟨kb _ hb.lt, kb _ hc.lt, kb _ hq.lt, kb _ hq1.lt⟩ ⟨iO.alloc _, hI.alloc _ iI⟩ ⟨_, iO.size, Holds.new _ _ _, rfl⟩)
  case body =>
    rintro l pre x a' W hl ⟨iO, iI⟩ ⟨Bx, hBx, bX, rfl⟩ hlt
    exact hbody l pre x Bx W hl iO iI hBx bX hlt
  case done =>
    rintro D xs W hD rfl ⟨iO, iI⟩ hK
    exact hdone D W hD iO iI hK
  case stop =>
    rintro D c pre W hD ⟨m, hm, rfl⟩ ⟨iO, iX⟩ hK
    exact hstop D c m W hD hm iO iX hK

theorem stillDone {b c q : Nat} {T : List Nat} {w W W' : World} {p : Prop} (hb : b < w.heap.size) (hc : c < w.heap.size) (hq : q + 1 < w.heap.size) (hW : Only T w W) (hk : KeepsOthers W W') (kb : Below W.heap.size W W') (hW' : Only T w W') (hp : p) :
    KeepsFrom w.heap.size W W' ∧ KeepT b c q W W' ∧ Only T w W' ∧ p :=
  have k : ∀ i, i < w.heap.size → KeepB i W W' := fun i hi => KeepB.of_below kb (Nat.lt_of_lt_of_le hi hW.size)
  ⟨hk.from _, ⟨k _ hb, k _ hc, k _ (by omega), k _ hq⟩, hW', hp⟩

/-- The first day by which so many have come, or the last one. -/
structure UntilAt (gr : Nat → Nat → Bool) (n : Nat) (s : Nat → Nat → Bool) (C N E : Nat) (hit : Bool) : Prop where
  le : E ≤ N
  before : ∀ j, j < E → cntR (itS gr n s j) 10 < C
  at_ : hit = decide (C ≤ cntR (itS gr n s E) 10)
  last : hit = false → E = N
theorem until_ex (gr : Nat → Nat → Bool) (n : Nat) (s : Nat → Nat → Bool) (C N : Nat) : ∃ E hit, UntilAt gr n s C N E hit := by
  have key : ∀ m k, k + m = N → (∀ j, j < k → cntR (itS gr n s j) 10 < C) → ∃ E hit, UntilAt gr n s C N E hit := by
    intro m
    induction m with
    | zero =>
      intro k hk hj
      exact ⟨k, _, by omega, hj, rfl, fun _ => by omega⟩
    | succ m ih =>
      intro k hk hj
      by_cases h : C ≤ cntR (itS gr n s k) 10
      · exact ⟨k, true, by omega, hj, by simp [h], fun h => by cases h⟩
      · exact ih (k + 1) (by omega) fun j hjk => by
          rcases Nat.lt_or_ge j k with h2 | h2
          · exact hj j h2
          · obtain rfl : j = k := by omega
            omega
  exact key N 0 (by omega) fun j hj => by omega

theorem until_results (tmps : Array Value) {w : World} {g k : Nat} {x y : Int}
    (hp : tmps.getD 8 undef = .pointer (some ⟨g, 0, none⟩)) (hq : tmps.getD 9 undef = .pointer (some ⟨k, 0, none⟩)) (hg : Holds w g #[.int .i64 x]) (hk : Holds w k #[.int .i64 y]) :
    (results Tryd.f11 tmps).run Tryd.prog w = .ok (.tuple #[.int .i64 x, .int .i64 y]) w := by
  have hp' : tmps[8]?.getD undef = .pointer (some ⟨g, 0, none⟩) := by simpa using hp
  have hq' : tmps[9]?.getD undef = .pointer (some ⟨k, 0, none⟩) := by simpa using hq
  have hc : w.cell? ⟨k, 0, none⟩ = some (.int .i64 y) := hk.cell 0
  have c0 : w.cell? ⟨g, 0, none⟩ = some (.int .i64 x) := hg.cell 0
  simp [results, Tryd.f11, hp', hq', asAddr, go_sem, hc, c0]

/-- The range has been left at a day by which so many have come. -/
def stopU (a b C : Nat) (c : Code) (pre : List (Nat × (Nat → Nat → Bool))) (W : World) : Prop := c = .ret ∧ ∃ ys x, pre = ys ++ [x] ∧ Holds W a #[.int .i64 (x.1 : Int)] ∧ Holds W b #[.int .i64 0] ∧ C ≤ cntR x.2 10 ∧ ∀ y ∈ ys, cntR y.2 10 < C
theorem stopU_own (a b C : Nat) (c : Code) : Own (stopU a b C c) := by
  rintro pre W W' row ⟨h1, ys, x, h2, h3, h4, h5⟩ hg hr
  exact ⟨h1, ys, x, h2, h3.grown hg hr, h4.grown hg hr, h5⟩
def untilC (L : Lawn) (s : Nat → Nat → Bool) (need c : Int) : Int := told (weedB L s) (inB need 1 4 && inB c 0 100)

set_option maxRecDepth 100000 in
set_option maxHeartbeats 4000000 in
theorem implUntil_bad (L : Lawn) (hL : L.Fits) (s : Nat → Nat → Bool) (need c : Int) (hbad : untilC L s need c ≠ 0) (w : World) :
    Calls Tryd.prog 11 #[.agg L.cells, .agg (bV 10 s), .int .i64 need, .int .i64 c] w fun e w' => e = .returned (.tuple #[.int .i64 0, .int .i64 (untilC L s need c)]) ∧ Below w.heap.size w w' := by
  have HC := Lib.hid (checkWeeds_any L hL s [(need, 1, 4), (c, 0, 100)] (by simp))
  have HCT := Lib.hid (show told (weedB L s) ([(need, (1 : Int), (4 : Int)), (c, 0, 100)].all limB) = untilC L s need c by simp only [List.all_cons, List.all_nil, Bool.and_true, limB, untilC])
  rw [HCT.out] at HC
  obtain ⟨u, hu⟩ : ∃ u, w.heap.size = u := ⟨_, rfl⟩
  obtain ⟨W1, hW1⟩ : ∃ W1, ((((w.alloc (.cells L.cells 31)).alloc (.cells (bV 10 s) 33)).alloc (.cells #[.int .i64 c] 2)).alloc (.cells #[.int .i64 0] 2)).alloc (.cells #[.int .i64 0] 2) = W1 := ⟨_, rfl⟩
  have g0 : Holds W1 u L.cells := by rw [← hW1]; exact ((((Holds.new' _ _ _ _ hu.symm).alloc _).alloc _).alloc _).alloc _
  have g1 : Holds W1 (u + 1) (bV 10 s) := by rw [← hW1]; exact (((Holds.new' _ _ _ _ (by simp; omega)).alloc _).alloc _).alloc _
  have g2 : Holds W1 (u + 2) #[.int .i64 c] := by rw [← hW1]; exact ((Holds.new' _ _ _ _ (by simp; omega)).alloc _).alloc _
  have g3 : Holds W1 (u + 3) #[.int .i64 0] := by rw [← hW1]; exact (Holds.new' _ _ _ _ (by simp; omega)).alloc _
  have g4 : Holds W1 (u + 4) #[.int .i64 0] := by rw [← hW1]; exact Holds.new' _ _ _ _ (by simp; omega)
  have hB1 : Below u w W1 := by rw [← hW1]; exact (((((Below.refl u w).alloc (by omega) _).alloc (by simp; omega) _).alloc (by simp; omega) _).alloc (by simp; omega) _).alloc (by simp; omega) _
  have HU := Lib.hid hu
  go_enter Tryd.func11, Tryd.ntmps11
  go_wp2_with fail
  try simp only [hu, Nat.add_assoc, Nat.reduceAdd]
  try rw [hW1]
  clear hW1 hu
  obtain ⟨r0, -⟩ := g0.later
  obtain ⟨r1, -⟩ := g1.later
  obtain ⟨-, c2⟩ := g2.later
  have c20 : ∀ w', Below W1.heap.size W1 w' → w'.cell? ⟨u + 2, 0, none⟩ = some (.int .i64 c) := fun w' hw => (c2 w' hw 0).trans rfl
  clear c2
  refine wp_region_growMP 7 6 [] (fun p w' => Holds w' p (limV [(need, 1, 4), (c, 0, 100)])) (fun p a b h hb => h.below hb h.lt)
    (fun p => [.agg L.cells, .agg (bV 10 s), .int .i64 need, .agg #[.int .i64 need, .int .i64 1, .int .i64 4], .int .i64 c, .agg #[.int .i64 c, .int .i64 0, .int .i64 100], .slice (some ⟨p, 0, none⟩) 2 2]) ?hv (by kernel_rfl) (by decide) (by kernel_rfl) (by kernel_rfl) (by kernel_rfl) ?_
  case hv =>
    intro p p' j h1 h2
    match j with
    | 0 => rfl
    | 1 => rfl
    | 2 => rfl
    | 3 => rfl
    | 4 => rfl
    | 5 => rfl
    | 6 => exact absurd rfl h1
    | j + 7 => rfl
  intro p
  simp only [List.take_succ_cons, List.take_zero, List.drop_succ_cons, List.drop_zero]
  refine seqP_free rfl rfl rfl (v := .agg L.cells) rfl ?_ ?_
  · intro w' hw' K hK
    go_wp2_with fail
    exact hK _ _ rfl (Below.refl _ _)
  simp only [Act.put, List.setIfInBounds_toArray, List.set_cons_succ, List.set_cons_zero]
  refine seqP_free rfl rfl rfl (v := .agg (bV 10 s)) rfl ?_ ?_
  · intro w' hw' K hK
    go_wp2_with fail
    exact hK _ _ rfl (Below.refl _ _)
  simp only [Act.put, List.setIfInBounds_toArray, List.set_cons_succ, List.set_cons_zero]
  refine seqP_free rfl rfl rfl (v := .int .i64 need) rfl ?_ ?_
  · intro w' hw' K hK
    go_wp2_with fail
    exact hK _ _ rfl (Below.refl _ _)
  simp only [Act.put, List.setIfInBounds_toArray, List.set_cons_succ, List.set_cons_zero]
  refine seqP_free rfl rfl rfl (v := .agg #[.int .i64 need, .int .i64 1, .int .i64 4]) rfl ?_ ?_
  · intro w' hw' K hK
    go_wp2_with fail
    refine (needed_any need _).mono ?_
    rintro e w5 ⟨rfl, hb5⟩
    go_wp2_with fail
    exact hK _ _ rfl hb5
  simp only [Act.put, List.setIfInBounds_toArray, List.set_cons_succ, List.set_cons_zero]
  refine seqP_free rfl rfl rfl (v := .int .i64 c) rfl ?_ ?_
  · intro w' hw' K hK
    go_wp2_with fail
    exact hK _ _ rfl (Below.refl _ _)
  simp only [Act.put, List.setIfInBounds_toArray, List.set_cons_succ, List.set_cons_zero]
  refine seqP_free rfl rfl rfl (v := .agg #[.int .i64 c, .int .i64 0, .int .i64 100]) rfl ?_ ?_
  · intro w' hw' K hK
    go_wp2_with fail
    exact hK _ _ rfl (Below.refl _ _)
  simp only [Act.put, List.setIfInBounds_toArray, List.set_cons_succ, List.set_cons_zero]
  refine seqP_call rfl rfl (v := .slice (some ⟨p, 0, none⟩) 2 2) rfl ?_ ?_
  · rintro w' hw' rfl K hK
    go_wp2_with fail
    exact hK _ _ rfl ((Below.refl _ _).alloc (Nat.le_refl _) _) (Holds.new _ _ _)
  simp only [Act.put, List.setIfInBounds_toArray, List.set_cons_succ, List.set_cons_zero]
  intro W2 _ hW2 hp
  have j0 := g0.below hW2 g0.lt
  have j1 := g1.below hW2 g1.lt
  have j2 := g2.below hW2 g2.lt
  have j3 := g3.below hW2 g3.lt
  have j4 := g4.below hW2 g4.lt
  have hB2 : Below u w W2 := hB1.trans (hW2.mono (by have := g0.lt; omega))
  clear hW2 g0 g1 g2 g3 g4 hB1 r0 r1 c20
  go_wp2_with fail
  refine (HC.out _ _ hp).mono ?_
  rintro e W3 ⟨⟨x, rfl, hx⟩, hb1⟩
  have hB3 : Below u w W3 := hB2.trans (hb1.mono (by have := j0.lt; omega))
  replace j0 := j0.below hb1 j0.lt
  replace j1 := j1.below hb1 j1.lt
  replace j2 := j2.below hb1 j2.lt
  replace j3 := j3.below hb1 j3.lt
  replace j4 := j4.below hb1 j4.lt
  clear hb1 hB2 hp HC HCT
  rcases hx with ⟨rfl, hc⟩ | ⟨hc, ty, a, rfl, hr⟩
  · exact absurd hc hbad
  have HR := Lib.hid hr
  clear hc hr hbad j0 j1 j2
  go_wp2_with fail
  refine (HR.out _).mono ?_
  rintro e w2 ⟨rfl, hb3⟩
  have m3 := j3.below hb3 j3.lt
  have m4 := j4.below hb3 j4.lt
  have hb6 : Below u w w2 := hB3.trans (hb3.mono (by have := j3.lt; omega))
  clear hb3 j3 j4 hB3
  obtain ⟨-, -, c3, z3, l3⟩ := m3.facts
  obtain ⟨-, -, c4, z4, l4⟩ := m4.facts
  have v3 := (m3.setCell 0 (.int .i64 0)).setCell_other ⟨u + 4, 0, none⟩ (.int .i64 (untilC L s need c)) (by dsimp only; omega)
  have v4 := (m4.setCell_other ⟨u + 3, 0, none⟩ (.int .i64 0) (by dsimp only; omega)).setCell 0 (.int .i64 (untilC L s need c))
  have hb7 := (hb6.setCell (p := ⟨u + 3, 0, none⟩) (by dsimp only; omega) (.int .i64 0)).setCell (p := ⟨u + 4, 0, none⟩) (by dsimp only; omega) (.int .i64 (untilC L s need c))
  go_wp2_with fail
  exact bodyPost_ret (until_results _ rfl rfl v3 v4) rfl ⟨rfl, by rw [HU.out]; exact hb7⟩

set_option maxRecDepth 100000 in
set_option maxHeartbeats 4000000 in
theorem implUntil_good (L : Lawn) (hL : L.Fits) (s : Nat → Nat → Bool) (n C : Nat) (hw : weedB L s = true) (h1 : 1 ≤ n) (h4 : n ≤ 4) (hC : C ≤ 100) (N : Nat) (hN : StillAt (soilS L) n s N) (hN1 : N ≤ 160) (E : Nat) (hit : Bool) (hE : UntilAt (soilS L) n s C N E hit) (w : World) :
    Calls Tryd.prog 11 #[.agg L.cells, .agg (bV 10 s), .int .i64 n, .int .i64 C] w fun e w' => e = .returned (.tuple #[.int .i64 (if hit then (E : Int) else 0), .int .i64 (if hit then 0 else 6)]) ∧ Below w.heap.size w w' := by
  obtain ⟨need, hneed⟩ : ∃ need : Int, need = n := ⟨_, rfl⟩
  obtain ⟨c, hcC⟩ : ∃ c : Int, c = C := ⟨_, rfl⟩
  have hb1 : inB need 1 4 = true := by rw [hneed]; simp [inB]; omega
  have hb2 : inB c 0 100 = true := by rw [hcC]; simp [inB]; omega
  have HC := Lib.hid (checkWeeds_any L hL s [(need, 1, 4), (c, 0, 100)] (by simp))
  have HCT := Lib.hid (show told (weedB L s) ([(need, (1 : Int), (4 : Int)), (c, 0, 100)].all limB) = 0 by simp [limB, hb1, hb2, hw, told])
  rw [HCT.out] at HC
  rw [← hneed, ← hcC]
  have HSO := Lib.hid (spreadingOn_any L (weedB_true hw).1 hL need)
  have HNE := Lib.hid hneed
  have HCC := Lib.hid hcC
  have HHN := Lib.hid hN
  have HHE := Lib.hid hE
  obtain ⟨A0, hA0⟩ : ∃ A0, (if hit then (E : Int) else 0) = A0 := ⟨_, rfl⟩
  obtain ⟨A1, hA1⟩ : ∃ A1 : Int, (if hit then 0 else 6) = A1 := ⟨_, rfl⟩
  rw [hA0, hA1]
  have HA0 := Lib.hid hA0.symm
  have HA1 := Lib.hid hA1.symm
  clear hb1 hb2 hL hw hneed hcC hN hE hA0 hA1
  obtain ⟨u, hu⟩ : ∃ u, w.heap.size = u := ⟨_, rfl⟩
  obtain ⟨W1, hW1⟩ : ∃ W1, ((((w.alloc (.cells L.cells 31)).alloc (.cells (bV 10 s) 33)).alloc (.cells #[.int .i64 c] 2)).alloc (.cells #[.int .i64 0] 2)).alloc (.cells #[.int .i64 0] 2) = W1 := ⟨_, rfl⟩
  have g0 : Holds W1 u L.cells := by rw [← hW1]; exact ((((Holds.new' _ _ _ _ hu.symm).alloc _).alloc _).alloc _).alloc _
  have g1 : Holds W1 (u + 1) (bV 10 s) := by rw [← hW1]; exact (((Holds.new' _ _ _ _ (by simp; omega)).alloc _).alloc _).alloc _
  have g2 : Holds W1 (u + 2) #[.int .i64 c] := by rw [← hW1]; exact ((Holds.new' _ _ _ _ (by simp; omega)).alloc _).alloc _
  have g3 : Holds W1 (u + 3) #[.int .i64 0] := by rw [← hW1]; exact (Holds.new' _ _ _ _ (by simp; omega)).alloc _
  have g4 : Holds W1 (u + 4) #[.int .i64 0] := by rw [← hW1]; exact Holds.new' _ _ _ _ (by simp; omega)
  have hB1 : Below u w W1 := by rw [← hW1]; exact (((((Below.refl u w).alloc (by omega) _).alloc (by simp; omega) _).alloc (by simp; omega) _).alloc (by simp; omega) _).alloc (by simp; omega) _
  have HU := Lib.hid hu
  refine (callsIn_wide (n := 9)).1 ?_
  refine callsIn_of_wp_marks Tryd.func11 rfl trivial ?_ rfl
  simp only [Tryd.ntmps11, List.size_toArray, List.length_cons, List.length_nil, Nat.reduceAdd, Nat.reduceSub, Array.replicate_succ, Array.replicate_zero, List.push_toArray, List.append_toArray, List.nil_append, List.cons_append]
  gi_wp2_with fail
  try simp only [hu, Nat.add_assoc, Nat.reduceAdd]
  try rw [hW1]
  clear hW1 hu
  obtain ⟨r0, -⟩ := g0.later
  obtain ⟨r1, -⟩ := g1.later
  obtain ⟨-, c2⟩ := g2.later
  have c20 : ∀ w', Below W1.heap.size W1 w' → w'.cell? ⟨u + 2, 0, none⟩ = some (.int .i64 c) := fun w' hw => (c2 w' hw 0).trans rfl
  clear c2
  refine wpIn_wide.2 ?_
  refine wp_region_growMP 7 6 [] (fun p w' => Holds w' p (limV [(need, 1, 4), (c, 0, 100)])) (fun p a b h hb => h.below hb h.lt)
    (fun p => [.agg L.cells, .agg (bV 10 s), .int .i64 need, .agg #[.int .i64 need, .int .i64 1, .int .i64 4], .int .i64 c, .agg #[.int .i64 c, .int .i64 0, .int .i64 100], .slice (some ⟨p, 0, none⟩) 2 2]) ?hv (by kernel_rfl) (by decide) (by kernel_rfl) (by kernel_rfl) (by kernel_rfl) ?_
  case hv =>
    intro p p' j h1 h2
    match j with
    | 0 => rfl
    | 1 => rfl
    | 2 => rfl
    | 3 => rfl
    | 4 => rfl
    | 5 => rfl
    | 6 => exact absurd rfl h1
    | j + 7 => rfl
  intro p
  simp only [List.take_succ_cons, List.take_zero, List.drop_succ_cons, List.drop_zero]
  refine seqP_free rfl rfl rfl (v := .agg L.cells) rfl ?_ ?_
  · intro w' hw' K hK
    go_wp2_with fail
    exact hK _ _ rfl (Below.refl _ _)
  simp only [Act.put, List.setIfInBounds_toArray, List.set_cons_succ, List.set_cons_zero]
  refine seqP_free rfl rfl rfl (v := .agg (bV 10 s)) rfl ?_ ?_
  · intro w' hw' K hK
    go_wp2_with fail
    exact hK _ _ rfl (Below.refl _ _)
  simp only [Act.put, List.setIfInBounds_toArray, List.set_cons_succ, List.set_cons_zero]
  refine seqP_free rfl rfl rfl (v := .int .i64 need) rfl ?_ ?_
  · intro w' hw' K hK
    go_wp2_with fail
    exact hK _ _ rfl (Below.refl _ _)
  simp only [Act.put, List.setIfInBounds_toArray, List.set_cons_succ, List.set_cons_zero]
  refine seqP_free rfl rfl rfl (v := .agg #[.int .i64 need, .int .i64 1, .int .i64 4]) rfl ?_ ?_
  · intro w' hw' K hK
    go_wp2_with fail
    refine (needed_any need _).mono ?_
    rintro e w5 ⟨rfl, hb5⟩
    go_wp2_with fail
    exact hK _ _ rfl hb5
  simp only [Act.put, List.setIfInBounds_toArray, List.set_cons_succ, List.set_cons_zero]
  refine seqP_free rfl rfl rfl (v := .int .i64 c) rfl ?_ ?_
  · intro w' hw' K hK
    go_wp2_with fail
    exact hK _ _ rfl (Below.refl _ _)
  simp only [Act.put, List.setIfInBounds_toArray, List.set_cons_succ, List.set_cons_zero]
  refine seqP_free rfl rfl rfl (v := .agg #[.int .i64 c, .int .i64 0, .int .i64 100]) rfl ?_ ?_
  · intro w' hw' K hK
    go_wp2_with fail
    exact hK _ _ rfl (Below.refl _ _)
  simp only [Act.put, List.setIfInBounds_toArray, List.set_cons_succ, List.set_cons_zero]
  refine seqP_call rfl rfl (v := .slice (some ⟨p, 0, none⟩) 2 2) rfl ?_ ?_
  · rintro w' hw' rfl K hK
    go_wp2_with fail
    exact hK _ _ rfl ((Below.refl _ _).alloc (Nat.le_refl _) _) (Holds.new _ _ _)
  simp only [Act.put, List.setIfInBounds_toArray, List.set_cons_succ, List.set_cons_zero]
  intro W2 _ hW2 hp
  have j0 := g0.below hW2 g0.lt
  have j1 := g1.below hW2 g1.lt
  have j2 := g2.below hW2 g2.lt
  have j3 := g3.below hW2 g3.lt
  have j4 := g4.below hW2 g4.lt
  have hB2 : Below u w W2 := hB1.trans (hW2.mono (by have := g0.lt; omega))
  clear hW2 g0 g1 g2 g3 g4 hB1 r0 r1 c20
  go_wp2_with fail
  refine (HC.out _ _ hp).mono ?_
  rintro e W3 ⟨⟨x, rfl, hx⟩, hb1⟩
  have hB3 : Below u w W3 := hB2.trans (hb1.mono (by have := j0.lt; omega))
  replace j0 := j0.below hb1 j0.lt
  replace j1 := j1.below hb1 j1.lt
  replace j2 := j2.below hb1 j2.lt
  replace j3 := j3.below hb1 j3.lt
  replace j4 := j4.below hb1 j4.lt
  clear hb1 hB2 hp HC HCT
  obtain rfl : x = .nilIface := by
    rcases hx with ⟨h, -⟩ | ⟨hc, -⟩
    · exact h
    · exact absurd rfl hc
  clear hx
  go_wp2_with fail
  gi_wp2_with fail
  obtain ⟨r0, -⟩ := j0.later
  obtain ⟨r1, -⟩ := j1.later
  refine wpIn_wide.2 ?_
  refine wp_region_growX 4 [fun _ => .agg (bV 10 s), fun _ => .agg L.cells, fun _ => .int .i64 need, fun q => .func (.func 71) #[] #[.pointer (some ⟨q, 0, none⟩), .pointer (some ⟨q + 1, 0, none⟩)]] [fun _ _ => True, fun _ _ => True, fun _ _ => True, fun q w' => W3.heap.size ≤ q ∧ Holds w' q (bV 10 (soilS L)) ∧ Holds w' (q + 1) #[.int .i64 need]] [[], [], [], []] ?hI (by kernel_rfl) (by kernel_rfl) (by kernel_rfl) ?_
  case hI =>
    intro j p a b h hb
    match j with
    | 0 => exact trivial
    | 1 => exact trivial
    | 2 => exact trivial
    | 3 => exact ⟨h.1, h.2.1.below hb h.2.1.lt, h.2.2.below hb h.2.2.lt⟩
    | j + 4 => exact trivial
  intro sx
  simp only [List.take_succ_cons, List.take_zero, List.drop_succ_cons, List.drop_zero]
  refine seqX_lit rfl (v := .agg (bV 10 s)) (fun _ => rfl) (fun _ _ => trivial) ?_ ?_
  · intro w' hw' hd K hK
    go_wp2_with fail
    exact hK _ _ rfl (Below.refl _ _)
  simp only [Act.put, List.setIfInBounds_toArray, List.set_cons_succ, List.set_cons_zero]
  refine seqX_lit rfl (v := .agg L.cells) (fun _ => rfl) (fun _ _ => trivial) ?_ ?_
  · intro w' hw' hd K hK
    go_wp2_with fail
    exact hK _ _ rfl (Below.refl _ _)
  simp only [Act.put, List.setIfInBounds_toArray, List.set_cons_succ, List.set_cons_zero]
  refine seqX_lit rfl (v := .int .i64 need) (fun _ => rfl) (fun _ _ => trivial) ?_ ?_
  · intro w' hw' hd K hK
    go_wp2_with fail
    exact hK _ _ rfl (Below.refl _ _)
  simp only [Act.put, List.setIfInBounds_toArray, List.set_cons_succ, List.set_cons_zero]
  refine seqX_num rfl (v := fun q => .func (.func 71) #[] #[.pointer (some ⟨q, 0, none⟩), .pointer (some ⟨q + 1, 0, none⟩)]) (fun _ => rfl) ?_ ?_
  · intro w' hw' hd K hK
    go_wp2_with fail
    refine (HSO.out _).mono ?_
    rintro e w5 ⟨⟨f, rfl, q, hq, rfl, qa, qb⟩, hb5⟩
    go_wp2_with fail
    exact hK q _ _ rfl hb5 ⟨Nat.le_trans hw'.size hq, qa, qb⟩
  simp only [Act.put, List.setIfInBounds_toArray, List.set_cons_succ, List.set_cons_zero]
  refine seqX_nil ?_
  intro W4 hW4 hall
  obtain ⟨q, hsq⟩ : ∃ q, sx 3 = q := ⟨_, rfl⟩
  obtain ⟨hql, qa, qb⟩ : W3.heap.size ≤ sx 3 ∧ Holds W4 (sx 3) (bV 10 (soilS L)) ∧ Holds W4 (sx 3 + 1) #[.int .i64 need] := hall 3 (by omega)
  rw [hsq] at hql qa qb ⊢
  have m0 := j0.below hW4 j0.lt
  have m2 := j2.below hW4 j2.lt
  have m3 := j3.below hW4 j3.lt
  have m4 := j4.below hW4 j4.lt
  have hB4 : Below u w W4 := hB3.trans (hW4.mono (by have := j0.lt; omega))
  have hqu : u + 5 ≤ q := by have := j4.lt; omega
  clear hW4 hall hsq hql j0 j1 j2 j3 j4 hB3 r0 r1 HSO
  go_wp2_with fail
  refine (still_any _ _ _).mono ?_
  rintro e w5 ⟨rfl, hw5⟩
  rw [hw5]
  clear hw5
  obtain ⟨b, hbz⟩ : ∃ b, W4.heap.size = b := ⟨_, rfl⟩
  obtain ⟨W0, hW0⟩ : ∃ W0, (W4.alloc (.cells (bV 10 s) 33)).alloc (.cells #[.func (.func 71) #[] #[.pointer (some ⟨q, 0, none⟩), .pointer (some ⟨q + 1, 0, none⟩)]] 76) = W0 := ⟨_, rfl⟩
  have g2 : Holds W0 (u + 2) #[.int .i64 c] := by rw [← hW0]; exact (m2.alloc _).alloc _
  have g3 : Holds W0 (u + 3) #[.int .i64 0] := by rw [← hW0]; exact (m3.alloc _).alloc _
  have g4 : Holds W0 (u + 4) #[.int .i64 0] := by rw [← hW0]; exact (m4.alloc _).alloc _
  have ga : Holds W0 q (bV 10 (soilS L)) := by rw [← hW0]; exact (qa.alloc _).alloc _
  have gb : Holds W0 (q + 1) #[.int .i64 need] := by rw [← hW0]; exact (qb.alloc _).alloc _
  have gs : Holds W0 b (bV 10 s) := by rw [← hW0]; exact (Holds.new' _ _ _ _ hbz.symm).alloc _
  have gf : Holds W0 (b + 1) #[.func (.func 71) #[] #[.pointer (some ⟨q, 0, none⟩), .pointer (some ⟨q + 1, 0, none⟩)]] := by rw [← hW0]; exact Holds.new' _ _ _ _ (by simp; omega)
  have hub : u + 5 ≤ b := by have := m4.lt; omega
  have hB0 : Below u w W0 := by rw [← hW0]; exact (hB4.alloc (by omega) _).alloc (by simp; omega) _
  have hz1 : b + 2 ≤ W0.heap.size := by rw [← hW0]; simp; omega
  have hbq : q + 1 < b := by have := qb.lt; omega
  go_wp2_with fail
  try simp only [hbz]
  try rw [hW0]
  clear hW0 hbz m0 m2 m3 m4 qa qb hB4
  gi_wp2_with fail
  rw [HNE.out] at gb
  refine still_range (by omega) (p1 := 30) (p2 := 31) (q1 := 11) (q2 := 12) [u + 3, u + 4, b] (soilS L) n h1 h4 s N HHN.out hN1 (b := b) (c := b + 1) (q := q) (by omega) (by omega) (by omega) gs gf ga gb (by simp) rfl
    (fun pre W => Holds W (u + 3) #[.int .i64 0] ∧ Holds W (u + 4) #[.int .i64 0] ∧ ∀ y ∈ pre, cntR y.2 10 < C)
    (stopU (u + 3) (u + 4) C)
    (Own.from (ownAnd (holds_own _ (fun _ => #[.int .i64 0])) (ownAnd (holds_own _ (fun _ => #[.int .i64 0])) (pure_own _))) _)
    (fun c => Own.from (stopU_own _ _ _ c) _)
    (fun pre A cs h => ⟨h.1.setRow_other _ (by omega), h.2.1.setRow_other _ (by omega), h.2.2⟩) ⟨g3, g4, fun y hy => by cases hy⟩ ?assign ?body ?done ?stop
  case assign =>
    intro l z t W K hK
    gi_wp2
    exact hK
  case body =>
    rintro l pre x Bx W hl hO ⟨i3, i4, hall⟩ hBx bX hlt
    have i2 := hO.holds g2 (by simp; omega)
    have HO := Lib.hid hO
    have HALL := Lib.hid hall
    obtain ⟨xk, xt⟩ := x
    dsimp only at *
    simp only [List.setIfInBounds_toArray, List.set_cons_succ, List.set_cons_zero]
    obtain ⟨rX, -⟩ := bX.later
    obtain ⟨-, c2⟩ := i2.later
    have c20 : ∀ w', Below W.heap.size W w' → w'.cell? ⟨u + 2, 0, none⟩ = some (.int .i64 c) := fun w' hw => (c2 w' hw 0).trans rfl
    clear hO hall c2 hlt
    gi_wp2_with fail
    refine wpIn_region_grow 3 (by kernel_rfl) rfl (by rintro ⟨_, _, h⟩; exact h) (by kernel_rfl) ?_
    simp only [List.take_succ_cons, List.take_zero, List.drop_succ_cons, List.drop_zero]
    apply wpGrow_plain rfl (v := .agg (bV 10 xt))
    · intro w' hw' K hK
      go_wp2_with fail
      exact hK _ _ rfl hw'
    simp only [Act.put, List.setIfInBounds_toArray, List.set_cons_succ, List.set_cons_zero]
    obtain ⟨D, hD⟩ : ∃ D, cntR xt 10 = D := ⟨_, rfl⟩
    have hD160 : D ≤ 160 := by rw [← hD]; exact Nat.le_trans (cntR_le xt 10) (by omega)
    have HD := Lib.hid hD
    apply wpGrow_plain rfl (v := .int .i64 (D : Int))
    · intro w' hw' K hK
      go_wp2_with fail
      refine (wdCount_any _ _).mono ?_
      rintro e w5 ⟨rfl, hb5⟩
      rw [HD.out]
      go_wp2_with fail
      exact hK _ _ rfl (below_onto hw' hb5)
    simp only [Act.put, List.setIfInBounds_toArray, List.set_cons_succ, List.set_cons_zero]
    apply wpGrow_plain rfl (v := .int .i64 c)
    · intro w' hw' K hK
      have c2' := c20 _ hw'
      go_wp2_with fail
      exact hK _ _ rfl hw'
    simp only [Act.put, List.setIfInBounds_toArray, List.set_cons_succ, List.set_cons_zero]
    refine wpGrow_nil ?_
    intro W2 hW2
    have q3 := i3.below hW2 i3.lt
    have q4 := i4.below hW2 i4.lt
    have qO : Only [u + 3, u + 4, b] W0 W2 := HO.out.onto hW2
    have qK : KeepsOthers W W2 := keeps_below hW2
    have qB := Lib.hid hW2
    clear rX c20 hW2 i2 i3 i4 bX hD
    by_cases hc : C ≤ D
    · have hci : decide (c ≤ (D : Int)) = true := by rw [HCC.out]; simp; omega
      have HL2 := Lib.hid hc
      obtain ⟨-, -, d3, f3, l3⟩ := q3.facts
      obtain ⟨-, -, d4, f4, l4⟩ := q4.facts
      have v3 := (q3.setCell 0 (.int .i64 xk)).setCell_other ⟨u + 4, 0, none⟩ (.int .i64 0) (by dsimp only; omega)
      have v4 := (q4.setCell_other ⟨u + 3, 0, none⟩ (.int .i64 xk) (by dsimp only; omega)).setCell 0 (.int .i64 0)
      clear hc
      go_wp2_with fail
      gi_wp2_with fail
      exact eachLeft ((qK.trans (KeepsOthers.setCell _ _ _)).trans (KeepsOthers.setCell _ _ _)) ((qO.setCell (.inl (by simp)) _).setCell (.inl (by simp)) _) ⟨rfl, pre, (xk, xt), rfl, v3, v4, by rw [HD.out]; exact HL2.out, HALL.out⟩
    · have hci : decide (c ≤ (D : Int)) = false := by rw [HCC.out]; simp; omega
      have HL2 := Lib.hid (show D < C by omega)
      clear hc
      go_wp2_with fail
      gi_wp2_with fail
      exact stillDone (by omega) (by omega) (by omega) HO.out qK qB.out qO ⟨q3, q4, fun y hy => by
        rcases List.mem_append.1 hy with h | h
        · exact HALL.out y h
        · simp at h; subst h; rw [HD.out]; exact HL2.out⟩
  case done =>
    rintro D W hD hO ⟨i3, i4, hall⟩ hK
    have hB2 : Below u w W := hB0.trans (hO.toBelow (by intro k hk; simp at hk; omega) (by omega))
    have HR : Hid (hit = false) := Lib.hid (by
      have hE := HHE.out
      cases hh : hit with
      | false => rfl
      | true =>
        have h1 := hE.at_
        rw [hh] at h1
        have h2 := hall (E, itS (soilS L) n s E) (List.mem_map.2 ⟨E, List.mem_range.2 (by have := hE.le; omega), rfl⟩)
        have h3 : C ≤ cntR (itS (soilS L) n s E) 10 := by simpa using h1.symm
        dsimp only at h2
        omega)
    obtain ⟨-, -, d3, f3, l3⟩ := i3.facts
    obtain ⟨-, -, d4, f4, l4⟩ := i4.facts
    have v3 := (i3.setCell 0 (.int .i64 0)).setCell_other ⟨u + 4, 0, none⟩ (.int .i64 6) (by dsimp only; omega)
    have v4 := (i4.setCell_other ⟨u + 3, 0, none⟩ (.int .i64 0) (by dsimp only; omega)).setCell 0 (.int .i64 6)
    have hB3 := (hB2.setCell (p := ⟨u + 3, 0, none⟩) (by dsimp only; omega) (.int .i64 0)).setCell (p := ⟨u + 4, 0, none⟩) (by dsimp only; omega) (.int .i64 6)
    have hK' := ((KeepsOthers.setCell W ⟨u + 3, 0, none⟩ (.int .i64 0)).trans (KeepsOthers.setCell _ ⟨u + 4, 0, none⟩ (.int .i64 6))).same D _ hK rfl
    clear hall g2 g3 g4 ga gb gs gf hO
    gi_wp2
    obtain ⟨W2, hW2⟩ : ∃ W2, (W.setCell ⟨u + 3, 0, none⟩ (.int .i64 0)).setCell ⟨u + 4, 0, none⟩ (.int .i64 6) = W2 := ⟨_, rfl⟩
    rw [hW2] at v3 v4 hB3 hK' ⊢
    refine ⟨by simp, .inl ⟨_, _, rfl, run_takeDeferred hK', ?_⟩⟩
    refine ⟨.tuple #[.int .i64 0, .int .i64 6], ?_, by rw [HA0.out, HA1.out, HR.out]; rfl, HU.out ▸ hB3.trans (belowK_b (w := w) (by have := HU.out; omega) _ D _ _ (by have := HU.out; omega) hK' rfl rfl)⟩
    exact until_results _ rfl rfl (v3.grown (grownBy_putObj' _ D _) (fun r e => by cases e; exact ⟨_, hK', rfl⟩)) (v4.grown (grownBy_putObj' _ D _) (fun r e => by cases e; exact ⟨_, hK', rfl⟩))
  case stop =>
    rintro D c' m W hD hm hO ⟨rfl, ys, x, hp, i3, i4, hx, hall⟩ hK
    have hB3 : Below u w W := hB0.trans (hO.toBelow (by intro k hk; simp at hk; omega) (by omega))
    have hpp : ys = preT (soilS L) n s m ∧ x = (m, itS (soilS L) n s m) := by
      rw [preT_succ] at hp
      have := List.append_inj' hp (by simp)
      exact ⟨this.1.symm, by simpa using this.2.symm⟩
    obtain ⟨rfl, rfl⟩ := hpp
    dsimp only at hx i3
    have HR : Hid (hit = true ∧ m = E) := Lib.hid (by
      have hE := HHE.out
      have hmE : E ≤ m ∨ m < E := by omega
      rcases hmE with h | h
      · rcases Nat.lt_or_ge E m with h2 | h2
        · have h3 := hall (E, itS (soilS L) n s E) (List.mem_map.2 ⟨E, List.mem_range.2 h2, rfl⟩)
          dsimp only at h3
          have h4 : hit = false := by rw [hE.at_]; simp; omega
          have := hE.last h4
          omega
        · obtain rfl : m = E := by omega
          exact ⟨by rw [hE.at_]; simpa using hx, rfl⟩
      · have := hE.before m h
        omega)
    clear hall g2 g3 g4 ga gb gs gf hO hp hx
    gi_wp2
    refine ⟨by simp, .inl ⟨_, _, rfl, run_takeDeferred hK, ?_⟩⟩
    refine ⟨.tuple #[.int .i64 (m : Int), .int .i64 0], ?_, by rw [HA0.out, HA1.out, HR.out.1, HR.out.2]; rfl, HU.out ▸ hB3.trans (belowK_b (w := w) (by have := HU.out; omega) _ D _ _ (by have := HU.out; omega) hK rfl rfl)⟩
    exact until_results _ rfl rfl (i3.grown (grownBy_putObj' _ D _) (fun r e => by cases e; exact ⟨_, hK, rfl⟩)) (i4.grown (grownBy_putObj' _ D _) (fun r e => by cases e; exact ⟨_, hK, rfl⟩))
end Go.Proofs.YtemjppchnhemjaaDoor
