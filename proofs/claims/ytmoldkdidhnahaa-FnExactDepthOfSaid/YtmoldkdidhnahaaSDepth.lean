/- DepthOf, of the model. -/
import Derived.Test.YtmoldkdidhnahaaDepthP
import Derived.Test.YtmoldkdidhnahaaIDepth
import Derived.Test.YtmoldkdidhnahaaSReachG
import Derived.Test.YtmoldkdidhnahaaBorder
namespace Go.Proofs.Ytmoldkdidhnahaa
open Go.RowKit
set_option linter.unusedVariables false
set_option linter.unusedSimpArgs false
attribute [local go_sem ↓] loadRow loadGrid loadLawn loadMirror storeRow storeGrid storeLawn allocRow allocGrid allocLawn buildZero buildSides loadG64 storeG64 allocG64 buildG64

/-- The least number up to now, of cells. -/
def LeastC {α : Type} (S : α → Int) (l : List α) (d : Int) : Prop := (∀ c ∈ l, 0 ≤ S c → d ≤ S c) ∧ (d = 1000 ∨ ∃ c ∈ l, 0 ≤ S c ∧ S c = d)
theorem leastC_skip {α : Type} {S : α → Int} {l : List α} {d : Int} {c : α} (h : LeastC S l d) (hc : ¬ (0 ≤ S c ∧ S c < d)) : LeastC S (l ++ [c]) d := by
  refine ⟨fun a ha h0 => ?_, h.2.elim .inl fun ⟨a, ha, x⟩ => .inr ⟨a, by simp [ha], x⟩⟩
  rcases List.mem_append.1 ha with ha | ha
  · exact h.1 a ha h0
  · rw [List.mem_singleton.1 ha] at h0 ⊢; omega
theorem leastC_take {α : Type} {S : α → Int} {l : List α} {d : Int} {c : α} (h : LeastC S l d) (h0 : 0 ≤ S c) (h1 : S c < d) : LeastC S (l ++ [c]) (S c) := by
  refine ⟨fun a ha ha0 => ?_, .inr ⟨c, by simp, h0, rfl⟩⟩
  rcases List.mem_append.1 ha with ha | ha
  · have := h.1 a ha ha0; omega
  · rw [List.mem_singleton.1 ha]; omega
theorem leastC_bound {α : Type} {S : α → Int} {l : List α} {d : Int} (h : LeastC S l d) (hS : ∀ c, S c < 100) : 0 ≤ d ∧ d ≤ 1000 := by
  rcases h.2 with h2 | ⟨c, hc, h0, rfl⟩
  · omega
  · have := hS c; omega
/-- The least number among the cells of the border is the least number among the found ones. -/
theorem leastC_end {L : Lawn} (hv : validB L = true) {W H : Nat} (hW : L.wide = W) (hH : L.high = H) {s : Pt} (hs : grassP L s = true) {d e : Int} (hd : LeastIs (outerB L) (found (grassP L) s 100) d)
    (h : LeastC (fun c : Fin W × Fin H => stepsAt (found (grassP L) s 100) c.1.val c.2.val) ((ofKind L W H 0).filter (keepI L (!true))) e) : e = d := by
  have hgood := found_good (pass := grassP L) (s := s) hs 100
  have hlen := good_length (fun c h => grassP_near hv c h) hgood
  obtain ⟨l, hl⟩ : ∃ l, found (grassP L) s 100 = l := ⟨_, rfl⟩
  rw [hl] at hd h hgood hlen
  have hin : ∀ p ∈ l, outerB L p.1 = true → ∃ c ∈ (ofKind L W H 0).filter (keepI L (!true)), ((c.1.val : Int), (c.2.val : Int)) = p.1 := by
    intro p hp ho
    have hg := hgood.pass p hp
    have hi := grassB_in (x := p.1.1) (y := p.1.2) hg
    have hb := isB_in hi
    refine ⟨(⟨p.1.1.toNat, by omega⟩, ⟨p.1.2.toNat, by omega⟩), ?_, ?_⟩
    · rw [List.mem_filter]
      constructor
      · unfold ofKind
        rw [List.mem_filter]
        refine ⟨allC_mem _ _ _, ?_⟩
        have : grassB L p.1.1 p.1.2 = true := hg
        simp only [grassB, hi, Bool.true_and] at this
        exact this
      · have e1 : ((p.1.1.toNat : Nat) : Int) = p.1.1 := by omega
        have e2 : ((p.1.2.toNat : Nat) : Int) = p.1.2 := by omega
        simp only [keepI, e1, e2]
        simpa [outerB] using ho
    · ext <;> dsimp only <;> omega
  have hval : ∀ p ∈ l, stepsAt l p.1.1 p.1.2 = p.2 := fun p hp => by
    unfold stepsAt
    rw [alLook_mem hgood.nodup (k := (p.1.1, p.1.2)) (v := p.2) hp]
    rfl
  have h0 : ∀ p ∈ l, 0 ≤ p.2 := fun p hp => by
    obtain ⟨j, hj, rfl⟩ := List.getElem_of_mem hp
    exact (hgood.val j _ (List.getElem?_eq_getElem hj)).1
  refine least_one (q := outerB L) (l := l) ⟨fun p hp hq => ?_, ?_⟩ hd
  · obtain ⟨c, hc, hcp⟩ := hin p hp hq
    have h1 := h.1 c hc
    have e1 : ((c.1.val : Nat) : Int) = p.1.1 := congrArg Prod.fst hcp
    have e2 : ((c.2.val : Nat) : Int) = p.1.2 := congrArg Prod.snd hcp
    dsimp only at h1
    rw [e1, e2, hval p hp] at h1
    exact h1 (h0 p hp)
  · rcases h.2 with h2 | ⟨c, hc, hc0, hce⟩
    · obtain ⟨p, hp, hq, rfl⟩ := hd.2
      obtain ⟨c, hc, hcp⟩ := hin p hp hq
      have h1 := h.1 c hc
      have e1 : ((c.1.val : Nat) : Int) = p.1.1 := congrArg Prod.fst hcp
      have e2 : ((c.2.val : Nat) : Int) = p.1.2 := congrArg Prod.snd hcp
      dsimp only at h1
      rw [e1, e2, hval p hp] at h1
      have h3 := h1 (h0 p hp)
      obtain ⟨j, hj, rfl⟩ := List.getElem_of_mem hp
      have := (hgood.val j _ (List.getElem?_eq_getElem hj)).2
      omega
    · dsimp only at hc0 hce
      unfold stepsAt at hc0 hce
      cases hk : alLook l ((c.1.val : Int), (c.2.val : Int)) with
      | none => rw [hk] at hc0; simp at hc0
      | some v =>
        rw [hk] at hce
        have hm := alLook_in hk
        rw [List.mem_filter] at hc
        refine ⟨_, hm, ?_, by simpa using hce⟩
        have := hc.2
        simp only [keepI] at this
        simpa [outerB] using this

set_option maxRecDepth 100000 in
set_option maxHeartbeats 4000000 in
theorem specDepth_good (L : Lawn) (hL : L.Fits) (x y : Int) (x0 : -128 ≤ x) (x1 : x ≤ 127) (y0 : -128 ≤ y) (y1 : y ≤ 127) (hg : grassC L x y = 0) (d : Int) (hd : LeastIs (outerB L) (found (grassP L) (x, y) 100) d) (w : World) :
    Calls Try.prog 16 #[.agg L.cells, .agg #[.int .i8 x, .int .i8 y]] w fun e w' => e = .returned (.tuple #[.int .i64 d, .int .i64 0]) ∧ Below w.heap.size w w' := by
  obtain ⟨hv, hi, hgr⟩ := grassC_zero hg
  have HC := Lib.hid (fun (b : Nat) (w : World) (h : Holds w b L.cells) => l05Grass_any L hL x y x0 x1 y0 y1 b w h)
  rw [hg] at HC
  obtain ⟨Wn, Hn, ⟨hW, hH⟩, ⟨hW1, hH1⟩, hLw, hLh⟩ := valid_sides hv
  have HBO := Lib.hid (fun (b : Nat) (w : World) (h : Holds w b L.cells) => l05Border_any Wn Hn hW hH hW1 hH1 L hL hv hLw hLh true b w h)
  have hxy := isB_near hv hi
  have hgood := found_good (pass := grassP L) (s := (x, y)) hgr 100
  have hlen := good_length (fun c h => grassP_near hv c h) hgood
  have HEND := Lib.hid (fun e h => leastC_end hv hLw hLh (s := (x, y)) hgr (e := e) hd h)
  obtain ⟨a, rfl⟩ : ∃ a : Nat, x = a := ⟨x.toNat, by omega⟩
  obtain ⟨c, rfl⟩ : ∃ c : Nat, y = c := ⟨y.toNat, by omega⟩
  have HRE := Lib.hid (fun (b : Nat) (w : World) (h : Holds w b L.cells) => reach_grass L hL hv b a c (by omega) (by omega) (show passG L true ((a : Int), (c : Int)) = true from hgr) w h)
  have hpg : passG L true = grassP L := funext fun c => rfl
  rw [hpg] at HRE
  obtain ⟨l, hl⟩ : ∃ l, found (grassP L) ((a : Int), (c : Int)) 100 = l := ⟨_, rfl⟩
  rw [hl] at HRE HEND hgood hlen
  have HSB : Hid (∀ u v : Int, -1 ≤ stepsAt l u v ∧ stepsAt l u v < 100) := Lib.hid (fun u v => by
    unfold stepsAt
    cases hk : alLook l (u, v) with
    | none => simp
    | some z =>
      have hm := alLook_in hk
      obtain ⟨j, hj, hjz⟩ := List.getElem_of_mem hm
      have h2 := hgood.val j _ (List.getElem?_eq_getElem hj)
      rw [hjz] at h2
      simp only [Option.getD_some]
      dsimp only at h2
      omega)
  obtain ⟨G, hG⟩ : ∃ G, gridF l = G := ⟨_, rfl⟩
  have HG : Hid (∀ i j : Nat, G j i = stepsAt l i j) := Lib.hid (fun i j => by rw [← hG]; rfl)
  rw [hG] at HRE
  obtain ⟨B, hB⟩ : ∃ B, (ofKind L Wn Hn 0).filter (keepI L (!true)) = B := ⟨_, rfl⟩
  rw [hB] at HBO HEND
  have HBL : B.length ≤ 100 := by
    rw [← hB]
    refine Nat.le_trans (List.length_filter_le _ _) (Nat.le_trans (List.length_filter_le _ _) ?_)
    rw [allC_length]
    exact Nat.le_trans (Nat.mul_le_mul hH hW) (by omega)
  obtain ⟨n, hn⟩ : ∃ n, B.length = n := ⟨_, rfl⟩
  rw [hn] at HBO HBL
  have HN := Lib.hid hn
  clear hv hi hgr hg hLw hLh hgood hlen hpg hl hG hB hn hd hL hxy hW1 hH1 x0 x1 y0 y1
  obtain ⟨W0, hW0⟩ : ∃ W0, (w.alloc (.cells L.cells 27)).alloc (.cells #[.int .i8 a, .int .i8 c] 37) = W0 := ⟨_, rfl⟩
  have g0 : Holds W0 w.heap.size L.cells := by rw [← hW0]; exact (Holds.new _ _ _).alloc _
  have g1 : Holds W0 (w.heap.size + 1) #[.int .i8 a, .int .i8 c] := by rw [← hW0]; exact Holds.new' _ _ _ _ (by simp)
  have hb0 : Below w.heap.size w W0 := by rw [← hW0]; exact ((Below.refl w.heap.size w).alloc (Nat.le_refl _) _).alloc (by simp) _
  have c0 : W0.cell? ⟨w.heap.size + 1, 0, none⟩ = some (.int .i8 a) := g1.cell 0
  have c1 : W0.cell? ⟨w.heap.size + 1, 1, none⟩ = some (.int .i8 c) := g1.cell 1
  go_enter Try.func16, Try.ntmps16
  go_wp2_with fail
  clear hW0 c0 c1
  refine (HC.out _ _ g0).mono ?_
  rintro e w1 ⟨rfl, hb1⟩
  have k0 := g0.below hb1 g0.lt
  have k1 := g1.below hb1 g1.lt
  have hb2 := below_onto hb0 hb1
  clear g0 g1 hb0 hb1
  have c0 : w1.cell? ⟨w.heap.size + 1, 0, none⟩ = some (.int .i8 a) := k1.cell 0
  have c1 : w1.cell? ⟨w.heap.size + 1, 1, none⟩ = some (.int .i8 c) := k1.cell 1
  go_wp2_with fail
  refine (HRE.out _ _ k0).mono ?_
  rintro e w2 ⟨rfl, hb1⟩
  have j0 := k0.below hb1 k0.lt
  have hb3 := below_onto hb2 hb1
  clear k0 k1 hb2 hb1 c0 c1
  have q0 := j0.alloc (.cells (grid64 G) 86)
  have qG := Holds.new w2 (grid64 G) 86
  have hb4 := hb3.alloc hb3.size (.cells (grid64 G) 86)
  have hsm := j0.lt
  go_wp2_with fail
  refine (HBO.out _ _ q0).mono ?_
  obtain ⟨s, hs⟩ : ∃ s, w.heap.size = s := ⟨_, rfl⟩
  obtain ⟨m, hm⟩ : ∃ m, w2.heap.size = m := ⟨_, rfl⟩
  obtain ⟨W3, hW3⟩ : ∃ W3, w2.alloc (.cells (grid64 G) 86) = W3 := ⟨_, rfl⟩
  rw [hW3] at q0 qG hb4 ⊢
  rw [hs] at q0 hb4 hsm ⊢
  rw [hm] at qG hsm ⊢
  have HS := Lib.hid hs
  rintro e w4 ⟨v, rfl, hA, hb1⟩
  have jG := qG.below hb1 qG.lt
  have hb5 := hb4.trans (hb1.mono (by have := q0.lt; omega))
  have hml := qG.lt
  obtain ⟨aA, cA, rfl⟩ := own_slice hA
  have HAO := Lib.hid (ownsRow_low (A := m + 1) hA (by omega))
  clear q0 qG hb4 hb1 hA hs hm hW3 j0 hb3
  go_wp2_with fail
  go_loopw [9, 10] (fun v u wr => ∃ (e : Int) (i : Nat), i ≤ n ∧ u = .int .i64 i ∧ v = .int .i64 e ∧ LeastC (fun c : Fin Wn × Fin Hn => stepsAt l c.1.val c.2.val) (B.take i) e ∧ Holds wr m (grid64 G) ∧ wr.ownsRow (m + 1) 37 2 (.slice aA n cA) n (flatV B) ∧ Below s w wr) (fun _ u _ => n - (intOf u).toNat)
  case atStart => exact ⟨1000, 0, by omega, rfl, rfl, ⟨fun c hc => by simp at hc, .inl rfl⟩, jG, HAO.out, hb5⟩
  case round =>
    obtain ⟨e, i, hi, rfl, rfl, hle, j0, ho, hb⟩ := hrel
    have HAW := Lib.hid ho
    clear jG HAO hb5 ho
    by_cases hlt : i < n
    · have hd : decide ((i : Int) < (n : Int)) = true := by simp; omega
      obtain ⟨q, hq⟩ : ∃ q, B[i]? = some q := ⟨_, List.getElem?_eq_getElem (by rw [HN.out]; exact hlt)⟩
      have htk : B.take (i + 1) = B.take i ++ [q] := by rw [List.take_add_one, hq]; rfl
      have HSK := Lib.hid (fun h => by have := leastC_skip (c := q) hle h; rw [← htk] at this; exact this)
      have HTK := Lib.hid (fun h0 h1 => by have := leastC_take (c := q) hle h0 h1; rw [← htk] at this; exact this)
      have hev := leastC_bound hle (fun c => (HSB.out c.1.val c.2.val).2)
      obtain ⟨ga, cap, he, hBg, hgw⟩ := own_form HAW.out (by omega)
      simp only [Value.slice.injEq, true_and] at he
      obtain ⟨rfl, rfl⟩ := he
      obtain ⟨fa, fb⟩ := flatV_get _ _ _ hq
      obtain ⟨⟨e1, he1⟩, ⟨e2, he2⟩⟩ := q
      dsimp only at fa fb HSK HTK
      have hw1 : e1 < 10 := by omega
      have hw2 : e2 < 10 := by omega
      have hO1 := grid64_get G e2 e1 hw2 hw1
      have hsb := HSB.out e1 e2
      obtain ⟨z, hz⟩ : ∃ z, stepsAt l e1 e2 = z := ⟨_, rfl⟩
      rw [HG.out, hz] at hO1
      rw [hz] at HSK HTK hsb
      have FX := Lib.hid (show ∀ w', Below wr.heap.size wr w' → w'.cell? ⟨ga, i * 2, none⟩ = some (.int .i8 e1) ∧ w'.cell? ⟨ga, i * 2 + 1, none⟩ = some (.int .i8 e2) ∧ w'.cell? ⟨m, e2 * 10 + e1, none⟩ = some (.int .i64 z) from fun w' hw' =>
        ⟨own_cell (own_below HAW.out hw') _ _ fa, own_cell (own_below HAW.out hw') _ _ fb, by rw [(j0.below hw' j0.lt).cell, hO1]⟩)
      have hsz := j0.lt
      clear hq htk fa fb hO1 hz hle
      go_wp2_with fail
      refine wp_region_grow 13 (by kernel_rfl) (by kernel_rfl) ?_
      simp only [List.take_succ_cons, List.take_zero, List.drop_succ_cons, List.drop_zero]
      iterate 13
        apply wpGrow_plain rfl
        · intro w' hw' K hK
          obtain ⟨f1, f2, f3⟩ := FX.out _ hw'
          go_wp2_with fail
          exact hK _ _ rfl hw'
        simp only [Act.put, List.setIfInBounds_toArray, List.set_cons_succ, List.set_cons_zero]
      refine wpGrow_nil ?_
      intro W2 hW2
      have k0 := j0.below hW2 j0.lt
      have HAY := Lib.hid (own_below HAW.out hW2)
      have hb7 := hb.trans (hW2.mono (by omega))
      clear hW2 j0 HAW hb FX
      by_cases hz0 : 0 ≤ z
      · have hd0 : decide (0 ≤ z) = true := by simpa using hz0
        by_cases hz1 : z < e
        · have hd1 : decide (z < e) = true := by simpa using hz1
          have HT := Lib.hid (HTK.out hz0 hz1)
          clear HTK HSK
          go_wp2_with fail
          all_goals exact ⟨⟨z, i + 1, by omega, by go_num, rfl, HT.out, k0, HAY.out, hb7⟩, by simp [intOf]; omega⟩
        · have hd1 : decide (z < e) = false := by simpa using hz1
          have HT := Lib.hid (HSK.out (by omega))
          clear HTK HSK
          go_wp2_with fail
          all_goals exact ⟨⟨e, i + 1, by omega, by go_num, rfl, HT.out, k0, HAY.out, hb7⟩, by simp [intOf]; omega⟩
      · have hd0 : decide (0 ≤ z) = false := by simpa using hz0
        have HT := Lib.hid (HSK.out (by omega))
        clear HTK HSK
        go_wp2_with fail
        all_goals exact ⟨⟨e, i + 1, by omega, by go_num, rfl, HT.out, k0, HAY.out, hb7⟩, by simp [intOf]; omega⟩
    · have hd : decide ((i : Int) < (n : Int)) = false := by simp; omega
      have he := HEND.out e (by rw [← List.take_of_length_le (show B.length ≤ i by rw [HN.out]; omega)]; exact hle)
      subst he
      clear HC HRE HBO HEND hle HAW
      go_wp2_with fail
      go_ret2
      exact ⟨rfl, by rw [HS.out]; exact hb⟩

set_option maxRecDepth 100000 in
set_option maxHeartbeats 1000000 in
theorem specDepth_bad (L : Lawn) (hL : L.Fits) (x y : Int) (x0 : -128 ≤ x) (x1 : x ≤ 127) (y0 : -128 ≤ y) (y1 : y ≤ 127) (hg : grassC L x y ≠ 0) (w : World) :
    Calls Try.prog 16 #[.agg L.cells, .agg #[.int .i8 x, .int .i8 y]] w fun e w' => e = .returned (.tuple #[.int .i64 0, .int .i64 (grassC L x y)]) ∧ Below w.heap.size w w' := by
  have HC := Lib.hid (fun (b : Nat) (w : World) (h : Holds w b L.cells) => l05Grass_any L hL x y x0 x1 y0 y1 b w h)
  have hne : (grassC L x y != 0) = true := by simpa [bne] using hg
  obtain ⟨k, hk⟩ : ∃ k, grassC L x y = k := ⟨_, rfl⟩
  rw [hk] at HC hne ⊢
  clear hg hk
  obtain ⟨W0, hW0⟩ : ∃ W0, (w.alloc (.cells L.cells 27)).alloc (.cells #[.int .i8 x, .int .i8 y] 37) = W0 := ⟨_, rfl⟩
  have g0 : Holds W0 w.heap.size L.cells := by rw [← hW0]; exact (Holds.new _ _ _).alloc _
  have g1 : Holds W0 (w.heap.size + 1) #[.int .i8 x, .int .i8 y] := by rw [← hW0]; exact Holds.new' _ _ _ _ (by simp)
  have hb0 : Below w.heap.size w W0 := by rw [← hW0]; exact ((Below.refl w.heap.size w).alloc (Nat.le_refl _) _).alloc (by simp) _
  have c0 : W0.cell? ⟨w.heap.size + 1, 0, none⟩ = some (.int .i8 x) := g1.cell 0
  have c1 : W0.cell? ⟨w.heap.size + 1, 1, none⟩ = some (.int .i8 y) := g1.cell 1
  go_enter Try.func16, Try.ntmps16
  go_wp2_with fail
  clear hW0 c0 c1
  refine (HC.out _ _ g0).mono ?_
  rintro e w1 ⟨rfl, hb1⟩
  have hb2 := below_onto hb0 hb1
  clear g0 g1 hb0 hb1
  go_wp2_with fail
  go_ret2
  exact ⟨rfl, hb2⟩

/-- What both answer. -/
theorem depth_both (L : Lawn) (hL : L.Fits) (x y : Int) (x0 : -128 ≤ x) (x1 : x ≤ 127) (y0 : -128 ≤ y) (y1 : y ≤ 127) : ∃ d m : Int, (∀ w : World, Calls Try.prog 18 #[.agg L.cells, .agg #[.int .i8 x, .int .i8 y]] w fun e w' => e = .returned (.tuple #[.int .i64 d, .int .i64 m]) ∧ Below w.heap.size w w') ∧
    ∀ w : World, Calls Try.prog 16 #[.agg L.cells, .agg #[.int .i8 x, .int .i8 y]] w fun e w' => e = .returned (.tuple #[.int .i64 d, .int .i64 m]) ∧ Below w.heap.size w w' := by
  by_cases hg : grassC L x y = 0
  · obtain ⟨hv, hi, hgr⟩ := grassC_zero hg
    obtain ⟨p, hp, hpi⟩ := border_found hv (s := (x, y)) hgr
    obtain ⟨d, hd⟩ := least_ex (q := outerB L) (found (grassP L) (x, y) 100) ⟨p, hp, by simp [outerB, hpi]⟩
    exact ⟨d, 0, fun w => implDepth_good L hL x y hg d hd w, fun w => specDepth_good L hL x y x0 x1 y0 y1 hg d hd w⟩
  · exact ⟨0, grassC L x y, fun w => implDepth_bad L hL x y hg w, fun w => specDepth_bad L hL x y x0 x1 y0 y1 hg w⟩
end Go.Proofs.Ytmoldkdidhnahaa
