/- l04Least and LeastBattery, of the model. -/
import Derived.Test.YtojccgaldadcnaaILeast
import Derived.Test.YtojccgaldadcnaaDepthP
import Derived.Test.YtojccgaldadcnaaSTold4
import Derived.Test.YtojccgaldadcnaaSReachO
import Derived.Test.YtojccgaldadcnaaZC
namespace Go.Proofs.Ytojccgaldadcnaa
open Go.RowKit
set_option linter.unusedVariables false
set_option linter.unusedSimpArgs false
attribute [local go_sem ↓] loadRow loadGrid loadLawn loadMirror storeRow storeGrid storeLawn allocRow allocGrid allocLawn buildZero buildSides loadG64 storeG64 allocG64 buildG64

theorem max4_is (a b : Int) (w : World) :
    Calls Try.prog 95 #[.int .i64 a, .int .i64 b] w fun e w' => e = .returned (.int .i64 (if b < a then a else b)) ∧ w' = w := by
  by_cases h1 : b < a
  · rw [if_pos h1]
    have hd : decide (b < a) = true := by simpa using h1
    go_enter Try.func95, Try.ntmps95
    go_wp2
    go_ret
    exact ⟨rfl, rfl⟩
  · rw [if_neg h1]
    have hd : decide (b < a) = false := by simpa using h1
    go_enter Try.func95, Try.ntmps95
    go_wp2
    go_ret
    exact ⟨rfl, rfl⟩

/-- The greatest number up to now, of cells. -/
def MostC {α : Type} (S : α → Int) (l : List α) (d : Int) : Prop := 0 ≤ d ∧ (∀ c ∈ l, S c ≤ d) ∧ (d = 0 ∨ ∃ c ∈ l, S c = d)
theorem mostC_add {α : Type} {S : α → Int} {l : List α} {d : Int} {c : α} (h : MostC S l d) : MostC S (l ++ [c]) (if S c < d then d else S c) := by
  obtain ⟨h0, h1, h2⟩ := h
  refine ⟨by split <;> omega, fun a ha => ?_, ?_⟩
  · rcases List.mem_append.1 ha with ha | ha
    · have := h1 a ha; split <;> omega
    · rw [List.mem_singleton.1 ha]; split <;> omega
  · split
    · exact h2.elim .inl fun ⟨a, ha, x⟩ => .inr ⟨a, by simp [ha], x⟩
    · exact .inr ⟨c, by simp, rfl⟩
theorem mostC_bound {α : Type} {S : α → Int} {l : List α} {d : Int} (h : MostC S l d) (hS : ∀ c, S c < 100) : 0 ≤ d ∧ d < 100 := by
  rcases h.2.2 with h2 | ⟨c, hc, rfl⟩
  · omega
  · exact ⟨h.1, hS c⟩
theorem mostZ_nonneg : ∀ l : Found, 0 ≤ mostZ l
  | [] => Int.le_refl _
  | p :: l => by
    have ih := mostZ_nonneg l
    have e : mostZ (p :: l) = if mostZ l < p.2 then p.2 else mostZ l := rfl
    rw [e]; split <;> omega
/-- The cells of grass lie among all cells. -/
theorem grass_at {L : Lawn} {W H : Nat} (hW : L.wide = W) (hH : L.high = H) {p : Pt} (hg : grassP L p = true) : ∃ c ∈ ofKind L W H 0, ((c.1.val : Int), (c.2.val : Int)) = p := by
  have hi := grassB_in (x := p.1) (y := p.2) hg
  have hb := isB_in hi
  refine ⟨(⟨p.1.toNat, by omega⟩, ⟨p.2.toNat, by omega⟩), ?_, ?_⟩
  · unfold ofKind
    rw [List.mem_filter]
    refine ⟨allC_mem _ _ _, ?_⟩
    have : grassB L p.1 p.2 = true := hg
    simp only [grassB, hi, Bool.true_and] at this
    exact this
  · ext <;> dsimp only <;> omega
theorem at_grass {L : Lawn} {W H : Nat} (hW : L.wide = W) (hH : L.high = H) {c : Fin W × Fin H} (hc : c ∈ ofKind L W H 0) : grassP L ((c.1.val : Int), (c.2.val : Int)) = true := by
  unfold ofKind at hc
  rw [List.mem_filter] at hc
  have h1 := hc.2
  have hi : isB L (c.1.val : Int) (c.2.val : Int) = true := by
    have := c.1.isLt
    have := c.2.isLt
    unfold isB inB
    simp only [Bool.and_eq_true, decide_eq_true_eq]
    omega
  show grassB L _ _ = true
  unfold grassB
  simp only [hi, Bool.true_and]
  exact h1
/-- The greatest number among the cells of grass is that of the found ones. -/
theorem mostC_end {L : Lawn} {W H : Nat} (hv : validB L = true) (hW : L.wide = W) (hH : L.high = H) {x y : Int} (ho : openB L x y = true) {d : Int}
    (h : MostC (fun c : Fin W × Fin H => stepsAt (found (openP L) (x, y) 100) c.1.val c.2.val) (ofKind L W H 0) d) : d = mostZ (aroundL L x y) := by
  have hgood := found_good (pass := openP L) (s := (x, y)) ho 100
  have hm := mostZ_is (aroundL L x y)
  have hnn := mostZ_nonneg (aroundL L x y)
  have hmem : ∀ p, p ∈ aroundL L x y ↔ p ∈ found (openP L) (x, y) 100 ∧ grassP L p.1 = true := fun p => List.mem_filter
  obtain ⟨l, hl⟩ : ∃ l, found (openP L) (x, y) 100 = l := ⟨_, rfl⟩
  obtain ⟨al, hal⟩ : ∃ al, aroundL L x y = al := ⟨_, rfl⟩
  rw [hl] at h hgood hmem
  rw [hal] at hm hnn hmem ⊢
  obtain ⟨e, he⟩ : ∃ e, mostZ al = e := ⟨_, rfl⟩
  rw [he] at hm hnn ⊢
  have hle : d ≤ e := by
    rcases h.2.2 with h2 | ⟨c, hc, hce⟩
    · omega
    · dsimp only at hce
      unfold stepsAt at hce
      cases hk : alLook l ((c.1.val : Int), (c.2.val : Int)) with
      | none => rw [hk] at hce; simp only [Option.getD_none] at hce; omega
      | some z =>
        rw [hk] at hce
        simp only [Option.getD_some] at hce
        have := hm.1 _ ((hmem _).2 ⟨alLook_in hk, at_grass hW hH hc⟩)
        dsimp only at this
        omega
  have hge : e ≤ d := by
    rcases hm.2 with h2 | ⟨p, hp, hpe⟩
    · have := h.1; omega
    · obtain ⟨hp1, hp2⟩ := (hmem p).1 hp
      obtain ⟨c, hc, hcp⟩ := grass_at hW hH hp2
      have h1 := h.2.1 c hc
      have e1 : ((c.1.val : Nat) : Int) = p.1.1 := congrArg Prod.fst hcp
      have e2 : ((c.2.val : Nat) : Int) = p.1.2 := congrArg Prod.snd hcp
      dsimp only at h1
      rw [e1, e2] at h1
      unfold stepsAt at h1
      rw [alLook_mem hgood.nodup (k := (p.1.1, p.1.2)) (v := p.2) hp1] at h1
      simp only [Option.getD_some] at h1
      omega
  omega
/-- All grass is found. -/
def wholeB (L : Lawn) (W H : Nat) (x y : Int) : Bool := (ofKind L W H 0).all fun c => decide (0 ≤ stepsAt (found (openP L) (x, y) 100) c.1.val c.2.val)

set_option maxRecDepth 100000 in
set_option maxHeartbeats 4000000 in
theorem l04Least_any (L : Lawn) (hL : L.Fits) (hv : validB L = true) (Wn Hn : Nat) (hLw : L.wide = Wn) (hLh : L.high = Hn) (x y : Int) (hi : isB L x y = true) (ho : openB L x y = true) (b : Nat) (w : World) (h : Holds w b L.cells) :
    Calls Try.prog 51 #[.pointer (some ⟨b, 0, none⟩), .agg #[.int .i8 x, .int .i8 y]] w fun e w' => e = .returned (.tuple #[.int .i64 (2 * mostZ (aroundL L x y)), .bool (wholeB L Wn Hn x y)]) ∧ Below w.heap.size w w' := by
  have hWH : (Wn ≤ 10 ∧ Hn ≤ 10) ∧ 1 ≤ Wn ∧ 1 ≤ Hn := by obtain ⟨h1, h2, -⟩ := validB_true hv; omega
  obtain ⟨⟨hW, hH⟩, hW1, hH1⟩ := hWH
  have HBO := Lib.hid (fun (w : World) (h : Holds w b L.cells) => l01Cells_any Wn Hn hW hH hW1 hH1 L hL hLw hLh 0 b w h)
  have hxy := isB_near hv hi
  have HEND := Lib.hid (fun d h => mostC_end (W := Wn) (H := Hn) hv hLw hLh (x := x) (y := y) ho (d := d) h)
  have HWB : Hid (wholeB L Wn Hn x y = (ofKind L Wn Hn 0).all fun c => decide (0 ≤ stepsAt (found (openP L) (x, y) 100) c.1.val c.2.val)) := Lib.hid rfl
  have hgood := found_good (pass := openP L) (s := (x, y)) ho 100
  have hlen := good_length (openP_near hv) hgood
  obtain ⟨M, hM⟩ : ∃ M, mostZ (aroundL L x y) = M := ⟨_, rfl⟩
  obtain ⟨Wh, hWh⟩ : ∃ Wh, wholeB L Wn Hn x y = Wh := ⟨_, rfl⟩
  rw [hM] at HEND
  rw [hWh] at HWB
  rw [hM, hWh]
  clear hM hWh
  obtain ⟨a, rfl⟩ : ∃ a : Nat, x = a := ⟨x.toNat, by omega⟩
  obtain ⟨c, rfl⟩ : ∃ c : Nat, y = c := ⟨y.toNat, by omega⟩
  have HRE := Lib.hid (fun (w : World) (h : Holds w b L.cells) => reach_open L hL hv b a c (by omega) (by omega) (show passG L false ((a : Int), (c : Int)) = true from ho) w h)
  have hpg : passG L false = openP L := funext fun c => rfl
  rw [hpg] at HRE
  obtain ⟨l, hl⟩ : ∃ l, found (openP L) ((a : Int), (c : Int)) 100 = l := ⟨_, rfl⟩
  rw [hl] at HRE HEND HWB hgood hlen
  have HSB : Hid (∀ u v : Int, -1 ≤ stepsAt l u v ∧ stepsAt l u v < 100) := Lib.hid (fun u v => by
    unfold stepsAt
    cases hk : alLook l (u, v) with
    | none => simp
    | some z =>
      have hm := alLook_in hk
      obtain ⟨j, hj, hjz⟩ := List.getElem_of_mem hm
      have h2 := hgood.val j _ (List.getElem?_eq_getElem hj)
      rw [hjz] at h2
      simp only [Option.getD_some]
      dsimp only at h2
      omega)
  obtain ⟨G, hG⟩ : ∃ G, gridF l = G := ⟨_, rfl⟩
  have HG : Hid (∀ i j : Nat, G j i = stepsAt l i j) := Lib.hid (fun i j => by rw [← hG]; rfl)
  rw [hG] at HRE
  obtain ⟨B, hB⟩ : ∃ B, ofKind L Wn Hn 0 = B := ⟨_, rfl⟩
  rw [hB] at HBO HEND HWB
  have HBL : B.length ≤ 100 := by
    rw [← hB]
    refine Nat.le_trans (List.length_filter_le _ _) ?_
    rw [allC_length]
    exact Nat.le_trans (Nat.mul_le_mul hH hW) (by omega)
  obtain ⟨n, hn⟩ : ∃ n, B.length = n := ⟨_, rfl⟩
  rw [hn] at HBO HBL
  have HN := Lib.hid hn
  have hbw := h.lt
  have c1 := Holds.new w #[.int .i8 a, .int .i8 c] 43
  have g0 := h.alloc (.cells #[.int .i8 a, .int .i8 c] 43)
  have hb0 : Below w.heap.size w (w.alloc (.cells #[.int .i8 a, .int .i8 c] 43)) := (Below.refl w.heap.size w).alloc (Nat.le_refl _) _
  clear hv hi ho hLw hLh hgood hlen hpg hl hG hB hn hL hxy hW1 hH1 h
  obtain ⟨W0, hW0⟩ : ∃ W0, w.alloc (.cells #[.int .i8 a, .int .i8 c] 43) = W0 := ⟨_, rfl⟩
  rw [hW0] at c1 g0 hb0
  have d0 : W0.cell? ⟨w.heap.size, 0, none⟩ = some (.int .i8 a) := c1.cell 0
  have d1 : W0.cell? ⟨w.heap.size, 1, none⟩ = some (.int .i8 c) := c1.cell 1
  go_enter Try.func51, Try.ntmps51
  go_wp2_with fail
  try rw [hW0]
  clear hW0 d0 d1 c1
  refine (HRE.out _ g0).mono ?_
  rintro e w2 ⟨rfl, hb1⟩
  have j0 := g0.below hb1 g0.lt
  have hb3 := below_onto hb0 hb1
  clear g0 hb0 hb1
  have q0 := j0.alloc (.cells (grid64 G) 114)
  have qG := Holds.new w2 (grid64 G) 114
  have hb4 := hb3.alloc hb3.size (.cells (grid64 G) 114)
  have hsm := j0.lt
  have hsz3 := hb3.size
  go_wp2_with fail
  refine (HBO.out _ q0).mono ?_
  obtain ⟨s, hs⟩ : ∃ s, w.heap.size = s := ⟨_, rfl⟩
  obtain ⟨m, hm⟩ : ∃ m, w2.heap.size = m := ⟨_, rfl⟩
  obtain ⟨W3, hW3⟩ : ∃ W3, w2.alloc (.cells (grid64 G) 114) = W3 := ⟨_, rfl⟩
  rw [hW3] at q0 qG hb4 ⊢
  rw [hs] at hb4 hbw hsz3 ⊢
  rw [hm] at qG hsm hsz3 ⊢
  have HS := Lib.hid hs
  rintro e w4 ⟨v, rfl, hA, hb1⟩
  have jG := qG.below hb1 qG.lt
  have hb5 := hb4.trans (hb1.mono (by have := qG.lt; omega))
  have hml := qG.lt
  obtain ⟨aA, cA, rfl⟩ := own_slice hA
  have HAO := Lib.hid (ownsRow_low (A := m + 1) hA (by omega))
  clear q0 qG hb4 hb1 hA hs hm hW3 j0 hb3
  go_wp2_with fail
  go_loopw [8, 9, 10] (fun v t u wr => ∃ (e : Int) (i : Nat), i ≤ n ∧ u = .int .i64 i ∧ v = .int .i64 e ∧ t = .bool ((B.take i).all fun c => decide (0 ≤ stepsAt l c.1.val c.2.val)) ∧ MostC (fun c : Fin Wn × Fin Hn => stepsAt l c.1.val c.2.val) (B.take i) e ∧ Holds wr m (grid64 G) ∧ wr.ownsRow (m + 1) 43 2 (.slice aA n cA) n (flatV B) ∧ Below s w wr) (fun _ _ u _ => n - (intOf u).toNat)
  case atStart => exact ⟨0, 0, by omega, rfl, rfl, rfl, ⟨by omega, fun c hc => by simp at hc, .inl rfl⟩, jG, HAO.out, hb5⟩
  case round =>
    obtain ⟨e, i, hi, rfl, rfl, rfl, hle, j0, ho, hb⟩ := hrel
    have HAW := Lib.hid ho
    clear jG HAO hb5 ho
    have hev := mostC_bound hle (fun c => (HSB.out c.1.val c.2.val).2)
    by_cases hlt : i < n
    · have hd : decide ((i : Int) < (n : Int)) = true := by simp; omega
      obtain ⟨q, hq⟩ : ∃ q, B[i]? = some q := ⟨_, List.getElem?_eq_getElem (by rw [HN.out]; exact hlt)⟩
      have htk : B.take (i + 1) = B.take i ++ [q] := by rw [List.take_add_one, hq]; rfl
      have HTK := Lib.hid (show MostC _ (B.take (i + 1)) _ by rw [htk]; exact mostC_add (c := q) hle)
      have HAL := Lib.hid (show (B.take (i + 1)).all (fun c => decide (0 ≤ stepsAt l c.1.val c.2.val)) = ((B.take i).all (fun c => decide (0 ≤ stepsAt l c.1.val c.2.val)) && decide (0 ≤ stepsAt l q.1.val q.2.val)) by rw [htk, List.all_append]; simp)
      obtain ⟨bb, hbb⟩ : ∃ bb, (B.take i).all (fun c => decide (0 ≤ stepsAt l c.1.val c.2.val)) = bb := ⟨_, rfl⟩
      rw [hbb] at HAL ⊢
      obtain ⟨ga, cap, he, hBg, hgw⟩ := own_form HAW.out (by omega)
      simp only [Value.slice.injEq, true_and] at he
      obtain ⟨rfl, rfl⟩ := he
      obtain ⟨fa, fb⟩ := flatV_get _ _ _ hq
      obtain ⟨⟨e1, he1⟩, ⟨e2, he2⟩⟩ := q
      dsimp only at fa fb HTK HAL
      have hw1 : e1 < 10 := by omega
      have hw2 : e2 < 10 := by omega
      have hO1 := grid64_get G e2 e1 hw2 hw1
      have hsb := HSB.out e1 e2
      obtain ⟨z, hz⟩ : ∃ z, stepsAt l e1 e2 = z := ⟨_, rfl⟩
      rw [HG.out, hz] at hO1
      rw [hz] at HTK HAL hsb
      have FX := Lib.hid (show ∀ w', Below wr.heap.size wr w' → w'.cell? ⟨ga, i * 2, none⟩ = some (.int .i8 e1) ∧ w'.cell? ⟨ga, i * 2 + 1, none⟩ = some (.int .i8 e2) ∧ w'.cell? ⟨m, e2 * 10 + e1, none⟩ = some (.int .i64 z) from fun w' hw' =>
        ⟨own_cell (own_below HAW.out hw') _ _ fa, own_cell (own_below HAW.out hw') _ _ fb, by rw [(j0.below hw' j0.lt).cell, hO1]⟩)
      have hsz := j0.lt
      clear hq htk fa fb hO1 hz hle hbb
      go_wp2_with fail
      refine wp_region_grow 13 (by kernel_rfl) (by kernel_rfl) ?_
      simp only [List.take_succ_cons, List.take_zero, List.drop_succ_cons, List.drop_zero]
      iterate 13
        apply wpGrow_plain rfl
        · intro w' hw' K hK
          obtain ⟨f1, f2, f3⟩ := FX.out _ hw'
          go_wp2_with fail
          exact hK _ _ rfl hw'
        simp only [Act.put, List.setIfInBounds_toArray, List.set_cons_succ, List.set_cons_zero]
      refine wpGrow_nil ?_
      intro W2 hW2
      have k0 := j0.below hW2 j0.lt
      have HAY := Lib.hid (own_below HAW.out hW2)
      have hb7 := hb.trans (hW2.mono (by omega))
      clear hW2 j0 HAW hb FX
      go_wp2_with fail
      refine (max4_is _ _ _).mono ?_
      rintro e5 w5 ⟨rfl, rfl⟩
      obtain ⟨mx, hmx⟩ : ∃ mx, (if z < e then e else z) = mx := ⟨_, rfl⟩
      rw [hmx] at HTK ⊢
      have hd0 : decide (0 ≤ z) = decide (0 ≤ z) := rfl
      clear hmx hd0
      cases bb
      · simp only [Bool.false_and] at HAL
        go_wp2_with fail
        exact ⟨⟨mx, i + 1, by omega, by go_num, rfl, by rw [HAL.out], HTK.out, k0, HAY.out, hb7⟩, by simp [intOf]; omega⟩
      · simp only [Bool.true_and] at HAL
        go_wp2_with fail
        exact ⟨⟨mx, i + 1, by omega, by go_num, rfl, by rw [HAL.out], HTK.out, k0, HAY.out, hb7⟩, by simp [intOf]; omega⟩
    · have hd : decide ((i : Int) < (n : Int)) = false := by simp; omega
      have htk : B.take i = B := List.take_of_length_le (by rw [HN.out]; omega)
      have he := HEND.out e (by rw [htk] at hle; exact hle)
      subst he
      rw [htk, ← HWB.out]
      have hwr : wrap64 (2 * e) = 2 * e := by unfold wrap64; omega
      clear HRE HBO HEND hle HAW htk HWB
      go_wp2_with fail
      go_ret2
      exact ⟨rfl, by rw [HS.out]; exact hb⟩

set_option maxRecDepth 100000 in
set_option maxHeartbeats 1000000 in
theorem specLeast_any (L : Lawn) (hL : L.Fits) (x y : Int) (x0 : -128 ≤ x) (x1 : x ≤ 127) (y0 : -128 ≤ y) (y1 : y ≤ 127) (w : World) :
    Calls Try.prog 18 #[.agg L.cells, .agg #[.int .i8 x, .int .i8 y]] w fun e w' => e = .returned (.tuple #[.int .i64 (batN L x y), .int .i64 (stepsC L x y)]) ∧ Below w.heap.size w w' := by
  have HC := Lib.hid (l04Told_one L hL x y x0 x1 y0 y1)
  have HA := Lib.hid (show stepsC L x y = 0 → ∃ wh, ∀ (b : Nat) (w : World), Holds w b L.cells → Calls Try.prog 51 #[.pointer (some ⟨b, 0, none⟩), .agg #[.int .i8 x, .int .i8 y]] w fun e w' => e = .returned (.tuple #[.int .i64 (batN L x y), .bool wh]) ∧ Below w.heap.size w w' from fun h => by
    obtain ⟨hv, hi, ho⟩ := stepsC_zero h
    obtain ⟨Wn, Hn, -, -, hLw, hLh⟩ := valid_sides hv
    refine ⟨wholeB L Wn Hn x y, fun b w hb => ?_⟩
    have := l04Least_any L hL hv Wn Hn hLw hLh x y hi ho b w hb
    unfold batN
    rw [if_pos h]
    exact this)
  have HN := Lib.hid (show stepsC L x y ≠ 0 → batN L x y = 0 from fun h => by unfold batN; rw [if_neg h])
  obtain ⟨c, hc⟩ : ∃ c, stepsC L x y = c := ⟨_, rfl⟩
  obtain ⟨n, hn⟩ : ∃ n, batN L x y = n := ⟨_, rfl⟩
  rw [hn, hc] at HA HN
  rw [hc] at HC
  rw [hn, hc]
  clear hc hn hL x0 x1 y0 y1
  obtain ⟨W0, hW0⟩ : ∃ W0, ((w.alloc (.cells L.cells 30)).alloc (.cells #[.int .i8 x, .int .i8 y] 43)).alloc (.cells #[.int .i8 x, .int .i8 y] 43) = W0 := ⟨_, rfl⟩
  have g0 : Holds W0 w.heap.size L.cells := by rw [← hW0]; exact ((Holds.new _ _ _).alloc _).alloc _
  have g1 : Holds W0 (w.heap.size + 1) #[.int .i8 x, .int .i8 y] := by rw [← hW0]; exact (Holds.new' _ _ _ _ (by simp)).alloc _
  have g2 : Holds W0 (w.heap.size + 1 + 1) #[.int .i8 x, .int .i8 y] := by rw [← hW0]; exact Holds.new' _ _ _ _ (by simp)
  have hb0 : Below w.heap.size w W0 := by rw [← hW0]; exact (((Below.refl w.heap.size w).alloc (Nat.le_refl _) _).alloc (by simp) _).alloc (by simp; omega) _
  go_enter Try.func18, Try.ntmps18
  go_wp2_with fail
  try rw [hW0]
  clear hW0
  refine (HC.out _ _ _ g0 g2).mono ?_
  rintro e w1 ⟨rfl, hb1⟩
  have k0 := g0.below hb1 g0.lt
  have k1 := g1.below hb1 g1.lt
  have hb2 := below_onto hb0 hb1
  clear g0 g1 g2 hb0 hb1
  have c0 : w1.cell? ⟨w.heap.size + 1, 0, none⟩ = some (.int .i8 x) := k1.cell 0
  have c1 : w1.cell? ⟨w.heap.size + 1, 1, none⟩ = some (.int .i8 y) := k1.cell 1
  by_cases hc : c = 0
  · subst hc
    obtain ⟨wh, hA⟩ := HA.out rfl
    have HA2 := Lib.hid hA
    clear HN HA hA
    go_wp2_with fail
    refine (HA2.out _ _ k0).mono ?_
    rintro e w2 ⟨rfl, hb3⟩
    have hb4 := below_onto hb2 hb3
    go_wp2_with fail
    go_ret2
    exact ⟨rfl, hb4⟩
  · have hne : (c != 0) = true := by simpa [bne] using hc
    have hn0 := HN.out hc
    subst hn0
    go_wp2_with fail
    go_ret2
    exact ⟨rfl, hb2⟩
end Go.Proofs.Ytojccgaldadcnaa
