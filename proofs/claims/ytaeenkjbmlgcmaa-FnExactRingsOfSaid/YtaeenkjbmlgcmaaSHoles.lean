/- How many holes there are, of the model: a flood from each cell. -/
import Derived.Test.YtaeenkjbmlgcmaaHoleF
import Derived.Test.YtaeenkjbmlgcmaaSRings
import Derived.Test.YtaeenkjbmlgcmaaZD
import Derived.BigQuiet
import Derived.Deep.CutRange
import Derived.Deep.LoopGhost
namespace Go.Proofs.Ytaeenkjbmlgcmaa
open Go.RowKit
set_option linter.unusedVariables false
set_option linter.unusedSimpArgs false
attribute [local go_sem ↓] loadRow loadGrid loadLawn loadMirror storeRow storeGrid storeLawn allocRow allocGrid allocLawn buildZero buildSides loadG64 storeG64 allocG64 buildG64 loadGT storeGT allocGT buildGT

def insB (ED : Pt → Bool) (P : List Pt) : Bool := P.all fun c => !ED c
theorem insB_iff (ED : Pt → Bool) (P : List Pt) : insB ED P = true ↔ ∀ c ∈ P, ED c = false := by simp [insB]
theorem insB_snoc (ED : Pt → Bool) (P : List Pt) (c : Pt) : insB ED (P ++ [c]) = (insB ED P && !ED c) := by simp [insB]
/-- What a grid says of the marked cells. -/
def doneK (K : List Pt) (y x : Nat) : Bool := decide (((x : Int), (y : Int)) ∈ K)
theorem doneK_none : gridT (doneK []) = gridT fun _ _ => false := gridT_ext fun y x _ _ => by simp [doneK]
theorem doneK_more (K : List Pt) (x y : Nat) : gridT (updB (doneK K) y x true) = gridT (doneK (K ++ [((x : Int), (y : Int))])) := gridT_ext fun y' x' _ _ => by
  unfold updB doneK
  by_cases h : y' = y ∧ x' = x
  · obtain ⟨rfl, rfl⟩ := h; simp
  · rw [if_neg h]
    have hne : ¬ (((x' : Int), (y' : Int)) = ((x : Int), (y : Int))) := fun e => h (by simp only [Prod.mk.injEq] at e; omega)
    simp [hne]
theorem near8_at (c : Pt) (r s : Nat) (hr : r < 3) (hs : s < 3) : (near8 c)[3 * r + s]? = some (c.1 - 1 + s, c.2 - 1 + r) := by
  obtain ⟨x, y⟩ := c
  have h1 : r = 0 ∨ r = 1 ∨ r = 2 := by omega
  have h2 : s = 0 ∨ s = 1 ∨ s = 2 := by omega
  rcases h1 with rfl | rfl | rfl <;> rcases h2 with rfl | rfl | rfl <;> simp [near8, row8] <;> omega
/-- While the cells around the k-th one are gone through: m of them are done, P came before. -/
structure FldS (pass : Pt → Bool) (x : Pt) (K P C : List Pt) (c : Pt) (m : Nat) : Prop where
  fld : Fld pass x K C P.length
  pre : C.take P.length = P
  at' : C[P.length]? = some c
  seen : ∀ d ∈ (near8 c).take m, pass d = true → d ∈ K ∨ d ∈ C
section
variable {pass : Pt → Bool} {x c d : Pt} {K P C : List Pt} {m k : Nat}
theorem FldS.begin (h : Fld pass x K C k) (hc : C[k]? = some c) : FldS pass x K (C.take k) C c 0 := by
  have hk := (List.getElem?_eq_some_iff.1 hc).1
  have e : (C.take k).length = k := by rw [List.length_take]; omega
  exact ⟨by rw [e]; exact h, by rw [e], by rw [e]; exact hc, fun d hd => by simp at hd⟩
theorem FldS.lt (h : FldS pass x K P C c m) : P.length < C.length := (List.getElem?_eq_some_iff.1 h.at').1
theorem FldS.skip (h : FldS pass x K P C c m) (hd : (near8 c)[m]? = some d) (hn : pass d = false ∨ d ∈ K ++ C) : FldS pass x K P C c (m + 1) :=
  ⟨h.fld, h.pre, h.at', fun e he hp => by
    rw [List.take_add_one, hd, Option.toList_some] at he
    rcases List.mem_append.1 he with h1 | h1
    · exact h.seen e h1 hp
    · rw [List.mem_singleton.1 h1] at hp ⊢
      rcases hn with h2 | h2
      · rw [hp] at h2; cases h2
      · exact List.mem_append.1 h2⟩
theorem FldS.take (h : FldS pass x K P C c m) (hd : (near8 c)[m]? = some d) (hp : pass d = true) (hn : d ∉ K ++ C) : FldS pass x K P (C ++ [d]) c (m + 1) := by
  have hl := h.lt
  have hmem : d ∈ near8 c := List.mem_of_getElem? hd
  rw [List.mem_append, not_or] at hn
  refine ⟨h.fld.push (List.mem_of_getElem? h.at') hmem hp hn.1 hn.2 (by omega), ?_, ?_, fun e he hpe => ?_⟩
  · rw [List.take_append_of_le_length (by omega)]; exact h.pre
  · rw [List.getElem?_append_left hl]; exact h.at'
  · rw [List.take_add_one, hd, Option.toList_some] at he
    rcases List.mem_append.1 he with h1 | h1
    · rcases h.seen e h1 hpe with h2 | h2
      · exact .inl h2
      · exact .inr (List.mem_append_left _ h2)
    · exact .inr (List.mem_append_right _ h1)
theorem FldS.done (h : FldS pass x K P C c 9) : Fld pass x K C (P.length + 1) ∧ C.take (P.length + 1) = P ++ [c] := by
  refine ⟨h.fld.next h.at' fun d hd hp => h.seen d ?_ hp, ?_⟩
  · rw [List.take_of_length_le (by rw [near8_len]; omega)]; exact hd
  · rw [List.take_add_one, h.at', h.pre]; rfl
end
theorem flatVP {W H : Nat} (l : List (Fin W × Fin H)) : flatV l = flatP (l.map ptF) := by
  unfold flatV flatP
  rw [List.flatMap_map]
  rfl
theorem own_cellH (w : World) (x y : Int) : (w.alloc (.cells #[.int .i8 x, .int .i8 y] 37)).ownsRow w.heap.size 37 2 (.slice (some ⟨w.heap.size, 0, none⟩) 1 1) 1 (flatP [(x, y)]) :=
  ⟨rfl, .inr ⟨w.heap.size, 1, #[.int .i8 x, .int .i8 y], rfl, Nat.le_refl _, heap_alloc_new _ _, Nat.le_refl _, by simp [maxLen], rfl, rfl⟩⟩

set_option maxRecDepth 100000 in
set_option maxHeartbeats 8000000 in
theorem sholes_any (Wn Hn : Nat) (hW : Wn ≤ 10) (hH : Hn ≤ 10) (hW1 : 1 ≤ Wn) (hH1 : 1 ≤ Hn) (L : Lawn) (hL : L.Fits) (hV : validB L = true) (hLw : L.wide = Wn) (hLh : L.high = Hn) (b : Nat) (w : World) (h : Holds w b L.cells) :
    Calls Try.prog 47 #[.pointer (some ⟨b, 0, none⟩)] w fun e w' => e = .returned (.int .i64 (holeN (bareP L) (edgeB L) ((allC Wn Hn).map ptF) ((allC Wn Hn).map ptF) : Nat)) ∧ Below w.heap.size w w' := by
  obtain ⟨i0, hi, hz0, hz1, hz2⟩ := info_parts cellInfo
  have HI := Lib.hid (show Try.prog.info? 37 = some i0 ∧ i0.zero = some (.agg #[.int .i8 0, .int .i8 0]) ∧ i0.size = 2 ∧ i0.bytes = 2 from ⟨hi, hz0, hz1, hz2⟩)
  clear hi hz0 hz1 hz2
  have HAL := Lib.hid (fun w h => l01All_any Wn Hn hW hH L hLw hLh b w h)
  have HAT := Lib.hid (fun (x y : Nat) (hx : x < 10) (hy : y < 10) w h => at_any L hL b x y hx hy w h)
  have HIS := Lib.hid (show ∀ (x y : Int), -1 ≤ x → x ≤ 10 → -1 ≤ y → y ≤ 10 → ∀ w, Holds w b L.cells → Calls Try.prog 58 #[.pointer (some ⟨b, 0, none⟩), .agg #[.int .i8 x, .int .i8 y]] w fun e w' => e = .returned (.bool (isB L x y)) ∧ Below w.heap.size w w' from fun x y x0 x1 y0 y1 w h => l01Is_any L hL b x y w h (by omega) (by omega) (by omega) (by omega))
  have HNR := Lib.hid (show ∀ x y : Int, isB L x y = true → (0 ≤ x ∧ x < 10) ∧ 0 ≤ y ∧ y < 10 from fun x y h => isB_near hV h)
  obtain ⟨A, hA⟩ : ∃ A, (allC Wn Hn).map ptF = A := ⟨_, rfl⟩
  have HAin : Hid (∀ c, bareP L c = true → c ∈ A) := Lib.hid fun c hc => by
    unfold bareP at hc
    simp only [Bool.and_eq_true] at hc
    have hb := isB_in hc.1
    obtain ⟨cx, cy⟩ := c
    dsimp only at hb
    rw [← hA, List.mem_map]
    refine ⟨(⟨cx.toNat, by omega⟩, ⟨cy.toNat, by omega⟩), allC_mem _ _ _, ?_⟩
    simp only [ptF, Prod.mk.injEq]
    omega
  have HAB : Hid (∀ c ∈ A, isB L c.1 c.2 = true ∧ ∃ x y : Nat, c = ((x : Int), (y : Int)) ∧ x < 10 ∧ y < 10) := Lib.hid fun c hc => by
    rw [← hA, List.mem_map] at hc
    obtain ⟨f, -, rfl⟩ := hc
    have h1 := f.1.isLt
    have h2 := f.2.isLt
    have e : isB L (f.1.val : Int) (f.2.val : Int) = true := by
      simp only [isB, inB, Bool.and_eq_true, decide_eq_true_eq]
      omega
    exact ⟨e, f.1.val, f.2.val, rfl, by omega, by omega⟩
  have HAlen : Hid (A.length = Hn * Wn) := Lib.hid (by rw [← hA, List.length_map, allC_length])
  have HAP : Hid (∀ (w : World) B v n, w.ownsRow B 37 2 v n (flatV (allC Wn Hn)) → w.ownsRow B 37 2 v n (flatP A)) := Lib.hid fun w B v n h => by rw [← hA, ← flatVP]; exact h
  have hN100 : Hn * Wn ≤ 100 := Nat.le_trans (Nat.mul_le_mul hH hW) (by omega)
  have HP0 : Hid (∀ c : Pt, isB L c.1 c.2 = false → bareP L c = false) := Lib.hid fun c h => by unfold bareP; rw [h]; rfl
  have HP1 : Hid (∀ x y : Nat, L.kind y x = 0 → bareP L ((x : Int), (y : Int)) = false) := Lib.hid fun x y h => by
    unfold bareP grassB
    simp [h]
  have HP2 : Hid (∀ x y : Nat, isB L (x : Int) (y : Int) = true → ¬ L.kind y x = 0 → bareP L ((x : Int), (y : Int)) = true) := Lib.hid fun x y h1 h2 => by
    unfold bareP grassB
    simp [h1, h2]
  have HNE := Lib.hid (bareP_near hV)
  have HED : Hid (∀ c, edgeB L c = (c.1 == 0 || c.2 == 0 || c.1 == (Wn : Int) - 1 || c.2 == (Hn : Int) - 1)) := Lib.hid fun c => by unfold edgeB; rw [hLw, hLh]
  obtain ⟨PS, hPS⟩ : ∃ f, bareP L = f := ⟨_, rfl⟩
  obtain ⟨ED, hED⟩ : ∃ f, edgeB L = f := ⟨_, rfl⟩
  simp only [hPS] at HAin HP0 HP1 HP2 HNE
  simp only [hED] at HED
  rw [hPS, hED, hA]
  have HHO : Hid (∀ (k : Nat) (K : List Pt) x C j, MarkK PS (A.take k) K → Shut8 PS K → x ∉ K → Fld PS x K C j → C.length ≤ j → (newHole PS ED A (A.take k) x = true ↔ ∀ c ∈ C, ED c = false)) := Lib.hid fun k K x C j h1 h2 h3 h4 h5 => h1.hole HAin.out h2 h3 h4 h5
  have HMI : Hid (∀ (k : Nat) (K : List Pt) x, MarkK PS (A.take k) K → (PS x = false ∨ x ∈ K) → newHole PS ED A (A.take k) x = false) := Lib.hid fun k K x h1 h2 => h1.miss HAin.out h2
  obtain ⟨HN, hHN⟩ : ∃ f : Nat → Nat, (fun k => holeN PS ED A (A.take k)) = f := ⟨_, rfl⟩
  obtain ⟨N, hN⟩ : ∃ N, Hn * Wn = N := ⟨_, rfl⟩
  rw [hN] at hN100 HAL HAlen
  have HM0 : Hid (MarkK PS (A.take 0) []) := Lib.hid fun c => ⟨fun h => (List.not_mem_nil h).elim, fun ⟨a, h, _⟩ => by simp at h⟩
  have HS0 : Hid (Shut8 PS []) := Lib.hid fun c h => (List.not_mem_nil h).elim
  have HN0 : Hid (HN 0 = 0) := Lib.hid (by rw [← hHN]; rfl)
  have HNN : Hid (holeN PS ED A A = HN N) := Lib.hid (by rw [← hHN]; show _ = holeN PS ED A (A.take N); rw [← HAlen.out, List.take_length])
  have HNL : Hid (∀ k, HN k ≤ k) := Lib.hid fun k => by rw [← hHN]; exact Nat.le_trans (holeN_le PS ED A (A.take k)) (by rw [List.length_take]; omega)
  have HNS : Hid (∀ k c, A[k]? = some c → HN (k + 1) = HN k + if newHole PS ED A (A.take k) c = true then 1 else 0) := Lib.hid fun k c hc => by
    rw [← hHN]
    show holeN PS ED A (A.take (k + 1)) = _
    rw [List.take_add_one, hc, Option.toList_some]
    exact holeN_snoc PS ED A (A.take k) c
  rw [HNN.out]
  have HTS : Hid (∀ k c, A[k]? = some c → A.take (k + 1) = A.take k ++ [c]) := Lib.hid fun k c hc => by rw [List.take_add_one, hc]; rfl
  have HLC := Lib.hid (show ∀ w, Holds w b L.cells → w.cell? ⟨b, 0, none⟩ = some (.int .i8 Wn) ∧ w.cell? ⟨b, 1, none⟩ = some (.int .i8 Hn) from fun w h => by
    have h0 := h.cell
    rw [h0, h0, Lawn.cells_0, Lawn.cells_1, hLw, hLh]
    exact ⟨rfl, rfl⟩)
  clear hL hV hLw hLh hA hPS hED hHN hN HNN
  obtain ⟨u, hu⟩ : ∃ u, w.heap.size = u := ⟨_, rfl⟩
  have hbl := h.lt
  obtain ⟨W0, hW0⟩ : ∃ W0, w.alloc (.cells (gridT fun _ _ => false) 149) = W0 := ⟨_, rfl⟩
  have g1 : Holds W0 u (gridT fun _ _ => false) := by rw [← hW0, ← hu]; exact Holds.new _ _ _
  have kb : Holds W0 b L.cells := by rw [← hW0]; exact h.alloc _
  have hB0 : Below u w W0 := by rw [← hW0, ← hu]; exact (Below.refl _ _).alloc (Nat.le_refl _) _
  have hz : W0.heap.size = u + 1 := by rw [← hW0, ← hu]; simp
  obtain ⟨r1, f1, -, z1, l1⟩ := g1.facts
  rw [hu]
  rw [hu] at hbl
  clear h
  go_enter Try.func47, Try.ntmps47
  go_wp2_with fail
  obtain ⟨W1, hW1⟩ : ∃ W1, W0.setRow u (gridT fun _ _ => false) = W1 := ⟨_, rfl⟩
  have j1 : Holds W1 u (gridT (doneK [])) := by rw [← hW1, doneK_none]; exact g1.setRow _
  have jb : Holds W1 b L.cells := by rw [← hW1]; exact ((Only.refl [u] W0).setRow (.inl (by simp)) _).holds kb (by simp; omega)
  have jB : Below u w W1 := by rw [← hW1]; exact ((Only.refl [u] W0).setRow (.inl (by simp)) _).toBelow (by simp) (by omega) |> hB0.trans
  have jz : W1.heap.size = u + 1 := by rw [← hW1]; simpa [World.setRow] using hz
  rw [hW1]
  clear hW1 g1 kb hB0 hz r1 f1 z1 l1 hW0
  refine (HAL.out W1 jb).mono ?_
  rintro e W2 ⟨vA, rfl, hoA, hb2⟩
  rw [jz] at hoA
  have HOA := Lib.hid (HAP.out _ _ _ _ hoA)
  have k1 := j1.below hb2 j1.lt
  have kb := jb.below hb2 jb.lt
  have kB : Below u w W2 := jB.trans (hb2.mono (by omega))
  have kz : u + 1 ≤ W2.heap.size := by have := hb2.size; omega
  have HAF : Hid (∀ z, vA.ownBlock = some z → z ≠ u) := Lib.hid fun z hz => by have := own_far HOA.out z hz; omega
  obtain ⟨aA, cA, rfl⟩ := own_slice hoA
  clear hb2 j1 jb jB jz hoA HAL HAP
  go_wp2_with fail
  go_loopw [4, 6] (fun n i wr => ∃ (k : Nat) (K : List Pt), k ≤ N ∧ i = .int .i64 k ∧ n = .int .i64 (HN k : Nat) ∧ MarkK PS (A.take k) K ∧ Shut8 PS K ∧ Holds wr u (gridT (doneK K)) ∧ Only [u] W2 wr) (fun _ i _ => N - (intOf i).toNat)
  case atStart => exact ⟨0, [], by omega, rfl, by rw [HN0.out]; rfl, HM0.out, HS0.out, k1, Only.refl _ _⟩
  case round =>
    obtain ⟨k, K, hk, rfl, rfl, hM, hS, hd, hO⟩ := hrel
    have HM := Lib.hid hM
    have HS := Lib.hid hS
    have HO := Lib.hid hO
    clear hM hS hO
    by_cases hlt : k < N
    · have hd0 : decide ((k : Int) < (N : Int)) = true := by simp; omega
      obtain ⟨c, hc⟩ : ∃ c, A[k]? = some c := ⟨_, List.getElem?_eq_getElem (by rw [HAlen.out]; exact hlt)⟩
      have hAB := HAB.out c (List.mem_of_getElem? hc)
      obtain ⟨his, x, y, rfl, hx10, hy10⟩ := hAB
      dsimp only at his
      have HIB := Lib.hid his
      have oa := HO.out.own HOA.out (fun z hz => by have := HAF.out z hz; simpa using this)
      have nb := HO.out.holds kb (by simp; omega)
      obtain ⟨ga, cap, he, hBg, hgw⟩ := own_form oa (by omega)
      simp only [Value.slice.injEq, true_and] at he
      obtain ⟨rfl, rfl⟩ := he
      obtain ⟨fa, fb⟩ := flatP_get _ _ _ hc
      have FX := Lib.hid (show ∀ w', Below wr.heap.size wr w' → w'.cell? ⟨ga, k * 2, none⟩ = some (.int .i8 (x : Int)) ∧ w'.cell? ⟨ga, k * 2 + 1, none⟩ = some (.int .i8 (y : Int)) from fun w' hw' => ⟨own_cell (own_below oa hw') _ _ fa, own_cell (own_below oa hw') _ _ fb⟩)
      have FD := Lib.hid (show ∀ w', Below wr.heap.size wr w' → w'.cell? ⟨u, y * 10 + x, none⟩ = some (.bool (doneK K y x)) from fun w' hw' => ((hd.below hw' hd.lt).cell (y * 10 + x)).trans (gridT_get _ y x hy10 hx10))
      have HC := Lib.hid hc
      have HD := Lib.hid hd
      have HAC := Lib.hid (HAT.out x y hx10 hy10)
      have HPA := Lib.hid (HP1.out x y)
      have HPB := Lib.hid (HP2.out x y HIB.out)
      have HNk := Lib.hid (HNS.out k _ hc)
      have HTk := Lib.hid (HTS.out k _ hc)
      have HNLk := HNL.out k
      obtain ⟨kd, hkd⟩ : ∃ kd, L.kind y x = kd := ⟨_, rfl⟩
      rw [hkd] at HAC HPA HPB
      have hdl := hd.lt
      clear hc oa fa fb hkd his hd
      by_cases hk0 : kd = 0
      · subst hk0
        have hkk : ((0 : Int) == 0) = true := rfl
        have hpf := HPA.out rfl
        have HNe := Lib.hid (show HN (k + 1) = HN k by rw [HNk.out, HMI.out k K _ HM.out (.inl hpf)]; rfl)
        have HMk := Lib.hid (show MarkK PS (A.take (k + 1)) K by rw [HTk.out]; exact HM.out.old HS.out (.inl hpf))
        clear hpf
        go_wp2_with fail
        refine wp_region_grow 21 (by kernel_rfl) (by kernel_rfl) ?_
        simp only [List.take_succ_cons, List.take_zero, List.drop_succ_cons, List.drop_zero]
        iterate 8
          apply wpGrow_plain rfl
          · intro w' hw' K hK
            obtain ⟨f1, f2⟩ := FX.out _ hw'
            have e1 := nb.below hw' nb.lt
            go_wp2_with (go_at_call 52; with_reducible refine (HAC.out _ e1).mono ?_; rintro e w1 ⟨rfl, hb1⟩)
            first | exact hK _ _ rfl hw' | exact hK _ _ rfl (below_onto hw' hb1)
          simp only [Act.put, List.setIfInBounds_toArray, List.set_cons_succ, List.set_cons_zero]
        iterate 13
          apply wpGrow_off rfl
          simp only [Act.put, List.setIfInBounds_toArray, List.set_cons_succ, List.set_cons_zero]
        refine wpGrow_nil ?_
        intro W3 hW3
        have hd3 := HD.out.below hW3 hdl
        have hO3 := HO.out.onto hW3
        go_wp2_with fail
        go_roundw
        case rel => exact ⟨k + 1, K, by omega, by go_num, by rw [HNe.out], HMk.out, HS.out, hd3, hO3⟩
        case measure => simp [intOf]; omega
      · have hkk : (kd == 0) = false := by simpa using hk0
        have hpt := HPB.out hk0
        have HPT := Lib.hid hpt
        obtain ⟨q, hq⟩ : ∃ q, doneK K y x = q := ⟨_, rfl⟩
        rw [hq] at FD
        have HQ : Hid (q = true ↔ ((x : Int), (y : Int)) ∈ K) := Lib.hid (by rw [← hq]; unfold doneK; exact decide_eq_true_iff)
        clear hq hk0 hpt
        cases q
        case true =>
          have HQ' := Lib.hid (HQ.out.1 rfl)
          have HNe := Lib.hid (show HN (k + 1) = HN k by rw [HNk.out, HMI.out k K _ HM.out (.inr HQ'.out)]; rfl)
          have HMk := Lib.hid (show MarkK PS (A.take (k + 1)) K by rw [HTk.out]; exact HM.out.old HS.out (.inr HQ'.out))
          go_wp2_with fail
          refine wp_region_grow 21 (by kernel_rfl) (by kernel_rfl) ?_
          simp only [List.take_succ_cons, List.take_zero, List.drop_succ_cons, List.drop_zero]
          iterate 8
            apply wpGrow_plain rfl
            · intro w' hw' K hK
              obtain ⟨f1, f2⟩ := FX.out _ hw'
              have e1 := nb.below hw' nb.lt
              go_wp2_with (go_at_call 52; with_reducible refine (HAC.out _ e1).mono ?_; rintro e w1 ⟨rfl, hb1⟩)
              first | exact hK _ _ rfl hw' | exact hK _ _ rfl (below_onto hw' hb1)
            simp only [Act.put, List.setIfInBounds_toArray, List.set_cons_succ, List.set_cons_zero]
          iterate 13
            apply wpGrow_on rfl
            · intro w' hw' K hK
              obtain ⟨f1, f2⟩ := FX.out _ hw'
              have fd := FD.out _ hw'
              go_wp2_with fail
              exact hK _ _ rfl hw'
            simp only [Act.put, List.setIfInBounds_toArray, List.set_cons_succ, List.set_cons_zero]
          refine wpGrow_nil ?_
          intro W3 hW3
          have hd3 := HD.out.below hW3 hdl
          have hO3 := HO.out.onto hW3
          go_wp2_with fail
          go_roundw
          case rel => exact ⟨k + 1, K, by omega, by go_num, by rw [HNe.out], HMk.out, HS.out, hd3, hO3⟩
          case measure => simp [intOf]; omega
        case false =>
          have HX0 := Lib.hid (show ((x : Int), (y : Int)) ∉ K from fun h => by have := HQ.out.2 h; cases this)
          go_wp2_with fail
          refine wp_region_grow 21 (by kernel_rfl) (by kernel_rfl) ?_
          simp only [List.take_succ_cons, List.take_zero, List.drop_succ_cons, List.drop_zero]
          iterate 8
            apply wpGrow_plain rfl
            · intro w' hw' K hK
              obtain ⟨f1, f2⟩ := FX.out _ hw'
              have e1 := nb.below hw' nb.lt
              go_wp2_with (go_at_call 52; with_reducible refine (HAC.out _ e1).mono ?_; rintro e w1 ⟨rfl, hb1⟩)
              first | exact hK _ _ rfl hw' | exact hK _ _ rfl (below_onto hw' hb1)
            simp only [Act.put, List.setIfInBounds_toArray, List.set_cons_succ, List.set_cons_zero]
          iterate 13
            apply wpGrow_on rfl
            · intro w' hw' K hK
              obtain ⟨f1, f2⟩ := FX.out _ hw'
              have fd := FD.out _ hw'
              go_wp2_with fail
              exact hK _ _ rfl hw'
            simp only [Act.put, List.setIfInBounds_toArray, List.set_cons_succ, List.set_cons_zero]
          refine wpGrow_nil ?_
          intro W3 hW3
          obtain ⟨f1, f2⟩ := FX.out _ hW3
          have hd3 := HD.out.below hW3 hdl
          have hO3 := HO.out.onto hW3
          obtain ⟨-, -, cd, zd, ld⟩ := hd3.facts
          have cd1 := (cd (y * 10 + x)).trans (gridT_get _ y x hy10 hx10)
          have zd1 := zd (y * 10 + x)
          have HD3 := Lib.hid hd3
          have HO3 := Lib.hid hO3
          clear cd zd hd3 hO3 FD hkk
          go_wp2_with fail
          go_region
          obtain ⟨W4, hW4⟩ : ∃ W4, W3.drew.setCell ⟨u, y * 10 + x, none⟩ (.bool true) = W4 := ⟨_, rfl⟩
          have hO4 : Only [u] W2 W4 := by rw [← hW4]; exact HO3.out.drew.setCell (.inl (by simp)) _
          have hd4 : Holds W4 u (gridT (doneK (K ++ [((x : Int), (y : Int))]))) := by
            rw [← hW4, ← doneK_more, ← gridT_set _ _ _ _ hy10 hx10]
            exact (HD3.out.below (Below.refl _ _).drew HD3.out.lt).setCell _ _
          have oa4 := hO4.own HOA.out (fun z hz => by have := HAF.out z hz; simpa using this)
          have fa := own_cell oa4 _ _ (flatP_get _ _ _ HC.out).1
          have fb := own_cell oa4 _ _ (flatP_get _ _ _ HC.out).2
          have hW4' : (W3.setCell ⟨u, y * 10 + x, none⟩ (.bool true)).drew = W4 := hW4
          rw [hW4']
          clear hW4 hW4' f1 f2 cd1 zd1 ld
          have HO4 := Lib.hid hO4
          have HD4 := Lib.hid hd4
          clear hO4 hd4 oa4 nb
          have hW2s : W2.heap.size ≤ W4.heap.size := HO4.out.size
          obtain ⟨W5, hW5⟩ : ∃ W5, W4.alloc (.cells #[.int .i8 (x : Int), .int .i8 (y : Int)] 37) = W5 := ⟨_, rfl⟩
          have hq5 : W5.ownsRow W2.heap.size 37 2 (.slice (some ⟨W4.heap.size, 0, none⟩) 1 1) 1 (flatP [((x : Int), (y : Int))]) := by rw [← hW5]; exact ownsRow_low (own_cellH W4 _ _) hW2s
          have hd5 : Holds W5 u (gridT (doneK (K ++ [((x : Int), (y : Int))]))) := by rw [← hW5]; exact HD4.out.alloc _
          have hO5 : Only [u] W2 W5 := by rw [← hW5]; exact HO4.out.alloc _
          obtain ⟨q0, hq0⟩ : ∃ q0, W2.heap.size = q0 := ⟨_, rfl⟩
          rw [hq0] at hq5
          have HQ0 := Lib.hid hq0
          have huq : u + 1 ≤ q0 := by omega
          have HF0 := Lib.hid (Fld.begin (K0 := K) HPT.out HX0.out)
          obtain ⟨X, hX⟩ : ∃ X : Pt, ((x : Int), (y : Int)) = X := ⟨_, rfl⟩
          rw [hX] at HF0 HX0 HNk hd5 hq5
          have HXX := Lib.hid hX
          clear hX hq0
          go_wp2_with fail
          try rw [hW5]
          clear hW5 fa fb HD4 HO4 HO3 HD3
          go_loopg [7, 8, 9] 101 (fun g ins v kk wr => ∃ (C : List Pt) (j : Nat), j + g = 101 ∧ j ≤ C.length ∧ ins = .bool (insB ED (C.take j)) ∧ kk = .int .i64 j ∧ Fld PS X K C j ∧ wr.ownsRow q0 37 2 v C.length (flatP C) ∧ Holds wr u (gridT (doneK (K ++ C))) ∧ Only [u] W2 wr)
          case atStart => exact ⟨[X], 0, by omega, by simp, rfl, rfl, HF0.out, hq5, hd5, hO5⟩
          case round =>
            obtain ⟨C, j, hg, hj, rfl, rfl, hf, ho, hd, hO⟩ := hrel
            clear hq5 hd5 hO5 HF0
            have HF := Lib.hid hf
            have hC100 : C.length ≤ 100 := pts_le HNE.out hf.nodup fun c hc => (hf.real c hc).end'
            have HOw := Lib.hid ho
            have HD := Lib.hid hd
            have HO := Lib.hid hO
            obtain ⟨m, hm⟩ : ∃ m, C.length = m := ⟨_, rfl⟩
            rw [hm] at ho hj hC100 HOw
            have HCM := Lib.hid hm
            obtain ⟨av, cv, rfl⟩ := own_slice ho
            have nb := hO.holds kb (by simp; omega)
            clear hf hO hd hm
            by_cases hjt : j < m
            · have hd0 : decide ((j : Int) < (m : Int)) = true := by simp; omega
              obtain ⟨c, hc⟩ : ∃ c, C[j]? = some c := ⟨_, List.getElem?_eq_getElem (by rw [HCM.out]; exact hjt)⟩
              have hpc := (HF.out.real c (List.mem_of_getElem? hc)).end'
              have hne := HNE.out c hpc
              obtain ⟨ga2, cap2, he, -, -⟩ := own_form ho (by omega)
              simp only [Value.slice.injEq, true_and] at he
              obtain ⟨rfl, rfl⟩ := he
              obtain ⟨cx, cy⟩ := c
              dsimp only at hne
              have fa := own_cell ho _ _ (flatP_get _ _ _ hc).1
              have fb := own_cell ho _ _ (flatP_get _ _ _ hc).2
              have HFS := Lib.hid (FldS.begin HF.out hc)
              have HEDc := Lib.hid (HED.out (cx, cy))
              have HNQ := Lib.hid (fun r s hr hs => near8_at (cx, cy) r s hr hs)
              obtain ⟨P, hP⟩ : ∃ P, C.take j = P := ⟨_, rfl⟩
              have HPl := Lib.hid (show P.length = j by rw [← hP, List.length_take, HCM.out]; omega)
              rw [hP] at HFS ⊢
              have HPP := Lib.hid hP
              obtain ⟨iv, hiv⟩ : ∃ iv, insB ED P = iv := ⟨_, rfl⟩
              rw [hiv]
              have HIV := Lib.hid hiv
              obtain ⟨p, hp⟩ : ∃ p, wr.heap.size = p := ⟨_, rfl⟩
              obtain ⟨W3, hW3⟩ : ∃ W3, wr.alloc (.cells #[.int .i8 cx, .int .i8 cy] 37) = W3 := ⟨_, rfl⟩
              have hp3 : Holds W3 p #[.int .i8 cx, .int .i8 cy] := by rw [← hW3]; exact Holds.new' _ _ _ _ hp.symm
              have nb3 : Holds W3 b L.cells := by rw [← hW3]; exact nb.alloc _
              have HD3 : Hid (Holds W3 u (gridT (doneK (K ++ C)))) := Lib.hid (by rw [← hW3]; exact HD.out.alloc _)
              have HO3 : Hid (Only [u] W2 W3) := Lib.hid (by rw [← hW3]; exact HO.out.alloc _)
              have HOw3 : Hid (W3.ownsRow q0 37 2 (.slice (some ⟨ga2, 0, none⟩) m cv) m (flatP C)) := Lib.hid (by rw [← hW3]; exact HOw.out.alloc _)
              have hgp : (Value.slice (some ⟨ga2, 0, none⟩) m cv).ownBlock ≠ some p := fun e => by
                have := own_near ho p e
                omega
              have HGP := Lib.hid hgp
              have hqp : q0 ≤ p := by have := HO.out.size; have := HQ0.out; omega
              clear ho hc hpc hP hiv hgp
              go_wp2_with fail
              try rw [hp]
              try rw [hW3]
              clear hW3 fa fb nb
              have c0 := hp3.cell 0
              have c1 := hp3.cell 1
              obtain ⟨l0, l1⟩ := HLC.out _ nb3
              obtain ⟨ed, hed⟩ : ∃ ed, ED (cx, cy) = ed := ⟨_, rfl⟩
              rw [hed] at HEDc
              have HED1 := Lib.hid hed
              clear hed
              go_cut [99] from 62 to 145 (fun x wx => x = .bool ed ∧ ∃ n, wx = W3.drewN n)
              case first =>
                obtain ⟨e1, h1⟩ : ∃ e, (cx == (0 : Int)) = e := ⟨_, rfl⟩
                obtain ⟨e2, h2⟩ : ∃ e, (cy == (0 : Int)) = e := ⟨_, rfl⟩
                obtain ⟨e3, h3⟩ : ∃ e, (cx == (Wn : Int) - 1) = e := ⟨_, rfl⟩
                obtain ⟨e4, h4⟩ : ∃ e, (cy == (Hn : Int) - 1) = e := ⟨_, rfl⟩
                have HEX := Lib.hid (show ed = (e1 || e2 || e3 || e4) by have := HEDc.out; rw [h1, h2, h3, h4] at this; exact this)
                clear HEDc
                cases e1 with
                | true =>
                  go_quiet (fail)
                  go_wp2_with fail
                  go_meet
                  case rel => exact ⟨by rw [HEX.out]; rfl, _, rfl⟩
                | false =>
                  cases e2 with
                  | true =>
                    go_quiet (fail)
                    go_wp2_with fail
                    go_meet
                    case rel => exact ⟨by rw [HEX.out]; rfl, _, rfl⟩
                  | false =>
                    cases e3 with
                    | true =>
                      go_quiet (fail)
                      go_wp2_with fail
                      go_meet
                      case rel => exact ⟨by rw [HEX.out]; rfl, _, rfl⟩
                    | false =>
                      cases e4 with
                      | true =>
                        go_quiet (fail)
                        go_wp2_with fail
                        go_meet
                        case rel => exact ⟨by rw [HEX.out]; rfl, _, rfl⟩
                      | false =>
                        go_quiet (fail)
                        go_wp2_with fail
                        go_meet
                        case rel => exact ⟨by rw [HEX.out]; rfl, _, rfl⟩
              case rest =>
                obtain ⟨rfl, nq, rfl⟩ := hcut
                clear c0 c1 l0 l1
                have hp4 := hp3.drewN nq
                have nb4 := nb3.drewN nq
                have HD4 := Lib.hid (HD3.out.drewN nq)
                have HO4 := Lib.hid (onlyDrewN HO3.out nq)
                have HOw4 : Hid ((W3.drewN nq).ownsRow q0 37 2 (.slice (some ⟨ga2, 0, none⟩) m cv) m (flatP C)) := HOw3
                obtain ⟨W4, hW4⟩ : ∃ W4, W3.drewN nq = W4 := ⟨_, rfl⟩
                rw [hW4] at hp4 nb4 HD4 HO4 HOw4 ⊢
                clear hW4 hp3 nb3 HD3 HO3 HOw3
                go_upto_if 99 with fail
                go_cut [7] from 62 to 145 (fun x wx => x = .bool (iv && !ed) ∧ wx = W4)
                case first =>
                  cases ed with
                  | true =>
                    go_wp2_with fail
                    go_meet
                    case rel => exact ⟨by rw [Bool.not_true, Bool.and_false], rfl⟩
                  | false =>
                    go_wp2_with fail
                    go_meet
                    case rel => exact ⟨by rw [Bool.not_false, Bool.and_true], rfl⟩
                case rest =>
                  obtain ⟨rfl, rfl⟩ := hcut
                  obtain ⟨iw, hiw⟩ : ∃ iw, (iv && !ed) = iw := ⟨_, rfl⟩
                  have HIW := Lib.hid (show insB ED (P ++ [(cx, cy)]) = iw by rw [insB_snoc, HIV.out, HED1.out, hiw])
                  rw [hiw]
                  clear hiw
                  go_wp2_with fail
                  go_loopg [8, 11] 4 (fun g v dy wr => ∃ (C2 : List Pt) (r : Nat), r + g = 4 ∧ r ≤ 3 ∧ dy = .int .i8 ((r : Int) - 1) ∧ FldS PS X K P C2 (cx, cy) (3 * r) ∧ wr.ownsRow q0 37 2 v C2.length (flatP C2) ∧ v.ownBlock ≠ some p ∧ Holds wr p #[.int .i8 cx, .int .i8 cy] ∧ Holds wr u (gridT (doneK (K ++ C2))) ∧ Only [u] W2 wr)
                  case atStart => exact ⟨C, 0, by omega, by omega, rfl, HFS.out, by rw [HCM.out]; exact HOw4.out, HGP.out, hp4, HD4.out, HO4.out⟩
                  case round =>
                    obtain ⟨C2, r, hg2, hr, rfl, hfs, ho, hgp, hp5, hd, hO⟩ := hrel
                    have HFS2 := Lib.hid hfs
                    have HOw5 := Lib.hid ho
                    have HGP2 := Lib.hid hgp
                    have HD5 := Lib.hid hd
                    have HO5 := Lib.hid hO
                    have HP5 := Lib.hid hp5
                    clear hfs ho hgp hd hO hp5 HFS HOw4 HD4 HO4 hp4 nb4
                    by_cases hrt : r < 3
                    · have hd0 : decide ((r : Int) - 1 ≤ 1) = true := by simp; omega
                      go_wp2_with fail
                      go_loopg [8, 12] 4 (fun g v dx wr => ∃ (C3 : List Pt) (s : Nat), s + g = 4 ∧ s ≤ 3 ∧ dx = .int .i8 ((s : Int) - 1) ∧ FldS PS X K P C3 (cx, cy) (3 * r + s) ∧ wr.ownsRow q0 37 2 v C3.length (flatP C3) ∧ v.ownBlock ≠ some p ∧ Holds wr p #[.int .i8 cx, .int .i8 cy] ∧ Holds wr u (gridT (doneK (K ++ C3))) ∧ Only [u] W2 wr)
                      case atStart => exact ⟨C2, 0, by omega, by omega, rfl, HFS2.out, HOw5.out, HGP2.out, HP5.out, HD5.out, HO5.out⟩
                      case round =>
                        obtain ⟨C3, s, hg3, hs, rfl, hfs, ho, hgp, hp5, hd, hO⟩ := hrel
                        have HFS3 := Lib.hid hfs
                        have hC3 : C3.length ≤ 100 := pts_le HNE.out hfs.fld.nodup fun c hc => (hfs.fld.real c hc).end'
                        obtain ⟨m3, hm3⟩ : ∃ m3, C3.length = m3 := ⟨_, rfl⟩
                        rw [hm3] at ho hC3
                        have HM3 := Lib.hid hm3
                        obtain ⟨av3, cv3, rfl⟩ := own_slice ho
                        clear hm3
                        have HOw6 := Lib.hid ho
                        have HGP3 := Lib.hid hgp
                        have HD6 := Lib.hid hd
                        have HO6 := Lib.hid hO
                        have HP6 := Lib.hid hp5
                        clear hfs ho hgp hd hO hp5 HFS2 HOw5 HGP2 HD5 HO5 HP5
                        by_cases hst : s < 3
                        · have hd1 : decide ((s : Int) - 1 ≤ 1) = true := by simp; omega
                          have c0 := HP6.out.cell 0
                          have c1 := HP6.out.cell 1
                          have nb6 := HO6.out.holds kb (by simp; omega)
                          have hnd := HNQ.out r s hrt hst
                          obtain ⟨isb, hisb⟩ : ∃ isb, isB L (cx + ((s : Int) - 1)) (cy + ((r : Int) - 1)) = isb := ⟨_, rfl⟩
                          have HISc := Lib.hid (HIS.out (cx + ((s : Int) - 1)) (cy + ((r : Int) - 1)) (by omega) (by omega) (by omega) (by omega))
                          have hnd2 : (near8 (cx, cy))[3 * r + s]? = some (cx + ((s : Int) - 1), cy + ((r : Int) - 1)) := by
                            rw [hnd]
                            simp only [Option.some.injEq, Prod.mk.injEq]
                            constructor <;> omega
                          rw [hisb] at HISc
                          clear hnd
                          cases isb
                          case false =>
                            have HSK := Lib.hid (HFS3.out.skip hnd2 (.inl (HP0.out _ hisb)))
                            obtain ⟨nx, hnx⟩ : ∃ nx, cx + ((s : Int) - 1) = nx := ⟨_, rfl⟩
                            obtain ⟨ny, hny⟩ : ∃ ny, cy + ((r : Int) - 1) = ny := ⟨_, rfl⟩
                            rw [hnx, hny] at HISc
                            clear hnd2 hisb
                            go_wp2_with fail
                            try rw [hnx]
                            try rw [hny]
                            obtain ⟨p2, hp2⟩ : ∃ p2, wr.heap.size = p2 := ⟨_, rfl⟩
                            obtain ⟨W7, hW7⟩ : ∃ W7, wr.alloc (.cells #[.int .i8 nx, .int .i8 ny] 37) = W7 := ⟨_, rfl⟩
                            have HP7 : Hid (Holds W7 p2 #[.int .i8 nx, .int .i8 ny]) := Lib.hid (by rw [← hW7]; exact Holds.new' _ _ _ _ hp2.symm)
                            have nb7 : Holds W7 b L.cells := by rw [← hW7]; exact nb6.alloc _
                            have HD7 : Hid (Holds W7 u (gridT (doneK (K ++ C3)))) := Lib.hid (by rw [← hW7]; exact HD6.out.alloc _)
                            have HPC7 : Hid (Holds W7 p #[.int .i8 cx, .int .i8 cy]) := Lib.hid (by rw [← hW7]; exact HP6.out.alloc _)
                            have HO7 : Hid (Only [u] W2 W7) := Lib.hid (by rw [← hW7]; exact HO6.out.alloc _)
                            have HOw7 : Hid (W7.ownsRow q0 37 2 (.slice av3 m3 cv3) m3 (flatP C3)) := Lib.hid (by rw [← hW7]; exact HOw6.out.alloc _)
                            try rw [hp2]
                            try rw [hW7]
                            have hup : u + 1 ≤ p2 := by have := HO6.out.size; omega
                            clear hW7 hp2 hnx hny c0 c1 nb6
                            refine wp_region_grow 18 (by kernel_rfl) (by kernel_rfl) ?_
                            simp only [List.take_succ_cons, List.take_zero, List.drop_succ_cons, List.drop_zero]
                            iterate 5
                              apply wpGrow_plain rfl
                              · intro w' hw' K hK
                                have e0 := HP7.out.below hw' HP7.out.lt
                                have z0 := e0.cell 0
                                have z1 := e0.cell 1
                                have e1 := nb7.below hw' nb7.lt
                                go_wp2_with (go_at_call 58; with_reducible refine (HISc.out _ e1).mono ?_; rintro e w1 ⟨rfl, hb1⟩)
                                first | exact hK _ _ rfl hw' | exact hK _ _ rfl (below_onto hw' hb1)
                              simp only [Act.put, List.setIfInBounds_toArray, List.set_cons_succ, List.set_cons_zero]
                            iterate 4
                              apply wpGrow_off rfl
                              simp only [Act.put, List.setIfInBounds_toArray, List.set_cons_succ, List.set_cons_zero]
                            iterate 2
                              apply wpGrow_plain rfl
                              · intro w' hw' K hK
                                have e0 := HP7.out.below hw' HP7.out.lt
                                have z0 := e0.cell 0
                                have z1 := e0.cell 1
                                have e1 := nb7.below hw' nb7.lt
                                go_wp2_with (go_at_call 58; with_reducible refine (HISc.out _ e1).mono ?_; rintro e w1 ⟨rfl, hb1⟩)
                                first | exact hK _ _ rfl hw' | exact hK _ _ rfl (below_onto hw' hb1)
                              simp only [Act.put, List.setIfInBounds_toArray, List.set_cons_succ, List.set_cons_zero]
                            iterate 7
                              apply wpGrow_off rfl
                              simp only [Act.put, List.setIfInBounds_toArray, List.set_cons_succ, List.set_cons_zero]
                            refine wpGrow_nil ?_
                            intro W8 hW8
                            have o8 := own_below HOw7.out hW8
                            have d8 := HD7.out.below hW8 HD7.out.lt
                            have p8 := HPC7.out.below hW8 HPC7.out.lt
                            have O8 := HO7.out.onto hW8
                            have HE8 := Lib.hid (And.intro o8 (And.intro d8 (And.intro p8 O8)))
                            clear o8 d8 p8 O8
                            go_wp2_with fail
                            go_roundg (3 - s)
                            case measure => omega
                            case rel => exact ⟨C3, s + 1, by omega, by omega, by go_num, HSK.out, by rw [HM3.out]; exact HE8.out.1, HGP3.out, HE8.out.2.2.1, HE8.out.2.1, HE8.out.2.2.2⟩
                          case true =>
                            have hnr := HNR.out _ _ hisb
                            obtain ⟨x2, hnx⟩ : ∃ x2 : Nat, cx + ((s : Int) - 1) = x2 := ⟨(cx + ((s : Int) - 1)).toNat, by omega⟩
                            obtain ⟨y2, hny⟩ : ∃ y2 : Nat, cy + ((r : Int) - 1) = y2 := ⟨(cy + ((r : Int) - 1)).toNat, by omega⟩
                            rw [hnx, hny] at HISc hisb hnd2 hnr
                            have hx2 : x2 < 10 := by omega
                            have hy2 : y2 < 10 := by omega
                            have HATc := Lib.hid (HAT.out x2 y2 hx2 hy2)
                            have HP1c := HP1.out x2 y2
                            have HP2c := HP2.out x2 y2 hisb
                            obtain ⟨k2, hk2⟩ : ∃ k2, L.kind y2 x2 = k2 := ⟨_, rfl⟩
                            rw [hk2] at HATc HP1c HP2c
                            clear hk2 hnr hisb
                            by_cases hkz : k2 = 0
                            · have HSK := Lib.hid (HFS3.out.skip hnd2 (.inl (HP1c hkz)))
                              subst hkz
                              have hkk : ((0 : Int) == 0) = true := rfl
                              clear hnd2 HP1c HP2c
                              go_wp2_with fail
                              try rw [hnx]
                              try rw [hny]
                              obtain ⟨p2, hp2⟩ : ∃ p2, wr.heap.size = p2 := ⟨_, rfl⟩
                              obtain ⟨W7, hW7⟩ : ∃ W7, wr.alloc (.cells #[.int .i8 (x2 : Int), .int .i8 (y2 : Int)] 37) = W7 := ⟨_, rfl⟩
                              have HP7 : Hid (Holds W7 p2 #[.int .i8 (x2 : Int), .int .i8 (y2 : Int)]) := Lib.hid (by rw [← hW7]; exact Holds.new' _ _ _ _ hp2.symm)
                              have nb7 : Holds W7 b L.cells := by rw [← hW7]; exact nb6.alloc _
                              have HD7 : Hid (Holds W7 u (gridT (doneK (K ++ C3)))) := Lib.hid (by rw [← hW7]; exact HD6.out.alloc _)
                              have HPC7 : Hid (Holds W7 p #[.int .i8 cx, .int .i8 cy]) := Lib.hid (by rw [← hW7]; exact HP6.out.alloc _)
                              have HO7 : Hid (Only [u] W2 W7) := Lib.hid (by rw [← hW7]; exact HO6.out.alloc _)
                              have HOw7 : Hid (W7.ownsRow q0 37 2 (.slice av3 m3 cv3) m3 (flatP C3)) := Lib.hid (by rw [← hW7]; exact HOw6.out.alloc _)
                              try rw [hp2]
                              try rw [hW7]
                              have hup : u + 1 ≤ p2 := by have := HO6.out.size; omega
                              clear hW7 hp2 hnx hny c0 c1 nb6
                              refine wp_region_grow 18 (by kernel_rfl) (by kernel_rfl) ?_
                              simp only [List.take_succ_cons, List.take_zero, List.drop_succ_cons, List.drop_zero]
                              iterate 5
                                apply wpGrow_plain rfl
                                · intro w' hw' K hK
                                  have e0 := HP7.out.below hw' HP7.out.lt
                                  have z0 := e0.cell 0
                                  have z1 := e0.cell 1
                                  have e1 := nb7.below hw' nb7.lt
                                  go_wp2_with (go_at_call 58; with_reducible refine (HISc.out _ e1).mono ?_; rintro e w1 ⟨rfl, hb1⟩)
                                  first | exact hK _ _ rfl hw' | exact hK _ _ rfl (below_onto hw' hb1)
                                simp only [Act.put, List.setIfInBounds_toArray, List.set_cons_succ, List.set_cons_zero]
                              iterate 4
                                apply wpGrow_on rfl
                                · intro w' hw' K hK
                                  have e0 := HP7.out.below hw' HP7.out.lt
                                  have z0 := e0.cell 0
                                  have z1 := e0.cell 1
                                  have e1 := nb7.below hw' nb7.lt
                                  go_wp2_with (go_at_call 52; with_reducible refine (HATc.out _ e1).mono ?_; rintro e w1 ⟨rfl, hb1⟩)
                                  first | exact hK _ _ rfl hw' | exact hK _ _ rfl (below_onto hw' hb1)
                                simp only [Act.put, List.setIfInBounds_toArray, List.set_cons_succ, List.set_cons_zero]
                              iterate 2
                                apply wpGrow_plain rfl
                                · intro w' hw' K hK
                                  have e0 := HP7.out.below hw' HP7.out.lt
                                  have z0 := e0.cell 0
                                  have z1 := e0.cell 1
                                  have e1 := nb7.below hw' nb7.lt
                                  go_wp2_with (go_at_call 58; with_reducible refine (HISc.out _ e1).mono ?_; rintro e w1 ⟨rfl, hb1⟩)
                                  first | exact hK _ _ rfl hw' | exact hK _ _ rfl (below_onto hw' hb1)
                                simp only [Act.put, List.setIfInBounds_toArray, List.set_cons_succ, List.set_cons_zero]
                              iterate 7
                                apply wpGrow_off rfl
                                simp only [Act.put, List.setIfInBounds_toArray, List.set_cons_succ, List.set_cons_zero]
                              refine wpGrow_nil ?_
                              intro W8 hW8
                              have o8 := own_below HOw7.out hW8
                              have d8 := HD7.out.below hW8 HD7.out.lt
                              have p8 := HPC7.out.below hW8 HPC7.out.lt
                              have O8 := HO7.out.onto hW8
                              have HE8 := Lib.hid (And.intro o8 (And.intro d8 (And.intro p8 O8)))
                              clear o8 d8 p8 O8
                              go_wp2_with fail
                              go_roundg (3 - s)
                              case measure => omega
                              case rel => exact ⟨C3, s + 1, by omega, by omega, by go_num, HSK.out, by rw [HM3.out]; exact HE8.out.1, HGP3.out, HE8.out.2.2.1, HE8.out.2.1, HE8.out.2.2.2⟩
                            · have HPT2 := Lib.hid (HP2c hkz)
                              have hkk : (k2 == 0) = false := by simpa using hkz
                              obtain ⟨q2, hq2⟩ : ∃ q2, doneK (K ++ C3) y2 x2 = q2 := ⟨_, rfl⟩
                              have HQ2 : Hid (q2 = true ↔ ((x2 : Int), (y2 : Int)) ∈ K ++ C3) := Lib.hid (by rw [← hq2]; unfold doneK; exact decide_eq_true_iff)
                              have HGT : Hid ((gridT (doneK (K ++ C3)))[y2 * 10 + x2]? = some (.bool q2)) := Lib.hid (by rw [gridT_get _ _ _ hy2 hx2, hq2])
                              clear hkz HP1c HP2c hq2
                              cases q2
                              case true =>
                                have HSK := Lib.hid (HFS3.out.skip hnd2 (.inr (HQ2.out.1 rfl)))
                                clear hnd2
                                go_wp2_with fail
                                try rw [hnx]
                                try rw [hny]
                                obtain ⟨p2, hp2⟩ : ∃ p2, wr.heap.size = p2 := ⟨_, rfl⟩
                                obtain ⟨W7, hW7⟩ : ∃ W7, wr.alloc (.cells #[.int .i8 (x2 : Int), .int .i8 (y2 : Int)] 37) = W7 := ⟨_, rfl⟩
                                have HP7 : Hid (Holds W7 p2 #[.int .i8 (x2 : Int), .int .i8 (y2 : Int)]) := Lib.hid (by rw [← hW7]; exact Holds.new' _ _ _ _ hp2.symm)
                                have nb7 : Holds W7 b L.cells := by rw [← hW7]; exact nb6.alloc _
                                have HD7 : Hid (Holds W7 u (gridT (doneK (K ++ C3)))) := Lib.hid (by rw [← hW7]; exact HD6.out.alloc _)
                                have HPC7 : Hid (Holds W7 p #[.int .i8 cx, .int .i8 cy]) := Lib.hid (by rw [← hW7]; exact HP6.out.alloc _)
                                have HO7 : Hid (Only [u] W2 W7) := Lib.hid (by rw [← hW7]; exact HO6.out.alloc _)
                                have HOw7 : Hid (W7.ownsRow q0 37 2 (.slice av3 m3 cv3) m3 (flatP C3)) := Lib.hid (by rw [← hW7]; exact HOw6.out.alloc _)
                                try rw [hp2]
                                try rw [hW7]
                                have hup : u + 1 ≤ p2 := by have := HO6.out.size; omega
                                clear hW7 hp2 hnx hny c0 c1 nb6
                                have FD7 := Lib.hid (show ∀ w', Below W7.heap.size W7 w' → w'.cell? ⟨u, y2 * 10 + x2, none⟩ = some (.bool true) from fun w' hw' => ((HD7.out.below hw' HD7.out.lt).cell (y2 * 10 + x2)).trans HGT.out)
                                refine wp_region_grow 18 (by kernel_rfl) (by kernel_rfl) ?_
                                simp only [List.take_succ_cons, List.take_zero, List.drop_succ_cons, List.drop_zero]
                                iterate 5
                                  apply wpGrow_plain rfl
                                  · intro w' hw' K hK
                                    have e0 := HP7.out.below hw' HP7.out.lt
                                    have z0 := e0.cell 0
                                    have z1 := e0.cell 1
                                    have e1 := nb7.below hw' nb7.lt
                                    go_wp2_with (go_at_call 58; with_reducible refine (HISc.out _ e1).mono ?_; rintro e w1 ⟨rfl, hb1⟩)
                                    first | exact hK _ _ rfl hw' | exact hK _ _ rfl (below_onto hw' hb1)
                                  simp only [Act.put, List.setIfInBounds_toArray, List.set_cons_succ, List.set_cons_zero]
                                iterate 4
                                  apply wpGrow_on rfl
                                  · intro w' hw' K hK
                                    have e0 := HP7.out.below hw' HP7.out.lt
                                    have z0 := e0.cell 0
                                    have z1 := e0.cell 1
                                    have e1 := nb7.below hw' nb7.lt
                                    go_wp2_with (go_at_call 52; with_reducible refine (HATc.out _ e1).mono ?_; rintro e w1 ⟨rfl, hb1⟩)
                                    first | exact hK _ _ rfl hw' | exact hK _ _ rfl (below_onto hw' hb1)
                                  simp only [Act.put, List.setIfInBounds_toArray, List.set_cons_succ, List.set_cons_zero]
                                iterate 2
                                  apply wpGrow_plain rfl
                                  · intro w' hw' K hK
                                    have e0 := HP7.out.below hw' HP7.out.lt
                                    have z0 := e0.cell 0
                                    have z1 := e0.cell 1
                                    have e1 := nb7.below hw' nb7.lt
                                    go_wp2_with (go_at_call 58; with_reducible refine (HISc.out _ e1).mono ?_; rintro e w1 ⟨rfl, hb1⟩)
                                    first | exact hK _ _ rfl hw' | exact hK _ _ rfl (below_onto hw' hb1)
                                  simp only [Act.put, List.setIfInBounds_toArray, List.set_cons_succ, List.set_cons_zero]
                                iterate 7
                                  apply wpGrow_on rfl
                                  · intro w' hw' K hK
                                    have e0 := HP7.out.below hw' HP7.out.lt
                                    have z0 := e0.cell 0
                                    have z1 := e0.cell 1
                                    have e1 := nb7.below hw' nb7.lt
                                    have fd := FD7.out _ hw'
                                    go_wp2_with (fail)
                                    exact hK _ _ rfl hw'
                                  simp only [Act.put, List.setIfInBounds_toArray, List.set_cons_succ, List.set_cons_zero]
                                refine wpGrow_nil ?_
                                intro W8 hW8
                                have o8 := own_below HOw7.out hW8
                                have d8 := HD7.out.below hW8 HD7.out.lt
                                have p8 := HPC7.out.below hW8 HPC7.out.lt
                                have O8 := HO7.out.onto hW8
                                have HE8 := Lib.hid (And.intro o8 (And.intro d8 (And.intro p8 O8)))
                                clear o8 d8 p8 O8
                                go_wp2_with fail
                                go_roundg (3 - s)
                                case measure => omega
                                case rel => exact ⟨C3, s + 1, by omega, by omega, by go_num, HSK.out, by rw [HM3.out]; exact HE8.out.1, HGP3.out, HE8.out.2.2.1, HE8.out.2.1, HE8.out.2.2.2⟩
                              case false =>
                                have HTK := Lib.hid (HFS3.out.take hnd2 HPT2.out (fun h => by have := HQ2.out.2 h; cases this))
                                clear hnd2
                                go_wp2_with fail
                                try rw [hnx]
                                try rw [hny]
                                obtain ⟨p2, hp2⟩ : ∃ p2, wr.heap.size = p2 := ⟨_, rfl⟩
                                obtain ⟨W7, hW7⟩ : ∃ W7, wr.alloc (.cells #[.int .i8 (x2 : Int), .int .i8 (y2 : Int)] 37) = W7 := ⟨_, rfl⟩
                                have HP7 : Hid (Holds W7 p2 #[.int .i8 (x2 : Int), .int .i8 (y2 : Int)]) := Lib.hid (by rw [← hW7]; exact Holds.new' _ _ _ _ hp2.symm)
                                have nb7 : Holds W7 b L.cells := by rw [← hW7]; exact nb6.alloc _
                                have HD7 : Hid (Holds W7 u (gridT (doneK (K ++ C3)))) := Lib.hid (by rw [← hW7]; exact HD6.out.alloc _)
                                have HPC7 : Hid (Holds W7 p #[.int .i8 cx, .int .i8 cy]) := Lib.hid (by rw [← hW7]; exact HP6.out.alloc _)
                                have HO7 : Hid (Only [u] W2 W7) := Lib.hid (by rw [← hW7]; exact HO6.out.alloc _)
                                have HOw7 : Hid (W7.ownsRow q0 37 2 (.slice av3 m3 cv3) m3 (flatP C3)) := Lib.hid (by rw [← hW7]; exact HOw6.out.alloc _)
                                try rw [hp2]
                                try rw [hW7]
                                have hup : u + 1 ≤ p2 := by have := HO6.out.size; omega
                                clear hW7 hp2 hnx hny c0 c1 nb6
                                have FD7 := Lib.hid (show ∀ w', Below W7.heap.size W7 w' → w'.cell? ⟨u, y2 * 10 + x2, none⟩ = some (.bool false) from fun w' hw' => ((HD7.out.below hw' HD7.out.lt).cell (y2 * 10 + x2)).trans HGT.out)
                                refine wp_region_grow 18 (by kernel_rfl) (by kernel_rfl) ?_
                                simp only [List.take_succ_cons, List.take_zero, List.drop_succ_cons, List.drop_zero]
                                iterate 5
                                  apply wpGrow_plain rfl
                                  · intro w' hw' K hK
                                    have e0 := HP7.out.below hw' HP7.out.lt
                                    have z0 := e0.cell 0
                                    have z1 := e0.cell 1
                                    have e1 := nb7.below hw' nb7.lt
                                    go_wp2_with (go_at_call 58; with_reducible refine (HISc.out _ e1).mono ?_; rintro e w1 ⟨rfl, hb1⟩)
                                    first | exact hK _ _ rfl hw' | exact hK _ _ rfl (below_onto hw' hb1)
                                  simp only [Act.put, List.setIfInBounds_toArray, List.set_cons_succ, List.set_cons_zero]
                                iterate 4
                                  apply wpGrow_on rfl
                                  · intro w' hw' K hK
                                    have e0 := HP7.out.below hw' HP7.out.lt
                                    have z0 := e0.cell 0
                                    have z1 := e0.cell 1
                                    have e1 := nb7.below hw' nb7.lt
                                    go_wp2_with (go_at_call 52; with_reducible refine (HATc.out _ e1).mono ?_; rintro e w1 ⟨rfl, hb1⟩)
                                    first | exact hK _ _ rfl hw' | exact hK _ _ rfl (below_onto hw' hb1)
                                  simp only [Act.put, List.setIfInBounds_toArray, List.set_cons_succ, List.set_cons_zero]
                                iterate 2
                                  apply wpGrow_plain rfl
                                  · intro w' hw' K hK
                                    have e0 := HP7.out.below hw' HP7.out.lt
                                    have z0 := e0.cell 0
                                    have z1 := e0.cell 1
                                    have e1 := nb7.below hw' nb7.lt
                                    go_wp2_with (go_at_call 58; with_reducible refine (HISc.out _ e1).mono ?_; rintro e w1 ⟨rfl, hb1⟩)
                                    first | exact hK _ _ rfl hw' | exact hK _ _ rfl (below_onto hw' hb1)
                                  simp only [Act.put, List.setIfInBounds_toArray, List.set_cons_succ, List.set_cons_zero]
                                iterate 7
                                  apply wpGrow_on rfl
                                  · intro w' hw' K hK
                                    have e0 := HP7.out.below hw' HP7.out.lt
                                    have z0 := e0.cell 0
                                    have z1 := e0.cell 1
                                    have e1 := nb7.below hw' nb7.lt
                                    have fd := FD7.out _ hw'
                                    go_wp2_with (fail)
                                    exact hK _ _ rfl hw'
                                  simp only [Act.put, List.setIfInBounds_toArray, List.set_cons_succ, List.set_cons_zero]
                                refine wpGrow_nil ?_
                                intro W8 hW8
                                have o8 := own_below HOw7.out hW8
                                have d8 := HD7.out.below hW8 HD7.out.lt
                                have p8 := HPC7.out.below hW8 HPC7.out.lt
                                have O8 := HO7.out.onto hW8
                                have HE8 := Lib.hid (And.intro o8 (And.intro d8 (And.intro p8 O8)))
                                clear o8 d8 p8 O8
                                have d8 := HE8.out.2.1
                                have P8 := HP7.out.below hW8 HP7.out.lt
                                have z0 := P8.cell 0
                                have z1 := P8.cell 1
                                obtain ⟨-, -, cd, zd, ld⟩ := d8.facts
                                have cd1 := (cd (y2 * 10 + x2)).trans HGT.out
                                have zd1 := zd (y2 * 10 + x2)
                                have HP8 := Lib.hid P8
                                clear cd zd d8 hkk P8
                                go_wp2_with fail
                                go_region
                                obtain ⟨W9, hW9⟩ : ∃ W9, W8.drew.setCell ⟨u, y2 * 10 + x2, none⟩ (.bool true) = W9 := ⟨_, rfl⟩
                                have d9 : Holds W9 u (gridT (doneK ((K ++ C3) ++ [((x2 : Int), (y2 : Int))]))) := by
                                  rw [← hW9, ← doneK_more, ← gridT_set _ _ _ _ hy2 hx2]
                                  exact (HE8.out.2.1.below (Below.refl _ _).drew HE8.out.2.1.lt).setCell _ _
                                have O9 : Only [u] W2 W9 := by rw [← hW9]; exact HE8.out.2.2.2.drew.setCell (.inl (by simp)) _
                                have p9 : Holds W9 p #[.int .i8 cx, .int .i8 cy] := by rw [← hW9]; exact (HE8.out.2.2.1.below (Below.refl _ _).drew HE8.out.2.2.1.lt).setCell_other _ _ (by dsimp only; omega)
                                have P9 : Holds W9 p2 #[.int .i8 (x2 : Int), .int .i8 (y2 : Int)] := by rw [← hW9]; exact (HP8.out.below (Below.refl _ _).drew HP8.out.lt).setCell_other _ _ (by dsimp only; omega)
                                have o9 : W9.ownsRow q0 37 2 (.slice av3 m3 cv3) m3 (flatP C3) := by
                                  have hgw : W8.grownBy (W8.drew.setCell ⟨u, y2 * 10 + x2, none⟩ (.bool true)) (some u) := grown_set (w := W8) (w' := W8.drew) ⟨rfl, rfl, rfl, Nat.le_refl _, fun _ _ _ => rfl⟩ _ _
                                  rw [← hW9]
                                  exact HE8.out.1.kept hgw (by cases hv : Value.ownBlock (.slice av3 m3 cv3) with | none => exact .inl rfl | some z => exact .inr (by have := own_far HE8.out.1 z hv; simp; omega))
                                have hW9' : (W8.setCell ⟨u, y2 * 10 + x2, none⟩ (.bool true)).drew = W9 := hW9
                                rw [hW9']
                                have z0 := P9.cell 0
                                have z1 := P9.cell 1
                                have hl9 := d9.lt
                                have hp9 := p9.lt
                                have HE9 := Lib.hid (And.intro d9 (And.intro O9 (And.intro p9 o9)))
                                clear hW9 hW9' d9 O9 p9 P9 o9 cd1 zd1 ld
                                go_wp2_with (at_builtin; refine wpList_append_own_at _ rfl _ _ 45 rfl q0 37 i0 (.agg #[.int .i8 0, .int .i8 0]) 2 2 Try.underlying45 HI.out.1 HI.out.2.1 HI.out.2.2.1 HI.out.2.2.2 rfl (by decide) _ _ _ rfl (HE9.out.2.2.2.alloc _) ⟨W9.heap.size, 0, none⟩ 1 1 [.int .i8 (x2 : Int), .int .i8 (y2 : Int)] rfl rfl ?c1 ?c2 ?c3 ?c4 ?c5 ?_)
                                case c1 =>
                                  intro m z hz
                                  match m, hz with
                                  | 0, hz => simp at hz; subst hz; exact (Holds.new W9 #[.int .i8 (x2 : Int), .int .i8 (y2 : Int)] 37).cell 0
                                  | 1, hz => simp at hz; subst hz; exact (Holds.new W9 #[.int .i8 (x2 : Int), .int .i8 (y2 : Int)] 37).cell 1
                                case c2 => intro z hz; simp at hz; rcases hz with rfl | rfl <;> rfl
                                case c3 => unfold maxLen; omega
                                case c4 => omega
                                case c5 => have := HE9.out.2.1.size; have := HQ0.out; simp; omega
                                intro v' w10 hown' hgrow _ hat
                                have ho10 : w10.ownsRow q0 37 2 v' (C3 ++ [((x2 : Int), (y2 : Int))]).length (flatP (C3 ++ [((x2 : Int), (y2 : Int))])) := by
                                  rw [flatP_append, List.length_append, HM3.out]; exact hown'
                                have hd10 := held_grown (HE9.out.1.alloc (.cells #[.int .i8 (x2 : Int), .int .i8 (y2 : Int)] 37)) (HE9.out.2.2.2.alloc _) hgrow (by omega)
                                have hp10 : Holds w10 p #[.int .i8 cx, .int .i8 cy] := by
                                  obtain ⟨tt, htt⟩ := HE9.out.2.2.1.alloc (.cells #[.int .i8 (x2 : Int), .int .i8 (y2 : Int)] 37)
                                  exact ⟨tt, (hgrow.block p (by simp; omega) (fun e => HGP3.out e.symm)).trans htt⟩
                                have hO10 : Only [u] W2 w10 := (HE9.out.2.1.alloc _).grown hgrow (fun z hz => .inr (by have := own_far HE9.out.2.2.2 z hz; have := HQ0.out; omega))
                                have hv10 : v'.ownBlock ≠ some p := by
                                  rcases hat with h | h
                                  · rw [h]; exact HGP3.out
                                  · rw [h]; intro e; have e2 := Option.some.inj e; first | omega | (simp only [World.size_alloc] at e2; omega) | (rw [World.size_alloc] at e2; omega)
                                have HE10 := Lib.hid (And.intro ho10 (And.intro hd10 (And.intro hp10 (And.intro hO10 hv10))))
                                clear hown' hgrow hat ho10 hd10 hp10 hO10 hv10 z0 z1
                                go_wp2_with fail
                                go_roundg (3 - s)
                                case measure => omega
                                case rel => exact ⟨C3 ++ [((x2 : Int), (y2 : Int))], s + 1, by omega, by omega, by go_num, HTK.out, HE10.out.1, HE10.out.2.2.2.2, HE10.out.2.2.1, by rw [← List.append_assoc]; exact HE10.out.2.1, HE10.out.2.2.2.1⟩
                        · have hd1 : decide ((s : Int) - 1 ≤ 1) = false := by simp; omega
                          have hs3 : s = 3 := by omega
                          have HFS4 : Hid (FldS PS X K P C3 (cx, cy) (3 * (r + 1))) := Lib.hid (by have := HFS3.out; rw [hs3] at this; exact this)
                          clear hs3
                          have hwr : ((r : Int) - 1 + 1) = ((r + 1 : Nat) : Int) - 1 := by omega
                          go_wp2_with fail
                          go_roundg (3 - r)
                          case measure => omega
                          case rel => exact ⟨C3, r + 1, by omega, by omega, by go_num, HFS4.out, by rw [HM3.out]; exact HOw6.out, HGP3.out, HP6.out, HD6.out, HO6.out⟩
                    · have hd0 : decide ((r : Int) - 1 ≤ 1) = false := by simp; omega
                      have hr3 : r = 3 := by omega
                      have HFN := Lib.hid (show FldS PS X K P C2 (cx, cy) 9 from by have := HFS2.out; rw [hr3] at this; exact this)
                      clear hr3
                      have HFL := Lib.hid (show Fld PS X K C2 (j + 1) by rw [← HPl.out]; exact HFN.out.done.1)
                      have HTK := Lib.hid (show C2.take (j + 1) = P ++ [(cx, cy)] by rw [← HPl.out]; exact HFN.out.done.2)
                      have HLT := Lib.hid (show j + 1 ≤ C2.length by have := HFN.out.lt; rw [HPl.out] at this; exact this)
                      go_wp2_with fail
                      have hgk : 1 ≤ 101 - j := by omega
                      go_roundg (100 - j)
                      case measure => omega
                      case rel => exact ⟨C2, j + 1, by omega, HLT.out, by rw [HTK.out, HIW.out], by go_num, HFL.out, HOw5.out, HD5.out, HO5.out⟩
            · have hd0 : decide ((j : Int) < (m : Int)) = false := by simp; omega
              have hjm : j = m := by omega
              have HCT := Lib.hid (show C.take j = C by rw [hjm, ← HCM.out]; exact List.take_length)
              have HLE := Lib.hid (show C.length ≤ j by rw [HCM.out]; omega)
              have HHC := Lib.hid (HHO.out k K X C j HM.out HS.out HX0.out HF.out HLE.out)
              have HMk := Lib.hid (show MarkK PS (A.take (k + 1)) (K ++ C) by rw [HTk.out, HXX.out]; exact HM.out.new HS.out HF.out HLE.out)
              have HSk := Lib.hid (HF.out.shut HLE.out HS.out)
              have HIB2 := Lib.hid (insB_iff ED C)
              rw [HCT.out]
              obtain ⟨iv, hiv⟩ : ∃ iv, insB ED C = iv := ⟨_, rfl⟩
              rw [hiv] at HIB2 ⊢
              have HNe : Hid (HN (k + 1) = HN k + if iv = true then 1 else 0) := Lib.hid (by
                rw [HNk.out]
                congr 1
                have e : (newHole PS ED A (A.take k) X = true) = (iv = true) := propext (HHC.out.trans HIB2.out.symm)
                simp only [e])
              clear hjm hiv nb ho
              cases iv
              case true =>
                have HNe2 := Lib.hid (show HN (k + 1) = HN k + 1 from HNe.out)
                go_wp2_with fail
                go_roundw
                case rel => exact ⟨k + 1, K ++ C, by omega, by go_num, by rw [HNe2.out]; go_num, HMk.out, HSk.out, HD.out, HO.out⟩
                case measure => simp [intOf]; omega
              case false =>
                have HNe2 := Lib.hid (show HN (k + 1) = HN k from HNe.out)
                go_wp2_with fail
                go_roundw
                case rel => exact ⟨k + 1, K ++ C, by omega, by go_num, by rw [HNe2.out], HMk.out, HSk.out, HD.out, HO.out⟩
                case measure => simp [intOf]; omega
    · have hd0 : decide ((k : Int) < (N : Int)) = false := by simp; omega
      have hkN : k = N := by omega
      have HNL2 := HNL.out k
      have HKN := Lib.hid hkN
      clear hkN
      have hBf : Below u w wr := kB.trans (HO.out.toBelow (by simp) (by omega))
      go_wp2_with fail
      go_ret
      exact ⟨by rw [HKN.out]; rfl, hBf⟩
/-- RingsOf, of the model. -/
theorem specRings_any (L : Lawn) (hL : L.Fits) (w : World) :
    Calls Try.prog 12 #[.agg L.cells] w fun e w' => e = .returned (.tuple #[.int .i64 (ringsZ L), .int .i64 (pcC L)]) ∧ Below w.heap.size w w' :=
  specRings_of L hL w fun hv b w' h => by
    obtain ⟨h1, h2, -⟩ := validB_true hv
    exact sholes_any L.wide.toNat L.high.toNat (by omega) (by omega) (by omega) (by omega) L hL hv (by omega) (by omega) b w' h
end Go.Proofs.Ytaeenkjbmlgcmaa
