/- How many holes there are, of the program. -/
import Derived.Test.YtaeenkjbmlgcmaaHoleC
import Derived.Test.YtaeenkjbmlgcmaaISpread
import Derived.Test.YtaeenkjbmlgcmaaZE
namespace Go.Proofs.Ytaeenkjbmlgcmaa
open Go.RowKit Go.Shelf
set_option linter.unusedVariables false
set_option linter.unusedSimpArgs false
attribute [local go_sem] Oper.semAt_some
attribute [local go_sem ↓] loadRow loadGrid loadLawn loadMirror storeRow storeGrid storeLawn allocRow allocGrid allocLawn buildZero buildSides loadRow' loadGrid' loadLawn' loadMirror' storeRow' storeGrid' storeLawn' allocRow' allocGrid' allocLawn' buildZero' buildSides'

def ptF {W H : Nat} (c : Fin W × Fin H) : Pt := ((c.1.val : Int), (c.2.val : Int))
/-- What the program knows, in its map at block b. -/
def KnowsE (L : Lawn) (b : Nat) (pre : List Pt) (w : World) : Prop := ∃ K, EdgeK (bareP L) (edgeB L) pre K ∧ Shut8 (bareP L) K ∧ K.Nodup ∧ MapIs w b cellK .bool (knownL K)
theorem knowsE_own (L : Lawn) (b B : Nat) (hb : b < B) {β : Type} (f : β → List Pt) : OwnFrom B (fun (p : β) w => KnowsE L b (f p) w) := fun p W W' row ⟨K, h1, h2, h3, h4⟩ hg hr =>
  ⟨K, h1, h2, h3, h4.block (hg.block b h4.lt (fun e => by have := (hr b e.symm).1; omega))⟩
def KnowsP (L : Lawn) (A : List Pt) (b : Nat) (pre : List Pt) (w : World) : Prop := ∃ K, PreK (bareP L) (edgeB L) A pre K ∧ Shut8 (bareP L) K ∧ K.Nodup ∧ MapIs w b cellK .bool (knownL K)
theorem knowsP_own (L : Lawn) (A : List Pt) (b B : Nat) (hb : b < B) {β : Type} (f : β → List Pt) : OwnFrom B (fun (p : β) w => KnowsP L A b (f p) w) := fun p W W' row ⟨K, h1, h2, h3, h4⟩ hg hr =>
  ⟨K, h1, h2, h3, h4.block (hg.block b h4.lt (fun e => by have := (hr b e.symm).1; omega))⟩

theorem only_trans {T : List Nat} {w0 w w' : World} (h : Only T w0 w) (k : Only T w w') : Only T w0 w' :=
  ⟨k.os.trans h.os, k.tape.trans h.tape, k.output.trans h.output, Nat.le_trans h.size k.size, fun j hj hT => (k.block j (Nat.lt_of_lt_of_le hj h.size) hT).trans (h.block j hj hT)⟩
theorem keepsFrom_only {T : List Nat} {B : Nat} {W W' : World} (h : Only T W W') (hT : ∀ k ∈ T, k < B) : KeepsFrom B W W' :=
  ⟨h.size, fun k o hB hk ho => (h.block k (Array.getElem?_eq_some_iff.1 hk).1 (fun hm => by have := hT k hm; omega)).trans hk⟩
theorem idxSd4 (f : Sd) (w : World) : (Instr.index 159 (.agg (sdV f)) (.int .i64 4)).run Try.prog w = .ok (.int .i64 (f 4)) w := by kernel_rfl

set_option maxRecDepth 100000 in
set_option maxHeartbeats 4000000 in
theorem holes_loop (Wn Hn : Nat) (hW : Wn ≤ 10) (hH : Hn ≤ 10) (L : Lawn) (hL : L.Fits) (hLw : L.wide = Wn) (hLh : L.high = Hn) (hV : validB L = true) (w : World) :
    Calls Try.prog 50 #[.agg L.cells] w fun e w' => e = .returned (.int .i64 (holeN (bareP L) (edgeB L) ((allC Wn Hn).map ptF) ((allC Wn Hn).map ptF))) ∧ Below w.heap.size w w' := by
  have HSD := Lib.hid (fun (c : Fin Wn × Fin Hn) (w : World) => sidesAt_any L hV c.1.val c.2.val (by omega) (by have := c.1.isLt; omega) (by omega) (by have := c.2.isLt; omega) w)
  have HED := Lib.hid (fun (c : Fin Wn × Fin Hn) => show decide (0 < sidesL L (ptF c) 4) = edgeB L (ptF c) from edge_sides hV (by
    have h1 := c.1.isLt
    have h2 := c.2.isLt
    have h3 : inB ((c.1.val : Int)) 0 (L.wide - 1) = true := by unfold inB; simp; omega
    have h4 : inB ((c.2.val : Int)) 0 (L.high - 1) = true := by unfold inB; simp; omega
    show (inB ((c.1.val : Int)) 0 (L.wide - 1) && inB ((c.2.val : Int)) 0 (L.high - 1)) = true
    rw [h3, h4]
    rfl))
  have HSP := Lib.hid (fun (s : Pt) (b : Nat) (K0 : List Pt) (h1 : Shut8 (bareP L) K0) (h2 : K0.Nodup) (w : World) (hm : MapIs w b cellK .bool (knownL K0)) => spread_any L hL hV s b K0 h1 h2 w hm)
  have HGR := Lib.hid (fun (c : Fin Wn × Fin Hn) (w : World) => isGrass_is L hV hL c.1.val c.2.val _ rfl w)
  have HISB := Lib.hid (fun (c : Fin Wn × Fin Hn) => show isB L (ptF c).1 (ptF c).2 = true from by
    have h1 := c.1.isLt
    have h2 := c.2.isLt
    have h3 : inB ((c.1.val : Int)) 0 (L.wide - 1) = true := by unfold inB; simp; omega
    have h4 : inB ((c.2.val : Int)) 0 (L.high - 1) = true := by unfold inB; simp; omega
    show (inB ((c.1.val : Int)) 0 (L.wide - 1) && inB ((c.2.val : Int)) 0 (L.high - 1)) = true
    rw [h3, h4]
    rfl)
  have HL : Hid (L = ⟨(Wn : Int), (Hn : Int), L.kind⟩) := Lib.hid (by cases L; simp_all)
  have hmk := fun w => run_makeMap (P := Try.prog) 157 w
  obtain ⟨A, hA⟩ : ∃ A, (allC Wn Hn).map ptF = A := ⟨_, rfl⟩
  have HA := Lib.hid hA
  rw [hA]
  clear hLw hLh hV hL hA
  refine (callsIn_wide (n := 9)).1 ?_
  refine callsIn_of_wp_marks Try.func50 rfl trivial ?_ rfl
  simp only [Try.ntmps50, List.size_toArray, List.length_cons, List.length_nil, Nat.reduceAdd, Nat.reduceSub, Array.replicate_succ, Array.replicate_zero, List.push_toArray, List.append_toArray, List.nil_append, List.cons_append]
  obtain ⟨s, hs⟩ : ∃ s, w.heap.size = s := ⟨_, rfl⟩
  have rr := (((Holds.new w L.cells 29).alloc (.map #[] 0)).alloc (.cells #[.map (some (w.heap.size + 1))] 157)).row
  gi_wp2_with (refine ⟨trivial, ?_⟩; gi_at_call 99; refine (each_in Fence.wide _ trivial rfl _ _).mono ?_; rintro e w2 ⟨rfl, rfl⟩)
  clear rr
  obtain ⟨W0, hW0⟩ : ∃ W0, (((w.alloc (.cells L.cells 29)).alloc (.map #[] 0)).alloc (.cells #[.map (some (s + 1))] 157)).alloc (.cells L.cells 29) = W0 := ⟨_, rfl⟩
  have g0 : Holds W0 s L.cells := by rw [← hW0]; exact (((Holds.new' _ _ _ _ hs.symm).alloc _).alloc _).alloc _
  have gM : MapIs W0 (s + 1) cellK .bool (knownL []) := by
    rw [← hW0, ← hs]
    have := MapIs.made (κ := Pt) (enc := cellK) (val := Value.bool) (w.alloc (.cells L.cells 29))
    have h2 := (this.alloc (.cells #[.map (some (w.heap.size + 1))] 157)).alloc (.cells L.cells 29)
    simpa [knownL] using h2
  have g2 : Holds W0 (s + 1 + 1) #[.map (some (s + 1))] := by rw [← hW0]; exact (Holds.new' _ _ _ _ (by simp; omega)).alloc _
  have g3 : Holds W0 (s + 1 + 1 + 1) L.cells := by rw [← hW0]; exact Holds.new' _ _ _ _ (by simp; omega)
  have hB0 : Below s w W0 := by rw [← hW0, ← hs]; exact ((((Below.refl w.heap.size w).alloc (Nat.le_refl _) _).alloc (by simp) _).alloc (by simp; omega) _).alloc (by simp; omega) _
  have hz1 : s + 4 ≤ W0.heap.size := by rw [← hW0]; simp; omega
  have hz2 : W0.heap.size ≤ s + 4 := by rw [← hW0]; simp; omega
  try rw [hW0]
  clear hW0 hmk
  refine each_range (by omega) (p := 10) (q := 4) [s + 1] Wn Hn hW hH L.kind rfl (by rw [← HL.out]; exact g3)
    (fun pre W => KnowsE L (s + 1) (pre.map ptF) W) (fun c pre W => False)
    (knowsE_own L (s + 1) _ (by omega) (fun pre : List (Fin Wn × Fin Hn) => pre.map ptF)) (fun c => fun _ _ _ _ h _ _ => h.elim) ⟨[], show EdgeK (bareP L) (edgeB L) [] [] from fun c => by simp, show Shut8 (bareP L) [] from fun c hc => (List.not_mem_nil hc).elim, List.nodup_nil, gM⟩ ?assign ?body ?done ?stop
  case assign =>
    intro l x y W K hK
    simp only [cellV]
    gi_wp2
    exact hK
  case body =>
    rintro l pre x Bx W hl hr hO ⟨K, hK1, hK2, hK3, hM⟩ hBx bX hlt
    have HSx := Lib.hid (HSD.out x)
    have HEx := Lib.hid (HED.out x)
    have HPX := Lib.hid (show (pre ++ [x]).map ptF = pre.map ptF ++ [ptF x] by simp)
    obtain ⟨⟨xj, hxj⟩, ⟨xk, hxk⟩⟩ := x
    dsimp only at *
    simp only [cellV, List.setIfInBounds_toArray, List.set_cons_succ, List.set_cons_zero]
    have i0 := hO.holds g0 (by simp <;> omega)
    have i2 := hO.holds g2 (by simp <;> omega)
    have hO2 := Lib.hid hO
    have hsz := hO.size
    have HK := Lib.hid (And.intro hK1 (And.intro hK2 hK3))
    clear hr hlt hl hO g0 g2 g3 gM hK1 hK2 hK3
    obtain ⟨f, hf⟩ : ∃ f, sidesL L ((xj : Int), (xk : Int)) = f := ⟨_, rfl⟩
    have HF := Lib.hid hf
    rw [hf] at HSx
    clear hf
    have rr := i0.row
    obtain ⟨-, -, cx, -, -⟩ := bX.facts
    gi_wp2_with fail
    refine ⟨trivial, (CallsIn.inRound l (callsIn_wide.2 (HSx.out _))).mono ?_⟩
    rintro e w2 ⟨rfl, hb1⟩
    have j0 := i0.below hb1 i0.lt
    have j2 := i2.below hb1 i2.lt
    have jM := hM.below hb1 hM.lt
    have jX := bX.below hb1 bX.lt
    have jO : Only [s + 1] W0 w2 := hO2.out.onto hb1
    have hb0 := hb1
    have hf4 := idxSd4 f
    clear i0 i2 hM bX hb1 rr cx
    have jO2 : Only [s + 1] W w2 := Only.ofBelow hb0
    obtain ⟨eb, heb⟩ : ∃ e, edgeB L (ptF ((⟨xj, hxj⟩, ⟨xk, hxk⟩) : Fin Wn × Fin Hn)) = e := ⟨_, rfl⟩
    have HEB := Lib.hid heb
    have hd : decide (0 < f 4) = eb := by
      rw [← heb, ← HEx.out, ← HF.out]
      rfl
    clear heb hb0
    cases eb
    case false =>
      gi_wp2_with fail
      refine ⟨keepsFrom_only jO2 (by simp <;> omega), ((jO.block (s + 1 + 1 + 1) (by omega) (by simp <;> omega)).trans (hO2.out.block (s + 1 + 1 + 1) (by omega) (by simp <;> omega)).symm), jO, ?_⟩
      rw [HPX.out]
      exact ⟨K, HK.out.1.skip HEB.out, HK.out.2.1, HK.out.2.2, jM⟩
    case true =>
      have rr := j0.row
      obtain ⟨-, -, cx, -, -⟩ := jX.facts
      obtain ⟨-, -, c2, -, -⟩ := j2.facts
      gi_wp2_with fail
      refine ⟨trivial, (CallsIn.inRound l (callsIn_wide.2 (HSP.out ((xj : Int), (xk : Int)) (s + 1) K HK.out.2.1 HK.out.2.2 _ jM))).mono ?_⟩
      rintro e w3 ⟨⟨u, rfl⟩, ⟨K', hc', hs', hn', hM'⟩, hO3⟩
      have qO : Only [s + 1] W0 w3 := only_trans jO hO3
      have qO2 : Only [s + 1] W w3 := only_trans jO2 hO3
      clear rr cx c2 j0 j2 jM jX jO jO2 hO3
      gi_wp2_with fail
      refine ⟨keepsFrom_only qO2 (by simp <;> omega), ((qO.block (s + 1 + 1 + 1) (by omega) (by simp <;> omega)).trans (hO2.out.block (s + 1 + 1 + 1) (by omega) (by simp <;> omega)).symm), qO, ?_⟩
      rw [HPX.out]
      exact ⟨K', HK.out.1.snoc hc' HEB.out, hs', hn', hM'⟩
  case done =>
    rintro D W hD hO ⟨K, hK1, hK2, hK3, hM⟩ hK
    rw [HA.out] at hK1
    have i0 := hO.holds g0 (by simp <;> omega)
    have i2 := hO.holds g2 (by simp <;> omega)
    have hB1 : Below s w W := ⟨hO.os.trans hB0.os, hO.tape.trans hB0.tape, hO.output.trans hB0.output, Nat.le_trans hB0.size hO.size, fun k hk => (hO.block k (by omega) (by simp <;> omega)).trans (hB0.block k hk)⟩
    have hsz := hO.size
    have HK := Lib.hid (And.intro hK1 (And.intro hK2 hK3))
    clear hO g0 g2 g3 gM hB0 hK1 hK2 hK3
    obtain ⟨u, hu⟩ : ∃ u, W.heap.size = u := ⟨_, rfl⟩
    have rr := (i0.alloc (.cells #[.int .i64 0] 2)).row
    gi_wp2_with (refine ⟨trivial, ?_⟩; gi_at_call 99; refine (each_in Fence.wide _ trivial rfl _ _).mono ?_; rintro e w2 ⟨rfl, rfl⟩)
    clear rr
    obtain ⟨W1, hW1⟩ : ∃ W1, (W.alloc (.cells #[.int .i64 0] 2)).alloc (.cells L.cells 29) = W1 := ⟨_, rfl⟩
    have g0 : Holds W1 s L.cells := by rw [← hW1]; exact (i0.alloc _).alloc _
    have g2 : Holds W1 (s + 1 + 1) #[.map (some (s + 1))] := by rw [← hW1]; exact (i2.alloc _).alloc _
    have gM : MapIs W1 (s + 1) cellK .bool (knownL K) := by rw [← hW1]; exact (hM.alloc _).alloc _
    have gC : Holds W1 u #[.int .i64 0] := by rw [← hW1]; exact (Holds.new' _ _ _ _ hu.symm).alloc _
    have g3 : Holds W1 (u + 1) L.cells := by rw [← hW1]; exact Holds.new' _ _ _ _ (by simp; omega)
    have hB2 : Below s w W1 := by rw [← hW1]; exact (hB1.alloc (by omega) _).alloc (by simp; omega) _
    have hK1' : W1.heap[D]? = some (.deferred (some [])) := by
      have hDl : D < W.heap.size := (Array.getElem?_eq_some_iff.1 hK).1
      rw [← hW1, Below.heap_alloc _ _ _ (by simp; omega), Below.heap_alloc _ _ _ hDl]
      exact hK
    have hDu : D < u := by rw [← hu]; exact (Array.getElem?_eq_some_iff.1 hK).1
    have hz3 : u + 2 ≤ W1.heap.size := by rw [← hW1]; simp; omega
    have hz4 : W1.heap.size ≤ u + 2 := by rw [← hW1]; simp; omega
    try rw [hW1]
    clear hW1 i0 i2 hM hB1 hK hu
    refine each_range (by omega) (p := 22) (q := 6) [s + 1, u] Wn Hn hW hH L.kind rfl (by rw [← HL.out]; exact g3)
      (fun pre Wx => KnowsP L A (s + 1) (pre.map ptF) Wx ∧ Holds Wx u #[.int .i64 (holeN (bareP L) (edgeB L) A (pre.map ptF))]) (fun c pre W => False)
      (OwnFrom.and (knowsP_own L A (s + 1) _ (by omega) (fun pre : List (Fin Wn × Fin Hn) => pre.map ptF)) (Own.from (holds_own _ (fun pre : List (Fin Wn × Fin Hn) => #[.int .i64 (holeN (bareP L) (edgeB L) A (pre.map ptF))])) _)) (fun c => fun _ _ _ _ h _ _ => h.elim) ⟨⟨K, HK.out.1.pre, HK.out.2.1, HK.out.2.2, gM⟩, gC⟩ ?assign2 ?body2 ?done2 ?stop2
    case assign2 =>
      intro l x y W K hK
      simp only [cellV]
      gi_wp2
      exact hK
    case body2 =>
      rintro l pre x Bx W2 hl hr hO ⟨⟨K, hK1, hK2, hK3, hM⟩, hC⟩ hBx bX hlt
      have HGx := Lib.hid (HGR.out x)
      have HPX := Lib.hid (show (pre ++ [x]).map ptF = pre.map ptF ++ [ptF x] by simp)
      have HIS := Lib.hid (HISB.out x)
      have HSN := Lib.hid (holeN_snoc (bareP L) (edgeB L) A (pre.map ptF) (ptF x))
      have hle := holeN_le (bareP L) (edgeB L) A (pre.map ptF)
      have hpl : pre.length ≤ 100 := by
        have h2 : (allC Wn Hn).length ≤ 100 := by rw [allC_length]; exact Nat.le_trans (Nat.mul_le_mul hH hW) (by omega)
        omega
      rw [List.length_map] at hle
      obtain ⟨n, hn⟩ : ∃ n, holeN (bareP L) (edgeB L) A (pre.map ptF) = n := ⟨_, rfl⟩
      rw [hn] at HSN hC hle
      obtain ⟨⟨xj, hxj⟩, ⟨xk, hxk⟩⟩ := x
      dsimp only at *
      simp only [cellV, List.setIfInBounds_toArray, List.set_cons_succ, List.set_cons_zero]
      have i0 := hO.holds g0 (by simp <;> omega)
      have i2 := hO.holds g2 (by simp <;> omega)
      have hO2 := Lib.hid hO
      have hsz2 := hO.size
      have HKK := Lib.hid (And.intro hK1 (And.intro hK2 hK3))
      clear hr hlt hl hO g0 g2 g3 gM gC hK1 hK2 hK3 hn
      obtain ⟨gb, hgb⟩ : ∃ g, grassB L (xj : Int) (xk : Int) = g := ⟨_, rfl⟩
      rw [hgb] at HGx
      have HPB := Lib.hid (show bareP L (ptF ((⟨xj, hxj⟩, ⟨xk, hxk⟩) : Fin Wn × Fin Hn)) = !gb by
        unfold bareP
        rw [HIS.out, Bool.true_and, ← hgb]
        rfl)
      clear hgb
      have rr := i0.row
      obtain ⟨-, -, cx, -, -⟩ := bX.facts
      gi_wp2_with fail
      refine ⟨trivial, (CallsIn.inRound l (callsIn_wide.2 (HGx.out _))).mono ?_⟩
      rintro e w2 ⟨rfl, hb1⟩
      have j0 := i0.below hb1 i0.lt
      have j2 := i2.below hb1 i2.lt
      have jM := hM.below hb1 hM.lt
      have jC := hC.below hb1 hC.lt
      have jX := bX.below hb1 bX.lt
      have jO : Only [s + 1, u] W1 w2 := hO2.out.onto hb1
      have jO2 : Only [s + 1, u] W2 w2 := Only.ofBelow hb1
      clear i0 i2 hM hC bX hb1 rr cx
      cases gb
      case true =>
        have HNH := Lib.hid (show holeN (bareP L) (edgeB L) A (pre.map ptF ++ [ptF ((⟨xj, hxj⟩, ⟨xk, hxk⟩) : Fin Wn × Fin Hn)]) = n by
          rw [HSN.out, if_neg]
          · rfl
          · rw [HKK.out.1.hole, HPB.out]; simp)
        gi_wp2_with fail
        refine ⟨keepsFrom_only jO2 (by simp <;> omega), ((jO.block (u + 1) (by omega) (by simp <;> omega)).trans (hO2.out.block (u + 1) (by omega) (by simp <;> omega)).symm), jO, ?_⟩
        rw [HPX.out, HNH.out]
        exact ⟨⟨K, HKK.out.1.old HKK.out.2.1 (.inl HPB.out), HKK.out.2.1, HKK.out.2.2, jM⟩, jC⟩
      case false =>
        have hlk := (jM.look cellKey Try.underlying157 boolZ ((xj : Int), (xk : Int))).1
        obtain ⟨-, -, cx, -, -⟩ := jX.facts
        obtain ⟨-, -, c2, -, -⟩ := j2.facts
        by_cases hin : ((xj : Int), (xk : Int)) ∈ K
        · rw [knownL_in hin] at hlk
          simp only [cellK, cellV, Option.getD_some] at hlk
          have HIN := Lib.hid (show ptF ((⟨xj, hxj⟩, ⟨xk, hxk⟩) : Fin Wn × Fin Hn) ∈ K from hin)
          have HNH := Lib.hid (show holeN (bareP L) (edgeB L) A (pre.map ptF ++ [ptF ((⟨xj, hxj⟩, ⟨xk, hxk⟩) : Fin Wn × Fin Hn)]) = n by
            rw [HSN.out, if_neg]
            · rfl
            · rw [HKK.out.1.hole]; exact fun h => h.2 HIN.out)
          clear hin
          gi_wp2_with fail
          refine ⟨keepsFrom_only jO2 (by simp <;> omega), ((jO.block (u + 1) (by omega) (by simp <;> omega)).trans (hO2.out.block (u + 1) (by omega) (by simp <;> omega)).symm), jO, ?_⟩
          rw [HPX.out, HNH.out]
          exact ⟨⟨K, HKK.out.1.old HKK.out.2.1 (.inr HIN.out), HKK.out.2.1, HKK.out.2.2, jM⟩, jC⟩
        · rw [knownL_out hin] at hlk
          simp only [cellK, cellV, Option.getD_none] at hlk
          have HNH := Lib.hid (show holeN (bareP L) (edgeB L) A (pre.map ptF ++ [ptF ((⟨xj, hxj⟩, ⟨xk, hxk⟩) : Fin Wn × Fin Hn)]) = n + 1 by
            rw [HSN.out, if_pos]
            rw [HKK.out.1.hole, HPB.out]
            exact ⟨rfl, hin⟩)
          clear hin
          have rr := j0.row
          gi_wp2_with fail
          refine ⟨trivial, (CallsIn.inRound l (callsIn_wide.2 (HSP.out ((xj : Int), (xk : Int)) (s + 1) K HKK.out.2.1 HKK.out.2.2 _ jM))).mono ?_⟩
          rintro e w3 ⟨⟨u9, rfl⟩, ⟨K', hc', hs', hn', hM'⟩, hO3⟩
          have q3 : Only [s + 1, u] w2 w3 := ⟨hO3.os, hO3.tape, hO3.output, hO3.size, fun k hk hT => hO3.block k hk (fun h => hT (by simp at h ⊢; exact .inl h))⟩
          have qO : Only [s + 1, u] W1 w3 := only_trans jO q3
          have qO2 : Only [s + 1, u] W2 w3 := only_trans jO2 q3
          have qC := hO3.holds jC (by simp <;> omega)
          have hM9 : MapIs (w3.setCell ⟨u, 0, none⟩ (.int .i64 ((n : Int) + 1))) (s + 1) cellK .bool (knownL K') := hM'.setCell _ _ (by dsimp only; omega)
          have qC2 := qC.setCell 0 (.int .i64 ((n : Int) + 1))
          obtain ⟨-, fC, cC, zC, lC⟩ := qC.facts
          have qO3 : Only [s + 1, u] W1 (w3.setCell ⟨u, 0, none⟩ (.int .i64 ((n : Int) + 1))) := qO.setCell (.inl (by simp)) _
          have qO4 : Only [s + 1, u] W2 (w3.setCell ⟨u, 0, none⟩ (.int .i64 ((n : Int) + 1))) := qO2.setCell (.inl (by simp)) _
          have HKN := Lib.hid (HKK.out.1.new (x := ptF ((⟨xj, hxj⟩, ⟨xk, hxk⟩) : Fin Wn × Fin Hn)) hc')
          clear rr cx c2 j0 j2 jM jX jO jO2 hO3 q3 hlk jC hM'
          gi_wp2_with fail
          refine ⟨keepsFrom_only qO4 (by simp <;> omega), ((qO3.block (u + 1) (by omega) (by simp <;> omega)).trans (hO2.out.block (u + 1) (by omega) (by simp <;> omega)).symm), qO3, ?_⟩
          rw [HPX.out, HNH.out]
          exact ⟨⟨K', HKN.out, hs', hn', hM9⟩, qC2⟩
    case done2 =>
      rintro D2 W2 hD2 hO2 ⟨-, hC⟩ hKK
      have hB3 : Below s w W2 := ⟨hO2.os.trans hB2.os, hO2.tape.trans hB2.tape, hO2.output.trans hB2.output, Nat.le_trans hB2.size hO2.size, fun k hk => (hO2.block k (by omega) (by simp <;> omega)).trans (hB2.block k hk)⟩
      obtain ⟨-, -, c0, -, -⟩ := hC.facts
      rw [HA.out] at c0
      have hK2 : W2.heap[D]? = some (.deferred (some [])) := (hO2.block D (by omega) (by simp <;> omega)).trans hK1'
      have hne : D ≠ D2 := by omega
      gi_wp2
      refine ⟨by simp, .inl ⟨_, _, rfl, run_takeDeferred hKK, ⟨by simp, .inl ⟨_, _, rfl, run_takeDeferred ((World.putObj_heap_other hne).trans hK2), ?_⟩⟩⟩⟩
      refine ⟨.int .i64 (holeN (bareP L) (edgeB L) A A), ?_, rfl, ?_⟩
      · simp [results, Try.f50, go_sem]
      · rw [hs]
        have hsW : s ≤ W2.heap.size := by have := hO2.size; omega
        exact (hB3.grown (grownBy_putObj' W2 D2 (.deferred none)) (by omega) (fun k e => by cases e; omega)).grown (grownBy_putObj' _ D (.deferred none)) (by simp; omega) (fun k e => by cases e; omega)
    case stop2 =>
      rintro D2 c pre W hD _ h hK
      exact h.elim
  case stop =>
    rintro D c pre W hD _ h hK
    exact h.elim
end Go.Proofs.Ytaeenkjbmlgcmaa
