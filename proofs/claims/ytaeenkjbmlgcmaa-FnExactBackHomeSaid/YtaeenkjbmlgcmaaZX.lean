/- checkCells and checkOpen of the program, over any cells. slices.Grow of nothing and slices.Concat of two rows of cells, of the program. What functions of robots are told: a struct with a lawn in it; checkCells over any cells. What is told of robots is checked: one list of cells that have to be open, and targets. -/
import Derived.Test.YtaeenkjbmlgcmaaSTold
import Derived.Test.YtaeenkjbmlgcmaaCheck2
import Derived.Test.YtaeenkjbmlgcmaaChkO
import Derived.Test.YtaeenkjbmlgcmaaZL
import Derived.Test.YtaeenkjbmlgcmaaZM
import Derived.Lib.AppendZerosOnto
import Derived.Test.YtaeenkjbmlgcmaaZO
import Derived.Test.YtaeenkjbmlgcmaaGrowV2
namespace Go.Proofs.Ytaeenkjbmlgcmaa
open Go.RowKit
set_option linter.unusedVariables false
set_option linter.unusedSimpArgs false
attribute [local go_sem ↓] loadRow loadGrid loadLawn loadMirror storeRow storeGrid storeLawn allocRow allocGrid allocLawn buildZero buildSides

/-- Cells that can be read in every later world. -/
def ReadsP (w : World) (g : Nat) (l : List Pt) : Prop := ∀ w', Below w.heap.size w w' → ∀ (i : Nat) (c : Pt), l[i]? = some c → w'.cell? ⟨g, i * 2, none⟩ = some (.int .i8 c.1) ∧ w'.cell? ⟨g, i * 2 + 1, none⟩ = some (.int .i8 c.2)
theorem ReadsP.below {w w' : World} {g : Nat} {l : List Pt} (h : ReadsP w g l) (hb : Below w.heap.size w w') : ReadsP w' g l := fun w2 h2 => h w2 (below_onto hb h2)
theorem reads_own {w : World} {B g n cap : Nat} {e : TypeId} {l : List Pt} (h : w.ownsRow B e 2 (.slice (some ⟨g, 0, none⟩) n cap) n (flatP l)) : ReadsP w g l := fun w' hw' i c hc => by
  have h0 := flatP_at l i 0 (by omega)
  have h1 := flatP_at l i 1 (by omega)
  rw [hc] at h0 h1
  exact ⟨own_cell (own_below h hw') _ _ h0, own_cell (own_below h hw') _ _ h1⟩

set_option maxRecDepth 100000 in
set_option maxHeartbeats 1000000 in
theorem checkCells_list (L : Lawn) (hL : L.Fits) (l : List Pt) (n cap : Nat) (hn : l.length = n) (hn2 : n ≤ 1048577) (g : Nat) (w : World) (hc : ReadsP w g l) :
    Calls Try.prog 106 #[.agg L.cells, .slice (some ⟨g, 0, none⟩) n cap] w fun e w' => e = .returned (.int .i64 (told (validB L) (l.all (isP L)))) ∧ Below w.heap.size w w' := by
  have HI := Lib.hid (fun w => implValid_any L hL w)
  have HB := Lib.hid (fun (c : Pt) (w : World) => has_any L c.1 c.2 w)
  have HC := Lib.hid (show told (validB L) (l.all (isP L)) = if validB L then (if l.all (isP L) then 0 else 2) else 1 from rfl)
  obtain ⟨v, hv⟩ : ∃ v, validB L = v := ⟨_, rfl⟩
  obtain ⟨C, hC⟩ : ∃ C, told (validB L) (l.all (isP L)) = C := ⟨_, rfl⟩
  rw [hC] at HC ⊢
  rw [hv] at HI HC
  have HN := Lib.hid hn
  have HR := Lib.hid hc
  have g0 : Holds (w.alloc (.cells L.cells 29)) w.heap.size L.cells := Holds.new _ _ _
  have hb0 : Below w.heap.size w (w.alloc (.cells L.cells 29)) := (Below.refl w.heap.size w).alloc (Nat.le_refl _) _
  obtain ⟨W0, hW0⟩ : ∃ W0, w.alloc (.cells L.cells 29) = W0 := ⟨_, rfl⟩
  rw [hW0] at g0 hb0
  clear hn hc hv hC hL
  obtain ⟨r0, -, -, -, -⟩ := g0.facts
  go_enter Try.func106, Try.ntmps106
  go_wp2_with fail
  clear hW0 r0
  refine (HI.out _).mono ?_
  rintro e w1 ⟨rfl, hb1⟩
  have k0 := g0.below hb1 g0.lt
  have hb2 := below_onto hb0 hb1
  clear g0 hb0 hb1 HI
  cases v
  · have HC2 := HC.out
    simp only [Bool.false_eq_true, if_false] at HC2
    subst HC2
    go_wp2_with fail
    go_ret
    exact ⟨rfl, hb2⟩
  · have HC2 := HC.out
    simp only [if_true] at HC2
    have HC3 := Lib.hid HC2
    clear HC HC2
    go_wp2_with fail
    go_loopw [12] (fun i wr => ∃ k : Nat, k ≤ n ∧ i = .int .i64 k ∧ (l.take k).all (isP L) = true ∧ Holds wr w.heap.size L.cells ∧ Below w.heap.size w wr) (fun i _ => n - (intOf i).toNat)
    case atStart => exact ⟨0, by omega, rfl, by simp, k0, hb2⟩
    case round =>
      obtain ⟨k, hk, rfl, ho, j0, hb⟩ := hrel
      have HO := Lib.hid ho
      clear ho k0 hb2
      by_cases hlt : k < n
      · have hd : decide ((k : Int) < (n : Int)) = true := by simp; omega
        obtain ⟨c, hq⟩ : ∃ c, l[k]? = some c := ⟨_, List.getElem?_eq_getElem (by rw [HN.out]; exact hlt)⟩
        have HTQ := Lib.hid (show (l.take (k + 1)).all (isP L) = isP L c by
          rw [List.take_add_one, hq, List.all_append, HO.out]; simp)
        have HNO := Lib.hid (show isP L c = false → l.all (isP L) = false from fun h0 => by
          rw [List.all_eq_false]
          exact ⟨c, List.mem_of_getElem? hq, by simp [h0]⟩)
        obtain ⟨q0, q1⟩ := HR.out wr hb k c hq
        have HBC := Lib.hid (HB.out c)
        obtain ⟨cx, cy⟩ := c
        dsimp only at q0 q1
        have HBC2 := Lib.hid (show ∀ w : World, Calls Try.prog 110 #[.agg L.cells, .agg #[.int .i8 cx, .int .i8 cy]] w fun e w' => e = .returned (.bool (isP L (cx, cy))) ∧ Below w.heap.size w w' from HBC.out)
        obtain ⟨u, hu⟩ : ∃ u, isP L (cx, cy) = u := ⟨_, rfl⟩
        rw [hu] at HBC2 HTQ HNO
        have rr : rowAt (wr.alloc (.cells #[.int .i8 cx, .int .i8 cy] 37)) w.heap.size = L.cells := (j0.alloc _).facts.1
        have v0 := j0.alloc (.cells #[.int .i8 cx, .int .i8 cy] 37)
        have hb3 := hb.alloc hb.size (.cells #[.int .i8 cx, .int .i8 cy] 37)
        clear hq hu HBC
        go_wp2_with fail
        refine (HBC2.out _).mono ?_
        rintro e w5 ⟨rfl, hb5⟩
        have v1 := v0.below hb5 v0.lt
        have hb6 := hb3.trans (hb5.mono (by have := v0.lt; omega))
        clear j0 hb hb5 q0 q1 rr v0 hb3
        cases u
        · have HC2 := HC3.out
          rw [HNO.out rfl] at HC2
          simp only [Bool.false_eq_true, if_false] at HC2
          subst HC2
          go_wp2_with fail
          go_ret
          exact ⟨rfl, hb6⟩
        · go_wp2_with fail
          go_roundw
          case rel => exact ⟨k + 1, by omega, by go_num, HTQ.out, v1, hb6⟩
          case measure => simp [intOf]; omega
      · have hd : decide ((k : Int) < (n : Int)) = false := by simp; omega
        have htk : l.take k = l := List.take_of_length_le (by rw [HN.out]; omega)
        have HO2 := HO.out
        rw [htk] at HO2
        have HC2 := HC3.out
        rw [HO2] at HC2
        simp only [if_true] at HC2
        subst HC2
        clear htk HO2
        go_wp2_with fail
        go_ret
        exact ⟨rfl, hb⟩

set_option maxRecDepth 100000 in
set_option maxHeartbeats 1000000 in
theorem checkOpen_list (L : Lawn) (hL : L.Fits) (l : List Pt) (n cap : Nat) (hn : l.length = n) (hn2 : n ≤ 1048577) (g : Nat) (w : World) (hc : ReadsP w g l) :
    Calls Try.prog 63 #[.agg L.cells, .slice (some ⟨g, 0, none⟩) n cap] w fun e w' => e = .returned (.int .i64 (toldC L l true)) ∧ Below w.heap.size w w' := by
  have HCK := Lib.hid (fun (w : World) (h : ReadsP w g l) => checkCells_list L hL l n cap hn hn2 g w h)
  have HT := Lib.hid (show told (validB L) (l.all (isP L)) = if validB L then (if l.all (isP L) then 0 else 2) else 1 from rfl)
  have HC := Lib.hid (show toldC L l true = if validB L then (if l.all (isP L) then (if l.all (openP L) then 0 else 4) else 2) else 1 from rfl)
  have HOP := Lib.hid (fun (hv : validB L = true) (c : Pt) (w : World) => isOpen_any L hv hL c.1 c.2 w)
  obtain ⟨v, hv⟩ : ∃ v, validB L = v := ⟨_, rfl⟩
  obtain ⟨f, hf⟩ : ∃ f, l.all (isP L) = f := ⟨_, rfl⟩
  obtain ⟨C, hC⟩ : ∃ C, toldC L l true = C := ⟨_, rfl⟩
  rw [hC] at HC ⊢
  rw [hv] at HCK HT HC HOP
  rw [hf] at HCK HT HC
  have HN := Lib.hid hn
  have HR := Lib.hid hc
  have g0 : Holds (w.alloc (.cells L.cells 29)) w.heap.size L.cells := Holds.new _ _ _
  have hb0 : Below w.heap.size w (w.alloc (.cells L.cells 29)) := (Below.refl w.heap.size w).alloc (Nat.le_refl _) _
  obtain ⟨W0, hW0⟩ : ∃ W0, w.alloc (.cells L.cells 29) = W0 := ⟨_, rfl⟩
  rw [hW0] at g0 hb0
  clear hn hc hv hC hL hf
  obtain ⟨r0, -, -, -, -⟩ := g0.facts
  go_enter Try.func63, Try.ntmps63
  go_wp2_with fail
  clear hW0 r0
  refine (HCK.out _ (HR.out.below hb0)).mono ?_
  rintro e w1 ⟨rfl, hb1⟩
  have k0 := g0.below hb1 g0.lt
  have hb2 := below_onto hb0 hb1
  clear g0 hb0 hb1 HCK
  rw [HT.out]
  have HC2 := HC.out
  cases v <;> cases f
  case true.true =>
    simp only [if_true] at HC2 ⊢
    have HC3 := Lib.hid HC2
    have HO2 := Lib.hid (HOP.out rfl)
    clear HC2 HC HOP HT
    go_wp2_with fail
    go_loopw [16] (fun i wr => ∃ k : Nat, k ≤ n ∧ i = .int .i64 k ∧ (l.take k).all (openP L) = true ∧ Holds wr w.heap.size L.cells ∧ Below w.heap.size w wr) (fun i _ => n - (intOf i).toNat)
    case atStart => exact ⟨0, by omega, rfl, by simp, k0, hb2⟩
    case round =>
      obtain ⟨k, hk, rfl, ho, j0, hb⟩ := hrel
      have HO := Lib.hid ho
      clear ho k0 hb2
      by_cases hlt : k < n
      · have hd : decide ((k : Int) < (n : Int)) = true := by simp; omega
        obtain ⟨c, hq⟩ : ∃ c, l[k]? = some c := ⟨_, List.getElem?_eq_getElem (by rw [HN.out]; exact hlt)⟩
        have HTQ := Lib.hid (show (l.take (k + 1)).all (openP L) = openP L c by
          rw [List.take_add_one, hq, List.all_append, HO.out]; simp)
        have HNO := Lib.hid (show openP L c = false → l.all (openP L) = false from fun h0 => by
          rw [List.all_eq_false]
          exact ⟨c, List.mem_of_getElem? hq, by simp [h0]⟩)
        obtain ⟨q0, q1⟩ := HR.out wr hb k c hq
        have HBC := Lib.hid (HO2.out c)
        obtain ⟨cx, cy⟩ := c
        dsimp only at q0 q1
        have HBC2 := Lib.hid (show ∀ w : World, Calls Try.prog 78 #[.agg L.cells, .agg #[.int .i8 cx, .int .i8 cy]] w fun e w' => e = .returned (.bool (openP L (cx, cy))) ∧ Below w.heap.size w w' from HBC.out)
        obtain ⟨u, hu⟩ : ∃ u, openP L (cx, cy) = u := ⟨_, rfl⟩
        rw [hu] at HBC2 HTQ HNO
        have rr : rowAt (wr.alloc (.cells #[.int .i8 cx, .int .i8 cy] 37)) w.heap.size = L.cells := (j0.alloc _).facts.1
        have v0 := j0.alloc (.cells #[.int .i8 cx, .int .i8 cy] 37)
        have hb3 := hb.alloc hb.size (.cells #[.int .i8 cx, .int .i8 cy] 37)
        clear hq hu HBC
        go_wp2_with fail
        refine (HBC2.out _).mono ?_
        rintro e w5 ⟨rfl, hb5⟩
        have v1 := v0.below hb5 v0.lt
        have hb6 := hb3.trans (hb5.mono (by have := v0.lt; omega))
        clear j0 hb hb5 q0 q1 rr v0 hb3
        cases u
        · have HC2 := HC3.out
          rw [HNO.out rfl] at HC2
          simp only [Bool.false_eq_true, if_false] at HC2
          subst HC2
          go_wp2_with fail
          go_ret
          exact ⟨rfl, hb6⟩
        · go_wp2_with fail
          go_roundw
          case rel => exact ⟨k + 1, by omega, by go_num, HTQ.out, v1, hb6⟩
          case measure => simp [intOf]; omega
      · have hd : decide ((k : Int) < (n : Int)) = false := by simp; omega
        have htk : l.take k = l := List.take_of_length_le (by rw [HN.out]; omega)
        have HO3 := HO.out
        rw [htk] at HO3
        have HC2 := HC3.out
        rw [HO3] at HC2
        simp only [if_true] at HC2
        subst HC2
        clear htk HO3
        go_wp2_with fail
        go_ret
        exact ⟨rfl, hb⟩
  all_goals
    simp only [if_true, Bool.false_eq_true, if_false] at HC2 ⊢
    subst HC2
    go_wp2_with fail
    go_ret
    exact ⟨rfl, hb2⟩
end Go.Proofs.Ytaeenkjbmlgcmaa

namespace Go.Proofs.Ytaeenkjbmlgcmaa
open Go.RowKit
set_option linter.unusedVariables false
set_option linter.unusedSimpArgs false
attribute [local go_sem ↓] loadRow loadGrid loadLawn loadMirror storeRow storeGrid storeLawn allocRow allocGrid allocLawn buildZero buildSides

set_option maxRecDepth 100000 in
set_option maxHeartbeats 1000000 in
theorem growNil_any (n : Nat) (h1 : 1 ≤ n) (h2 : n ≤ 2000000) (w : World) :
    Calls Try.prog 143 #[.slice none 0 0, .int .i64 n] w fun e w' =>
      (∃ v, e = .returned v ∧ w'.ownsRow w.heap.size 37 2 v 0 []) ∧ Below w.heap.size w w' := by
  obtain ⟨ci, hi, hz0, hz1, hz2⟩ := info_parts cellInfo
  have hbb : Try.t37.bytes = 2 := rfl
  have h48i : ¬ (281474976710656 < (n : Int) * (Try.t37.bytes : Int)) := by rw [hbb]; omega
  have h48' : ¬ (281474976710656 < Builtin.nextslicecap n 0 * Try.t37.bytes) := by rw [hbb]; unfold Builtin.nextslicecap; split <;> omega
  have hn0 : ¬ (n = 0) := by omega
  have hn2 : ¬ (n * 2 = 0) := by omega
  have h63 : ¬ (9223372036854775807 < (n : Int)) := by omega
  have hng : ¬ ((n : Int) < 0) := by omega
  obtain ⟨G, hG⟩ : ∃ G, (Question.appendCap n 0 37).cut (w.tape w.drawn (Question.appendCap n 0 37)) = G := ⟨_, rfl⟩
  have hG0 : grownCap w n 0 37 = G := hG
  have hG1 : n ≤ G := by rw [← hG0]; exact grownCap_ge w _ _ _
  have hG2 : G ≤ maxLen := by rw [← hG0]; exact grownCap_le_maxLen w n 0 _ (by unfold maxLen; omega)
  have hG63 : G ≤ 9223372036854775807 := by unfold maxLen at hG2; omega
  obtain ⟨cs, hcs⟩ : ∃ cs, Builtin.zeroCells #[Value.int IntKind.i8 0, Value.int IntKind.i8 0] n ++ Builtin.zeroCells #[Value.int IntKind.i8 0, Value.int IntKind.i8 0] (G - n) = cs := ⟨_, rfl⟩
  have hsz : cs.size = G * 2 := by
    rw [← hcs]
    simp [Builtin.zeroCells]
    omega
  have hd1 : decide ((n : Int) < 0) = false := decide_eq_false (by omega)
  have hd2 : decide (0 < n) = true := decide_eq_true (by omega)
  have hw : wrap64 ((n : Int) - 0) = n := by unfold wrap64; omega
  have HCS := Lib.hid hcs
  have HSZ := Lib.hid hsz
  have HG2 := Lib.hid hG2
  clear hi hz0 hz1 hz2 hbb hG0 hcs hsz hG2
  go_enter Try.func143, Try.ntmps143
  go_wp2_with fail
  go_ret
  refine ⟨⟨_, rfl, by simp, .inr ⟨w.heap.size, G, cs, rfl, Nat.le_refl _, ?_, by omega, HG2.out, HSZ.out, by simp⟩⟩, ((Below.refl _ _).alloc (Nat.le_refl _) _).drew⟩
  rw [HCS.out]
  exact heap_alloc_new w _

/-- A row of cells that lay there. -/
def RowP (w : World) (v : Value) (l : List Pt) : Prop := (l = [] ∧ v = .slice none 0 0) ∨ ∃ g c, v = .slice (some ⟨g, 0, none⟩) l.length c ∧ g < w.heap.size ∧ ∀ w', Below w.heap.size w w' → ∀ (i : Nat) u, (flatP l)[i]? = some u → w'.cell? ⟨g, i, none⟩ = some u
theorem RowP.below {w w' : World} {v : Value} {l : List Pt} (h : RowP w v l) (hb : Below w.heap.size w w') : RowP w' v l := by
  rcases h with h | ⟨g, c, h1, h2, h3⟩
  · exact .inl h
  · exact .inr ⟨g, c, h1, Nat.lt_of_lt_of_le h2 hb.size, fun w2 h4 => h3 w2 (below_onto hb h4)⟩
theorem RowP.slice {w : World} {v : Value} {l : List Pt} (h : RowP w v l) : ∃ a c, v = .slice a l.length c := by
  rcases h with ⟨rfl, rfl⟩ | ⟨g, c, h1, -⟩
  · exact ⟨_, _, rfl⟩
  · exact ⟨_, _, h1⟩

set_option maxRecDepth 100000 in
set_option maxHeartbeats 2000000 in
theorem concat_two (l1 l2 : List Pt) (h1 : 1 ≤ l1.length) (h2 : l1.length + l2.length ≤ 1048577) (v1 v2 : Value) (g cap : Nat) (w : World) (hr : Holds w g #[v1, v2]) (hv1 : RowP w v1 l1) (hv2 : RowP w v2 l2) :
    Calls Try.prog 113 #[.slice (some ⟨g, 0, none⟩) 2 cap] w fun e w' => (∃ v, e = .returned v ∧ w'.ownsRow w.heap.size 37 2 v (l1.length + l2.length) (flatP (l1 ++ l2))) ∧ Below w.heap.size w w' := by
  obtain ⟨ci, hi, hz0, hz1, hz2⟩ := info_parts cellInfo
  have HCI := Lib.hid (show Try.prog.info? 37 = some ci ∧ ci.zero = some (.agg #[.int .i8 0, .int .i8 0]) ∧ ci.size = 2 ∧ ci.bytes = 2 from ⟨hi, hz0, hz1, hz2⟩)
  obtain ⟨a1, c1, e1⟩ := hv1.slice
  obtain ⟨a2, c2, e2⟩ := hv2.slice
  have HV1 := Lib.hid hv1
  have HV2 := Lib.hid hv2
  have HF1 := Lib.hid (flatP_len l1)
  have HF2 := Lib.hid (flatP_len l2)
  obtain ⟨n1, hn1⟩ : ∃ n, l1.length = n := ⟨_, rfl⟩
  obtain ⟨n2, hn2⟩ : ∃ n, l2.length = n := ⟨_, rfl⟩
  rw [hn1] at h1 h2 e1 HF1 ⊢
  rw [hn2] at h2 e2 HF2 ⊢
  have HN1 := Lib.hid hn1
  have HN2 := Lib.hid hn2
  subst e1 e2
  have HGR := Lib.hid (fun w => growNil_any (n1 + n2) (by omega) (by omega) w)
  have hw1 : wrap64 ((n1 : Int) + (n2 : Int)) = (n1 : Int) + n2 := by unfold wrap64; omega
  have hw0 : wrap64 ((0 : Int) + (n1 : Int)) = (n1 : Int) := by unfold wrap64; omega
  have hd1 : decide ((n1 : Int) < 0) = false := decide_eq_false (by omega)
  have hd2 : decide ((n1 : Int) + n2 < 0) = false := decide_eq_false (by omega)
  have q0 : w.cell? ⟨g, 0, none⟩ = some (.slice a1 n1 c1) := hr.cell 0
  have q1 : w.cell? ⟨g, 1, none⟩ = some (.slice a2 n2 c2) := hr.cell 1
  have hgl := hr.lt
  obtain ⟨B, hB⟩ : ∃ B, w.heap.size = B := ⟨_, rfl⟩
  rw [hB]
  have HB := Lib.hid hB
  clear hB hi hz0 hz1 hz2 hv1 hv2 hn1 hn2
  go_enter Try.func113, Try.ntmps113
  go_wp2_with fail
  go_loopw [3, 5, 11] (fun z _ i wr => wr = w ∧ ∃ k : Nat, k ≤ 2 ∧ i = .int .i64 k ∧ z = .int .i64 (if k = 0 then 0 else if k = 1 then (n1 : Int) else (n1 : Int) + n2)) (fun _ _ i _ => 2 - (intOf i).toNat)
  case atStart => exact ⟨rfl, 0, by omega, rfl, rfl⟩
  case round =>
    obtain ⟨hwr, k, hk, rfl, rfl⟩ := hrel
    rw [hwr]
    clear hwr wr
    rcases (by omega : k = 0 ∨ k = 1 ∨ k = 2) with rfl | rfl | rfl
    · simp only [if_true]
      go_wp2_with fail
      go_roundw
      case rel => exact ⟨trivial, 1, by omega, by go_num, rfl⟩
      case measure => simp [intOf]
    · simp only [Nat.one_ne_zero, if_false, if_true]
      go_wp2_with fail
      go_roundw
      case rel => exact ⟨trivial, 2, by omega, by go_num, rfl⟩
      case measure => simp [intOf]
    · simp only [show ¬ (2 = 0) by omega, show ¬ (2 = 1) by omega, if_false]
      have hcast : ((n1 : Int) + n2) = ((n1 + n2 : Nat) : Int) := by omega
      rw [hcast]
      clear hcast
      go_wp2_with fail
      refine (HGR.out _).mono ?_
      rintro e w1 ⟨⟨v, rfl, ho⟩, hb⟩
      have hgl2 := hgl
      have HR := Lib.hid hr
      rw [HB.out] at ho hb hgl
      have HO := Lib.hid ho
      clear q0 q1 hr HGR ho hgl2
      go_wp2_with fail
      go_loopw [6, 8, 27] (fun v _ i wr2 => Below B w wr2 ∧ ∃ k : Nat, k ≤ 2 ∧ i = .int .i64 k ∧ ((k = 0 ∧ wr2.ownsRow B 37 2 v 0 []) ∨ (k = 1 ∧ wr2.ownsRow B 37 2 v n1 (flatP l1)) ∨ (k = 2 ∧ wr2.ownsRow B 37 2 v (n1 + n2) (flatP (l1 ++ l2))))) (fun _ _ i _ => 2 - (intOf i).toNat)
      case atStart => exact ⟨hb, 0, by omega, rfl, .inl ⟨rfl, HO.out⟩⟩
      case round =>
        obtain ⟨hb2, k, hk, rfl, hcs⟩ := hrel
        clear HO hb
        have HBS := Lib.hid (show B ≤ wr.heap.size by have := hb2.size; rw [HB.out] at this; exact this)
        have HRW := HR.out.below (by rw [← HB.out] at hb2; exact hb2) (by rw [HB.out]; exact hgl)
        have q0 : wr.cell? ⟨g, 0, none⟩ = some (.slice a1 n1 c1) := HRW.cell 0
        have q1 : wr.cell? ⟨g, 1, none⟩ = some (.slice a2 n2 c2) := HRW.cell 1
        clear HRW
        rcases hcs with ⟨rfl, ho⟩ | ⟨rfl, ho⟩ | ⟨rfl, ho⟩
        · obtain ⟨aa, cc, rfl⟩ := own_slice ho
          have HOO := Lib.hid ho
          rcases HV1.out with ⟨hl, -⟩ | ⟨g1, c1', hv, hg1, hcell⟩
          · have := HN1.out; rw [hl] at this; simp at this; omega
          simp only [Value.slice.injEq] at hv
          obtain ⟨rfl, -, rfl⟩ := hv
          have HCC := Lib.hid (hcell wr (by rw [HB.out]; exact hb2))
          have HFF := HF1
          clear ho hcell hg1
          go_wp2_with (at_builtin; refine wpList_append_own_at _ rfl _ _ 45 rfl B 37 ci (.agg #[.int .i8 0, .int .i8 0]) 2 2 Try.underlying45 HCI.out.1 HCI.out.2.1 HCI.out.2.2.1 HCI.out.2.2.2 rfl (by decide) _ _ _ rfl HOO.out ⟨g1, 0, none⟩ n1 _ (flatP l1) rfl HFF.out ?c1 ?c2 ?c3 ?c4 ?c5 ?_)
          case c1 => intro j u hu; have h9 := HCC.out j u hu; by_cases h0 : j = 0 <;> simpa [Addr.add, h0] using h9
          case c2 =>
            intro u hu
            unfold flatP at hu
            simp only [List.mem_flatMap, List.mem_cons, List.not_mem_nil, or_false] at hu
            obtain ⟨c, -, rfl | rfl⟩ := hu <;> rfl
          case c3 => unfold maxLen; omega
          case c4 => omega
          case c5 => exact HBS.out
          intro v' w3 hown' hgrow _ hat
          · have HO3 := Lib.hid hown'
            have hb3 : Below B w w3 := hb2.grown hgrow HBS.out (fun k hk => own_far HOO.out k hk)
            clear hown' hgrow hat HCC q0 q1
            go_wp2_with fail
            go_roundw
            case rel => exact ⟨hb3, 1, by omega, by go_num, .inr (.inl ⟨rfl, by simpa using HO3.out⟩)⟩
            case measure => simp [intOf]
        · have hle : ∃ ga cc, u6 = .slice (some ⟨ga, 0, none⟩) n1 cc ∧ n1 ≤ cc := by
            rcases ho.2 with ⟨-, h0⟩ | ⟨ga, cc, cur, h3, -, -, h4, -⟩
            · omega
            · exact ⟨ga, cc, h3, h4⟩
          obtain ⟨ga, cc, rfl, hle⟩ := hle
          have HOO := Lib.hid ho
          rcases HV2.out with ⟨hl, hv⟩ | ⟨g2, c2', hv, hg2, hcell⟩
          · have hn20 : n2 = 0 := by rw [← HN2.out, hl]; rfl
            simp only [Value.slice.injEq] at hv
            obtain ⟨rfl, -, rfl⟩ := hv
            subst hn20
            have HL := Lib.hid hl
            clear ho hl
            go_wp2_with fail
            go_roundw
            case rel => exact ⟨hb2, 2, by omega, by go_num, .inr (.inr ⟨rfl, by rw [HL.out, List.append_nil]; exact HOO.out⟩)⟩
            case measure => simp [intOf]
          · simp only [Value.slice.injEq] at hv
            obtain ⟨rfl, -, rfl⟩ := hv
            have HCC := Lib.hid (hcell wr (by rw [HB.out]; exact hb2))
            have HFF := HF2
            clear ho hcell hg2
            go_wp2_with (at_builtin; refine wpList_append_own_at _ rfl _ _ 45 rfl B 37 ci (.agg #[.int .i8 0, .int .i8 0]) 2 2 Try.underlying45 HCI.out.1 HCI.out.2.1 HCI.out.2.2.1 HCI.out.2.2.2 rfl (by decide) _ _ _ rfl HOO.out ⟨g2, 0, none⟩ n2 _ (flatP l2) rfl HFF.out ?c1 ?c2 ?c3 ?c4 ?c5 ?_)
            case c1 => intro j u hu; have h9 := HCC.out j u hu; by_cases h0 : j = 0 <;> simpa [Addr.add, h0] using h9
            case c2 =>
              intro u hu
              unfold flatP at hu
              simp only [List.mem_flatMap, List.mem_cons, List.not_mem_nil, or_false] at hu
              obtain ⟨c, -, rfl | rfl⟩ := hu <;> rfl
            case c3 => unfold maxLen; omega
            case c4 => omega
            case c5 => exact HBS.out
            intro v' w3 hown' hgrow _ hat
            · have HO3 := Lib.hid hown'
              have hb3 : Below B w w3 := hb2.grown hgrow HBS.out (fun k hk => own_far HOO.out k hk)
              clear hown' hgrow hat HCC q0 q1
              have HAP := Lib.hid (show flatP (l1 ++ l2) = flatP l1 ++ flatP l2 from by simp [flatP])
              go_wp2_with fail
              go_roundw
              case rel => exact ⟨hb3, 2, by omega, by go_num, .inr (.inr ⟨rfl, by rw [HAP.out]; exact HO3.out⟩)⟩
              case measure => simp [intOf]
        · have HOO := Lib.hid ho
          clear ho
          go_wp2_with fail
          go_ret
          exact ⟨⟨_, rfl, HOO.out⟩, hb2⟩
end Go.Proofs.Ytaeenkjbmlgcmaa

namespace Go.Proofs.Ytaeenkjbmlgcmaa
open Go.RowKit
set_option linter.unusedVariables false
set_option linter.unusedSimpArgs false
attribute [local go_sem ↓] loadRow loadGrid loadLawn loadMirror storeRow storeGrid storeLawn allocRow allocGrid allocLawn buildZero buildSides

def askA (L : Lawn) (v1 v2 v3 : Value) (full : Int) : Array Value := L.cells ++ #[v1, v2, v3, .int .i64 full]
@[simp, go_sem] theorem askA_size (L : Lawn) (v1 v2 v3 : Value) (full : Int) : (askA L v1 v2 v3 full).size = 106 := by simp [askA]
@[simp, go_sem] theorem askA_lawn (L : Lawn) (v1 v2 v3 : Value) (full : Int) : (askA L v1 v2 v3 full).extract 0 102 = L.cells := by
  unfold askA
  rw [Array.extract_append]
  simp
theorem askA_at (L : Lawn) (v1 v2 v3 : Value) (full : Int) : (askA L v1 v2 v3 full)[102]? = some v1 ∧ (askA L v1 v2 v3 full)[103]? = some v2 ∧ (askA L v1 v2 v3 full)[104]? = some v3 ∧ (askA L v1 v2 v3 full)[105]? = some (.int .i64 full) := by
  unfold askA
  refine ⟨?_, ?_, ?_, ?_⟩ <;> rw [Array.getElem?_append_right (by simp)] <;> simp
section
variable {ρ : Operand → Value} {w : World} {dst : Option Tmp} {x y z : Operand} {t : TypeId} {pos : String} {aft : Array Edge} {g : Option (Nat × Bool)}
set_option maxRecDepth 100000 in
theorem buildAsk3 : (execOp ρ ⟨dst, .build 109 #[(0, x), (1, y), (4, z)], t, pos, aft, g⟩).run Try.prog w = opBuild Try.prog 109 #[(0, ρ x), (1, ρ y), (4, ρ z)] w := by kernel_rfl
end
set_option maxRecDepth 100000 in
theorem buildAsk3_at (L : Lawn) (a : Option Addr) (n c : Nat) (full : Int) (w : World) : opBuild Try.prog 109 #[(0, .agg L.cells), (1, .slice a n c), (4, .int .i64 full)] w = .ok (.value (.agg (askA L (.slice a n c) (.slice none 0 0) (.slice none 0 0) full))) w := opBuild_of (by kernel_rfl) w
end Go.Proofs.Ytaeenkjbmlgcmaa

namespace Go.Proofs.Ytaeenkjbmlgcmaa
open Go.RowKit
set_option linter.unusedVariables false
set_option linter.unusedSimpArgs false
attribute [local go_sem ↓] loadRow loadGrid loadLawn loadMirror storeRow storeGrid storeLawn allocRow allocGrid allocLawn buildZero buildSides

/-- The code of a lawn, cells that have to be open, a charge, and how many of the cells are targets. -/
def askZ (L : Lawn) (l : List Pt) (full : Int) (n2 : Nat) : Int := if validB L then (if l.all (isP L) && upZ full 400 then (if 5 < n2 then 3 else if l.all (openP L) then 0 else 4) else 2) else 1

theorem indexNil_any (f : Value) (w : World) : Calls Try.prog 144 #[.slice none 0 0, f] w fun e w' => e = .returned (.int .i64 (-1)) ∧ w' = w := by
  go_enter Try.func144, Try.ntmps144
  go_wp2_with fail
  go_loopw [5, 8] (fun _ i wr => wr = w ∧ i = .int .i64 0) (fun _ _ _ => 0)
  case atStart => exact ⟨rfl, rfl⟩
  case round =>
    obtain ⟨rfl, rfl⟩ := hrel
    go_wp2_with fail
    go_ret
    exact ⟨rfl, rfl⟩
theorem containsNil_any (f : Value) (w : World) : Calls Try.prog 115 #[.slice none 0 0, f] w fun e w' => e = .returned (.bool false) ∧ w' = w := by
  have H := Lib.hid (fun w => indexNil_any f w)
  go_enter Try.func115, Try.ntmps115
  go_wp2_with fail
  refine (H.out _).mono ?_
  rintro e w' ⟨rfl, rfl⟩
  go_wp2_with fail
  go_ret
  exact ⟨rfl, rfl⟩

set_option maxRecDepth 100000 in
set_option maxHeartbeats 4000000 in
theorem askedCheck_any (L : Lawn) (hL : L.Fits) (l1 l2 : List Pt) (h1 : 1 ≤ l1.length) (h2 : l1.length + l2.length ≤ 1048577) (v1 v2 : Value) (full : Int) (w : World) (hv1 : RowP w v1 l1) (hv2 : RowP w v2 l2) :
    Calls Try.prog 71 #[.agg (askA L v1 v2 (.slice none 0 0) full)] w fun e w' => e = .returned (.int .i64 (askZ L (l1 ++ l2) full l2.length)) ∧ Below w.heap.size w w' := by
  obtain ⟨a1, c1, e1⟩ := hv1.slice
  obtain ⟨a2, c2, e2⟩ := hv2.slice
  obtain ⟨l, hl⟩ : ∃ l, l1 ++ l2 = l := ⟨_, rfl⟩
  have hll : l.length = l1.length + l2.length := by rw [← hl, List.length_append]
  have HCC := Lib.hid (fun (g cap : Nat) (w : World) (hc : ReadsP w g l) => checkCells_list L hL l (l1.length + l2.length) cap hll h2 g w hc)
  have HCO := Lib.hid (fun (g cap : Nat) (w : World) (hc : ReadsP w g l) => checkOpen_list L hL l (l1.length + l2.length) cap hll h2 g w hc)
  have HCT := Lib.hid (fun (g cap : Nat) (w : World) (hr : Holds w g #[v1, v2]) (hv1 : RowP w v1 l1) (hv2 : RowP w v2 l2) => concat_two l1 l2 h1 h2 v1 v2 g cap w hr hv1 hv2)
  have HUP := Lib.hid (fun w => upTo64_is full 400 (upZ full 400) rfl w)
  have HT := Lib.hid (show told (validB L) (l.all (isP L)) = if validB L then (if l.all (isP L) then 0 else 2) else 1 from rfl)
  have hTO : toldC L l true = if validB L then (if l.all (isP L) then (if l.all (openP L) then 0 else 4) else 2) else 1 := rfl
  have hZ : askZ L l full l2.length = if validB L then (if l.all (isP L) && upZ full 400 then (if 5 < l2.length then 3 else if l.all (openP L) then 0 else 4) else 2) else 1 := rfl
  rw [hl] at HCT ⊢
  obtain ⟨n1, hn1⟩ : ∃ n, l1.length = n := ⟨_, rfl⟩
  obtain ⟨n2, hn2⟩ : ∃ n, l2.length = n := ⟨_, rfl⟩
  obtain ⟨v, hv⟩ : ∃ v, validB L = v := ⟨_, rfl⟩
  obtain ⟨f, hf⟩ : ∃ f, l.all (isP L) = f := ⟨_, rfl⟩
  obtain ⟨o, ho⟩ : ∃ o, l.all (openP L) = o := ⟨_, rfl⟩
  obtain ⟨u, hu⟩ : ∃ u, upZ full 400 = u := ⟨_, rfl⟩
  obtain ⟨C, hC⟩ : ∃ C, askZ L l full l2.length = C := ⟨_, rfl⟩
  obtain ⟨D, hD⟩ : ∃ D, toldC L l true = D := ⟨_, rfl⟩
  rw [hC] at hZ ⊢
  rw [hn1, hn2] at HCC HCO
  rw [hD] at HCO hTO
  rw [hv, hf, hu, ho, hn2] at hZ
  rw [hv, hf, ho] at hTO
  rw [hv, hf] at HT HCC
  rw [hu] at HUP
  rw [hn1] at e1 h1 h2 HCT
  rw [hn2] at e2 h2 HCT
  rw [e1, e2] at HCT ⊢
  rw [e1] at hv1
  rw [e2] at hv2
  have HZ := Lib.hid hZ
  have HTO := Lib.hid hTO
  clear hZ hTO
  have HV1 := Lib.hid hv1
  have HV2 := Lib.hid hv2
  have hs1 := fun (i : Nat) (u : Value) => (askA_at L (.slice a1 n1 c1) (.slice a2 n2 c2) (.slice none 0 0) full)
  obtain ⟨x0, x1, x2, x3⟩ := askA_at L (.slice a1 n1 c1) (.slice a2 n2 c2) (.slice none 0 0) full
  obtain ⟨A, hA⟩ : ∃ A, askA L (.slice a1 n1 c1) (.slice a2 n2 c2) (.slice none 0 0) full = A := ⟨_, rfl⟩
  have hAs : A.size = 106 := by rw [← hA]; simp
  have hAl : A.extract 0 102 = L.cells := by rw [← hA]; simp
  rw [hA] at x0 x1 x2 x3 ⊢
  have HX := Lib.hid (show A[102]? = some (.slice a1 n1 c1) ∧ A[103]? = some (.slice a2 n2 c2) ∧ A[104]? = some (.slice none 0 0) ∧ A[105]? = some (.int .i64 full) from ⟨x0, x1, x2, x3⟩)
  have HAS := Lib.hid hAs
  have HAL := Lib.hid hAl
  obtain ⟨s, hs⟩ : ∃ s, w.heap.size = s := ⟨_, rfl⟩
  have g0 : Holds (w.alloc (.cells A 109)) s A := by rw [← hs]; exact Holds.new _ _ _
  have g1 := g0.alloc (.cells #[.slice a1 n1 c1, .slice a2 n2 c2] 45)
  have g2 := Holds.new' (w.alloc (.cells A 109)) #[.slice a1 n1 c1, .slice a2 n2 c2] 45 (s + 1) (by simp; omega)
  have hb0 : Below s w ((w.alloc (.cells A 109)).alloc (.cells #[.slice a1 n1 c1, .slice a2 n2 c2] 45)) := by rw [← hs]; exact ((Below.refl w.heap.size w).alloc (Nat.le_refl _) _).alloc (by simp) _
  have y0 : (w.alloc (.cells A 109)).cell? ⟨s, 102, none⟩ = some (.slice a1 n1 c1) := (g0.cell 102).trans x0
  have y1 : (w.alloc (.cells A 109)).cell? ⟨s, 103, none⟩ = some (.slice a2 n2 c2) := (g0.cell 103).trans x1
  have y2 : ((w.alloc (.cells A 109)).alloc (.cells #[.slice a1 n1 c1, .slice a2 n2 c2] 45)).cell? ⟨s, 104, none⟩ = some (.slice none 0 0) := (g1.cell 104).trans x2
  have HS := Lib.hid hs
  clear hs1 hA hAs hAl x0 x1 x2 x3 hn1 hn2 hv hf ho hu hC hD hl hll e1 e2 hv1 hv2 hL
  go_enter Try.func71, Try.ntmps71
  go_wp2_with fail
  obtain ⟨W0, hW0⟩ : ∃ W0, (w.alloc (.cells A 109)).alloc (.cells #[.slice a1 n1 c1, .slice a2 n2 c2] 45) = W0 := ⟨_, rfl⟩
  have r1 : RowP W0 (.slice a1 n1 c1) l1 := HV1.out.below (by rw [← hW0]; exact ((Below.refl w.heap.size w).alloc (Nat.le_refl _) _).alloc (by simp) _)
  have r2 : RowP W0 (.slice a2 n2 c2) l2 := HV2.out.below (by rw [← hW0]; exact ((Below.refl w.heap.size w).alloc (Nat.le_refl _) _).alloc (by simp) _)
  rw [hW0] at g1 g2 hb0
  try rw [hW0]
  clear hW0 y0 y1 y2 HV1 HV2 g0
  have HR1 := Lib.hid r1
  have HR2 := Lib.hid r2
  have HG1 := Lib.hid g1
  have HG2 := Lib.hid g2
  have h12 : 1 ≤ n1 + n2 := by omega
  clear r1 r2
  refine wp_region_growV 5 3 [4] (fun p w' => ∃ g c, p = .slice (some ⟨g, 0, none⟩) (n1 + n2) c ∧ ReadsP w' g l) (fun p w1 w2 ⟨g, c, h1, h2⟩ hb => ⟨g, c, h1, h2.below hb⟩)
    (fun p => [.pointer (some ⟨s, 0, none⟩), .agg L.cells, .slice (some ⟨s + 1, 0, none⟩) 2 2, p, .int .i64 (told v f)]) (by
      intro p p' j h1 h2
      match j with
      | 0 => rfl
      | 1 => rfl
      | 2 => rfl
      | 3 => exact absurd rfl h1
      | 4 => simp at h2
      | j + 5 => rfl) (by kernel_rfl) (by kernel_rfl) (by kernel_rfl) ?_
  intro p
  simp only [List.take_succ_cons, List.take_zero, List.drop_succ_cons, List.drop_zero]
  iterate 3
    refine seqV_free rfl rfl rfl rfl ?_ ?_
    · intro w' hw' K hK
      have f0 := (HG1.out.below hw' HG1.out.lt).row
      have f1 := HAS.out
      have f2 := HAL.out
      go_wp2_with fail
      exact hK _ _ rfl (Below.refl _ _)
    simp only [Act.put, List.setIfInBounds_toArray, List.set_cons_succ, List.set_cons_zero, List.getD_cons_zero, List.getD_cons_succ, Nat.reduceAdd]
  refine seqV_call rfl rfl (fun q => rfl) ?_ ?_
  · intro w' hw' K hK
    go_wp2_with fail
    refine (HCT.out _ _ _ (HG2.out.below hw' HG2.out.lt) (HR1.out.below hw') (HR2.out.below hw')).mono ?_
    rintro e w4 ⟨⟨v, rfl, ho⟩, hb4⟩
    obtain ⟨g, cap, rfl, -, -⟩ := own_form ho h12
    exact hK _ _ _ rfl hb4 ⟨g, cap, rfl, reads_own ho⟩
  simp only [Act.put, List.setIfInBounds_toArray, List.set_cons_succ, List.set_cons_zero, List.getD_cons_zero, List.getD_cons_succ, Nat.reduceAdd]
  refine seqV_dep rfl rfl rfl rfl ?_ ?_
  · rintro w' hw' ⟨g, c, rfl, hr⟩ K hK
    go_wp2_with fail
    refine (HCC.out _ _ _ hr).mono ?_
    rintro e w4 ⟨rfl, hb4⟩
    exact hK _ _ rfl hb4
  simp only [Act.put, List.setIfInBounds_toArray, List.set_cons_succ, List.set_cons_zero, List.getD_cons_zero, List.getD_cons_succ, Nat.reduceAdd]
  refine seqV_nil ?_
  rintro w2 hsz2 hbw -
  have k1 := HG1.out.below hbw HG1.out.lt
  have hb3 := hb0.trans (hbw.mono (by have := HG2.out.lt; omega))
  have q1 := HR1.out.below hbw
  have q2 := HR2.out.below hbw
  have HQ1 := Lib.hid q1
  have HQ2 := Lib.hid q2
  have hsl := k1.lt
  clear HG1 HG2 g1 g2 hbw hb0 q1 q2 HR1 HR2 HCC hsz2
  have hz := HZ.out
  have htt := HT.out
  have x1 : w2.cell? ⟨s, 103, none⟩ = some (.slice a2 n2 c2) := (k1.cell 103).trans HX.out.2.1
  have x2 : w2.cell? ⟨s, 104, none⟩ = some (.slice none 0 0) := (k1.cell 104).trans HX.out.2.2.1
  have x3 : w2.cell? ⟨s, 105, none⟩ = some (.int .i64 full) := (k1.cell 105).trans HX.out.2.2.2
  have HCN := Lib.hid (fun (f : Value) (w : World) => containsNil_any f w)
  by_cases hvf : v = true ∧ f = true
  case neg =>
    have hCT : C = told v f ∧ told v f ≠ 0 := by
      rw [hz, htt]
      cases v <;> cases f <;> simp at hvf ⊢
    obtain ⟨T, hT⟩ : ∃ T, told v f = T := ⟨_, rfl⟩
    rw [hT] at hCT ⊢
    obtain ⟨rfl, hTn⟩ := hCT
    have hTd : (C != 0) = true := by simpa using hTn
    clear hz htt hTn x1 x2 x3 hvf HCN HUP HT
    go_wp2_with fail
    go_ret
    exact ⟨rfl, HS.out ▸ hb3⟩
  obtain ⟨rfl, rfl⟩ := hvf
  rw [htt]
  clear htt
  simp only [if_true, Bool.true_and] at hz ⊢
  cases u
  · simp only [Bool.false_eq_true, if_false] at hz
    subst hz
    go_wp2_with fail
    refine (HUP.out _).mono ?_
    rintro e w4 ⟨rfl, rfl⟩
    go_wp2_with fail
    go_ret
    exact ⟨rfl, HS.out ▸ hb3⟩
  simp only [if_true] at hz
  by_cases h5 : 5 < n2
  · rw [if_pos h5] at hz
    subst hz
    have hd5 : decide (5 < n2) = true := decide_eq_true h5
    have hd5' : decide ((5 : Int) < (n2 : Int)) = true := decide_eq_true (by omega)
    clear h5
    go_wp2_with fail
    refine (HUP.out _).mono ?_
    rintro e w4 ⟨rfl, rfl⟩
    go_wp2_with fail
    go_ret
    exact ⟨rfl, HS.out ▸ hb3⟩
  · rw [if_neg h5] at hz
    have hd5 : decide (5 < n2) = false := decide_eq_false h5
    have hd5' : decide ((5 : Int) < (n2 : Int)) = false := decide_eq_false (by omega)
    have hzd : C = D := by
      rw [hz]
      have := HTO.out
      simp only [if_true] at this
      exact this.symm
    clear h5 hz
    go_wp2_with fail
    refine (HUP.out _).mono ?_
    rintro e w4 ⟨rfl, rfl⟩
    go_wp2_with fail
    refine (HCN.out _ _).mono ?_
    rintro e w4 ⟨rfl, rfl⟩
    go_wp2_with fail
    refine (HCN.out _ _).mono ?_
    rintro e w4 ⟨rfl, rfl⟩
    go_wp2_with fail
    subst hzd
    have HQ3 := Lib.hid k1
    have b1 := k1
    clear x1 x2 x3 HUP HCN HZ hd5 hd5'
    refine wp_region_growV2 9 6 7 [8] (fun p w' => ∃ g, p = .slice (some ⟨g, 0, none⟩) 2 2 ∧ Holds w' g #[.slice a1 n1 c1, .slice a2 n2 c2]) (fun p w' => ∃ g c, p = .slice (some ⟨g, 0, none⟩) (n1 + n2) c ∧ ReadsP w' g l) (fun p w1 w2 ⟨g, h1, h2⟩ hb => ⟨g, h1, h2.below hb h2.lt⟩) (fun p w1 w2 ⟨g, c, h1, h2⟩ hb => ⟨g, c, h1, h2.below hb⟩)
      (fun p q => [.pointer (some ⟨s, 0, none⟩), .agg L.cells, .pointer (some ⟨s, 102, none⟩), .slice a1 n1 c1, .pointer (some ⟨s, 103, none⟩), .slice a2 n2 c2, p, q, .int .i64 C]) (by
        intro p q p' q' j h1 h2 h3
        match j with
        | 0 => rfl
        | 1 => rfl
        | 2 => rfl
        | 3 => rfl
        | 4 => rfl
        | 5 => rfl
        | 6 => exact absurd rfl h1
        | 7 => exact absurd rfl h2
        | 8 => rfl
        | j + 9 => rfl) (fun p q => rfl) (fun p q => rfl) (by kernel_rfl) (by kernel_rfl) (by kernel_rfl) ?_
    intro p q
    simp only [List.take_succ_cons, List.take_zero, List.drop_succ_cons, List.drop_zero]
    iterate 6
      refine seqV2_free rfl rfl rfl rfl rfl ?_ ?_
      · intro w' hw' K hK
        have k := HQ3.out.below hw' HQ3.out.lt
        have f0 := k.row
        have f1 := HAS.out
        have f2 := HAL.out
        have f3 : w'.cell? ⟨s, 102, none⟩ = some (.slice a1 n1 c1) := (k.cell 102).trans HX.out.1
        have f4 : w'.cell? ⟨s, 103, none⟩ = some (.slice a2 n2 c2) := (k.cell 103).trans HX.out.2.1
        go_wp2_with fail
        exact hK _ _ rfl (Below.refl _ _)
      simp only [Act.put, List.setIfInBounds_toArray, List.set_cons_succ, List.set_cons_zero, List.getD_cons_zero, List.getD_cons_succ, Nat.reduceAdd]
    refine seqV2_call rfl rfl rfl ?_ ?_
    · intro w' hw' K hK
      have k := HQ3.out.below hw' HQ3.out.lt
      go_wp2_with fail
      exact hK _ _ _ rfl ((Below.refl _ _).alloc (Nat.le_refl _) _) ⟨_, rfl, Holds.new _ _ _⟩
    simp only [Act.put, List.setIfInBounds_toArray, List.set_cons_succ, List.set_cons_zero, List.getD_cons_zero, List.getD_cons_succ, Nat.reduceAdd]
    refine seqV2_call2 rfl rfl rfl rfl ?_ ?_
    · rintro w' hw' ⟨g, rfl, hg⟩ K hK
      go_wp2_with fail
      refine (HCT.out _ _ _ hg (HQ1.out.below hw') (HQ2.out.below hw')).mono ?_
      rintro e w4 ⟨⟨v, rfl, ho⟩, hb4⟩
      obtain ⟨g, cap, rfl, -, -⟩ := own_form ho h12
      exact hK _ _ _ rfl hb4 ⟨g, cap, rfl, reads_own ho⟩
    simp only [Act.put, List.setIfInBounds_toArray, List.set_cons_succ, List.set_cons_zero, List.getD_cons_zero, List.getD_cons_succ, Nat.reduceAdd]
    refine seqV2_dep rfl rfl rfl rfl rfl ?_ ?_
    · rintro w' hw' - ⟨g, c, rfl, hr⟩ K hK
      go_wp2_with fail
      refine (HCO.out _ _ _ hr).mono ?_
      rintro e w4 ⟨rfl, hb4⟩
      exact hK _ _ rfl hb4
    simp only [Act.put, List.setIfInBounds_toArray, List.set_cons_succ, List.set_cons_zero, List.getD_cons_zero, List.getD_cons_succ, Nat.reduceAdd]
    refine seqV2_nil ?_
    rintro w5 hsz5 hbw5 - -
    have hb6 := hb3.trans (hbw5.mono (by omega))
    go_wp2_with fail
    go_ret
    exact ⟨rfl, HS.out ▸ hb6⟩
end Go.Proofs.Ytaeenkjbmlgcmaa
