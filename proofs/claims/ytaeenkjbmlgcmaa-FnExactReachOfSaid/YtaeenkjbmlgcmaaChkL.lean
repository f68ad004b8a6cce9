/- checkCells and checkOpen of the program, over any cells. -/
import Derived.Test.YtaeenkjbmlgcmaaSTold
import Derived.Test.YtaeenkjbmlgcmaaCheck2
import Derived.Test.YtaeenkjbmlgcmaaChkO
import Derived.Test.YtaeenkjbmlgcmaaSortOwn
namespace Go.Proofs.Ytaeenkjbmlgcmaa
open Go.RowKit
set_option linter.unusedVariables false
set_option linter.unusedSimpArgs false
attribute [local go_sem ↓] loadRow loadGrid loadLawn loadMirror storeRow storeGrid storeLawn allocRow allocGrid allocLawn buildZero buildSides

/-- Cells that can be read in every later world. -/
def ReadsP (w : World) (g : Nat) (l : List Pt) : Prop := ∀ w', Below w.heap.size w w' → ∀ (i : Nat) (c : Pt), l[i]? = some c → w'.cell? ⟨g, i * 2, none⟩ = some (.int .i8 c.1) ∧ w'.cell? ⟨g, i * 2 + 1, none⟩ = some (.int .i8 c.2)
theorem ReadsP.below {w w' : World} {g : Nat} {l : List Pt} (h : ReadsP w g l) (hb : Below w.heap.size w w') : ReadsP w' g l := fun w2 h2 => h w2 (below_onto hb h2)
theorem reads_own {w : World} {B g n cap : Nat} {e : TypeId} {l : List Pt} (h : w.ownsRow B e 2 (.slice (some ⟨g, 0, none⟩) n cap) n (flatP l)) : ReadsP w g l := fun w' hw' i c hc => by
  have h0 := flatP_at l i 0 (by omega)
  have h1 := flatP_at l i 1 (by omega)
  rw [hc] at h0 h1
  exact ⟨own_cell (own_below h hw') _ _ h0, own_cell (own_below h hw') _ _ h1⟩

set_option maxRecDepth 100000 in
set_option maxHeartbeats 1000000 in
theorem checkCells_list (L : Lawn) (hL : L.Fits) (l : List Pt) (n cap : Nat) (hn : l.length = n) (hn2 : n ≤ 1048577) (g : Nat) (w : World) (hc : ReadsP w g l) :
    Calls Try.prog 106 #[.agg L.cells, .slice (some ⟨g, 0, none⟩) n cap] w fun e w' => e = .returned (.int .i64 (told (validB L) (l.all (isP L)))) ∧ Below w.heap.size w w' := by
  have HI := Lib.hid (fun w => implValid_any L hL w)
  have HB := Lib.hid (fun (c : Pt) (w : World) => has_any L c.1 c.2 w)
  have HC := Lib.hid (show told (validB L) (l.all (isP L)) = if validB L then (if l.all (isP L) then 0 else 2) else 1 from rfl)
  obtain ⟨v, hv⟩ : ∃ v, validB L = v := ⟨_, rfl⟩
  obtain ⟨C, hC⟩ : ∃ C, told (validB L) (l.all (isP L)) = C := ⟨_, rfl⟩
  rw [hC] at HC ⊢
  rw [hv] at HI HC
  have HN := Lib.hid hn
  have HR := Lib.hid hc
  have g0 : Holds (w.alloc (.cells L.cells 29)) w.heap.size L.cells := Holds.new _ _ _
  have hb0 : Below w.heap.size w (w.alloc (.cells L.cells 29)) := (Below.refl w.heap.size w).alloc (Nat.le_refl _) _
  obtain ⟨W0, hW0⟩ : ∃ W0, w.alloc (.cells L.cells 29) = W0 := ⟨_, rfl⟩
  rw [hW0] at g0 hb0
  clear hn hc hv hC hL
  obtain ⟨r0, -, -, -, -⟩ := g0.facts
  go_enter Try.func106, Try.ntmps106
  go_wp2_with fail
  clear hW0 r0
  refine (HI.out _).mono ?_
  rintro e w1 ⟨rfl, hb1⟩
  have k0 := g0.below hb1 g0.lt
  have hb2 := below_onto hb0 hb1
  clear g0 hb0 hb1 HI
  cases v
  · have HC2 := HC.out
    simp only [Bool.false_eq_true, if_false] at HC2
    subst HC2
    go_wp2_with fail
    go_ret
    exact ⟨rfl, hb2⟩
  · have HC2 := HC.out
    simp only [if_true] at HC2
    have HC3 := Lib.hid HC2
    clear HC HC2
    go_wp2_with fail
    go_loopw [12] (fun i wr => ∃ k : Nat, k ≤ n ∧ i = .int .i64 k ∧ (l.take k).all (isP L) = true ∧ Holds wr w.heap.size L.cells ∧ Below w.heap.size w wr) (fun i _ => n - (intOf i).toNat)
    case atStart => exact ⟨0, by omega, rfl, by simp, k0, hb2⟩
    case round =>
      obtain ⟨k, hk, rfl, ho, j0, hb⟩ := hrel
      have HO := Lib.hid ho
      clear ho k0 hb2
      by_cases hlt : k < n
      · have hd : decide ((k : Int) < (n : Int)) = true := by simp; omega
        obtain ⟨c, hq⟩ : ∃ c, l[k]? = some c := ⟨_, List.getElem?_eq_getElem (by rw [HN.out]; exact hlt)⟩
        have HTQ := Lib.hid (show (l.take (k + 1)).all (isP L) = isP L c by
          rw [List.take_add_one, hq, List.all_append, HO.out]; simp)
        have HNO := Lib.hid (show isP L c = false → l.all (isP L) = false from fun h0 => by
          rw [List.all_eq_false]
          exact ⟨c, List.mem_of_getElem? hq, by simp [h0]⟩)
        obtain ⟨q0, q1⟩ := HR.out wr hb k c hq
        have HBC := Lib.hid (HB.out c)
        obtain ⟨cx, cy⟩ := c
        dsimp only at q0 q1
        have HBC2 := Lib.hid (show ∀ w : World, Calls Try.prog 110 #[.agg L.cells, .agg #[.int .i8 cx, .int .i8 cy]] w fun e w' => e = .returned (.bool (isP L (cx, cy))) ∧ Below w.heap.size w w' from HBC.out)
        obtain ⟨u, hu⟩ : ∃ u, isP L (cx, cy) = u := ⟨_, rfl⟩
        rw [hu] at HBC2 HTQ HNO
        have rr : rowAt (wr.alloc (.cells #[.int .i8 cx, .int .i8 cy] 37)) w.heap.size = L.cells := (j0.alloc _).facts.1
        have v0 := j0.alloc (.cells #[.int .i8 cx, .int .i8 cy] 37)
        have hb3 := hb.alloc hb.size (.cells #[.int .i8 cx, .int .i8 cy] 37)
        clear hq hu HBC
        go_wp2_with fail
        refine (HBC2.out _).mono ?_
        rintro e w5 ⟨rfl, hb5⟩
        have v1 := v0.below hb5 v0.lt
        have hb6 := hb3.trans (hb5.mono (by have := v0.lt; omega))
        clear j0 hb hb5 q0 q1 rr v0 hb3
        cases u
        · have HC2 := HC3.out
          rw [HNO.out rfl] at HC2
          simp only [Bool.false_eq_true, if_false] at HC2
          subst HC2
          go_wp2_with fail
          go_ret
          exact ⟨rfl, hb6⟩
        · go_wp2_with fail
          go_roundw
          case rel => exact ⟨k + 1, by omega, by go_num, HTQ.out, v1, hb6⟩
          case measure => simp [intOf]; omega
      · have hd : decide ((k : Int) < (n : Int)) = false := by simp; omega
        have htk : l.take k = l := List.take_of_length_le (by rw [HN.out]; omega)
        have HO2 := HO.out
        rw [htk] at HO2
        have HC2 := HC3.out
        rw [HO2] at HC2
        simp only [if_true] at HC2
        subst HC2
        clear htk HO2
        go_wp2_with fail
        go_ret
        exact ⟨rfl, hb⟩

set_option maxRecDepth 100000 in
set_option maxHeartbeats 1000000 in
theorem checkOpen_list (L : Lawn) (hL : L.Fits) (l : List Pt) (n cap : Nat) (hn : l.length = n) (hn2 : n ≤ 1048577) (g : Nat) (w : World) (hc : ReadsP w g l) :
    Calls Try.prog 63 #[.agg L.cells, .slice (some ⟨g, 0, none⟩) n cap] w fun e w' => e = .returned (.int .i64 (toldC L l true)) ∧ Below w.heap.size w w' := by
  have HCK := Lib.hid (fun (w : World) (h : ReadsP w g l) => checkCells_list L hL l n cap hn hn2 g w h)
  have HT := Lib.hid (show told (validB L) (l.all (isP L)) = if validB L then (if l.all (isP L) then 0 else 2) else 1 from rfl)
  have HC := Lib.hid (show toldC L l true = if validB L then (if l.all (isP L) then (if l.all (openP L) then 0 else 4) else 2) else 1 from rfl)
  have HOP := Lib.hid (fun (hv : validB L = true) (c : Pt) (w : World) => isOpen_any L hv hL c.1 c.2 w)
  obtain ⟨v, hv⟩ : ∃ v, validB L = v := ⟨_, rfl⟩
  obtain ⟨f, hf⟩ : ∃ f, l.all (isP L) = f := ⟨_, rfl⟩
  obtain ⟨C, hC⟩ : ∃ C, toldC L l true = C := ⟨_, rfl⟩
  rw [hC] at HC ⊢
  rw [hv] at HCK HT HC HOP
  rw [hf] at HCK HT HC
  have HN := Lib.hid hn
  have HR := Lib.hid hc
  have g0 : Holds (w.alloc (.cells L.cells 29)) w.heap.size L.cells := Holds.new _ _ _
  have hb0 : Below w.heap.size w (w.alloc (.cells L.cells 29)) := (Below.refl w.heap.size w).alloc (Nat.le_refl _) _
  obtain ⟨W0, hW0⟩ : ∃ W0, w.alloc (.cells L.cells 29) = W0 := ⟨_, rfl⟩
  rw [hW0] at g0 hb0
  clear hn hc hv hC hL hf
  obtain ⟨r0, -, -, -, -⟩ := g0.facts
  go_enter Try.func63, Try.ntmps63
  go_wp2_with fail
  clear hW0 r0
  refine (HCK.out _ (HR.out.below hb0)).mono ?_
  rintro e w1 ⟨rfl, hb1⟩
  have k0 := g0.below hb1 g0.lt
  have hb2 := below_onto hb0 hb1
  clear g0 hb0 hb1 HCK
  rw [HT.out]
  have HC2 := HC.out
  cases v <;> cases f
  case true.true =>
    simp only [if_true] at HC2 ⊢
    have HC3 := Lib.hid HC2
    have HO2 := Lib.hid (HOP.out rfl)
    clear HC2 HC HOP HT
    go_wp2_with fail
    go_loopw [16] (fun i wr => ∃ k : Nat, k ≤ n ∧ i = .int .i64 k ∧ (l.take k).all (openP L) = true ∧ Holds wr w.heap.size L.cells ∧ Below w.heap.size w wr) (fun i _ => n - (intOf i).toNat)
    case atStart => exact ⟨0, by omega, rfl, by simp, k0, hb2⟩
    case round =>
      obtain ⟨k, hk, rfl, ho, j0, hb⟩ := hrel
      have HO := Lib.hid ho
      clear ho k0 hb2
      by_cases hlt : k < n
      · have hd : decide ((k : Int) < (n : Int)) = true := by simp; omega
        obtain ⟨c, hq⟩ : ∃ c, l[k]? = some c := ⟨_, List.getElem?_eq_getElem (by rw [HN.out]; exact hlt)⟩
        have HTQ := Lib.hid (show (l.take (k + 1)).all (openP L) = openP L c by
          rw [List.take_add_one, hq, List.all_append, HO.out]; simp)
        have HNO := Lib.hid (show openP L c = false → l.all (openP L) = false from fun h0 => by
          rw [List.all_eq_false]
          exact ⟨c, List.mem_of_getElem? hq, by simp [h0]⟩)
        obtain ⟨q0, q1⟩ := HR.out wr hb k c hq
        have HBC := Lib.hid (HO2.out c)
        obtain ⟨cx, cy⟩ := c
        dsimp only at q0 q1
        have HBC2 := Lib.hid (show ∀ w : World, Calls Try.prog 78 #[.agg L.cells, .agg #[.int .i8 cx, .int .i8 cy]] w fun e w' => e = .returned (.bool (openP L (cx, cy))) ∧ Below w.heap.size w w' from HBC.out)
        obtain ⟨u, hu⟩ : ∃ u, openP L (cx, cy) = u := ⟨_, rfl⟩
        rw [hu] at HBC2 HTQ HNO
        have rr : rowAt (wr.alloc (.cells #[.int .i8 cx, .int .i8 cy] 37)) w.heap.size = L.cells := (j0.alloc _).facts.1
        have v0 := j0.alloc (.cells #[.int .i8 cx, .int .i8 cy] 37)
        have hb3 := hb.alloc hb.size (.cells #[.int .i8 cx, .int .i8 cy] 37)
        clear hq hu HBC
        go_wp2_with fail
        refine (HBC2.out _).mono ?_
        rintro e w5 ⟨rfl, hb5⟩
        have v1 := v0.below hb5 v0.lt
        have hb6 := hb3.trans (hb5.mono (by have := v0.lt; omega))
        clear j0 hb hb5 q0 q1 rr v0 hb3
        cases u
        · have HC2 := HC3.out
          rw [HNO.out rfl] at HC2
          simp only [Bool.false_eq_true, if_false] at HC2
          subst HC2
          go_wp2_with fail
          go_ret
          exact ⟨rfl, hb6⟩
        · go_wp2_with fail
          go_roundw
          case rel => exact ⟨k + 1, by omega, by go_num, HTQ.out, v1, hb6⟩
          case measure => simp [intOf]; omega
      · have hd : decide ((k : Int) < (n : Int)) = false := by simp; omega
        have htk : l.take k = l := List.take_of_length_le (by rw [HN.out]; omega)
        have HO3 := HO.out
        rw [htk] at HO3
        have HC2 := HC3.out
        rw [HO3] at HC2
        simp only [if_true] at HC2
        subst HC2
        clear htk HO3
        go_wp2_with fail
        go_ret
        exact ⟨rfl, hb⟩
  all_goals
    simp only [if_true, Bool.false_eq_true, if_false] at HC2 ⊢
    subst HC2
    go_wp2_with fail
    go_ret
    exact ⟨rfl, hb2⟩
end Go.Proofs.Ytaeenkjbmlgcmaa
