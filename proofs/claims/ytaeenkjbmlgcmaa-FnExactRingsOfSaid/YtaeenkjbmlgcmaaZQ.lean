/- slices.Index and slices.Contains over cells. NightOf, pure, and of the model. NightOf of the program. -/
import Derived.Test.YtaeenkjbmlgcmaaZG
import Derived.Test.YtaeenkjbmlgcmaaZC
import Derived.Test.YtaeenkjbmlgcmaaZB
import Derived.Test.YtaeenkjbmlgcmaaSMoleN
namespace Go.Proofs.Ytaeenkjbmlgcmaa
open Go.RowKit
set_option linter.unusedVariables false

/-- The first place of a cell in a list; -1 if there is none. -/
def idxP (l : List Pt) (c : Pt) : Int := match l.findIdx? (· == c) with | some k => (k : Int) | none => -1
theorem idxP_at {l : List Pt} {c : Pt} {k : Nat} (hk : l[k]? = some c) (h : ∀ j z, j < k → l[j]? = some z → z ≠ c) : idxP l c = k := by
  unfold idxP
  have : l.findIdx? (· == c) = some k := by
    obtain ⟨hlt, he⟩ := List.getElem?_eq_some_iff.1 hk
    rw [List.findIdx?_eq_some_iff_getElem]
    refine ⟨hlt, by simp [he], fun j hj => ?_⟩
    have := h j _ hj (List.getElem?_eq_getElem (by omega))
    simpa using this
  rw [this]
theorem idxP_none {l : List Pt} {c : Pt} (h : ∀ j z, j < l.length → l[j]? = some z → z ≠ c) : idxP l c = -1 := by
  unfold idxP
  have : l.findIdx? (· == c) = none := by
    rw [List.findIdx?_eq_none_iff]
    intro z hz
    obtain ⟨j, hj⟩ := List.mem_iff_getElem?.1 hz
    have := h j z (List.getElem?_eq_some_iff.1 hj).1 hj
    simpa using this
  rw [this]
theorem idxP_has (l : List Pt) (c : Pt) : decide (0 ≤ idxP l c) = l.contains c := by
  unfold idxP
  cases h : l.findIdx? (· == c) with
  | none =>
    rw [List.findIdx?_eq_none_iff] at h
    have : l.contains c = false := by
      rw [← Bool.not_eq_true, List.contains_iff_mem]
      intro hm
      have := h c hm
      simp at this
    rw [this]
    rfl
  | some k =>
    rw [List.findIdx?_eq_some_iff_getElem] at h
    obtain ⟨hk, he, -⟩ := h
    have : l.contains c = true := by
      rw [List.contains_iff_mem]
      have e : l[k] = c := by simpa using he
      exact e ▸ List.getElem_mem hk
    rw [this]
    simp

set_option maxRecDepth 100000 in
theorem indexC_at (B H : Nat) (v : Value) (hH : H ≤ 2000000) (ps : List Pt) (hl : ps.length = H) (x y : Int) (w : World) (ho : w.ownsRow B 37 2 v H (flatP ps)) :
    Calls Try.prog 134 #[v, .agg #[.int .i8 x, .int .i8 y]] w fun e w' => e = .returned (.int .i64 (idxP ps (x, y))) ∧ Below w.heap.size w w' := by
  obtain ⟨av, cv, rfl⟩ := own_slice ho
  have HO := Lib.hid ho
  have HL := Lib.hid hl
  clear ho hl
  go_enter Try.func134, Try.ntmps134
  go_wp2_with fail
  obtain ⟨W0, hW0⟩ : ∃ W0, w.alloc (.cells #[.int .i8 x, .int .i8 y] 37) = W0 := ⟨_, rfl⟩
  have hb0 : Below w.heap.size w W0 := by rw [← hW0]; exact (Below.refl _ _).alloc (Nat.le_refl _) _
  have g0 : Holds W0 w.heap.size #[.int .i8 x, .int .i8 y] := by rw [← hW0]; exact Holds.new _ _ _
  rw [hW0]
  clear hW0
  go_loopw [8] (fun i wr => ∃ k : Nat, k ≤ H ∧ i = .int .i64 k ∧ (∀ j z, j < k → ps[j]? = some z → z ≠ (x, y)) ∧ Below W0.heap.size W0 wr) (fun i _ => H - (intOf i).toNat)
  case atStart => exact ⟨0, by omega, rfl, fun j z h _ => by omega, Below.refl _ _⟩
  case round =>
    obtain ⟨k, hk, rfl, hall, hb⟩ := hrel
    have HA := Lib.hid hall
    have hb1 := below_onto hb0 hb
    have g1 := g0.below hb g0.lt
    clear hall
    obtain ⟨-, -, c1, -, l1⟩ := g1.facts
    have c10 := (c1 0).trans (show _ = some (.int .i8 x) from rfl)
    have c11 := (c1 1).trans (show _ = some (.int .i8 y) from rfl)
    clear c1
    by_cases hlt : k < H
    · have hd : decide ((k : Int) < (H : Int)) = true := by simp; omega
      obtain ⟨⟨zx, zy⟩, hzk⟩ : ∃ z, ps[k]? = some z := ⟨_, List.getElem?_eq_getElem (by rw [HL.out]; omega)⟩
      have ho := own_below HO.out hb1
      obtain ⟨ga, cap, he, hBg, hg⟩ := own_form ho (by omega)
      simp only [Value.slice.injEq, true_and] at he
      obtain ⟨rfl, rfl⟩ := he
      obtain ⟨f1, f2⟩ := flatP_get _ _ _ hzk
      have e1 := own_cell ho _ _ f1
      have e2 := own_cell ho _ _ f2
      dsimp only at e1 e2
      have HZK := Lib.hid hzk
      clear ho hzk f1 f2
      by_cases hxy : (zx, zy) = (x, y)
      · simp only [Prod.mk.injEq] at hxy
        obtain ⟨hx, hy⟩ := hxy
        rw [hx, hy] at HZK
        rw [hx] at e1
        rw [hy] at e2
        have HF := Lib.hid (idxP_at HZK.out HA.out)
        clear hx hy
        go_wp2_with fail
        go_region
        go_wp2_with fail
        go_ret
        exact ⟨by rw [HF.out]; rfl, hb1.drew⟩
      · have HNE := Lib.hid (show ∀ j z, j < k + 1 → ps[j]? = some z → z ≠ (x, y) from fun j z hj hz => by
          by_cases e : j = k
          · subst e; rw [HZK.out] at hz; cases hz; exact hxy
          · exact HA.out j z (by omega) hz)
        simp only [Prod.mk.injEq] at hxy
        by_cases hx : x = zx
        · have hy : ¬ y = zy := fun h => hxy ⟨hx.symm, h.symm⟩
          rw [← hx] at e1
          clear hx hxy
          go_wp2_with fail
          go_region
          go_wp2_with fail
          go_roundw
          case rel => exact ⟨k + 1, by omega, by go_num, HNE.out, hb.drew⟩
          case measure => simp [intOf]; omega
        · clear hxy
          go_wp2_with fail
          go_region
          go_wp2_with fail
          go_roundw
          case rel => exact ⟨k + 1, by omega, by go_num, HNE.out, hb.drew⟩
          case measure => simp [intOf]; omega
    · have hd : decide ((k : Int) < (H : Int)) = false := by simp; omega
      have hkH : k = H := by omega
      have HF := Lib.hid (idxP_none (c := (x, y)) fun j z hj hz => HA.out j z (by rw [HL.out] at hj; omega) hz)
      go_wp2_with fail
      go_ret
      exact ⟨by rw [HF.out]; rfl, hb1⟩

theorem containsC_any (B H : Nat) (v : Value) (hH : H ≤ 2000000) (ps : List Pt) (hl : ps.length = H) (x y : Int) (c : Bool) (hc : ps.contains (x, y) = c) (w : World) (ho : w.ownsRow B 37 2 v H (flatP ps)) :
    Calls Try.prog 100 #[v, .agg #[.int .i8 x, .int .i8 y]] w fun e w' => e = .returned (.bool c) ∧ Below w.heap.size w w' := by
  obtain ⟨z, hz⟩ : ∃ z, idxP ps (x, y) = z := ⟨_, rfl⟩
  have hq := idxP_has ps (x, y)
  rw [hz, hc] at hq
  have HI := Lib.hid (fun w' (hb : Below w.heap.size w w') => indexC_at B H v hH ps hl x y w' (own_below ho hb))
  rw [hz] at HI
  obtain ⟨av, cv, rfl⟩ := own_slice ho
  have hb0 : Below w.heap.size w w := Below.refl _ _
  clear ho hc hl hz
  go_enter Try.func100, Try.ntmps100
  go_wp2_with fail
  refine (HI.out _ ((Below.refl _ _).alloc (Nat.le_refl _) _)).mono ?_
  rintro e w2 ⟨rfl, hb2⟩
  have hb3 : Below w.heap.size w w2 := below_onto ((Below.refl _ _).alloc (Nat.le_refl _) _) hb2
  go_wp2_with fail
  go_ret
  exact ⟨rfl, hb3⟩
end Go.Proofs.Ytaeenkjbmlgcmaa

namespace Go.Proofs.Ytaeenkjbmlgcmaa
open Go.RowKit Go.Shelf
set_option linter.unusedVariables false
set_option linter.unusedSimpArgs false
attribute [local go_sem ↓] loadRow loadGrid loadLawn loadMirror storeRow storeGrid storeLawn allocRow allocGrid allocLawn buildZero buildSides

/-- The place of the trap among the cells behind the nights. -/
def nightZ (L : Lawn) (g : Nat → Nat → Int) (q t : Q10) : Int := idxP (((pathQ L g q 60).drop 1).map ptQ) (ptQ t)
def nfN (z : Int) : Int := if z < 0 then 0 else z + 1
def nfC (z : Int) : Int := if z < 0 then 6 else 0
theorem chkE_good {L : Lawn} {g : Nat → Nat → Int} (hv : levB L g = true) {cs : List Pt} (h : ∀ c ∈ cs, grassP L c = true) : chkE L g true cs = none := by
  have e1 : cs.any (fun c => !isB L c.1 c.2) = false := List.any_eq_false.2 fun c hc => by rw [grassB_in (h c hc)]; simp
  have e2 : cs.any (fun c => !grassB L c.1 c.2) = false := List.any_eq_false.2 fun c hc => by rw [show grassB L c.1 c.2 = true from h c hc]; simp
  unfold chkE
  rw [hv, e1, e2]
  rfl
theorem own_cell2 (w : World) (x y x' y' : Int) : (w.alloc (.cells #[.int .i8 x, .int .i8 y, .int .i8 x', .int .i8 y'] 37)).ownsRow w.heap.size 37 2 (.slice (some ⟨w.heap.size, 0, none⟩) 2 2) 2 (flatP [(x, y), (x', y')]) :=
  ⟨rfl, .inr ⟨w.heap.size, 2, #[.int .i8 x, .int .i8 y, .int .i8 x', .int .i8 y'], rfl, Nat.le_refl _, heap_alloc_new _ _, Nat.le_refl _, by simp [maxLen], rfl, rfl⟩⟩


end Go.Proofs.Ytaeenkjbmlgcmaa

namespace Go.Proofs.Ytaeenkjbmlgcmaa
open Go.RowKit Go.Shelf
set_option linter.unusedVariables false
set_option linter.unusedSimpArgs false

set_option maxRecDepth 100000 in
theorem indexC_cut (ga o H cv : Nat) (hH : H ≤ 2000000) (ps : List Pt) (hl : ps.length = H) (x y : Int) (w : World) (ho : ∀ w', Below w.heap.size w w' → ∀ (k : Nat) (z : Pt), ps[k]? = some z → w'.cell? ⟨ga, o + k * 2, none⟩ = some (.int .i8 z.1) ∧ w'.cell? ⟨ga, o + k * 2 + 1, none⟩ = some (.int .i8 z.2)) :
    Calls Try.prog 134 #[.slice (some ⟨ga, o, none⟩) H cv, .agg #[.int .i8 x, .int .i8 y]] w fun e w' => e = .returned (.int .i64 (idxP ps (x, y))) ∧ Below w.heap.size w w' := by
  have HO := Lib.hid ho
  have HL := Lib.hid hl
  clear ho hl
  go_enter Try.func134, Try.ntmps134
  go_wp2_with fail
  obtain ⟨W0, hW0⟩ : ∃ W0, w.alloc (.cells #[.int .i8 x, .int .i8 y] 37) = W0 := ⟨_, rfl⟩
  have hb0 : Below w.heap.size w W0 := by rw [← hW0]; exact (Below.refl _ _).alloc (Nat.le_refl _) _
  have g0 : Holds W0 w.heap.size #[.int .i8 x, .int .i8 y] := by rw [← hW0]; exact Holds.new _ _ _
  rw [hW0]
  clear hW0
  go_loopw [8] (fun i wr => ∃ k : Nat, k ≤ H ∧ i = .int .i64 k ∧ (∀ j z, j < k → ps[j]? = some z → z ≠ (x, y)) ∧ Below W0.heap.size W0 wr) (fun i _ => H - (intOf i).toNat)
  case atStart => exact ⟨0, by omega, rfl, fun j z h _ => by omega, Below.refl _ _⟩
  case round =>
    obtain ⟨k, hk, rfl, hall, hb⟩ := hrel
    have HA := Lib.hid hall
    have hb1 := below_onto hb0 hb
    have g1 := g0.below hb g0.lt
    clear hall
    obtain ⟨-, -, c1, -, l1⟩ := g1.facts
    have c10 := (c1 0).trans (show _ = some (.int .i8 x) from rfl)
    have c11 := (c1 1).trans (show _ = some (.int .i8 y) from rfl)
    clear c1
    by_cases hlt : k < H
    · have hd : decide ((k : Int) < (H : Int)) = true := by simp; omega
      obtain ⟨⟨zx, zy⟩, hzk⟩ : ∃ z, ps[k]? = some z := ⟨_, List.getElem?_eq_getElem (by rw [HL.out]; omega)⟩
      obtain ⟨e1, e2⟩ := HO.out _ hb1 k _ hzk
      dsimp only at e1 e2
      have HZK := Lib.hid hzk
      clear hzk
      by_cases hxy : (zx, zy) = (x, y)
      · simp only [Prod.mk.injEq] at hxy
        obtain ⟨hx, hy⟩ := hxy
        rw [hx, hy] at HZK
        rw [hx] at e1
        rw [hy] at e2
        have HF := Lib.hid (idxP_at HZK.out HA.out)
        clear hx hy
        go_wp2_with fail
        go_region
        go_wp2_with fail
        go_ret
        exact ⟨by rw [HF.out]; rfl, hb1.drew⟩
      · have HNE := Lib.hid (show ∀ j z, j < k + 1 → ps[j]? = some z → z ≠ (x, y) from fun j z hj hz => by
          by_cases e : j = k
          · subst e; rw [HZK.out] at hz; cases hz; exact hxy
          · exact HA.out j z (by omega) hz)
        simp only [Prod.mk.injEq] at hxy
        by_cases hx : x = zx
        · have hy : ¬ y = zy := fun h => hxy ⟨hx.symm, h.symm⟩
          rw [← hx] at e1
          clear hx hxy
          go_wp2_with fail
          go_region
          go_wp2_with fail
          go_roundw
          case rel => exact ⟨k + 1, by omega, by go_num, HNE.out, hb.drew⟩
          case measure => simp [intOf]; omega
        · clear hxy
          go_wp2_with fail
          go_region
          go_wp2_with fail
          go_roundw
          case rel => exact ⟨k + 1, by omega, by go_num, HNE.out, hb.drew⟩
          case measure => simp [intOf]; omega
    · have hd : decide ((k : Int) < (H : Int)) = false := by simp; omega
      have hkH : k = H := by omega
      have HF := Lib.hid (idxP_none (c := (x, y)) fun j z hj hz => HA.out j z (by rw [HL.out] at hj; omega) hz)
      go_wp2_with fail
      go_ret
      exact ⟨by rw [HF.out]; rfl, hb1⟩


theorem idxP_range (l : List Pt) (c : Pt) : -1 ≤ idxP l c ∧ idxP l c < l.length := by
  unfold idxP
  cases h : l.findIdx? (· == c) with
  | none => simp only; omega
  | some k =>
    have := (List.findIdx?_eq_some_iff_getElem.1 h).1
    simp only
    omega

section
attribute [local go_sem ↓] loadRow loadGrid loadLawn loadMirror storeRow storeGrid storeLawn allocRow allocGrid allocLawn buildZero buildSides


end
end Go.Proofs.Ytaeenkjbmlgcmaa
