/- Rows of rows of cells: how a law compares, marks and looks at them. -/
import Derived.Test.YtglkojpnelaanaaRowsC
import Derived.Test.YtglkojpnelaanaaEqCellS
import Derived.Test.YtglkojpnelaanaaMarkCellS
namespace Go.Proofs.Ytglkojpnelaanaa
open Go.RowKit
set_option linter.unusedVariables false
attribute [local go_sem ↓] loadRow loadGrid loadLawn loadMirror storeRow storeGrid storeLawn allocRow allocGrid allocLawn buildZero buildSides

def Ints8 (rows : List (List Value)) : Prop := ∀ xs ∈ rows, xs.length ≤ 1000 ∧ ∀ j, j < xs.length / 2 * 2 → ∃ z, xs[j]? = some (.int .i8 z)

set_option maxRecDepth 100000 in
set_option maxHeartbeats 1000000 in
theorem eqCellSS_same (rows : List (List Value)) (hn : rows.length ≤ 1000) (hx : Ints8 rows) (v v' : Value) (B B' : Nat) (w : World) (h : RowsC w B v rows) (h' : RowsC w B' v' rows) :
    Calls Try.prog 14 #[v, v'] w fun e w' => e = .returned (.bool true) ∧ Below w.heap.size w w' := by
  obtain ⟨n, hN⟩ : ∃ n, rows.length = n := ⟨_, rfl⟩
  have HN := Lib.hid hN
  rw [hN] at hn
  by_cases hz : n = 0
  · obtain ⟨a, c, rfl⟩ := h.slice
    obtain ⟨a', c', rfl⟩ := h'.slice
    rw [hN]
    subst hz
    clear h h' hx hN
    go_enter Try.func14, Try.ntmps14
    go_wp2_with fail
    go_loopw [5] (fun i wr => i = .int .i64 0 ∧ wr = w) (fun _ _ => 0)
    case atStart => exact ⟨rfl, rfl⟩
    case round =>
      obtain ⟨rfl, rfl⟩ := hrel
      go_wp2_with fail
      go_ret
      exact ⟨rfl, Below.refl _ _⟩
  · obtain ⟨hs, h⟩ := h
    obtain ⟨hs', h'⟩ := h'
    obtain ⟨g, cap, rfl, -, -⟩ := own_form h.1 (by omega)
    obtain ⟨g', cap', rfl, -, -⟩ := own_form h'.1 (by omega)
    have H := Lib.hid h
    have H' := Lib.hid h'
    rw [hN]
    clear h h' hN
    go_enter Try.func14, Try.ntmps14
    go_wp2_with fail
    go_loopw [5] (fun i wr => ∃ k : Nat, k ≤ n ∧ i = .int .i64 k ∧ Below w.heap.size w wr) (fun i _ => n - (intOf i).toNat)
    case atStart => exact ⟨0, by omega, rfl, Below.refl _ _⟩
    case round =>
      obtain ⟨k, hk, rfl, hb⟩ := hrel
      by_cases hlt : k < n
      · have hd : decide ((k : Int) < (n : Int)) = true := by simp; omega
        have j := H.out.below hb
        have j' := H'.out.below hb
        obtain ⟨r, xs, hr, hxs, ho⟩ := j.get (show k < rows.length by rw [HN.out]; exact hlt)
        obtain ⟨r', xs', hr', hxs', ho'⟩ := j'.get (show k < rows.length by rw [HN.out]; exact hlt)
        rw [hxs] at hxs'
        obtain rfl := Option.some.inj hxs'
        obtain ⟨hx1, hx2⟩ := hx xs (List.mem_of_getElem? hxs)
        have c0 := fun w' hw' => own_cell (own_below (W' := w') (by have := j.1; rwa [HN.out] at this) hw') _ _ hr
        have d0 := fun w' hw' => own_cell (own_below (W' := w') (by have := j'.1; rwa [HN.out] at this) hw') _ _ hr'
        have HE := Lib.hid (fun w' (hw' : Below wr.heap.size wr w') => eqCellS_same _ xs (by omega) hx2 _ _ _ _ w' (own_below ho hw') (own_below ho' hw'))
        clear j j' hr hr' hxs hxs' ho ho' hx hx2
        go_wp2_with fail
        refine wp_region_grow 9 (by kernel_rfl) (by kernel_rfl) ?_
        simp only [List.take_succ_cons, List.take_zero, List.drop_succ_cons, List.drop_zero]
        iterate 9
          apply wpGrow_plain rfl
          · intro w' hw' K hK
            have e0 := c0 _ hw'
            have f0 := d0 _ hw'
            go_wp2_with (go_at_call 29; refine (HE.out _ hw').mono ?_; rintro e w2 ⟨rfl, hb2⟩)
            first | exact hK _ _ rfl hw' | exact hK _ _ rfl (below_onto hw' hb2)
          simp only [Act.put, List.setIfInBounds_toArray, List.set_cons_succ, List.set_cons_zero]
        refine wpGrow_nil ?_
        intro W2 hW2
        have hb3 := below_onto hb hW2
        clear hb hW2 c0 d0 HE
        go_wp2_with fail
        go_roundw
        case rel => exact ⟨k + 1, by omega, by go_num, hb3⟩
        case measure => simp [intOf]; omega
      · have hd : decide ((k : Int) < (n : Int)) = false := by simp; omega
        go_wp2_with fail
        go_ret
        exact ⟨rfl, hb⟩

set_option maxRecDepth 100000 in
set_option maxHeartbeats 1000000 in
theorem markCellSS_any (rows : List (List Value)) (hn : rows.length ≤ 1000) (hx : Ints8 rows) (M : Nat) (hM : 1 + sumSS rows = M) (v : Value) (B : Nat) (w : World) (hB : B ≤ w.heap.size) (h : RowsC w B v rows) :
    Calls Try.prog 15 #[v, .int .i64 1] w fun e w' => e = .returned (.int .i64 (M : Int)) ∧ RowsC w' B v (marksSS 1 rows) ∧ Below B w w' := by
  obtain ⟨hs, h⟩ := h
  obtain ⟨n, hN⟩ : ∃ n, rows.length = n := ⟨_, rfl⟩
  have HN := Lib.hid hN
  have HM := Lib.hid hM
  have hs1 := sumSS_le 1000 rows fun xs hm => (hx xs hm).1
  have hsT : ∀ i, sumSS (rows.take i) ≤ 1000000 := fun i => by
    have := sumSS_le 1000 (rows.take i) fun xs hm => (hx xs (List.mem_of_mem_take hm)).1
    have h2 : (rows.take i).length ≤ 1000 := by simp; omega
    have := Nat.mul_le_mul_right 1000 h2
    omega
  have HST := Lib.hid hsT
  have hml : (marksSS 1 rows).length = rows.length := marksSS_length _ _
  have HML := Lib.hid hml
  obtain ⟨av, cv, rfl⟩ := own_slice h.1
  have H := Lib.hid h
  rw [hN] at hn ⊢
  clear hs1 hsT hml h hM hN
  go_enter Try.func15, Try.ntmps15
  go_wp2_with fail
  go_loopw [1, 5] (fun k' i wr => ∃ j : Nat, j ≤ n ∧ k' = .int .i64 ((1 + sumSS (rows.take j) : Nat) : Int) ∧ i = .int .i64 j ∧ RowsAt wr B (.slice av n cv) hs (markedSS (marksSS 1 rows) rows j) ∧ Below B w wr) (fun _ i _ => n - (intOf i).toNat)
  case atStart => exact ⟨0, by omega, by simp [sumSS], rfl, by rw [markedSS_none]; have := H.out; rwa [HN.out] at this, Below.refl _ _⟩
  case round =>
    obtain ⟨j, hj, rfl, rfl, ho, hb⟩ := hrel
    have hln : (markedSS (marksSS 1 rows) rows j).length = n := by rw [markedSS_length _ _ _ HML.out, HN.out]
    by_cases hlt : j < n
    · have hd : decide ((j : Int) < (n : Int)) = true := by simp; omega
      obtain ⟨xs, hxs⟩ : ∃ xs, rows[j]? = some xs := ⟨_, List.getElem?_eq_getElem (by rw [HN.out]; exact hlt)⟩
      obtain ⟨hx1, hx2⟩ := hx xs (List.mem_of_getElem? hxs)
      obtain ⟨r, ys, hr, hys, hor⟩ := ho.get (show j < (markedSS (marksSS 1 rows) rows j).length by omega)
      rw [markedSS_get HML.out hxs] at hys
      obtain rfl := Option.some.inj hys
      obtain ⟨g, cap, he, -, -⟩ := own_form ho.1 (by omega)
      have ho1 := ho.1
      rw [hln] at he ho1
      simp only [Value.slice.injEq, true_and] at he
      obtain ⟨rfl, rfl⟩ := he
      have c0 := own_cell ho1 _ _ hr
      have HS := Lib.hid (show sumSS (rows.take (j + 1)) = sumSS (rows.take j) + 2 * (xs.length / 2) from sumSS_succ rows j xs hxs)
      have HSJ := HST.out j
      have HO := Lib.hid ho
      have HOR := Lib.hid hor
      have HR := Lib.hid hr
      have HX := Lib.hid hxs
      have hws : B ≤ wr.heap.size := Nat.le_trans hB hb.size
      clear hr hxs hor ho hys hx2 hln ho1
      obtain ⟨K, hK⟩ : ∃ K, 1 + sumSS (rows.take j) = K := ⟨_, rfl⟩
      have HK := Lib.hid hK
      rw [hK]
      have hK2 : K ≤ 1000001 := by omega
      obtain ⟨K2, hK3⟩ : ∃ K2, K + 2 * (xs.length / 2) = K2 := ⟨_, rfl⟩
      have HMK := Lib.hid (markCellS_any B (xs.length / 2) K _ xs _ (by omega) (by omega) HOR.out)
      rw [hK3] at HMK
      have HK2 := Lib.hid hK3
      clear hK HSJ hK3
      go_wp2_with fail
      refine HMK.out.mono ?_
      rintro e w2 ⟨rfl, om, hgr⟩
      have ev : xs.length = xs.length / 2 * 2 := HOR.out.1
      have HF := Lib.hid (HO.out.far HR.out)
      have hb2 : Below B w w2 := hb.grown hgr hws fun k hk => HF.out k hk
      have ho2 := HO.out.set (ys := marks8 K (xs.length / 2 * 2)) HR.out (markedSS_get HML.out HX.out) (by simp; omega) hgr om
      rw [markedSS_set HML.out (by have := marksSS_get 1 rows j xs HX.out; rw [HK.out] at this; exact this)] at ho2
      have HO2 := Lib.hid ho2
      clear ho2 om hgr hb HO HOR c0 ev HMK
      go_wp2_with fail
      go_roundw
      case rel => exact ⟨j + 1, by omega, by rw [HS.out, ← Nat.add_assoc, HK.out, HK2.out], by go_num, HO2.out, hb2⟩
      case measure => simp [intOf]; omega
    · have hjn : j = n := by omega
      have hd : decide ((j : Int) < (n : Int)) = false := by simp; omega
      have e1 : 1 + sumSS (rows.take j) = M := by rw [← HM.out, hjn, ← HN.out, List.take_length]
      have e2 : markedSS (marksSS 1 rows) rows j = marksSS 1 rows := by rw [hjn, ← HN.out]; exact markedSS_all _ _ HML.out
      rw [e2] at ho
      rw [e1]
      have HO := Lib.hid ho
      clear ho e1 e2
      go_wp2_with fail
      go_ret
      exact ⟨rfl, ⟨_, HO.out⟩, hb⟩

set_option maxRecDepth 100000 in
set_option maxHeartbeats 1000000 in
theorem heldCellSS_any (rows : List (List Value)) (hn : rows.length ≤ 1000) (hx : Ints8 rows) (M : Nat) (hM : 1 + sumSS rows = M) (v : Value) (B : Nat) (w : World) (h : RowsC w B v (marksSS 1 rows)) :
    Calls Try.prog 16 #[v, .int .i64 1] w fun e w' => e = .returned (.int .i64 (M : Int)) ∧ Below w.heap.size w w' := by
  obtain ⟨hs, h⟩ := h
  obtain ⟨n, hN⟩ : ∃ n, rows.length = n := ⟨_, rfl⟩
  have HN := Lib.hid hN
  have HM := Lib.hid hM
  have hsT : ∀ i, sumSS (rows.take i) ≤ 1000000 := fun i => by
    have := sumSS_le 1000 (rows.take i) fun xs hm => (hx xs (List.mem_of_mem_take hm)).1
    have h2 : (rows.take i).length ≤ 1000 := by simp; omega
    have := Nat.mul_le_mul_right 1000 h2
    omega
  have HST := Lib.hid hsT
  have hml : (marksSS 1 rows).length = rows.length := marksSS_length _ _
  have HML := Lib.hid hml
  obtain ⟨av, cv, rfl⟩ := own_slice h.1
  have H := Lib.hid h
  rw [hml, hN]
  rw [hN] at hn
  clear hsT hml h hM hN
  go_enter Try.func16, Try.ntmps16
  go_wp2_with fail
  go_loopw [1, 5] (fun k' i wr => ∃ j : Nat, j ≤ n ∧ k' = .int .i64 ((1 + sumSS (rows.take j) : Nat) : Int) ∧ i = .int .i64 j ∧ Below w.heap.size w wr) (fun _ i _ => n - (intOf i).toNat)
  case atStart => exact ⟨0, by omega, by simp [sumSS], rfl, Below.refl _ _⟩
  case round =>
    obtain ⟨j, hj, rfl, rfl, hb⟩ := hrel
    by_cases hlt : j < n
    · have hd : decide ((j : Int) < (n : Int)) = true := by simp; omega
      obtain ⟨xs, hxs⟩ : ∃ xs, rows[j]? = some xs := ⟨_, List.getElem?_eq_getElem (by rw [HN.out]; exact hlt)⟩
      obtain ⟨hx1, hx2⟩ := hx xs (List.mem_of_getElem? hxs)
      have ho := H.out.below hb
      obtain ⟨r, ys, hr, hys, hor⟩ := ho.get (show j < (marksSS 1 rows).length by rw [HML.out, HN.out]; exact hlt)
      rw [marksSS_get 1 rows j xs hxs] at hys
      obtain rfl := Option.some.inj hys
      obtain ⟨g, cap, he, -, -⟩ := own_form ho.1 (by rw [HML.out, HN.out]; omega)
      have ho1 := ho.1
      rw [HML.out, HN.out] at he ho1
      simp only [Value.slice.injEq, true_and] at he
      obtain ⟨rfl, rfl⟩ := he
      have c0 := own_cell ho1 _ _ hr
      have HS := Lib.hid (show sumSS (rows.take (j + 1)) = sumSS (rows.take j) + 2 * (xs.length / 2) from sumSS_succ rows j xs hxs)
      have HSJ := HST.out j
      rw [marks8_length, show xs.length / 2 * 2 / 2 = xs.length / 2 by omega] at hor
      have HOR := Lib.hid hor
      clear hr hxs hor ho hx2 ho1
      obtain ⟨K, hK⟩ : ∃ K, 1 + sumSS (rows.take j) = K := ⟨_, rfl⟩
      have HK := Lib.hid hK
      rw [hK] at HOR ⊢
      have hK2 : K ≤ 1000001 := by omega
      obtain ⟨K2, hK3⟩ : ∃ K2, K + 2 * (xs.length / 2) = K2 := ⟨_, rfl⟩
      have HMK := Lib.hid (heldCellS_any B (xs.length / 2) K _ _ (by omega) (by omega) HOR.out)
      rw [hK3] at HMK
      have HK2 := Lib.hid hK3
      clear hK HSJ hK3
      go_wp2_with fail
      refine HMK.out.mono ?_
      rintro e w2 ⟨rfl, hb2⟩
      have hb3 := below_onto hb hb2
      have hd2 : decide ((K2 : Int) < 0) = false := by simp
      clear hb hb2 HOR c0 HMK
      go_wp2_with fail
      go_roundw
      case rel => exact ⟨j + 1, by omega, by rw [HS.out, ← Nat.add_assoc, HK.out, HK2.out], by go_num, hb3⟩
      case measure => simp [intOf]; omega
    · have hjn : j = n := by omega
      have hd : decide ((j : Int) < (n : Int)) = false := by simp; omega
      have e1 : 1 + sumSS (rows.take j) = M := by rw [← HM.out, hjn, ← HN.out, List.take_length]
      rw [e1]
      clear e1
      go_wp2_with fail
      go_ret
      exact ⟨rfl, hb⟩
end Go.Proofs.Ytglkojpnelaanaa
