/- CutStrips, of both. -/
import Derived.Test.YthpfejbigdjhlaaPieces
import Derived.Test.YthpfejbigdjhlaaZG
namespace Go.Proofs.Ythpfejbigdjhlaa
open Go.RowKit
set_option linter.unusedVariables false
set_option linter.unusedSimpArgs false

/-- How many strips there are, and what is left of the last one, when so many pieces are cut. -/
def cutK (zs : List Int) (s : Int) : Nat → Int × Int
  | 0 => (0, 0)
  | k + 1 => if (cutK zs s k).2 < zs.getD k 0 then ((cutK zs s k).1 + 1, s - zs.getD k 0) else ((cutK zs s k).1, (cutK zs s k).2 - zs.getD k 0)
def cutL (zs : List Int) (s : Int) (n : Nat) : List Int := (List.range n).map fun k => (cutK zs s (k + 1)).1 - 1
theorem cutL_succ (zs : List Int) (s : Int) (k : Nat) : cutL zs s (k + 1) = cutL zs s k ++ [(cutK zs s (k + 1)).1 - 1] := by simp [cutL, List.range_succ]
theorem cutL_length (zs : List Int) (s : Int) (k : Nat) : (cutL zs s k).length = k := by simp [cutL]
theorem cutK_bound {zs : List Int} {s : Int} (hs : 1 ≤ s ∧ s ≤ 5000) (hz : ∀ (j : Nat) (z : Int), zs[j]? = some z → 1 ≤ z ∧ z ≤ s) : ∀ k : Nat, (0 ≤ (cutK zs s k).1 ∧ (cutK zs s k).1 ≤ k) ∧ 0 ≤ (cutK zs s k).2 ∧ (cutK zs s k).2 ≤ 5000
  | 0 => by simp [cutK]
  | k + 1 => by
    have ih := cutK_bound hs hz k
    have h0 : 0 ≤ zs.getD k 0 ∧ zs.getD k 0 ≤ s := by
      cases h : zs[k]? with
      | none => simp [h]; omega
      | some z => have := hz k z h; simp [h]; omega
    simp only [cutK]
    split <;> simp only <;> omega
theorem piecesC_zero {zs : List Int} {s : Int} (h : piecesC zs s = 0) : (1 ≤ s ∧ s ≤ 5000) ∧ zs.length ≤ 8 ∧ ∀ (j : Nat) (z : Int), zs[j]? = some z → 1 ≤ z ∧ z ≤ s := by
  unfold piecesC at h
  split at h
  · rename_i h1
    simp only [Bool.and_eq_true, List.all_eq_true] at h1
    split at h
    · simp at h
    · rename_i h8
      split at h
      · simp at h
      · rename_i ha
        refine ⟨lineB_true h1.1, by omega, fun j z hj => ?_⟩
        have hm := List.mem_of_getElem? hj
        refine ⟨(lineB_true (h1.2 z hm)).1, ?_⟩
        have : ¬ s < z := fun hlt => ha (by rw [List.any_eq_true]; exact ⟨z, hm, by simpa using hlt⟩)
        omega
  · simp at h

set_option maxRecDepth 100000 in
set_option maxHeartbeats 2000000 in
theorem implCut_good (B N : Nat) (v : Value) (zs : List Int) (hl : zs.length = N) (s : Int) (hc : piecesC zs s = 0) (w : World) (ho : w.ownsRow B 2 1 v N (intsV .i64 zs)) :
    Calls Try.prog 42 #[v, .int .i64 s] w fun e w' => (∃ u, e = .returned (.tuple #[u, .int .i64 (cutK zs s N).1, .int .i64 0]) ∧ w'.ownsRow w.heap.size 2 1 u N (intsV .i64 (cutL zs s N))) ∧ Below w.heap.size w w' := by
  obtain ⟨hs, h8, hz⟩ := piecesC_zero hc
  have HB := Lib.hid (cutK_bound hs hz)
  have HZ := Lib.hid hz
  have HCK := Lib.hid (checkPieces_any B N v (by omega) zs hl s w ho)
  rw [hc] at HCK
  obtain ⟨av, cv, rfl⟩ := own_slice ho
  have HO := Lib.hid ho
  obtain ⟨ci, hi, hz0, hz1, hz2⟩ := info_parts int64Info
  have HCI := Lib.hid (show Try.prog.info? 2 = some ci ∧ ci.zero = some (.int .i64 0) ∧ ci.size = 1 ∧ ci.bytes = 8 from ⟨hi, hz0, hz1, hz2⟩)
  clear ho hc hi hz0 hz1 hz2 hz
  go_enter Try.func42, Try.ntmps42
  go_wp2_with fail
  refine HCK.out.mono ?_
  rintro e w2 ⟨rfl, hw⟩
  rw [hw]
  clear hw HCK
  go_wp2_with fail
  go_loopw [8, 9, 10, 21] (fun u n l i wr => ∃ k : Nat, k ≤ N ∧ i = .int .i64 k ∧ n = .int .i64 (cutK zs s k).1 ∧ l = .int .i64 (cutK zs s k).2 ∧ wr.ownsRow w.heap.size 2 1 u k (intsV .i64 (cutL zs s k)) ∧ Below w.heap.size w wr) (fun _ _ _ i _ => N - (intOf i).toNat)
  case atStart => exact ⟨0, by omega, rfl, rfl, rfl, World.ownsRow_nil _ _ _ _, Below.refl _ _⟩
  case round =>
    obtain ⟨k, hk, rfl, rfl, rfl, hu, hb⟩ := hrel
    have HU := Lib.hid hu
    clear hu
    by_cases hlt : k < N
    · have hd : decide ((k : Int) < (N : Int)) = true := by simp; omega
      obtain ⟨z, hzk⟩ : ∃ z, zs[k]? = some z := ⟨_, List.getElem?_eq_getElem (by omega)⟩
      have bz := HZ.out k z hzk
      have HK := Lib.hid (show cutK zs s (k + 1) = if (cutK zs s k).2 < z then ((cutK zs s k).1 + 1, s - z) else ((cutK zs s k).1, (cutK zs s k).2 - z) by simp [cutK, hzk])
      have HL := Lib.hid (cutL_succ zs s k)
      have ho := own_below HO.out hb
      obtain ⟨ga, cap, he, hBg, hg⟩ := own_form ho (by omega)
      simp only [Value.slice.injEq, true_and] at he
      obtain ⟨rfl, rfl⟩ := he
      have c0 := own_cell ho _ _ (intsV_get (k := .i64) hzk)
      clear ho hzk
      have bk := HB.out k
      obtain ⟨n, hn⟩ : ∃ n, (cutK zs s k).1 = n := ⟨_, rfl⟩
      obtain ⟨l, hll⟩ : ∃ l, (cutK zs s k).2 = l := ⟨_, rfl⟩
      rw [hn, hll] at bk HK
      rw [hn, hll]
      have e1 : IntKind.i64.wrap (n + 1) = n + 1 := IntWalk.i64_in _ (by omega)
      have e2 : IntKind.i64.wrap (n + 1 - 1) = n := by rw [show n + 1 - 1 = n by omega]; exact IntWalk.i64_in _ (by omega)
      have e3 : IntKind.i64.wrap (n - 1) = n - 1 := IntWalk.i64_in _ (by omega)
      have e4 : IntKind.i64.wrap (s - z) = s - z := IntWalk.i64_in _ (by omega)
      have e5 : IntKind.i64.wrap (l - z) = l - z := IntWalk.i64_in _ (by omega)
      clear hn hll
      have hsb := hb.size
      by_cases hlz : l < z
      · have hdl : decide (l < z) = true := by simpa using hlz
        have HK1 := Lib.hid (show (cutK zs s (k + 1)).1 = n + 1 by rw [HK.out, if_pos hlz])
        have HK2 := Lib.hid (show (cutK zs s (k + 1)).2 = s - z by rw [HK.out, if_pos hlz])
        clear hlz HK
        go_wp2_with (at_builtin; refine wpList_append_own_at _ rfl _ _ 57 rfl w.heap.size 2 ci (.int .i64 0) 1 8 Try.underlying57 HCI.out.1 HCI.out.2.1 HCI.out.2.2.1 HCI.out.2.2.2 rfl (by decide) _ _ _ rfl (HU.out.alloc _) ⟨wr.heap.size, 0, none⟩ 1 1 [.int .i64 n] rfl rfl ?c1 ?c2 ?c3 ?c4 ?c5 ?_)
        case c1 =>
          intro m u hu
          match m, hu with
          | 0, hu => simp at hu; subst hu; exact (Holds.new wr #[.int .i64 n] 2).cell 0
        case c2 => intro u hu; simp at hu; subst hu; rfl
        case c3 => unfold maxLen; omega
        case c4 => omega
        case c5 => simp; omega
        intro v' w3 hown hgrow _ hat
        have hb3 : Below w.heap.size w w3 := (hb.alloc hsb _).grown hgrow (by simp; omega) (fun k hk => own_far HU.out k hk)
        have ho3 : w3.ownsRow w.heap.size 2 1 v' (k + 1) (intsV .i64 (cutL zs s (k + 1))) := by
          rw [HL.out, HK1.out]
          simpa [intsV] using hown
        have HO3 := Lib.hid ho3
        clear hown hgrow ho3 hat hb c0 HU
        go_wp2_with fail
        go_roundw
        case rel => exact ⟨k + 1, by omega, by go_num, by rw [HK1.out], by rw [HK2.out], HO3.out, hb3⟩
        case measure => simp [intOf]; omega
      · have hdl : decide (l < z) = false := by simpa using hlz
        have HK1 := Lib.hid (show (cutK zs s (k + 1)).1 = n by rw [HK.out, if_neg hlz])
        have HK2 := Lib.hid (show (cutK zs s (k + 1)).2 = l - z by rw [HK.out, if_neg hlz])
        clear hlz HK
        go_wp2_with (at_builtin; refine wpList_append_own_at _ rfl _ _ 57 rfl w.heap.size 2 ci (.int .i64 0) 1 8 Try.underlying57 HCI.out.1 HCI.out.2.1 HCI.out.2.2.1 HCI.out.2.2.2 rfl (by decide) _ _ _ rfl (HU.out.alloc _) ⟨wr.heap.size, 0, none⟩ 1 1 [.int .i64 (n - 1)] rfl rfl ?c1 ?c2 ?c3 ?c4 ?c5 ?_)
        case c1 =>
          intro m u hu
          match m, hu with
          | 0, hu => simp at hu; subst hu; exact (Holds.new wr #[.int .i64 (n - 1)] 2).cell 0
        case c2 => intro u hu; simp at hu; subst hu; rfl
        case c3 => unfold maxLen; omega
        case c4 => omega
        case c5 => simp; omega
        intro v' w3 hown hgrow _ hat
        have hb3 : Below w.heap.size w w3 := (hb.alloc hsb _).grown hgrow (by simp; omega) (fun k hk => own_far HU.out k hk)
        have ho3 : w3.ownsRow w.heap.size 2 1 v' (k + 1) (intsV .i64 (cutL zs s (k + 1))) := by
          rw [HL.out, HK1.out]
          simpa [intsV] using hown
        have HO3 := Lib.hid ho3
        clear hown hgrow ho3 hat hb c0 HU
        go_wp2_with fail
        go_roundw
        case rel => exact ⟨k + 1, by omega, by go_num, by rw [HK1.out], by rw [HK2.out], HO3.out, hb3⟩
        case measure => simp [intOf]; omega
    · obtain rfl : k = N := by omega
      have hd : decide ((k : Int) < (k : Int)) = false := by simp
      go_wp2_with fail
      go_ret3
      exact ⟨⟨_, rfl, HU.out⟩, hb⟩

set_option maxRecDepth 100000 in
set_option maxHeartbeats 2000000 in
theorem specCut_good (B N : Nat) (v : Value) (zs : List Int) (hl : zs.length = N) (s : Int) (hc : piecesC zs s = 0) (w : World) (ho : w.ownsRow B 2 1 v N (intsV .i64 zs)) :
    Calls Try.prog 40 #[v, .int .i64 s] w fun e w' => (∃ u, e = .returned (.tuple #[u, .int .i64 (cutK zs s N).1, .int .i64 0]) ∧ w'.ownsRow w.heap.size 2 1 u N (intsV .i64 (cutL zs s N))) ∧ Below w.heap.size w w' := by
  obtain ⟨hs, h8, hz⟩ := piecesC_zero hc
  have HB := Lib.hid (cutK_bound hs hz)
  have HZ := Lib.hid hz
  have HCK := Lib.hid (l05Pieces_any B N v (by omega) zs hl s w ho)
  rw [hc] at HCK
  obtain ⟨av, cv, rfl⟩ := own_slice ho
  have HO := Lib.hid ho
  obtain ⟨ci, hi, hz0, hz1, hz2⟩ := info_parts int64Info
  have HCI := Lib.hid (show Try.prog.info? 2 = some ci ∧ ci.zero = some (.int .i64 0) ∧ ci.size = 1 ∧ ci.bytes = 8 from ⟨hi, hz0, hz1, hz2⟩)
  clear ho hc hi hz0 hz1 hz2 hz
  go_enter Try.func40, Try.ntmps40
  go_wp2_with fail
  refine HCK.out.mono ?_
  rintro e w2 ⟨rfl, hw⟩
  rw [hw]
  clear hw HCK
  go_wp2_with fail
  go_loopw [8, 9, 10, 11] (fun u n l i wr => ∃ k : Nat, k ≤ N ∧ i = .int .i64 k ∧ n = .int .i64 (cutK zs s k).1 ∧ l = .int .i64 (cutK zs s k).2 ∧ wr.ownsRow w.heap.size 2 1 u k (intsV .i64 (cutL zs s k)) ∧ Below w.heap.size w wr) (fun _ _ _ i _ => N - (intOf i).toNat)
  case atStart => exact ⟨0, by omega, rfl, rfl, rfl, by simpa [cutL, intsV] using World.ownsRow_made (e := 2) (size := 1) w #[] 0 (Nat.le_refl _) (by simp [maxLen]) rfl, (Below.refl w.heap.size w).alloc (Nat.le_refl _) _⟩
  case round =>
    obtain ⟨k, hk, rfl, rfl, rfl, hu, hb⟩ := hrel
    have HU := Lib.hid hu
    clear hu
    by_cases hlt : k < N
    · have hd : decide ((k : Int) < (N : Int)) = true := by simp; omega
      obtain ⟨z, hzk⟩ : ∃ z, zs[k]? = some z := ⟨_, List.getElem?_eq_getElem (by omega)⟩
      have bz := HZ.out k z hzk
      have HK := Lib.hid (show cutK zs s (k + 1) = if (cutK zs s k).2 < z then ((cutK zs s k).1 + 1, s - z) else ((cutK zs s k).1, (cutK zs s k).2 - z) by simp [cutK, hzk])
      have HL := Lib.hid (cutL_succ zs s k)
      have ho := own_below HO.out hb
      obtain ⟨ga, cap, he, hBg, hg⟩ := own_form ho (by omega)
      simp only [Value.slice.injEq, true_and] at he
      obtain ⟨rfl, rfl⟩ := he
      have c0 := own_cell ho _ _ (intsV_get (k := .i64) hzk)
      clear ho hzk
      have bk := HB.out k
      obtain ⟨n, hn⟩ : ∃ n, (cutK zs s k).1 = n := ⟨_, rfl⟩
      obtain ⟨l, hll⟩ : ∃ l, (cutK zs s k).2 = l := ⟨_, rfl⟩
      rw [hn, hll] at bk HK
      rw [hn, hll]
      have e1 : IntKind.i64.wrap (n + 1) = n + 1 := IntWalk.i64_in _ (by omega)
      have e2 : IntKind.i64.wrap (n + 1 - 1) = n := by rw [show n + 1 - 1 = n by omega]; exact IntWalk.i64_in _ (by omega)
      have e3 : IntKind.i64.wrap (n - 1) = n - 1 := IntWalk.i64_in _ (by omega)
      have e4 : IntKind.i64.wrap (s - z) = s - z := IntWalk.i64_in _ (by omega)
      have e5 : IntKind.i64.wrap (l - z) = l - z := IntWalk.i64_in _ (by omega)
      clear hn hll
      have hsb := hb.size
      by_cases hlz : l < z
      · have hdl : decide (l < z) = true := by simpa using hlz
        have HK1 := Lib.hid (show (cutK zs s (k + 1)).1 = n + 1 by rw [HK.out, if_pos hlz])
        have HK2 := Lib.hid (show (cutK zs s (k + 1)).2 = s - z by rw [HK.out, if_pos hlz])
        clear hlz HK
        go_wp2_with (at_builtin; refine wpList_append_own_at _ rfl _ _ 57 rfl w.heap.size 2 ci (.int .i64 0) 1 8 Try.underlying57 HCI.out.1 HCI.out.2.1 HCI.out.2.2.1 HCI.out.2.2.2 rfl (by decide) _ _ _ rfl (HU.out.alloc _) ⟨wr.heap.size, 0, none⟩ 1 1 [.int .i64 n] rfl rfl ?c1 ?c2 ?c3 ?c4 ?c5 ?_)
        case c1 =>
          intro m u hu
          match m, hu with
          | 0, hu => simp at hu; subst hu; exact (Holds.new wr #[.int .i64 n] 2).cell 0
        case c2 => intro u hu; simp at hu; subst hu; rfl
        case c3 => unfold maxLen; omega
        case c4 => omega
        case c5 => simp; omega
        intro v' w3 hown hgrow _ hat
        have hb3 : Below w.heap.size w w3 := (hb.alloc hsb _).grown hgrow (by simp; omega) (fun k hk => own_far HU.out k hk)
        have ho3 : w3.ownsRow w.heap.size 2 1 v' (k + 1) (intsV .i64 (cutL zs s (k + 1))) := by
          rw [HL.out, HK1.out]
          simpa [intsV] using hown
        have HO3 := Lib.hid ho3
        clear hown hgrow ho3 hat hb c0 HU
        go_wp2_with fail
        go_roundw
        case rel => exact ⟨k + 1, by omega, by go_num, by rw [HK1.out], by rw [HK2.out], HO3.out, hb3⟩
        case measure => simp [intOf]; omega
      · have hdl : decide (l < z) = false := by simpa using hlz
        have HK1 := Lib.hid (show (cutK zs s (k + 1)).1 = n by rw [HK.out, if_neg hlz])
        have HK2 := Lib.hid (show (cutK zs s (k + 1)).2 = l - z by rw [HK.out, if_neg hlz])
        clear hlz HK
        go_wp2_with (at_builtin; refine wpList_append_own_at _ rfl _ _ 57 rfl w.heap.size 2 ci (.int .i64 0) 1 8 Try.underlying57 HCI.out.1 HCI.out.2.1 HCI.out.2.2.1 HCI.out.2.2.2 rfl (by decide) _ _ _ rfl (HU.out.alloc _) ⟨wr.heap.size, 0, none⟩ 1 1 [.int .i64 (n - 1)] rfl rfl ?c1 ?c2 ?c3 ?c4 ?c5 ?_)
        case c1 =>
          intro m u hu
          match m, hu with
          | 0, hu => simp at hu; subst hu; exact (Holds.new wr #[.int .i64 (n - 1)] 2).cell 0
        case c2 => intro u hu; simp at hu; subst hu; rfl
        case c3 => unfold maxLen; omega
        case c4 => omega
        case c5 => simp; omega
        intro v' w3 hown hgrow _ hat
        have hb3 : Below w.heap.size w w3 := (hb.alloc hsb _).grown hgrow (by simp; omega) (fun k hk => own_far HU.out k hk)
        have ho3 : w3.ownsRow w.heap.size 2 1 v' (k + 1) (intsV .i64 (cutL zs s (k + 1))) := by
          rw [HL.out, HK1.out]
          simpa [intsV] using hown
        have HO3 := Lib.hid ho3
        clear hown hgrow ho3 hat hb c0 HU
        go_wp2_with fail
        go_roundw
        case rel => exact ⟨k + 1, by omega, by go_num, by rw [HK1.out], by rw [HK2.out], HO3.out, hb3⟩
        case measure => simp [intOf]; omega
    · obtain rfl : k = N := by omega
      have hd : decide ((k : Int) < (k : Int)) = false := by simp
      go_wp2_with fail
      go_ret3
      exact ⟨⟨_, rfl, HU.out⟩, hb⟩

theorem piecesC_bad_ne {zs : List Int} {s : Int} {c : Int} (h : piecesC zs s = c) (hc : ¬ c = 0) : ((c : Int) != 0) = true := by simpa using hc
set_option maxRecDepth 100000 in
set_option maxHeartbeats 1000000 in
theorem implCut_bad (B N : Nat) (v : Value) (hN : N ≤ 2000000) (zs : List Int) (hl : zs.length = N) (s c : Int) (hc : piecesC zs s = c) (hc0 : ¬ c = 0) (w : World) (ho : w.ownsRow B 2 1 v N (intsV .i64 zs)) :
    Calls Try.prog 42 #[v, .int .i64 s] w fun e w' => (∃ u, e = .returned (.tuple #[u, .int .i64 0, .int .i64 c]) ∧ w'.ownsRow w.heap.size 2 1 u 0 []) ∧ Below w.heap.size w w' := by
  have HCK := Lib.hid (checkPieces_any B N v hN zs hl s w ho)
  rw [hc] at HCK
  have hd := piecesC_bad_ne hc hc0
  clear hc hc0 ho
  go_enter Try.func42, Try.ntmps42
  go_wp2_with fail
  refine HCK.out.mono ?_
  rintro e w2 ⟨rfl, hw⟩
  rw [hw]
  clear hw HCK
  go_wp2_with fail
  go_ret3
  exact ⟨⟨_, rfl, World.ownsRow_nil _ _ _ _⟩, Below.refl _ _⟩
set_option maxRecDepth 100000 in
set_option maxHeartbeats 1000000 in
theorem specCut_bad (B N : Nat) (v : Value) (hN : N ≤ 2000000) (zs : List Int) (hl : zs.length = N) (s c : Int) (hc : piecesC zs s = c) (hc0 : ¬ c = 0) (w : World) (ho : w.ownsRow B 2 1 v N (intsV .i64 zs)) :
    Calls Try.prog 40 #[v, .int .i64 s] w fun e w' => (∃ u, e = .returned (.tuple #[u, .int .i64 0, .int .i64 c]) ∧ w'.ownsRow w.heap.size 2 1 u 0 []) ∧ Below w.heap.size w w' := by
  have HCK := Lib.hid (l05Pieces_any B N v hN zs hl s w ho)
  rw [hc] at HCK
  have hd := piecesC_bad_ne hc hc0
  clear hc hc0 ho
  go_enter Try.func40, Try.ntmps40
  go_wp2_with fail
  refine HCK.out.mono ?_
  rintro e w2 ⟨rfl, hw⟩
  rw [hw]
  clear hw HCK
  go_wp2_with fail
  go_ret3
  exact ⟨⟨_, rfl, by simpa using World.ownsRow_made (e := 2) (size := 1) w #[] 0 (Nat.le_refl _) (by simp [maxLen]) rfl⟩, (Below.refl w.heap.size w).alloc (Nat.le_refl _) _⟩
end Go.Proofs.Ythpfejbigdjhlaa
