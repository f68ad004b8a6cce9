/- l01Split: a text, cut at each letter of one kind: a row of strings. -/
import Derived.Test.YthfhpcigjnjkdaaDoorSplitP
import Derived.Test.YthfhpcigjnjkdaaDoorZC
import Derived.Test.YthfhpcigjnjkdaaDoorStrV
namespace Go.Proofs.YthfhpcigjnjkdaaDoor
open Go.RowKit Go.Shelf
set_option linter.unusedVariables false
set_option linter.unusedSimpArgs false
attribute [local go_sem ↓] loadRow loadGrid loadLawn loadMirror storeRow storeGrid storeLawn allocRow allocGrid allocLawn buildZero buildSides

/-- The cuts up to a place: the segments, and where the last one begins. -/
def CutTo (c : UInt8) (t : List UInt8) (i : Nat) (segs : List (List UInt8)) (b : Nat) : Prop := b ≤ i ∧ segs.length ≤ i ∧ splitS c t = segs ++ splitS c (t.drop b) ∧ c ∉ (t.take i).drop b
theorem cutTo_zero (c : UInt8) (t : List UInt8) : CutTo c t 0 [] 0 := ⟨Nat.le_refl _, Nat.le_refl _, by simp, by simp⟩
theorem cutTo_miss {c : UInt8} {t : List UInt8} {i b : Nat} {segs : List (List UInt8)} {a : UInt8} (h : CutTo c t i segs b) (ha : t[i]? = some a) (hne : a ≠ c) : CutTo c t (i + 1) segs b := by
  obtain ⟨h1, h0, h2, h3⟩ := h
  refine ⟨by omega, by omega, h2, ?_⟩
  rw [List.take_add_one, ha, Option.toList_some, List.drop_append_of_le_length (by have := (List.getElem?_eq_some_iff.1 ha).1; simp; omega)]
  simp only [List.mem_append, List.mem_singleton, not_or]
  exact ⟨h3, fun e => hne e.symm⟩
theorem cutTo_hit {c : UInt8} {t : List UInt8} {i b : Nat} {segs : List (List UInt8)} (h : CutTo c t i segs b) (ha : t[i]? = some c) : CutTo c t (i + 1) (segs ++ [(t.take i).drop b]) (i + 1) := by
  obtain ⟨h1, h0, h2, h3⟩ := h
  have hl := (List.getElem?_eq_some_iff.1 ha).1
  refine ⟨Nat.le_refl _, by simp; omega, ?_, by simp⟩
  have e : t.drop b = (t.take i).drop b ++ c :: t.drop (i + 1) := by
    have h5 : t = t.take i ++ c :: t.drop (i + 1) := by
      conv => lhs; rw [← List.take_append_drop i t, List.drop_eq_getElem_cons hl]
      rw [(List.getElem?_eq_some_iff.1 ha).2]
    conv => lhs; rw [h5]
    rw [List.drop_append_of_le_length (by simp; omega)]
  rw [h2, e, splitS_cut h3]
  simp
theorem cutTo_end {c : UInt8} {t : List UInt8} {i b : Nat} {segs : List (List UInt8)} (h : CutTo c t i segs b) (hi : t.length ≤ i) : splitS c t = segs ++ [t.drop b] := by
  obtain ⟨h1, h0, h2, h3⟩ := h
  rw [List.take_of_length_le hi] at h3
  rw [h2, splitS_one h3]
theorem extract_is (s : ByteArray) (b i : Nat) (hb : b ≤ i) (hi : i ≤ s.size) : s.extract b i = ⟨((s.data.toList.take i).drop b).toArray⟩ := by
  apply ByteArray.ext
  rw [ByteArray.data_extract]
  apply Array.ext'
  rw [Array.toList_extract]
  simp [List.extract_eq_take_drop, List.drop_take]

set_option maxRecDepth 100000 in
set_option maxHeartbeats 2000000 in
theorem split_any (s : ByteArray) (hs : s.size ≤ 1048576) (c : UInt8) (w : World) :
    Calls Tryd.prog 57 #[.string s, .int .u8 c.toNat] w fun e w' => (∃ v, e = .returned v ∧ w'.ownsRow w.heap.size 9 1 v (splitS c s.data.toList).length (strV (splitS c s.data.toList))) ∧ Below w.heap.size w w' := by
  obtain ⟨i0, hi, hz0, hz1, hz2⟩ := info_parts strInfo
  have HI := Lib.hid (show Tryd.prog.info? 9 = some i0 ∧ i0.zero = some (.string ⟨#[]⟩) ∧ i0.size = 1 ∧ i0.bytes = 16 from ⟨hi, hz0, hz1, hz2⟩)
  clear hi hz0 hz1 hz2
  obtain ⟨u, hu⟩ : ∃ u, w.heap.size = u := ⟨_, rfl⟩
  obtain ⟨W1, hW1⟩ : ∃ W1, w.alloc (.cells #[] 9) = W1 := ⟨_, rfl⟩
  have hm : W1.ownsRow u 9 1 (.slice (some ⟨u, 0, none⟩) 0 0) 0 [] := by
    have := World.ownsRow_made (e := 9) (size := 1) w #[] 0 (Nat.le_refl _) (by simp [maxLen]) rfl
    rw [hW1, hu] at this
    simpa using this
  have HM := Lib.hid hm
  have hB1 : Below u w W1 := by rw [← hW1]; exact (Below.refl u w).alloc (by omega) _
  have HU := Lib.hid hu
  obtain ⟨t, htt⟩ : ∃ t, s.data.toList = t := ⟨_, rfl⟩
  have hlen : t.length = s.size := by rw [← htt, Array.length_toList]; rfl
  have HGT := Lib.hid (fun (i : Nat) (h : i < s.size) => show t[i]? = some (s[i]'h) by
    rw [← htt, Array.getElem?_toList]
    exact Array.getElem?_eq_getElem h)
  have HEX := Lib.hid (fun b i hb hi => extract_is s b i hb hi)
  rw [htt] at HEX
  rw [htt, hu]
  clear htt hm hu
  have hs64 : (s.size : Int) ≤ 1048576 := by omega
  go_enter Tryd.func57, Tryd.ntmps57
  go_wp2_with fail
  try simp only [HU.out]
  try rw [hW1]
  clear hW1
  go_loopw [5, 6, 7] (fun v bg x wr => ∃ i segs b, i ≤ s.size ∧ x = .int .i64 (i : Nat) ∧ bg = .int .i64 (b : Nat) ∧ CutTo c t i segs b ∧ wr.ownsRow u 9 1 v segs.length (strV segs) ∧ Below u w wr) (fun _ _ x _ => s.size - (intOf x).toNat)
  case atStart => exact ⟨0, [], 0, by omega, rfl, rfl, cutTo_zero c t, HM.out, hB1⟩
  case round =>
    obtain ⟨i, segs, b, hi, rfl, rfl, hc, ho, hb⟩ := hrel
    have HO := Lib.hid ho
    have hbi := hc.1
    have hsl := hc.2.1
    have HC := Lib.hid hc
    have hus : u ≤ wr.heap.size := by have := hb.size; have := HU.out; omega
    clear hc ho HM hB1
    by_cases hlt : i < s.size
    · have hd : decide ((i : Int) < (s.size : Int)) = true := by simp; omega
      have HG := Lib.hid (HGT.out i hlt)
      by_cases hcc : s[i]'hlt = c
      · have hq : (((s[i]'hlt).toNat : Int) == (c.toNat : Int)) = true := by rw [hcc]; simp
        have HN := Lib.hid (cutTo_hit HC.out (by rw [HG.out, hcc]))
        have HE := Lib.hid (HEX.out b i hbi hi)
        clear hcc
        go_wp2_with (at_builtin; refine wpList_append_own_at _ rfl _ _ 81 rfl u 9 i0 (.string ⟨#[]⟩) 1 16 Tryd.underlying81 HI.out.1 HI.out.2.1 HI.out.2.2.1 HI.out.2.2.2 rfl (by decide) _ _ _ rfl (HO.out.alloc _) ⟨wr.heap.size, 0, none⟩ 1 1 [.string (s.extract b i)] rfl rfl ?c1 ?c2 ?c3 ?c4 ?c5 ?_)
        case c1 =>
          intro m y hy
          match m, hy with
          | 0, hy => simp at hy; subst hy; exact (Holds.new wr #[.string (s.extract b i)] 9).cell 0
        case c2 => intro y hy; simp at hy; subst hy; rfl
        case c3 => unfold maxLen; omega
        case c4 => omega
        case c5 => simp; omega
        intro v' w3 hown' hgrow _ hat
        have hb5 : Below u w w3 := (hb.alloc hus _).grown hgrow (by simp; omega) (fun k hk => by have := own_far HO.out k hk; omega)
        have HO3 := Lib.hid (show w3.ownsRow u 9 1 v' (segs ++ [(t.take i).drop b]).length (strV (segs ++ [(t.take i).drop b])) by
          rw [List.length_append, strV, List.map_append]
          rw [HE.out] at hown'
          exact hown')
        clear hown' hgrow hat hb HO
        go_wp2_with fail
        go_roundw
        case rel => exact ⟨i + 1, _, i + 1, by omega, by go_num, by go_num, HN.out, HO3.out, hb5⟩
        case measure => simp [intOf]; omega
      · have hq : (((s[i]'hlt).toNat : Int) == (c.toNat : Int)) = false := by
          simp only [beq_eq_false_iff_ne, ne_eq]
          intro h
          exact hcc (UInt8.toNat_inj.1 (by omega))
        have HN := Lib.hid (cutTo_miss HC.out HG.out hcc)
        clear hcc
        go_wp2_with fail
        go_roundw
        case rel => exact ⟨i + 1, segs, b, by omega, by go_num, rfl, HN.out, HO.out, hb⟩
        case measure => simp [intOf]; omega
    · obtain rfl : i = s.size := by omega
      have hd : decide ((s.size : Int) < (s.size : Int)) = false := by simp
      have HN := Lib.hid (cutTo_end HC.out (by omega))
      have HE := Lib.hid (show s.extract b s.size = ⟨(t.drop b).toArray⟩ by
        rw [HEX.out b s.size hbi (Nat.le_refl _), List.take_of_length_le (by omega)])
      go_wp2_with (at_builtin; refine wpList_append_own_at _ rfl _ _ 81 rfl u 9 i0 (.string ⟨#[]⟩) 1 16 Tryd.underlying81 HI.out.1 HI.out.2.1 HI.out.2.2.1 HI.out.2.2.2 rfl (by decide) _ _ _ rfl (HO.out.alloc _) ⟨wr.heap.size, 0, none⟩ 1 1 [.string (s.extract b s.size)] rfl rfl ?c1 ?c2 ?c3 ?c4 ?c5 ?_)
      case c1 =>
        intro m y hy
        match m, hy with
        | 0, hy => simp at hy; subst hy; exact (Holds.new wr #[.string (s.extract b s.size)] 9).cell 0
      case c2 => intro y hy; simp at hy; subst hy; rfl
      case c3 => unfold maxLen; omega
      case c4 => omega
      case c5 => simp; omega
      intro v' w3 hown' hgrow _ hat
      have hb5 : Below u w w3 := (hb.alloc hus _).grown hgrow (by simp; omega) (fun k hk => by have := own_far HO.out k hk; omega)
      have HO3 := Lib.hid (show w3.ownsRow u 9 1 v' (splitS c t).length (strV (splitS c t)) by
        rw [HN.out, List.length_append, strV, List.map_append]
        rw [HE.out] at hown'
        exact hown')
      clear hown' hgrow hat hb HO
      go_wp2_with fail
      go_ret
      exact ⟨⟨_, rfl, HO3.out⟩, hb5⟩
end Go.Proofs.YthfhpcigjnjkdaaDoor
