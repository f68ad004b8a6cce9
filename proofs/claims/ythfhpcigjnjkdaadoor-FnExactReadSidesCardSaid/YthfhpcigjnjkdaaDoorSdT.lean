/- SidesText, of both sides. -/
import Derived.Test.YthfhpcigjnjkdaaDoorTabT
import Derived.Test.YthfhpcigjnjkdaaDoorDecimal
import Derived.Test.YthfhpcigjnjkdaaDoorSd5
import Derived.Test.YthfhpcigjnjkdaaDoorAsked
import Derived.Test.YthfhpcigjnjkdaaDoorZA
namespace Go.Proofs.YthfhpcigjnjkdaaDoor
open Go.RowKit
set_option linter.unusedVariables false
set_option linter.unusedSimpArgs false
attribute [local go_sem ↓] loadSd storeSd allocSd buildSd

def sdT (x : Int) : List UInt8 := dd x.toNat
def sdOk (x : Int) : Bool := decide (0 ≤ x) && decide (x ≤ 400)
/-- The five numbers. -/
def sdL (f : Sd) : List Int := (List.range 5).map f
theorem sdL_get (f : Sd) {k : Nat} (h : k < 5) : (sdL f)[k]? = some (f k) := by unfold sdL; rw [List.getElem?_map, List.getElem?_range h]; rfl
theorem sdL_length (f : Sd) : (sdL f).length = 5 := by simp [sdL]
theorem sdT_len7 (a : Int) : (sdT a).length ≤ 7 := by have := dd_len3 a.toNat; unfold sdT; omega
/-- The text of sides. -/
def sidesS (f : Sd) : ByteArray := ⟨(lineL sdT sdOk 5 (sdL f)).toArray⟩
theorem sidesS_bad {f : Sd} {k : Nat} (h : k < 5) (hf : sdOk (f k) = false) : sidesS f = ⟨#[]⟩ := by
  unfold sidesS lineL
  rw [if_neg]
  simp only [Bool.and_eq_true, not_and, List.all_eq_true]
  intro hall
  have := hall (f k) (List.mem_of_getElem? (sdL_get f h))
  rw [hf] at this
  cases this
theorem sidesS_good {f : Sd} (h : ∀ j, j < 5 → sdOk (f j) = true) : sidesS f = ⟨(joinS 32 ((sdL f).map sdT)).toArray⟩ := by
  unfold sidesS
  rw [lineL_good (fun a ha => by
    obtain ⟨j, hj⟩ := List.getElem?_of_mem ha
    have hl := (List.getElem?_eq_some_iff.1 hj).1
    rw [sdL_length] at hl
    rw [sdL_get f hl] at hj
    cases hj
    exact h j hl) (by rw [sdL_length]; exact Nat.le_refl _)]
def sidesB (f : Sd) : Bool := (sdL f).all sdOk

set_option maxRecDepth 100000 in
set_option maxHeartbeats 2000000 in
theorem itextSd_any (f : Sd) (w : World) (hT : TabUp w) :
    Calls Tryd.prog 37 #[.agg (sdV f)] w fun e w' => e = .returned (.string (sidesS f)) ∧ Below w.heap.size w w' := by
  obtain ⟨i0, hi, hq0, hq1, hq2⟩ := info_parts strInfo
  have HCI := Lib.hid (show Tryd.prog.info? 9 = some i0 ∧ i0.zero = some (.string ⟨#[]⟩) ∧ i0.size = 1 ∧ i0.bytes = 16 from ⟨hi, hq0, hq1, hq2⟩)
  clear hi hq0 hq1 hq2
  obtain ⟨u, hu⟩ : ∃ u, w.heap.size = u := ⟨_, rfl⟩
  obtain ⟨W1, hW1⟩ : ∃ W1, w.alloc (.cells (sdV f) 53) = W1 := ⟨_, rfl⟩
  have g0 : Holds W1 u (sdV f) := by rw [← hW1]; exact Holds.new' _ _ _ _ hu.symm
  have hB1 : Below u w W1 := by rw [← hW1]; exact (Below.refl u w).alloc (by omega) _
  have HU := Lib.hid hu
  have HTT := Lib.hid hT
  have HIX := Lib.hid (fun k hk w => sd_index f k hk w)
  have HBAD := Lib.hid (fun (k : Nat) hk hf => sidesS_bad (f := f) (k := k) hk hf)
  have HGOOD := Lib.hid (fun h => sidesS_good (f := f) h)
  have HFM := Lib.hid (show ∀ x : Int, 0 ≤ x ∧ x ≤ 400 → ∀ w, TabUp w → Calls Tryd.prog 83 #[.int .i64 x, .int .i64 10] w fun e w' => e = .returned (.string ⟨(sdT x).toArray⟩) ∧ Below w.heap.size w w' from fun x h w ht => by
    have := formatInt_any x.toNat (by omega) w ht
    rwa [show ((x.toNat : Nat) : Int) = x by omega] at this)
  have HNX := Lib.hid (show ∀ k, k < 5 → strV (((sdL f).take (k + 1)).map sdT) = strV (((sdL f).take k).map sdT) ++ [.string ⟨(sdT (f k)).toArray⟩] from fun k h => by
    rw [List.take_add_one, sdL_get f h]; simp [strV])
  have HALL := Lib.hid (show strV (((sdL f).take 5).map sdT) = strV ((sdL f).map sdT) ∧ ((sdL f).map sdT).length = 5 from ⟨by rw [List.take_of_length_le (by rw [sdL_length]; exact Nat.le_refl _)], by rw [List.length_map, sdL_length]⟩)
  have HJL := Lib.hid (show (joinS 32 ((sdL f).map sdT)).length ≤ 40 from join_le (tx := sdT) (sdL f) sdT_len7)
  obtain ⟨r0, -, -, -, l0⟩ := g0.facts
  clear hT
  rw [hu]
  go_enter Tryd.func37, Tryd.ntmps37
  go_wp2_with fail
  try simp only [hu]
  try rw [hW1]
  clear hW1 r0 l0
  go_loopw [3, 7] (fun x i wr => ∃ k : Nat, k ≤ 5 ∧ i = .int .i64 (k : Int) ∧ (∀ j, j < k → sdOk (f j) = true) ∧ wr.ownsRow u 9 1 x k (strV (((sdL f).take k).map sdT)) ∧ Below u w wr) (fun _ i _ => 5 - (intOf i).toNat)
  case atStart => exact ⟨0, by omega, rfl, (fun j h => absurd h (Nat.not_lt_zero _)), ⟨rfl, .inl ⟨rfl, rfl⟩⟩, hB1⟩
  case round =>
    obtain ⟨k, hk, rfl, hpre, hox, hb⟩ := hrel
    have HX := Lib.hid hox
    have HPRE := Lib.hid hpre
    have hsz := hb.size
    clear hox hpre hu
    by_cases hlt : k < 5
    · have hd : decide ((k : Int) < 5) = true := by simp; omega
      have hix := HIX.out k hlt wr
      have HN := HNX.out k hlt
      obtain ⟨z, hz⟩ : ∃ z, f k = z := ⟨_, rfl⟩
      have HZ := Lib.hid hz
      rw [hz] at hix HN
      have HNN := Lib.hid HN
      have hlz := sdT_len7 z
      clear hz HN
      go_wp2_with fail
      obtain ⟨bx, hbx⟩ : ∃ b, upB z 400 = b := ⟨_, rfl⟩
      refine (upto64_is _ _ bx hbx _).mono ?_
      rintro e w2 ⟨rfl, hw2⟩
      rw [hw2]
      clear hw2 hix
      have HBX := Lib.hid hbx
      clear hbx
      cases bx
      case false =>
        have HE := Lib.hid (HBAD.out k hlt (by rw [HZ.out]; have := HBX.out; unfold upB at this; exact this))
        go_wp2_with fail
        go_ret
        exact ⟨by rw [HE.out]; rfl, hb⟩
      have HOKA := Lib.hid (show sdOk (f k) = true by rw [HZ.out]; have := HBX.out; unfold upB at this; exact this)
      have HFF := Lib.hid (HFM.out z (by have := HBX.out; simpa [upB] using this) _ (HTT.out.below hb (by have := HU.out; omega)))
      obtain ⟨A, hA⟩ : ∃ A, sdT z = A := ⟨_, rfl⟩
      rw [hA] at HFF HNN hlz
      clear hA
      go_wp2_with fail
      refine HFF.out.mono ?_
      rintro e W5 ⟨rfl, hb5⟩
      have HX5 := Lib.hid (own_below HX.out hb5)
      have hB5 := hb.trans (hb5.mono (by have := HU.out; omega))
      have hs5 := hB5.size
      clear hb5 hb HX HFF
      go_wp2_with (at_builtin; refine wpList_append_own_at _ rfl _ _ 81 rfl u 9 i0 (.string ⟨#[]⟩) 1 16 Tryd.underlying81 HCI.out.1 HCI.out.2.1 HCI.out.2.2.1 HCI.out.2.2.2 rfl (by decide) _ _ _ rfl (HX5.out.alloc _) ⟨W5.heap.size, 0, none⟩ 1 1 [.string ⟨A.toArray⟩] rfl rfl ?c1 ?c2 ?c3 ?c4 ?c5 ?_)
      case c1 =>
        intro m y hy
        match m, hy with
        | 0, hy => simp at hy; subst hy; exact (Holds.new W5 #[.string ⟨A.toArray⟩] 9).cell 0
      case c2 => intro y hy; simp at hy; subst hy; rfl
      case c3 => unfold maxLen; omega
      case c4 => omega
      case c5 => have := HU.out; simp; omega
      intro v' w9 hown' hgrow _ hat
      have hB9 : Below u w w9 := (hB5.alloc (by have := HU.out; omega) _).grown hgrow (by have := HU.out; simp; omega) (fun k hk => by have := own_far HX5.out k hk; omega)
      have HX9 := Lib.hid (show w9.ownsRow u 9 1 v' (k + 1) (strV (((sdL f).take (k + 1)).map sdT)) by
        rw [HNN.out]
        simpa only [List.map_take] using hown')
      have HPX := Lib.hid (show ∀ j, j < k + 1 → sdOk (f j) = true from fun j hj => by
        rcases Nat.lt_or_ge j k with h1 | h1
        · exact HPRE.out j h1
        · have e : j = k := by omega
          rw [e]; exact HOKA.out)
      clear HX5 hB5 hown' hgrow hat
      go_wp2_with fail
      go_roundw
      case rel => exact ⟨k + 1, by omega, by go_num, HPX.out, HX9.out, hB9⟩
      case measure => simp [intOf]; omega
    · have hd : decide ((k : Int) < 5) = false := by simp; omega
      obtain rfl : k = 5 := by omega
      have hox := HX.out
      rw [HALL.out.1] at hox
      go_wp2_with fail
      refine (join_own 32 ((sdL f).map sdT) 5 HALL.out.2 u _ _ hox (by omega) (by have := HJL.out; omega)).mono ?_
      rintro e w9 ⟨rfl, hb9⟩
      have hbz := hb.trans (hb9.mono (by have := HU.out; omega))
      go_wp2_with fail
      go_ret
      exact ⟨by rw [HGOOD.out HPRE.out]; rfl, hbz⟩
end Go.Proofs.YthfhpcigjnjkdaaDoor
