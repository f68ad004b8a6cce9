/- The cells beside a cell, of the model. -/
import Derived.Test.YtgmahakpmjfhhaaRRReach
import Derived.Test.YtgmahakpmjfhhaaRRSDiffer
namespace Go.Proofs.YtgmahakpmjfhhaaRR
open Go.RowKit
set_option linter.unusedVariables false
attribute [local go_sem ↓] loadRow loadGrid loadLawn loadMirror storeRow storeGrid storeLawn allocRow allocGrid allocLawn buildZero buildSides

def flatP (l : List Pt) : List Value := l.flatMap fun c => [.int .i8 c.1, .int .i8 c.2]
theorem flatP_length (l : List Pt) : (flatP l).length = l.length * 2 := by
  induction l with
  | nil => rfl
  | cons a l ih => simp [flatP] at ih ⊢; omega
theorem flatP_append (l l' : List Pt) : flatP (l ++ l') = flatP l ++ flatP l' := by simp [flatP]
theorem flatP_get : ∀ (l : List Pt) (i : Nat) (c : Pt), l[i]? = some c → (flatP l)[i * 2]? = some (.int .i8 c.1) ∧ (flatP l)[i * 2 + 1]? = some (.int .i8 c.2)
  | [], i, c, h => by simp at h
  | a :: l, 0, c, h => by simp at h; subst h; exact ⟨rfl, rfl⟩
  | a :: l, i + 1, c, h => by
    have ih := flatP_get l i c (by simpa using h)
    simp only [flatP, List.flatMap_cons] at ih ⊢
    rw [show (i + 1) * 2 = i * 2 + 2 by omega, show i * 2 + 2 + 1 = i * 2 + 1 + 2 by omega]
    simpa using ih
/-- The first k cells beside one, those that the lawn has. -/
def besideK (L : Lawn) (x y : Int) (k : Nat) : List Pt := ((beside (x, y)).take k).filter fun c => isB L c.1 c.2
theorem besideK_le (L : Lawn) (x y : Int) (k : Nat) : (besideK L x y k).length ≤ 4 := by
  unfold besideK
  refine Nat.le_trans (List.length_filter_le _ _) ?_
  simp [beside]; omega
theorem besideK_hit {L : Lawn} {x y : Int} {k : Nat} {c : Pt} (h : (beside (x, y))[k]? = some c) (hi : isB L c.1 c.2 = true) : besideK L x y (k + 1) = besideK L x y k ++ [c] := by
  unfold besideK
  rw [List.take_add_one, h, Option.toList_some, List.filter_append]
  simp [hi]
theorem besideK_miss {L : Lawn} {x y : Int} {k : Nat} {c : Pt} (h : (beside (x, y))[k]? = some c) (hi : isB L c.1 c.2 = false) : besideK L x y (k + 1) = besideK L x y k := by
  unfold besideK
  rw [List.take_add_one, h, Option.toList_some, List.filter_append]
  simp [hi]
theorem beside_in {x y : Int} (x0 : 0 ≤ x) (x1 : x ≤ 9) (y0 : 0 ≤ y) (y1 : y ≤ 9) {c : Pt} (h : c ∈ beside (x, y)) : (-1 ≤ c.1 ∧ c.1 ≤ 10) ∧ -1 ≤ c.2 ∧ c.2 ≤ 10 := by
  simp only [beside, List.mem_cons, List.not_mem_nil, or_false] at h
  rcases h with rfl | rfl | rfl | rfl <;> simp only <;> omega

set_option maxRecDepth 100000 in
set_option maxHeartbeats 2000000 in
theorem beside_any (L : Lawn) (hL : L.Fits) (b : Nat) (x y : Int) (x0 : 0 ≤ x) (x1 : x ≤ 9) (y0 : 0 ≤ y) (y1 : y ≤ 9) (w : World) (h : Holds w b L.cells) :
    Calls Try.prog 180 #[.pointer (some ⟨b, 0, none⟩), .agg #[.int .i8 x, .int .i8 y]] w fun e w' => ∃ v, e = .returned v ∧ w'.ownsRow w.heap.size 35 2 v (besideK L x y 4).length (flatP (besideK L x y 4)) ∧ Below w.heap.size w w' := by
  obtain ⟨i0, hi, hz0, hz1, hz2⟩ := info_parts cellInfo
  have HI := Lib.hid (show Try.prog.info? 35 = some i0 ∧ i0.zero = some (.agg #[.int .i8 0, .int .i8 0]) ∧ i0.size = 2 ∧ i0.bytes = 2 from ⟨hi, hz0, hz1, hz2⟩)
  have HIS := Lib.hid (fun (c : Pt) (h0 : (-1 ≤ c.1 ∧ c.1 ≤ 10) ∧ -1 ≤ c.2 ∧ c.2 ≤ 10) (v : Bool) (hv : isB L c.1 c.2 = v) (w : World) (h : Holds w b L.cells) => l01Is_is L hL b c.1 c.2 w h (by omega) (by omega) (by omega) (by omega) v hv)
  have HBI := Lib.hid (fun (c : Pt) (h : c ∈ beside (x, y)) => beside_in x0 x1 y0 y1 h)
  have hbw := h.lt
  have H0 := Lib.hid h
  clear hi hz0 hz1 hz2 h
  go_enter Try.func180, Try.ntmps180
  go_wp2_with fail
  have hm : (((w.alloc (.cells #[.int .i8 x, .int .i8 y] 35)).alloc (.cells (flatP (beside (x, y))).toArray 35)).alloc (.cells #[] 35)).ownsRow (w.heap.size + 1 + 1) 35 2 (.slice (some ⟨w.heap.size + 1 + 1, 0, none⟩) 0 0) 0 [] := by
    have := World.ownsRow_made (e := 35) (size := 2) ((w.alloc (.cells #[.int .i8 x, .int .i8 y] 35)).alloc (.cells (flatP (beside (x, y))).toArray 35)) #[] 0 (Nat.le_refl _) (by simp [maxLen]) rfl
    simpa using this
  have h1 : Holds (((w.alloc (.cells #[.int .i8 x, .int .i8 y] 35)).alloc (.cells (flatP (beside (x, y))).toArray 35)).alloc (.cells #[] 35)) (w.heap.size + 1) (flatP (beside (x, y))).toArray := (Holds.new' _ _ _ _ (by simp)).alloc _
  have h0 : Holds (((w.alloc (.cells #[.int .i8 x, .int .i8 y] 35)).alloc (.cells (flatP (beside (x, y))).toArray 35)).alloc (.cells #[] 35)) b L.cells := ((H0.out.alloc _).alloc _).alloc _
  have hb0 : Below w.heap.size w (((w.alloc (.cells #[.int .i8 x, .int .i8 y] 35)).alloc (.cells (flatP (beside (x, y))).toArray 35)).alloc (.cells #[] 35)) := (((Below.refl w.heap.size w).alloc (Nat.le_refl _) _).alloc (by simp) _).alloc (by simp; omega) _
  simp only [flatP, beside, List.flatMap_cons, List.flatMap_nil, List.cons_append, List.nil_append, List.append_nil] at hm h1 h0 hb0
  obtain ⟨s, hs⟩ : ∃ s, w.heap.size = s := ⟨_, rfl⟩
  generalize (((w.alloc (.cells #[.int .i8 x, .int .i8 y] 35)).alloc (.cells _ 35)).alloc (.cells #[] 35)) = W0 at hm h1 h0 hb0 ⊢
  rw [hs] at hm h1 hb0 hbw ⊢
  have h1 : Holds W0 (s + 1) (flatP (beside (x, y))).toArray := h1
  have HS := Lib.hid hs
  clear hs H0
  go_loopw [6, 7] (fun v q wr => ∃ k : Nat, k ≤ 4 ∧ q = .int .i64 k ∧ wr.ownsRow (s + 1 + 1) 35 2 v (besideK L x y k).length (flatP (besideK L x y k)) ∧ Holds wr b L.cells ∧ Holds wr (s + 1) (flatP (beside (x, y))).toArray ∧ Below s w wr) (fun _ q _ => 4 - (intOf q).toNat)
  case atStart => exact ⟨0, by omega, rfl, hm, h0, h1, hb0⟩
  case round =>
    obtain ⟨k, hk, rfl, ho, k0, k1, hb⟩ := hrel
    have HO := Lib.hid ho
    clear ho hm h0 h1 hb0
    have hsz := k1.lt
    by_cases hlt : k < 4
    · have hd : decide ((k : Int) < (4 : Int)) = true := by simp; omega
      obtain ⟨c, hc⟩ : ∃ c, (beside (x, y))[k]? = some c := ⟨_, List.getElem?_eq_getElem (by simpa [beside] using hlt)⟩
      have HC := Lib.hid hc
      have hcb := HBI.out c (List.mem_of_getElem? hc)
      obtain ⟨fa, fb⟩ := flatP_get _ _ _ hc
      have FF := Lib.hid (show ∀ w', Holds w' (s + 1) (flatP (beside (x, y))).toArray → w'.cell? ⟨s + 1, k * 2, none⟩ = some (.int .i8 c.1) ∧ w'.cell? ⟨s + 1, k * 2 + 1, none⟩ = some (.int .i8 c.2) from fun w' h =>
        ⟨by rw [h.cell, List.getElem?_toArray, fa], by rw [h.cell, List.getElem?_toArray, fb]⟩)
      obtain ⟨ca, cb⟩ := FF.out _ k1
      have HCB := Lib.hid hcb
      clear hc fa fb hcb
      go_wp2_with fail
      cases hin : isB L c.1 c.2
      case true =>
        refine (HIS.out c HCB.out true hin _ k0).mono ?_
        rintro e w2 ⟨rfl, hb1⟩
        have p0 := k0.below hb1 k0.lt
        have p1 := k1.below hb1 k1.lt
        have hb4 : Below s w w2 := hb.trans (hb1.mono (by omega))
        have HO2 := Lib.hid (own_below HO.out hb1)
        have hs2 := p1.lt
        clear ca cb k0 k1 hb hb1 HO
        obtain ⟨ca, cb⟩ := FF.out _ p1
        have HIN := Lib.hid hin
        have hle := besideK_le L x y k
        clear hin
        go_wp2_with (at_builtin; refine wpList_append_own_at _ rfl _ _ 42 rfl (s + 1 + 1) 35 i0 (.agg #[.int .i8 0, .int .i8 0]) 2 2 Try.underlying42 HI.out.1 HI.out.2.1 HI.out.2.2.1 HI.out.2.2.2 rfl (by decide) _ _ _ rfl (HO2.out.alloc _) ⟨w2.heap.size, 0, none⟩ 1 1 [.int .i8 c.1, .int .i8 c.2] rfl rfl ?c1 ?c2 ?c3 ?c4 ?c5 ?_)
        case c1 =>
          intro m u hu
          match m, hu with
          | 0, hu => simp at hu; subst hu; exact (Holds.new w2 #[.int .i8 c.1, .int .i8 c.2] 35).cell 0
          | 1, hu => simp at hu; subst hu; exact (Holds.new w2 #[.int .i8 c.1, .int .i8 c.2] 35).cell 1
        case c2 => intro u hu; simp at hu; rcases hu with rfl | rfl <;> rfl
        case c3 => unfold maxLen; omega
        case c4 => omega
        case c5 => simp; omega
        intro v' w3 hown' hgrow _ hat
        have hb5 : Below s w w3 := (hb4.alloc (by omega) _).grown hgrow (by simp; omega) (fun k hk => by have := own_far HO2.out k hk; omega)
        have ho3 : w3.ownsRow (s + 1 + 1) 35 2 v' (besideK L x y (k + 1)).length (flatP (besideK L x y (k + 1))) := by
          rw [besideK_hit HC.out HIN.out, flatP_append, List.length_append]
          exact hown'
        have r0 := held_grown (p0.alloc (.cells #[.int .i8 c.1, .int .i8 c.2] 35)) (HO2.out.alloc _) hgrow (by omega)
        have r1 := held_grown (p1.alloc (.cells #[.int .i8 c.1, .int .i8 c.2] 35)) (HO2.out.alloc _) hgrow (by omega)
        have HO3 := Lib.hid ho3
        clear hown' hgrow ho3 hat ca cb hb4 p0 p1
        go_wp2_with fail
        go_roundw
        case rel => exact ⟨k + 1, by omega, by go_num, HO3.out, r0, r1, hb5⟩
        case measure => simp [intOf]; omega
      case false =>
        refine (HIS.out c HCB.out false hin _ k0).mono ?_
        rintro e w2 ⟨rfl, hb1⟩
        have p0 := k0.below hb1 k0.lt
        have p1 := k1.below hb1 k1.lt
        have hb4 : Below s w w2 := hb.trans (hb1.mono (by omega))
        have HO2 := Lib.hid (own_below HO.out hb1)
        rw [← besideK_miss HC.out hin] at HO2
        clear ca cb k0 k1 hb hb1 HO hin
        go_wp2_with fail
        go_roundw
        case rel => exact ⟨k + 1, by omega, by go_num, HO2.out, p0, p1, hb4⟩
        case measure => simp [intOf]; omega
    · obtain rfl : k = 4 := by omega
      have hd : decide (((4 : Nat) : Int) < (4 : Int)) = false := by decide
      obtain ⟨av, cv, rfl⟩ := own_slice HO.out
      go_wp2_with fail
      go_ret
      exact ⟨_, rfl, ownsRow_low HO.out (by have := HS.out; omega), HS.out ▸ hb⟩
end Go.Proofs.YtgmahakpmjfhhaaRR
