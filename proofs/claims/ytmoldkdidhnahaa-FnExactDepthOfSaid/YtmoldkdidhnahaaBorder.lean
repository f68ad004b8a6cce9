/- BorderOf and InnerOf, of both. -/
import Derived.Test.YtmoldkdidhnahaaDelete
import Derived.Test.YtmoldkdidhnahaaSSides
import Derived.Test.YtmoldkdidhnahaaZE
namespace Go.Proofs.Ytmoldkdidhnahaa
open Go.RowKit
set_option linter.unusedVariables false
set_option linter.unusedSimpArgs false
attribute [local go_sem ↓] loadRow loadGrid loadLawn loadMirror storeRow storeGrid storeLawn allocRow allocGrid allocLawn buildZero buildSides

/-- All inner cells of grass, or all others. -/
def insideL (L : Lawn) (inner : Bool) : List (Fin L.wide.toNat × Fin L.high.toNat) := (cellsL L 0).filter (keepI L inner)
theorem cellsL_no {L : Lawn} (hv : validB L = false) : cellsL L 0 = [] := by unfold cellsL; rw [hv]; rfl
theorem cellsL_yes {L : Lawn} (hv : validB L = true) : cellsL L 0 = ofKind L L.wide.toNat L.high.toNat 0 := by unfold cellsL; rw [hv]; rfl
theorem told_grass (L : Lawn) : told (validB L) (inB 0 0 3) = validC L := by
  cases hv : validB L <;> simp [told, validC, hv, inB]


/-- Those that are kept of the first cells. -/
def keptTo {W H : Nat} (L : Lawn) (inner : Bool) (l : List (Fin W × Fin H)) (i : Nat) : List (Fin W × Fin H) := (l.take i).filter (keepI L inner)
theorem keptTo_hit {W H : Nat} {L : Lawn} {inner : Bool} {l : List (Fin W × Fin H)} {i : Nat} {c : Fin W × Fin H} (hc : l[i]? = some c) (hk : keepI L inner c = true) : keptTo L inner l (i + 1) = keptTo L inner l i ++ [c] := by
  unfold keptTo; rw [List.take_add_one, hc, Option.toList_some, List.filter_append]; simp [hk]
theorem keptTo_miss {W H : Nat} {L : Lawn} {inner : Bool} {l : List (Fin W × Fin H)} {i : Nat} {c : Fin W × Fin H} (hc : l[i]? = some c) (hk : keepI L inner c = false) : keptTo L inner l (i + 1) = keptTo L inner l i := by
  unfold keptTo; rw [List.take_add_one, hc, Option.toList_some, List.filter_append]; simp [hk]
theorem keptTo_le {W H : Nat} (L : Lawn) (inner : Bool) (l : List (Fin W × Fin H)) (i : Nat) : (keptTo L inner l i).length ≤ i := by
  refine Nat.le_trans (List.length_filter_le _ _) ?_
  simp; omega
theorem keep_less (L : Lawn) {W H : Nat} (border : Bool) (c : Fin W × Fin H) : (decide (sidesL L ((c.1.val : Int), (c.2.val : Int)) 0 < 4) == border) = keepI L (!border) c := by
  have := sidesL_bound L ((c.1.val : Int), (c.2.val : Int)) 0
  unfold keepI innerB
  by_cases h : sidesL L ((c.1.val : Int), (c.2.val : Int)) 0 = 4
  · rw [h]; cases border <;> rfl
  · have h2 : sidesL L ((c.1.val : Int), (c.2.val : Int)) 0 < 4 := by omega
    rw [decide_eq_true h2, decide_eq_false h]
    cases border <;> rfl

set_option maxRecDepth 100000 in
set_option maxHeartbeats 2000000 in
theorem l05Border_any (Wn Hn : Nat) (hW : Wn ≤ 10) (hH : Hn ≤ 10) (hW1 : 1 ≤ Wn) (hH1 : 1 ≤ Hn) (L : Lawn) (hL : L.Fits) (hV : validB L = true) (hLw : L.wide = Wn) (hLh : L.high = Hn) (border : Bool) (b : Nat) (w : World) (h : Holds w b L.cells) :
    Calls Try.prog 56 #[.pointer (some ⟨b, 0, none⟩), .bool border] w fun e w' => ∃ v, e = .returned v ∧ w'.ownsRow w.heap.size 37 2 v ((ofKind L Wn Hn 0).filter (keepI L (!border))).length (flatV ((ofKind L Wn Hn 0).filter (keepI L (!border)))) ∧ Below w.heap.size w w' := by
  obtain ⟨i0, hi, hz0, hz1, hz2⟩ := info_parts cellInfo
  have HI := Lib.hid (show Try.prog.info? 37 = some i0 ∧ i0.zero = some (.agg #[.int .i8 0, .int .i8 0]) ∧ i0.size = 2 ∧ i0.bytes = 2 from ⟨hi, hz0, hz1, hz2⟩)
  have HAT := Lib.hid (fun (c : Fin Wn × Fin Hn) (w : World) (h : Holds w b L.cells) => l05At_any L hL hV b c.1.val c.2.val (by omega) (by have := c.1.isLt; omega) (by omega) (by have := c.2.isLt; omega) w h)
  have HCE := Lib.hid (fun (w : World) (h : Holds w b L.cells) => l01Cells_any Wn Hn hW hH hW1 hH1 L hL hLw hLh 0 b w h)
  have hn1 : (ofKind L Wn Hn 0).length ≤ 100 := by
    refine Nat.le_trans (List.length_filter_le _ _) ?_
    rw [allC_length]
    exact Nat.le_trans (Nat.mul_le_mul hH hW) (by omega)
  obtain ⟨l, hl⟩ : ∃ l, ofKind L Wn Hn 0 = l := ⟨_, rfl⟩
  rw [hl] at hn1 HCE ⊢
  have HH := Lib.hid h
  clear hi hz0 hz1 hz2 hL hV hLw hLh hW hH hW1 hH1 hl
  go_enter Try.func56, Try.ntmps56
  go_wp2_with fail
  have hm : (w.alloc (.cells #[] 37)).ownsRow w.heap.size 37 2 (.slice (some ⟨w.heap.size, 0, none⟩) 0 0) 0 [] := World.ownsRow_made w #[] 0 (Nat.le_refl _) (by simp [maxLen]) rfl
  have hb0 := (Below.refl w.heap.size w).alloc (Nat.le_refl _) (.cells #[] 37)
  have hs0 : w.heap.size < (w.alloc (.cells #[] 37)).heap.size := by simp
  obtain ⟨W0, hW0⟩ : ∃ W0, w.alloc (.cells #[] 37) = W0 := ⟨_, rfl⟩
  rw [hW0] at hm hb0 hs0 ⊢
  clear hW0
  refine (HCE.out W0 (h.below hb0 h.lt)).mono ?_
  rintro e w1 ⟨vA, rfl, hoA, hb1⟩
  have hb2 : Below w.heap.size w w1 := hb0.trans (hb1.mono (by omega))
  have hm1 : w1.ownsRow w.heap.size 37 2 (.slice (some ⟨w.heap.size, 0, none⟩) 0 0) 0 [] := hm.kept (row := none) ⟨hb1.os, hb1.tape, hb1.output, hb1.size, fun k hk _ => hb1.block k hk⟩ (by simp [Value.ownBlock])
  obtain ⟨aA, cA, rfl⟩ := own_slice hoA
  obtain ⟨n, hn⟩ : ∃ n, l.length = n := ⟨_, rfl⟩
  rw [hn] at hoA hn1 ⊢
  have HN := Lib.hid hn
  have HA := Lib.hid hoA
  have HAP := Lib.hid (show (Value.slice (some ⟨w.heap.size, 0, none⟩) 0 0).ownBlock = none ∨ (Value.slice (some ⟨w.heap.size, 0, none⟩) 0 0).ownBlock ≠ (Value.slice aA n cA).ownBlock from .inr fun e => by
    have := own_far HA.out w.heap.size e.symm
    omega)
  clear h hm hb0 hb1 hoA hn
  go_wp2_with fail
  go_loopw [5, 7] (fun v x wr => ∃ i : Nat, i ≤ n ∧ x = .int .i64 i ∧ wr.ownsRow w.heap.size 37 2 v (keptTo L (!border) l i).length (flatV (keptTo L (!border) l i)) ∧ wr.ownsRow W0.heap.size 37 2 (.slice aA n cA) n (flatV l) ∧ (v.ownBlock = none ∨ v.ownBlock ≠ (Value.slice aA n cA).ownBlock) ∧ Below w.heap.size w wr) (fun _ x _ => n - (intOf x).toNat)
  case atStart => exact ⟨0, by omega, rfl, by simpa [keptTo, flatV] using hm1, HA.out, HAP.out, hb2⟩
  case round =>
    obtain ⟨i, hi, rfl, ho, hA, hv, hb⟩ := hrel
    have HO := Lib.hid ho
    have HAo := Lib.hid hA
    have HV := Lib.hid hv
    clear ho hA hv hm1 hb2 HA HAP
    by_cases hlt : i < n
    · have hd : decide ((i : Int) < (n : Int)) = true := by simp; omega
      obtain ⟨c, hc⟩ : ∃ c, l[i]? = some c := ⟨_, List.getElem?_eq_getElem (by rw [HN.out]; exact hlt)⟩
      have HC := Lib.hid hc
      obtain ⟨g, cap, he, hBg, hgw⟩ := own_form HAo.out (by omega)
      simp only [Value.slice.injEq, true_and] at he
      obtain ⟨rfl, rfl⟩ := he
      obtain ⟨fa, fb⟩ := flatV_get _ _ _ hc
      have ca := own_cell HAo.out _ _ fa
      have cb := own_cell HAo.out _ _ fb
      clear hc
      have HKL := Lib.hid (keep_less L border c)
      obtain ⟨f, hf⟩ : ∃ f, sidesL L ((c.1.val : Int), (c.2.val : Int)) = f := ⟨_, rfl⟩
      have HAc := Lib.hid (HAT.out c)
      rw [hf] at HAc HKL
      have hix : ∀ w, (Instr.index 76 (.agg (sdV f)) (.int .i64 0)).run Try.prog w = .ok (.int .i64 (f 0)) w := fun w => sd_index0 f w
      clear hf
      have hsz := hb.size
      go_wp2_with fail
      refine (HAc.out _ (HH.out.below hb HH.out.lt)).mono ?_
      rintro e w2 ⟨rfl, hb3⟩
      have hb4 : Below w.heap.size w w2 := below_onto hb hb3
      have HO2 := Lib.hid (own_below HO.out hb3)
      have HA2 := Lib.hid (own_below HAo.out hb3)
      have hg2 : g < w2.heap.size := Nat.lt_of_lt_of_le hgw hb3.size
      have hsz2 := hb4.size
      clear hb3 hb ca cb HO HAo hsz hgw
      obtain ⟨k, hk⟩ : ∃ k, keepI L (!border) c = k := ⟨_, rfl⟩
      rw [hk] at HKL
      have HK := Lib.hid hk
      clear hk
      cases k
      · have ho3 := keptTo_miss HC.out HK.out
        rw [← ho3] at HO2
        have hkl := HKL.out
        clear ho3
        go_wp2_with fail
        go_roundw
        case rel => exact ⟨i + 1, by omega, by go_num, HO2.out, HA2.out, HV.out, hb4⟩
        case measure => simp [intOf]; omega
      · have ca := own_cell HA2.out _ _ fa
        have cb := own_cell HA2.out _ _ fb
        have hle := keptTo_le L (!border) l i
        have hkl := HKL.out
        go_wp2_with (at_builtin; refine wpList_append_own_at _ rfl _ _ 73 rfl w.heap.size 37 i0 (.agg #[.int .i8 0, .int .i8 0]) 2 2 Try.underlying73 HI.out.1 HI.out.2.1 HI.out.2.2.1 HI.out.2.2.2 rfl (by decide) _ _ _ rfl (HO2.out.alloc _) ⟨w2.heap.size, 0, none⟩ 1 1 [.int .i8 c.1.val, .int .i8 c.2.val] rfl rfl ?c1 ?c2 ?c3 ?c4 ?c5 ?_)
        case c1 =>
          intro m u hu
          match m, hu with
          | 0, hu => simp at hu; subst hu; exact (Holds.new w2 #[.int .i8 c.1.val, .int .i8 c.2.val] 37).cell 0
          | 1, hu => simp at hu; subst hu; exact (Holds.new w2 #[.int .i8 c.1.val, .int .i8 c.2.val] 37).cell 1
        case c2 => intro u hu; simp at hu; rcases hu with rfl | rfl <;> rfl
        case c3 => unfold maxLen; omega
        case c4 => omega
        case c5 => simp; omega
        · intro v' w3 hown' hgrow _ hat
          have hb5 : Below w.heap.size w w3 := (hb4.alloc hsz2 _).grown hgrow (by simp; omega) (fun k hk => own_far HO2.out k hk)
          have ho3 : w3.ownsRow w.heap.size 37 2 v' (keptTo L (!border) l (i + 1)).length (flatV (keptTo L (!border) l (i + 1))) := by
            rw [keptTo_hit HC.out HK.out, flatV_append, List.length_append]
            exact hown'
          have hA3 := (HA2.out.alloc (.cells #[.int .i8 c.1.val, .int .i8 c.2.val] 37)).kept hgrow (by
            rcases HV.out with h | h
            · exact .inr (by rw [h]; simp [Value.ownBlock])
            · exact .inr (Ne.symm h))
          have hv3 : v'.ownBlock = none ∨ v'.ownBlock ≠ (Value.slice (some ⟨g, 0, none⟩) n cA).ownBlock := by
            rcases hat with h | h
            · rw [h]; exact HV.out
            · rw [h]; exact .inr (by simp [Value.ownBlock]; omega)
          have HO3 := Lib.hid ho3
          have HA3 := Lib.hid hA3
          have HV3 := Lib.hid hv3
          clear hown' hgrow ho3 hA3 hv3 hat ca cb hb4
          go_wp2_with fail
          go_roundw
          case rel => exact ⟨i + 1, by omega, by go_num, HO3.out, HA3.out, HV3.out, hb5⟩
          case measure => simp [intOf]; omega
    · have hd : decide ((i : Int) < (n : Int)) = false := by simp; omega
      have HT := Lib.hid (show keptTo L (!border) l i = l.filter (keepI L (!border)) by unfold keptTo; rw [List.take_of_length_le (by rw [HN.out]; omega)])
      go_wp2_with fail
      go_ret
      exact ⟨_, rfl, by rw [← HT.out]; exact HO.out, hb⟩


end Go.Proofs.Ytmoldkdidhnahaa
