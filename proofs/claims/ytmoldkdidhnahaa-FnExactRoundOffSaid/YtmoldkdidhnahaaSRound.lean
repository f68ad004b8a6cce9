/- RoundOff, of the model. -/
import Derived.Test.YtmoldkdidhnahaaRoundP
import Derived.Test.YtmoldkdidhnahaaWith
namespace Go.Proofs.Ytmoldkdidhnahaa
open Go.RowKit
set_option linter.unusedVariables false
set_option linter.unusedSimpArgs false
attribute [local go_sem ↓] loadRow loadGrid loadLawn loadMirror storeRow storeGrid storeLawn allocRow allocGrid allocLawn buildZero buildSides

theorem results_cell_tmp2s {P : Program} {fn : Func} {p u v : Tmp} {ty : TypeId} {n : Nat} (h : fn.results = #[.cell p ty, .tmp u, .tmp v]) (hw : wideB P ty n = true) (tmps : Array Value) {w : World} {g : Nat} {cs : Array Value}
    (hp : tmps.getD p undef = .pointer (some ⟨g, 0, none⟩)) (hg : Holds w g cs) (hn : cs.size = n) : (results fn tmps).run P w = .ok (.tuple #[.agg cs, tmps.getD u undef, tmps.getD v undef]) w := by
  have hp' : tmps[p]?.getD undef = .pointer (some ⟨g, 0, none⟩) := by simpa using hp
  simp [results, h, hp', asAddr, (wide_of hw).loadVar hg hn]
def bitOf (v : Value) : Nat := match v with | .bool true => 1 | _ => 0
theorem find_hit {α : Type} {p : α → Bool} {l : List α} {i : Nat} {c : α} (hn : (l.take i).find? p = none) (hc : l[i]? = some c) (hp : p c = true) : l.find? p = some c := by
  have hs : l = l.take i ++ c :: l.drop (i + 1) := by
    have hlt := (List.getElem?_eq_some_iff.1 hc).1
    have := (List.getElem?_eq_some_iff.1 hc).2
    rw [← this, List.getElem_cons_drop, List.take_append_drop]
  rw [hs, List.find?_append, hn]
  simp [hp]
theorem find_miss {α : Type} {p : α → Bool} {l : List α} {i : Nat} {c : α} (hn : (l.take i).find? p = none) (hc : l[i]? = some c) (hp : p c = false) : (l.take (i + 1)).find? p = none := by
  rw [List.take_add_one, hc, Option.toList_some, List.find?_append, hn]
  simp [hp]
theorem own_setRowS {W : World} {B n ga cap : Nat} {e : TypeId} {size : Nat} {xs : List Value} (h : W.ownsRow B e size (.slice (some ⟨ga, 0, none⟩) n cap) n xs) (g : Nat) (cs : Array Value) (hg : ga ≠ g) : (W.setRow g cs).ownsRow B e size (.slice (some ⟨ga, 0, none⟩) n cap) n xs := by
  refine ⟨h.1, ?_⟩
  rcases h.2 with h2 | ⟨b, cap', cur, hv, hbg, hb, r⟩
  · exact .inl h2
  · have : b = ga := by simp at hv; exact hv.1.symm
    exact .inr ⟨b, cap', cur, hv, hbg, (setRow_other W g b cs (by omega)).trans hb, r⟩

set_option maxRecDepth 100000 in
set_option maxHeartbeats 4000000 in
theorem specRound_good (L : Lawn) (hL : L.Fits) (hv : validB L = true) (n : Nat) (hn : n ≤ 100) (h0 : firstR (rn L.wide.toNat L.high.toNat L n) L.wide.toNat L.high.toNat = none) (h1 : ∀ j, j < n → firstR (rn L.wide.toNat L.high.toNat L j) L.wide.toNat L.high.toNat ≠ none) (w : World) :
    Calls Try.prog 12 #[.agg L.cells] w fun e w' => e = .returned (.tuple #[.agg (rn L.wide.toNat L.high.toNat L n).cells, .int .i64 n, .int .i64 0]) ∧ Below w.heap.size w w' := by
  have HI := Lib.hid (fun (b : Nat) (w : World) (h : Holds w b L.cells) => l01Ok_any L hL b w h)
  rw [hv] at HI
  obtain ⟨h2, h3, -⟩ := validB_true hv
  have HCE := Lib.hid (fun (k b : Nat) (w : World) (h : Holds w b (rn L.wide.toNat L.high.toNat L k).cells) => l01Cells_any L.wide.toNat L.high.toNat (by omega) (by omega) (by omega) (by omega) (rn L.wide.toNat L.high.toNat L k) (rn_fits hL k) (by rw [(rn_wide _ _ _ k).1]; omega) (by rw [(rn_wide _ _ _ k).2]; omega) 1 b w h)
  have HAT := Lib.hid (fun (k b : Nat) (c : Fin L.wide.toNat × Fin L.high.toNat) (w : World) (h : Holds w b (rn L.wide.toNat L.high.toNat L k).cells) => l05At_any (rn L.wide.toNat L.high.toNat L k) (rn_fits hL k) (rn_valid hv (by omega) (by omega) k) b c.1.val c.2.val (by omega) (by have := c.1.isLt; omega) (by omega) (by have := c.2.isLt; omega) w h)
  have HWI := Lib.hid (fun (k : Nat) (c : Fin L.wide.toNat × Fin L.high.toNat) (w : World) => l05With_any (rn L.wide.toNat L.high.toNat L k) c.1.val c.2.val (by have := c.1.isLt; omega) (by have := c.2.isLt; omega) 0 w)
  have hw10 : L.wide.toNat ≤ 10 := by omega
  have hh10 : L.high.toNat ≤ 10 := by omega
  obtain ⟨Wn, hWn⟩ : ∃ Wn, L.wide.toNat = Wn := ⟨_, rfl⟩
  obtain ⟨Hn, hHn⟩ : ∃ Hn, L.high.toNat = Hn := ⟨_, rfl⟩
  rw [hWn, hHn] at HCE HAT HWI h0 h1
  rw [hWn] at hw10
  rw [hHn] at hh10
  rw [hWn, hHn]
  have HEND : Hid (∀ k, k ≤ n → firstR (rn Wn Hn L k) Wn Hn = none → k = n) := Lib.hid (fun k hk h => by
    rcases Nat.lt_or_ge k n with hlt | hge
    · exact absurd h (h1 k hlt)
    · omega)
  have HGO : Hid (∀ k c, k ≤ n → firstR (rn Wn Hn L k) Wn Hn = some c → k < n ∧ (rn Wn Hn L k).put c.2.val c.1.val 0 = rn Wn Hn L (k + 1)) := Lib.hid (fun k c hk h => by
    refine ⟨?_, (rn_succ h).symm⟩
    rcases Nat.lt_or_ge k n with hlt | hge
    · exact hlt
    · have : k = n := by omega
      rw [this, h0] at h; cases h)
  have HLE : Hid (∀ k, (ofKind (rn Wn Hn L k) Wn Hn 1).length ≤ 100) := Lib.hid (fun k => by
    unfold ofKind
    refine Nat.le_trans (List.length_filter_le _ _) ?_
    rw [allC_length]
    exact Nat.le_trans (Nat.mul_le_mul hh10 hw10) (by omega))
  have HR0 : Hid (rn Wn Hn L 0 = L) := Lib.hid rfl
  clear hv hL h2 h3 h0 h1 hWn hHn
  have g0 := (Holds.new w L.cells 27).alloc (.cells (Lawn.cells ⟨0, 0, fun _ _ => 0⟩) 27)
  have g1 := Holds.new' (w.alloc (.cells L.cells 27)) (Lawn.cells ⟨0, 0, fun _ _ => 0⟩) 27 (w.heap.size + 1) (by simp)
  have hb0 := ((Below.refl w.heap.size w).alloc (Nat.le_refl _) (.cells L.cells 27)).alloc (by simp) (.cells (Lawn.cells ⟨0, 0, fun _ _ => 0⟩) 27)
  go_enter Try.func12, Try.ntmps12
  go_wp2_with fail
  refine (HI.out _ _ g0).mono ?_
  rintro e w1 ⟨rfl, hb1⟩
  have k0 := g0.below hb1 g0.lt
  have k1 := g1.below hb1 g1.lt
  have hb2 := below_onto hb0 hb1
  clear g0 g1 hb0 hb1
  rw [← HR0.out] at k0
  obtain ⟨s, hs⟩ : ∃ s, w.heap.size = s := ⟨_, rfl⟩
  rw [hs] at k0 k1 hb2 ⊢
  have HS := Lib.hid hs
  clear hs
  go_wp2_with fail
  go_loopw [5, 6] (fun c b wr => ∃ (k : Nat) (q : Bool), k ≤ n ∧ c = .int .i64 k ∧ b = .bool q ∧ (q = false → k = n) ∧ Holds wr s (rn Wn Hn L k).cells ∧ Holds wr (s + 1) (Lawn.cells ⟨0, 0, fun _ _ => 0⟩) ∧ Below s w wr) (fun c b _ => 2 * (n - (intOf c).toNat) + bitOf b)
  case atStart => exact ⟨0, true, by omega, rfl, rfl, (fun h => by cases h), k0, k1, hb2⟩
  case round =>
    obtain ⟨k, q, hk, rfl, rfl, hq, j0, j1, hb⟩ := hrel
    clear k0 k1 hb2
    cases q
    · have hkn := hq rfl
      rw [hkn] at j0
      obtain ⟨r0, -, -, -, -⟩ := j0.facts
      obtain ⟨r1, f1, -, -, l1⟩ := j1.facts
      have v1 := j1.setRow (rn Wn Hn L n).cells
      have hb7 := below_setRow' hb (g := s + 1) (by omega) (rn Wn Hn L n).cells
      have HV := Lib.hid v1
      have HB7 := Lib.hid hb7
      rw [hkn]
      clear v1 hb7 j0 j1 hb HCE HAT HWI HI hq
      go_wp2_with fail
      refine bodyPost_ret (results_cell_tmp2s (n := 102) rfl (by kernel_rfl) _ rfl HV.out (by simp)) rfl ⟨rfl, by rw [HS.out]; exact HB7.out⟩
    · clear hq
      have HCk := Lib.hid (HCE.out k)
      have HAk := Lib.hid (HAT.out k s)
      have HWk := Lib.hid (HWI.out k)
      have HLk := HLE.out k
      have HNk : Hid ((ofKind (rn Wn Hn L k) Wn Hn 1).find? (roundQ (rn Wn Hn L k)) = none → k = n) := Lib.hid (fun h => HEND.out k hk (by rw [firstR_kind]; exact h))
      have HYk : Hid (∀ c, (ofKind (rn Wn Hn L k) Wn Hn 1).find? (roundQ (rn Wn Hn L k)) = some c → k < n ∧ (rn Wn Hn L k).put c.2.val c.1.val 0 = rn Wn Hn L (k + 1)) := Lib.hid (fun c h => HGO.out k c hk (by rw [firstR_kind]; exact h))
      obtain ⟨l, hl⟩ : ∃ l, ofKind (rn Wn Hn L k) Wn Hn 1 = l := ⟨_, rfl⟩
      rw [hl] at HCk HLk HNk HYk
      obtain ⟨nb, hnb⟩ : ∃ nb, l.length = nb := ⟨_, rfl⟩
      rw [hnb] at HCk HLk
      have HNB := Lib.hid hnb
      clear hl hnb HCE HAT HWI HLE HEND HGO HI
      go_wp2_with fail
      refine (HCk.out _ _ j0).mono ?_
      rintro e w2 ⟨v, rfl, hA, hb1⟩
      have q0 := j0.below hb1 j0.lt
      have q1 := j1.below hb1 j1.lt
      have hb2 := hb.trans (hb1.mono (by have := j0.lt; omega))
      have HAO := Lib.hid (ownsRow_low (A := s + 1 + 1) hA (by have := j1.lt; omega))
      obtain ⟨aA, cA, rfl⟩ := own_slice hA
      clear j0 j1 hb hb1 hA
      go_wp2_with fail
      go_loopw [5, 6, 8] (fun c b y wr => ∃ (i : Nat) (q : Bool), i ≤ nb ∧ y = .int .i64 i ∧ b = .bool q ∧ ((q = false ∧ c = .int .i64 k ∧ Holds wr s (rn Wn Hn L k).cells ∧ (l.take i).find? (roundQ (rn Wn Hn L k)) = none) ∨ (q = true ∧ c = .int .i64 (k + 1) ∧ Holds wr s (rn Wn Hn L (k + 1)).cells ∧ k < n)) ∧ Holds wr (s + 1) (Lawn.cells ⟨0, 0, fun _ _ => 0⟩) ∧ wr.ownsRow (s + 1 + 1) 37 2 (.slice aA nb cA) nb (flatV l) ∧ Below s w wr) (fun _ _ y _ => nb - (intOf y).toNat)
      case atStart => exact ⟨0, false, by omega, rfl, rfl, .inl ⟨rfl, rfl, q0, rfl⟩, q1, HAO.out, hb2⟩
      case round =>
        obtain ⟨i, q, hi, rfl, rfl, hor, j1, hA, hb⟩ := hrel
        have HAW := Lib.hid hA
        clear q0 q1 hb2 HAO hA
        rcases hor with ⟨rfl, rfl, j0, hf⟩ | ⟨rfl, rfl, j0, hkn⟩
        · by_cases hlt : i < nb
          · have hd : decide ((i : Int) < (nb : Int)) = true := by simp; omega
            obtain ⟨c, hc⟩ : ∃ c, l[i]? = some c := ⟨_, List.getElem?_eq_getElem (by rw [HNB.out]; exact hlt)⟩
            have HHit : Hid (roundQ (rn Wn Hn L k) c = true → k < n ∧ (rn Wn Hn L k).put c.2.val c.1.val 0 = rn Wn Hn L (k + 1)) := Lib.hid (fun h => HYk.out c (find_hit hf hc h))
            have HMiss := Lib.hid (fun h : roundQ (rn Wn Hn L k) c = false => find_miss hf hc h)
            have HQ : Hid (roundQ (rn Wn Hn L k) c = decide (3 ≤ sidesL (rn Wn Hn L k) ((c.1.val : Int), (c.2.val : Int)) 0)) := Lib.hid rfl
            have HAc := Lib.hid (HAk.out c)
            obtain ⟨f, hff⟩ : ∃ f, sidesL (rn Wn Hn L k) ((c.1.val : Int), (c.2.val : Int)) = f := ⟨_, rfl⟩
            rw [hff] at HAc HQ
            have hix : ∀ w, (Instr.index 76 (.agg (sdV f)) (.int .i64 0)).run Try.prog w = .ok (.int .i64 (f 0)) w := fun w => sd_index0 f w
            obtain ⟨r, hr⟩ : ∃ r, roundQ (rn Wn Hn L k) c = r := ⟨_, rfl⟩
            rw [hr] at HHit HMiss HQ
            have HWc := Lib.hid (HWk.out c)
            obtain ⟨ga, cap, he, hBg, hgw⟩ := own_form HAW.out (by omega)
            simp only [Value.slice.injEq, true_and] at he
            obtain ⟨rfl, rfl⟩ := he
            have HFV := Lib.hid (flatV_get _ _ _ hc)
            have ca := own_cell HAW.out _ _ HFV.out.1
            have cb := own_cell HAW.out _ _ HFV.out.2
            have hsz := j1.lt
            clear hc hr hff hf
            go_wp2_with fail
            refine (HAc.out _ j0).mono ?_
            rintro e w3 ⟨rfl, hb1⟩
            have y0 := j0.below hb1 j0.lt
            have y1 := j1.below hb1 j1.lt
            have HAY := Lib.hid (own_below HAW.out hb1)
            have hb3 := hb.trans (hb1.mono (by omega))
            have hgw := own_lt HAY.out
            clear j0 j1 hb hb1 ca cb HAW
            cases r
            · have hge : decide (3 ≤ f 0) = false := HQ.out.symm
              have HM := Lib.hid (HMiss.out rfl)
              clear HQ HMiss HHit
              go_wp2_with fail
              go_roundw
              case rel => exact ⟨i + 1, false, by omega, by go_num, rfl, .inl ⟨rfl, rfl, y0, HM.out⟩, y1, HAY.out, hb3⟩
              case measure => simp [intOf]; omega
            · have hge : decide (3 ≤ f 0) = true := HQ.out.symm
              obtain ⟨hkn, hput⟩ := HHit.out rfl
              rw [hput] at HWc
              clear HQ HMiss HHit hput
              obtain ⟨r0, -⟩ := y0.later
              go_wp2_with fail
              refine wp_region_grow 6 (by kernel_rfl) (by kernel_rfl) ?_
              simp only [List.take_succ_cons, List.take_zero, List.drop_succ_cons, List.drop_zero]
              iterate 6
                apply wpGrow_plain rfl
                · intro w' hw' K hK
                  have e0 := r0 _ hw'
                  have HAZ := Lib.hid (own_below HAY.out hw')
                  have ca := own_cell HAZ.out _ _ HFV.out.1
                  have cb := own_cell HAZ.out _ _ HFV.out.2
                  go_wp2_with (go_at_call 49; refine (HWc.out _).mono ?_; rintro e w4 ⟨rfl, hb4⟩)
                  first | exact hK _ _ rfl hw' | exact hK _ _ rfl (below_onto hw' hb4)
                simp only [Act.put, List.setIfInBounds_toArray, List.set_cons_succ, List.set_cons_zero]
              refine wpGrow_nil ?_
              intro W2 hW2
              have z0 := y0.below hW2 y0.lt
              have z1 := y1.below hW2 y1.lt
              have HAZ := Lib.hid (own_below HAY.out hW2)
              have hb5 := hb3.trans (hW2.mono (by have := y0.lt; omega))
              clear hW2 y0 y1 HAY hb3 r0
              obtain ⟨rp, fp, -, -, lp⟩ := z0.facts
              have v0 := z0.setRow (rn Wn Hn L (k + 1)).cells
              have v1 := z1.setRow_other (k := s) (rn Wn Hn L (k + 1)).cells (by omega)
              have HAV := Lib.hid (own_setRowS HAZ.out s (rn Wn Hn L (k + 1)).cells (by omega))
              have hb6 := below_setRow' hb5 (g := s) (by omega) (rn Wn Hn L (k + 1)).cells
              clear z0 z1 HAZ hb5
              go_wp2_with fail
              go_roundw
              case rel => exact ⟨i + 1, true, by omega, by go_num, rfl, .inr ⟨rfl, by go_num, v0, hkn⟩, v1, HAV.out, hb6⟩
              case measure => simp [intOf]; omega
          · have hd : decide ((i : Int) < (nb : Int)) = false := by simp; omega
            have hkn := HNk.out (by rw [← hf, List.take_of_length_le (by rw [HNB.out]; omega)])
            go_wp2_with fail
            go_roundw
            case rel => exact ⟨k, false, by omega, rfl, rfl, fun _ => hkn, j0, j1, hb⟩
            case measure => simp [intOf, bitOf]
        · obtain ⟨d, hd⟩ : ∃ d, decide ((i : Int) < (nb : Int)) = d := ⟨_, rfl⟩
          cases d
          · go_wp2_with fail
            all_goals exact ⟨⟨k + 1, true, by omega, by go_num, rfl, (fun h => by cases h), j0, j1, hb⟩, by simp [intOf, bitOf]; omega⟩
          · go_wp2_with fail
            all_goals exact ⟨⟨k + 1, true, by omega, by go_num, rfl, (fun h => by cases h), j0, j1, hb⟩, by simp [intOf, bitOf]; omega⟩

set_option maxRecDepth 100000 in
set_option maxHeartbeats 2000000 in
theorem specRound_bad (L : Lawn) (hL : L.Fits) (hv : validB L = false) (w : World) :
    Calls Try.prog 12 #[.agg L.cells] w fun e w' => e = .returned (.tuple #[.agg (Lawn.cells ⟨0, 0, fun _ _ => 0⟩), .int .i64 0, .int .i64 1]) ∧ Below w.heap.size w w' := by
  have HI := Lib.hid (fun (b : Nat) (w : World) (h : Holds w b L.cells) => l01Ok_any L hL b w h)
  rw [hv] at HI
  clear hv hL
  have g0 := (Holds.new w L.cells 27).alloc (.cells (Lawn.cells ⟨0, 0, fun _ _ => 0⟩) 27)
  have g1 := Holds.new' (w.alloc (.cells L.cells 27)) (Lawn.cells ⟨0, 0, fun _ _ => 0⟩) 27 (w.heap.size + 1) (by simp)
  have hb0 := ((Below.refl w.heap.size w).alloc (Nat.le_refl _) (.cells L.cells 27)).alloc (by simp) (.cells (Lawn.cells ⟨0, 0, fun _ _ => 0⟩) 27)
  go_enter Try.func12, Try.ntmps12
  go_wp2_with fail
  refine (HI.out _ _ g0).mono ?_
  rintro e w1 ⟨rfl, hb1⟩
  have k1 := g1.below hb1 g1.lt
  have hb2 := below_onto hb0 hb1
  clear g0 g1 hb0 hb1
  obtain ⟨r1, f1, -, -, l1⟩ := k1.facts
  have v1 := k1.setRow (Lawn.cells ⟨0, 0, fun _ _ => 0⟩)
  have hb7 := below_setRow' hb2 (g := w.heap.size + 1) (by omega) (Lawn.cells ⟨0, 0, fun _ _ => 0⟩)
  have HV := Lib.hid v1
  have HB7 := Lib.hid hb7
  clear v1 hb7 k1 hb2
  go_wp2_with fail
  refine bodyPost_ret (results_cell_tmp2s (n := 102) rfl (by kernel_rfl) _ rfl HV.out (by simp)) rfl ⟨rfl, HB7.out⟩
end Go.Proofs.Ytmoldkdidhnahaa
