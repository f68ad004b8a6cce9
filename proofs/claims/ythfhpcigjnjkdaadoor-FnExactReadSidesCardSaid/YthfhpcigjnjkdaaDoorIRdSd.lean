/- The program's reading of sides. -/
import Derived.Test.YthfhpcigjnjkdaaDoorRdSdP
import Derived.Test.YthfhpcigjnjkdaaDoorSdT
import Derived.Test.YthfhpcigjnjkdaaDoorSdIn
import Derived.Test.YthfhpcigjnjkdaaDoorRdNum
namespace Go.Proofs.YthfhpcigjnjkdaaDoor
open Go.RowKit
set_option linter.unusedVariables false
set_option linter.unusedSimpArgs false
attribute [local go_sem ↓] loadSd storeSd allocSd buildSd

theorem parse64_good (s : ByteArray) (hs : s.size ≤ 1048576) (z : Int) (hp : Lib.parseIntB 64 s.data.toList = .ok z) (w : World) :
    Calls Tryd.prog 84 #[.string s, .int .i64 10, .int .i64 64] w fun e w' => e = .returned (.tuple #[.int .i64 z, .nilIface]) ∧ Below w.heap.size w w' :=
  (Tryd.strconv_ParseInt_10_at64_ok s (by omega) z hp w).mono fun e w' ⟨h1, h2⟩ => ⟨h1, bytesW_below h2⟩
theorem parse64_fail (s : ByteArray) (hs : s.size ≤ 1048576) (hp : ∀ z, Lib.parseIntB 64 s.data.toList ≠ .ok z) (w : World) (hE : ErrsUp w) :
    Calls Tryd.prog 84 #[.string s, .int .i64 10, .int .i64 64] w fun e w' => (∃ z te N, e = .returned (.tuple #[.int .i64 z, .iface te (.pointer (some ⟨N, 0, none⟩))])) ∧ Below w.heap.size w w' := by
  obtain ⟨⟨e1, h1, h2⟩, e2, h3, h4⟩ := hE
  cases h : Lib.parseIntB 64 s.data.toList with
  | ok z => exact absurd h (hp z)
  | «syntax» => exact (Tryd.strconv_ParseInt_10_at64_syntax s (by omega) h e1 w h1 h2).mono fun e w' ⟨N, h1, _, _, h2⟩ => ⟨⟨_, _, N, h1⟩, h2⟩
  | range => exact (Tryd.strconv_ParseInt_10_at64_range s (by omega) h e2 w h3 h4).mono fun e w' ⟨N, h1, _, _, h2⟩ => ⟨⟨_, _, N, h1⟩, h2⟩

set_option maxRecDepth 100000 in
set_option maxHeartbeats 4000000 in
theorem ireadSd_any (s : ByteArray) (hs : s.size ≤ 1048576) (w : World) (hE : ErrsUp w) (hT : TabUp w) :
    Calls Tryd.prog 39 #[.string s] w fun e w' => e = .returned (.tuple #[.agg (sdV (rsF s.data.toList)), .int .i64 (rsC s.data.toList)]) ∧ Below w.heap.size w w' := by
  have hlen : s.data.toList.length = s.size := by rw [Array.length_toList]; rfl
  have HSP0 := Lib.hid (fun w => splitN_one s hs 32 6 (by decide) (by decide) w)
  have HTX := Lib.hid (fun f w h => itextSd_any f w h)
  have HEE := Lib.hid hE
  have HTT := Lib.hid hT
  obtain ⟨t, ht⟩ : ∃ t, s.data.toList = t := ⟨_, rfl⟩
  have hst : s.toList = t := by rw [Lib.toList_data, ht]
  rw [ht] at HSP0 hlen ⊢
  obtain ⟨ls, hls⟩ : ∃ ls, Lib.splitK [32] 0 (min 6 (t.length + 1) - 1) t = ls := ⟨_, rfl⟩
  have hpc : piecesSd t = ls := hls
  have HXL := Lib.hid (show ∀ (k : Nat) x, ls[k]? = some x → x.length ≤ 1048576 from fun k x h => by
    have := splitK_mem_len (c := 32) (l := x) (t := t) (by rw [hls]; exact List.mem_of_getElem? h)
    omega)
  have HLEN := Lib.hid (show ls.length ≠ 5 → rsC t = 5 ∧ sdV (rsF t) = sdV fun _ => 0 from fun h => rs_none (piecesSd_len (by rw [hpc]; exact h)))
  have HBAD := Lib.hid (show ∀ (k : Nat) x, ls[k]? = some x → (∀ v, Lib.parseIntB 64 x ≠ .ok v) → rsC t = 5 ∧ sdV (rsF t) = sdV fun _ => 0 from fun k x h h2 => rs_none (piecesSd_bad (by rw [hpc]; exact h) h2))
  obtain ⟨F, hF⟩ : ∃ F : Sd, (fun j => match Lib.parseIntB 64 (ls.getD j []) with | .ok v => v | _ => 0) = F := ⟨_, rfl⟩
  have HFV := Lib.hid (show ∀ (k : Nat) x v, ls[k]? = some x → Lib.parseIntB 64 x = .ok v → v = F k from fun k x v h h2 => by
    rw [← hF]
    simp only [List.getD_eq_getElem?_getD, h, Option.getD_some, h2])
  have HFIN := Lib.hid (show ls.length = 5 → (∀ j x, j < 5 → ls[j]? = some x → ∃ v, Lib.parseIntB 64 x = .ok v) → (((sidesS F).toList == s.toList) = true ∧ rsC t = 0 ∧ sdV (rsF t) = sdV F) ∨ (((sidesS F).toList == s.toList) = false ∧ rsC t = 5 ∧ sdV (rsF t) = sdV fun _ => 0) from fun hl hall => by
    rw [hst]
    have := sides_out (t := t) (f := F) (by rw [hpc]; exact hl) fun j hj => by
      have hx : ls[j]? = some (ls[j]'(by omega)) := List.getElem?_eq_getElem (by omega)
      obtain ⟨v, hv⟩ := hall j _ hj hx
      exact ⟨_, by rw [hpc]; exact hx, by rw [hv, HFV.out j _ v hx hv]⟩
    rcases this with ⟨h1, h2⟩ | ⟨h1, h2⟩
    · exact .inl ⟨h1, rs_some h2⟩
    · exact .inr ⟨h1, rs_none h2⟩)
  clear hF hpc
  rw [hls] at HSP0
  obtain ⟨RC, hRC⟩ : ∃ RC, rsC t = RC := ⟨_, rfl⟩
  obtain ⟨RF, hRF⟩ : ∃ RF, rsF t = RF := ⟨_, rfl⟩
  rw [hRC, hRF] at HBAD HLEN HFIN ⊢
  obtain ⟨N, hN⟩ : ∃ N, ls.length = N := ⟨_, rfl⟩
  rw [hN] at HSP0 HLEN HFIN
  have HQ := Lib.hid (show ∀ i, i < N → ∃ x, ls[i]? = some x from fun i h => ⟨_, List.getElem?_eq_getElem (by omega)⟩)
  obtain ⟨u, hu⟩ : ∃ u, w.heap.size = u := ⟨_, rfl⟩
  have HU := Lib.hid hu
  obtain ⟨W1, hW1⟩ : ∃ W1, (w.alloc (.cells (sdV fun _ => 0) 53)).alloc (.cells (sdV fun _ => 0) 53) = W1 := ⟨_, rfl⟩
  have g0 : Holds W1 u (sdV fun _ => 0) := by rw [← hW1]; exact (Holds.new' _ _ _ _ hu.symm).alloc _
  have p0 : Holds W1 (u + 1) (sdV fun _ => 0) := by rw [← hW1]; exact Holds.new' _ _ _ _ (by simp; omega)
  have hB1 : Below u w W1 := by rw [← hW1]; exact ((Below.refl u w).alloc (by omega) _).alloc (by simp; omega) _
  have hs1 := p0.lt
  rw [hu]
  clear ht hls hN hlen hRC hRF hu hst hE hT hs
  go_enter Tryd.func39, Tryd.ntmps39
  go_wp2_with fail
  try simp only [HU.out]
  try rw [hW1]
  clear hW1
  refine (HSP0.out _).mono ?_
  rintro e W2 ⟨⟨cap, rfl, hNN, hcs⟩, hb2⟩
  have g2 := g0.below hb2 g0.lt
  have p2 := p0.below hb2 p0.lt
  have hB2 : Below u w W2 := hB1.trans (hb2.mono (by omega))
  have hs2 := p2.lt
  obtain ⟨g, hg⟩ : ∃ g, W1.heap.size = g := ⟨_, rfl⟩
  rw [hg] at hcs hs1 ⊢
  have HC := Lib.hid hcs
  obtain ⟨r0, fr0, -, -, -⟩ := g2.facts
  clear hcs hb2 hB1 HSP0 g0 p0 hg
  by_cases h5 : N = 5
  case neg =>
    have hd : decide ((N : Int) = 5) = false := by simp; omega
    have hd2 : ((N : Int) == 5) = false := by simp; omega
    have HE := Lib.hid (HLEN.out h5)
    have g3 := g2.setRow (sdV fun _ => 0)
    clear h5
    go_wp2_with fail
    exact bodyPost_ret (results_cell_tmp_holds rfl wideSd _ rfl g3 rfl) rfl ⟨by rw [HE.out.1, HE.out.2]; rfl, below_setRow hB2 _ (by omega) _⟩
  subst h5
  have HFX := Lib.hid (HFIN.out rfl)
  clear HFIN r0 fr0
  have hgl : g < W2.heap.size := by
    obtain ⟨x, hx⟩ := HQ.out 0 (by omega)
    have := cell_block (HC.out 0 x hx)
    simpa using this
  have HC2 := Lib.hid (show ∀ wr, Below W2.heap.size W2 wr → ∀ (j : Nat) x, ls[j]? = some x → wr.cell? ⟨g, j, none⟩ = some (.string ⟨x.toArray⟩) from fun wr hb j x hx => by
    rw [World.cell?_of_block (hb.block _ (by simpa using hgl))]
    exact HC.out j x hx)
  go_wp2_with fail
  go_loopw [18] (fun i wr => ∃ (k : Nat), k ≤ 5 ∧ i = .int .i64 (k : Int) ∧ (∀ j x, j < k → ls[j]? = some x → ∃ v, Lib.parseIntB 64 x = .ok v) ∧ Holds wr u (sdV fun _ => 0) ∧ Holds wr (u + 1) (sdV (cutSd F k)) ∧ (∀ (j : Nat) x, ls[j]? = some x → wr.cell? ⟨g, j, none⟩ = some (.string ⟨x.toArray⟩)) ∧ g < wr.heap.size ∧ Below u w wr) (fun i _ => 5 - (intOf i).toNat)
  case atStart => exact ⟨0, by omega, rfl, (fun j x h => absurd h (Nat.not_lt_zero _)), g2, by rw [cutSd_zero]; exact p2, HC.out, hgl, hB2⟩
  case round =>
    obtain ⟨k, hk, rfl, hpre, k0, kp, hcs, hgl3, hb⟩ := hrel
    have HPRE := Lib.hid hpre
    have HCC := Lib.hid hcs
    have hEr := HEE.out.below hb (by have := HU.out; omega)
    have hTr := HTT.out.below hb (by have := HU.out; omega)
    have HER := Lib.hid hEr
    have HTR := Lib.hid hTr
    clear hpre g2 p2 hB2 HC hs2 hgl HC2 hEr hTr hcs
    by_cases hlt : k < 5
    · have hd : decide ((k : Int) < 5) = true := by simp; omega
      obtain ⟨x, hx⟩ := HQ.out k hlt
      have c0 := HCC.out k x hx
      have hxl := HXL.out k x hx
      have HX := Lib.hid hx
      clear hx
      cases hp : Lib.parseIntB 64 x with
      | ok z =>
        have HZ := Lib.hid (HFV.out k x z HX.out hp)
        have HPA := Lib.hid (parse64_good ⟨x.toArray⟩ (by simp [ByteArray.size]; omega) z (by simpa using hp))
        have HPX := Lib.hid (show ∀ j x, j < k + 1 → ls[j]? = some x → ∃ v, Lib.parseIntB 64 x = .ok v from fun j y hj hy => by
          rcases Nat.lt_or_ge j k with h1 | h1
          · exact HPRE.out j y h1 hy
          · have e : j = k := by omega
            rw [e, HX.out] at hy
            cases hy
            exact ⟨z, hp⟩)
        clear hp
        go_wp2_with fail
        refine (HPA.out _).mono ?_
        rintro e W4 ⟨rfl, hb4⟩
        have l0 := k0.below hb4 k0.lt
        have lp := kp.below hb4 kp.lt
        have hB4 : Below u w W4 := hb.trans (hb4.mono (by have := k0.lt; omega))
        have HC4 := Lib.hid (show ∀ (j : Nat) x, ls[j]? = some x → W4.cell? ⟨g, j, none⟩ = some (.string ⟨x.toArray⟩) from fun j x hx => by
          rw [World.cell?_of_block (hb4.block _ (by simpa using hgl3))]
          exact HCC.out j x hx)
        have hgl4 : g < W4.heap.size := by have := hb4.size; omega
        obtain ⟨-, -, -, fr, hl⟩ := lp.facts
        have ck := lp.sd k hlt
        clear hb4 k0 kp hb c0 HPA HCC hgl3
        go_wp2_with fail
        go_roundw
        case rel =>
          refine ⟨k + 1, by omega, by go_num, HPX.out, l0.setCell_other _ _ (by dsimp only; omega), ?_, (fun j x hx => by rw [World.cell?_of_block (heap_setCell_other W4 ⟨u + 1, k, none⟩ g _ (by dsimp only; omega))]; exact HC4.out j x hx), by simpa using hgl4, hB4.setCell (p := ⟨u + 1, k, none⟩) (by dsimp only; omega) _⟩
          rw [← cutSd_succ, ← HZ.out]
          exact lp.setSd k hlt _
        case measure => simp [intOf]; omega
      | «syntax» =>
        have hno : ∀ v, Lib.parseIntB 64 x ≠ .ok v := fun v h => by rw [hp] at h; cases h
        have HE := Lib.hid (HBAD.out k x HX.out hno)
        have HPA := Lib.hid (parse64_fail ⟨x.toArray⟩ (by simp [ByteArray.size]; omega) (by simpa using hno))
        clear hp hno
        go_wp2_with fail
        refine (HPA.out _ HER.out).mono ?_
        rintro e W4 ⟨⟨z, te, N', rfl⟩, hb4⟩
        have l0 := k0.below hb4 k0.lt
        have hB4 : Below u w W4 := hb.trans (hb4.mono (by have := k0.lt; omega))
        obtain ⟨r0, fr0, -, -, -⟩ := l0.facts
        have g3 := l0.setRow (sdV fun _ => 0)
        clear hb4 k0 kp hb c0 HPA
        go_wp2_with fail
        exact bodyPost_ret (results_cell_tmp_holds rfl wideSd _ rfl g3 rfl) rfl ⟨by rw [HE.out.1, HE.out.2]; rfl, below_setRow hB4 _ (by omega) _⟩
      | range =>
        have hno : ∀ v, Lib.parseIntB 64 x ≠ .ok v := fun v h => by rw [hp] at h; cases h
        have HE := Lib.hid (HBAD.out k x HX.out hno)
        have HPA := Lib.hid (parse64_fail ⟨x.toArray⟩ (by simp [ByteArray.size]; omega) (by simpa using hno))
        clear hp hno
        go_wp2_with fail
        refine (HPA.out _ HER.out).mono ?_
        rintro e W4 ⟨⟨z, te, N', rfl⟩, hb4⟩
        have l0 := k0.below hb4 k0.lt
        have hB4 : Below u w W4 := hb.trans (hb4.mono (by have := k0.lt; omega))
        obtain ⟨r0, fr0, -, -, -⟩ := l0.facts
        have g3 := l0.setRow (sdV fun _ => 0)
        clear hb4 k0 kp hb c0 HPA
        go_wp2_with fail
        exact bodyPost_ret (results_cell_tmp_holds rfl wideSd _ rfl g3 rfl) rfl ⟨by rw [HE.out.1, HE.out.2]; rfl, below_setRow hB4 _ (by omega) _⟩
    · have hd : decide ((k : Int) < 5) = false := by simp; omega
      obtain rfl : k = 5 := by omega
      rw [cutSd_all] at kp
      have HE := HFX.out (fun j x hj hx => HPRE.out j x hj hx)
      obtain ⟨r0, fr0, -, -, -⟩ := k0.facts
      obtain ⟨rp, -, -, -, -⟩ := kp.facts
      have HTE := Lib.hid (HTX.out F)
      clear HTX HFX HPRE
      go_wp2_with fail
      refine (HTE.out _ HTR.out).mono ?_
      rintro e W4 ⟨rfl, hb4⟩
      have l0 := k0.below hb4 k0.lt
      have lp := kp.below hb4 kp.lt
      have hB4 : Below u w W4 := hb.trans (hb4.mono (by have := k0.lt; omega))
      clear r0 fr0 rp hb4 hb k0 kp
      obtain ⟨r0, fr0, -, -, -⟩ := l0.facts
      obtain ⟨rp, -, -, -, -⟩ := lp.facts
      rcases HE with ⟨hq, HE⟩ | ⟨hq, HE⟩
      · have HE2 := Lib.hid HE
        have g3 := l0.setRow (sdV F)
        clear HE
        go_wp2_with fail
        exact bodyPost_ret (results_cell_tmp_holds rfl wideSd _ rfl g3 rfl) rfl ⟨by rw [HE2.out.1, HE2.out.2]; rfl, below_setRow hB4 _ (by omega) _⟩
      · have HE2 := Lib.hid HE
        have g3 := l0.setRow (sdV fun _ => 0)
        clear HE
        go_wp2_with fail
        exact bodyPost_ret (results_cell_tmp_holds rfl wideSd _ rfl g3 rfl) rfl ⟨by rw [HE2.out.1, HE2.out.2]; rfl, below_setRow hB4 _ (by omega) _⟩
end Go.Proofs.YthfhpcigjnjkdaaDoor
