/- The model's reading of sides. -/
import Derived.Test.YthfhpcigjnjkdaaDoorRdSdP
import Derived.Test.YthfhpcigjnjkdaaDoorSSdT
import Derived.Test.YthfhpcigjnjkdaaDoorSdIn
import Derived.Test.YthfhpcigjnjkdaaDoorSplit
namespace Go.Proofs.YthfhpcigjnjkdaaDoor
open Go.RowKit
set_option linter.unusedVariables false
set_option linter.unusedSimpArgs false
attribute [local go_sem ↓] loadSd storeSd allocSd buildSd

theorem sidesB_no {f : Sd} (h : sidesB f = false) : ∃ j, j < 5 ∧ sdOk (f j) = false := by
  cases e : (List.range 5).all (fun j => sdOk (f j)) with
  | true =>
    rw [List.all_eq_true] at e
    rw [sidesB_good fun j hj => e j (List.mem_range.2 hj)] at h
    cases h
  | false =>
    rw [List.all_eq_false] at e
    obtain ⟨j, hj, h2⟩ := e
    exact ⟨j, List.mem_range.1 hj, by simpa using h2⟩
theorem sdSp_ok {w : List UInt8} {n : Nat} (h : numO w = some n) : sdSp w = if sdOk (n : Int) = true then some (n : Int) else none := by
  rw [sdSp_some h]
  by_cases hn : n ≤ 400
  · rw [if_pos hn, if_pos (sdOk_true.2 (by omega))]
  · rw [if_neg hn, if_neg (fun h => hn (by have := sdOk_true.1 h; omega))]

set_option maxRecDepth 100000 in
set_option maxHeartbeats 4000000 in
theorem sreadSd_any (s : ByteArray) (hs : s.size ≤ 1048576) (w : World) :
    Calls Tryd.prog 38 #[.string s] w fun e w' => e = .returned (.tuple #[.agg (sdV (rsF s.data.toList)), .int .i64 (rsC s.data.toList)]) ∧ Below w.heap.size w w' := by
  have hlen : s.data.toList.length = s.size := by rw [Array.length_toList]; rfl
  have HSP0 := Lib.hid (fun w => split_any s hs 32 w)
  have HTD := Lib.hid (fun f g w h => told5_any f g w h)
  obtain ⟨t, ht⟩ : ∃ t, s.data.toList = t := ⟨_, rfl⟩
  rw [ht] at HSP0 hlen ⊢
  have hsn := splitS_ne 32 t
  have hsl := splitS_len 32 t
  have HXL := Lib.hid (show ∀ (k : Nat) x, (splitS 32 t)[k]? = some x → x.length ≤ 1048576 from fun k x h => by
    have := splitS_mem_len (List.mem_of_getElem? h)
    omega)
  have HBAD := Lib.hid (show ∀ (k : Nat) x, (splitS 32 t)[k]? = some x → numO x = none → rsC t = 5 ∧ sdV (rsF t) = sdV fun _ => 0 from fun k x h h2 => rs_none (readSd_bad h (sdSp_none h2)))
  have HLEN := Lib.hid (show (splitS 32 t).length ≠ 5 → rsC t = 5 ∧ sdV (rsF t) = sdV fun _ => 0 from fun h => rs_none (readSd_len h))
  obtain ⟨F, hF⟩ : ∃ F : Sd, (fun j => (((numO ((splitS 32 t).getD j [])).getD 0 : Nat) : Int)) = F := ⟨_, rfl⟩
  have HFV := Lib.hid (show ∀ (k : Nat) x, (splitS 32 t)[k]? = some x → (((numO x).getD 0 : Nat) : Int) = F k from fun k x h => by
    rw [← hF]
    simp only [List.getD_eq_getElem?_getD, h, Option.getD_some])
  have HFIN := Lib.hid (show (splitS 32 t).length = 5 → (∀ j x, j < 5 → (splitS 32 t)[j]? = some x → (numO x).isSome = true) → if sidesB F = true then rsC t = 0 ∧ sdV (rsF t) = sdV F else rsC t = 5 ∧ sdV (rsF t) = sdV fun _ => 0 from fun hl hall => by
    cases hb : sidesB F with
    | true =>
      rw [if_pos rfl]
      refine rs_some (readSd_good hl fun j hj => ?_)
      have hx : (splitS 32 t)[j]? = some ((splitS 32 t)[j]'(by omega)) := List.getElem?_eq_getElem (by omega)
      refine ⟨_, hx, ?_⟩
      obtain ⟨n, hn⟩ := Option.isSome_iff_exists.1 (hall j _ hj hx)
      have := HFV.out j _ hx
      rw [hn] at this
      rw [sdSp_ok hn, show (n : Int) = F j from this, if_pos (sidesB_true hb j hj)]
    | false =>
      rw [if_neg (by simp)]
      obtain ⟨j, hj, hjo⟩ := sidesB_no hb
      have hx : (splitS 32 t)[j]? = some ((splitS 32 t)[j]'(by omega)) := List.getElem?_eq_getElem (by omega)
      obtain ⟨n, hn⟩ := Option.isSome_iff_exists.1 (hall j _ hj hx)
      have := HFV.out j _ hx
      rw [hn] at this
      refine rs_none (readSd_bad hx ?_)
      rw [sdSp_ok hn, show (n : Int) = F j from this, hjo, if_neg (by simp)])
  clear hF
  obtain ⟨ws, hws⟩ : ∃ ws, splitS 32 t = ws := ⟨_, rfl⟩
  rw [hws] at HSP0 HXL HBAD HLEN HFV HFIN hsn hsl
  have hwl : 0 < ws.length := List.length_pos_iff.2 hsn
  obtain ⟨RC, hRC⟩ : ∃ RC, rsC t = RC := ⟨_, rfl⟩
  obtain ⟨RF, hRF⟩ : ∃ RF, rsF t = RF := ⟨_, rfl⟩
  rw [hRC, hRF] at HBAD HLEN HFIN ⊢
  obtain ⟨N, hN⟩ : ∃ N, ws.length = N := ⟨_, rfl⟩
  rw [hN] at HSP0 HLEN HFIN hwl hsl
  have HQ := Lib.hid (show ∀ i, i < N → ∃ x, ws[i]? = some x from fun i h => ⟨_, List.getElem?_eq_getElem (by omega)⟩)
  obtain ⟨u, hu⟩ : ∃ u, w.heap.size = u := ⟨_, rfl⟩
  have HU := Lib.hid hu
  obtain ⟨W1, hW1⟩ : ∃ W1, w.alloc (.cells (sdV fun _ => 0) 53) = W1 := ⟨_, rfl⟩
  have g0 : Holds W1 u (sdV fun _ => 0) := by rw [← hW1]; exact Holds.new' _ _ _ _ hu.symm
  have hB1 : Below u w W1 := by rw [← hW1]; exact (Below.refl u w).alloc (by omega) _
  have hN2 : N ≤ 1048577 := by omega
  have hs1 := g0.lt
  rw [hu]
  clear ht hws hsn hN hlen hRC hRF hsl hu
  go_enter Tryd.func38, Tryd.ntmps38
  go_wp2_with fail
  try simp only [HU.out]
  try rw [hW1]
  clear hW1
  refine (HSP0.out _).mono ?_
  rintro e W2 ⟨⟨wv, rfl, how⟩, hb2⟩
  have g2 := g0.below hb2 g0.lt
  have hB2 : Below u w W2 := hB1.trans (hb2.mono (by omega))
  obtain ⟨g, cap, rfl, hug, hgl⟩ := own_form how (by omega)
  have hs2 := g2.lt
  obtain ⟨r0, fr0, -, -, -⟩ := g2.facts
  have HW := Lib.hid how
  clear how hb2 hB1 HSP0 g0
  by_cases h5 : N = 5
  case neg =>
    have hd : decide ((N : Int) = 5) = false := by simp; omega
    have hd2 : ((N : Int) == 5) = false := by simp; omega
    have HE := Lib.hid (HLEN.out h5)
    have g3 := g2.setRow (sdV fun _ => 0)
    clear h5
    go_wp2_with fail
    exact bodyPost_ret (results_cell_tmp_holds rfl wideSd _ rfl g3 rfl) rfl ⟨by rw [HE.out.1, HE.out.2]; rfl, below_setRow hB2 _ (by omega) _⟩
  subst h5
  have HFX := Lib.hid (HFIN.out rfl)
  clear HFIN
  go_wp2_with fail
  obtain ⟨p, hp⟩ : ∃ p, W2.heap.size = p := ⟨_, rfl⟩
  have i0 := g2.alloc (.cells (sdV fun _ => 0) 53)
  have ip := Holds.new' W2 (sdV fun _ => 0) 53 p hp.symm
  have HW2 := Lib.hid (own_below HW.out ((Below.refl W2.heap.size W2).alloc (Nat.le_refl _) (.cells (sdV fun _ => 0) 53)))
  have hB3 : Below u w (W2.alloc (.cells (sdV fun _ => 0) 53)) := hB2.alloc (by omega) _
  obtain ⟨W3, hW3⟩ : ∃ W3, W2.alloc (.cells (sdV fun _ => 0) 53) = W3 := ⟨_, rfl⟩
  rw [hW3] at i0 ip HW2 hB3
  obtain ⟨m1, hm1⟩ : ∃ m, W1.heap.size = m := ⟨_, rfl⟩
  rw [hm1] at HW2 hug hs1
  clear HW g2 r0 fr0 hB2
  try simp only [hp]
  try rw [hW3]
  clear hW3 hm1
  have hgp : g < p := by omega
  have hup : u < g := by omega
  clear hp hgl hs2
  go_loopw [6] (fun i wr => ∃ (k : Nat), k ≤ 5 ∧ i = .int .i64 (k : Int) ∧ (∀ j x, j < k → ws[j]? = some x → (numO x).isSome = true) ∧ Holds wr u (sdV fun _ => 0) ∧ Holds wr p (sdV (cutSd F k)) ∧ wr.ownsRow m1 9 1 (.slice (some ⟨g, 0, none⟩) 5 cap) 5 (strV ws) ∧ Below u w wr) (fun i _ => 5 - (intOf i).toNat)
  case atStart => exact ⟨0, by omega, rfl, (fun j x h => absurd h (Nat.not_lt_zero _)), i0, by rw [cutSd_zero]; exact ip, HW2.out, hB3⟩
  case round =>
    obtain ⟨k, hk, rfl, hpre, k0, kp, hw, hb⟩ := hrel
    have HPRE := Lib.hid hpre
    have HW := Lib.hid hw
    clear hpre i0 ip hB3 HW2
    by_cases hlt : k < 5
    · have hd : decide ((k : Int) < 5) = true := by simp; omega
      obtain ⟨x, hx⟩ := HQ.out k hlt
      have c0 := own_cell hw _ _ (strV_get hx)
      have hxl := HXL.out k x hx
      have HX := Lib.hid hx
      have HFK := Lib.hid (HFV.out k x hx)
      have HNU := Lib.hid (show ∀ w, Calls Tryd.prog 72 #[.string ⟨x.toArray⟩] w fun e w' => e = .returned (.tuple #[.int .i64 (((numO x).getD 0 : Nat) : Int), .bool (numO x).isSome]) ∧ Below w.heap.size w w' from fun w => by
        have := number_any ⟨x.toArray⟩ (by simp [ByteArray.size]; omega) w
        simpa using this)
      clear hw hx
      go_wp2_with fail
      refine (HNU.out _).mono ?_
      rintro e W4 ⟨rfl, hb4⟩
      have l0 := k0.below hb4 k0.lt
      have lp := kp.below hb4 kp.lt
      have HW4 := Lib.hid (own_below HW.out hb4)
      have hB4 : Below u w W4 := hb.trans (hb4.mono (by have := k0.lt; omega))
      clear hb4 k0 kp HW hb c0 HNU
      cases hn : numO x with
      | none =>
        have HE := Lib.hid (HBAD.out k x HX.out hn)
        obtain ⟨r0, fr0, -, -, -⟩ := l0.facts
        have g3 := l0.setRow (sdV fun _ => 0)
        clear hn
        go_wp2_with fail
        exact bodyPost_ret (results_cell_tmp_holds rfl wideSd _ rfl g3 rfl) rfl ⟨by rw [HE.out.1, HE.out.2]; rfl, below_setRow hB4 _ (by omega) _⟩
      | some n =>
        have HNN := Lib.hid hn
        have hfk := HFK.out
        rw [hn] at hfk
        have HFK2 := Lib.hid (show (n : Int) = F k from hfk)
        have HPX := Lib.hid (show ∀ j x, j < k + 1 → ws[j]? = some x → (numO x).isSome = true from fun j y hj hy => by
          rcases Nat.lt_or_ge j k with h1 | h1
          · exact HPRE.out j y h1 hy
          · have e : j = k := by omega
            rw [e, HX.out] at hy
            cases hy
            rw [HNN.out]; rfl)
        obtain ⟨-, -, -, fr, hl⟩ := lp.facts
        have ck := lp.sd k hlt
        clear hn hfk HFK
        go_wp2_with fail
        go_roundw
        case rel =>
          refine ⟨k + 1, by omega, by go_num, HPX.out, l0.setCell_other _ _ (by dsimp only; omega), ?_, (by
            obtain ⟨h1, h2⟩ := HW4.out
            refine ⟨h1, ?_⟩
            rcases h2 with h2 | ⟨b, cap', cur, hv, hbg, hb', r⟩
            · exact .inl h2
            · cases hv
              exact .inr ⟨g, cap, cur, rfl, hbg, (heap_setCell_other _ ⟨p, k, none⟩ g _ (by dsimp only; omega)).trans hb', r⟩), hB4.setCell (p := ⟨p, k, none⟩) (by dsimp only; omega) _⟩
          rw [← cutSd_succ, ← HFK2.out]
          exact lp.setSd k hlt _
        case measure => simp [intOf]; omega
    · have hd : decide ((k : Int) < 5) = false := by simp; omega
      obtain rfl : k = 5 := by omega
      rw [cutSd_all] at kp
      have HE := HFX.out (fun j x hj hx => HPRE.out j x hj hx)
      obtain ⟨r0, fr0, -, -, -⟩ := k0.facts
      obtain ⟨rp, -, -, -, -⟩ := kp.facts
      have HT2 := Lib.hid (HTD.out F p wr kp)
      clear HTD HFX HPRE
      cases hbs : sidesB F with
      | false =>
        rw [hbs] at HE HT2
        rw [if_neg (by simp)] at HE
        have HE2 := Lib.hid HE
        have g3 := k0.setRow (sdV fun _ => 0)
        clear HE hbs
        go_wp2_with fail
        refine HT2.out.mono ?_
        rintro e w3 ⟨rfl, hw3⟩
        rw [hw3]
        clear hw3
        go_wp2_with fail
        exact bodyPost_ret (results_cell_tmp_holds rfl wideSd _ rfl g3 rfl) rfl ⟨by rw [HE2.out.1, HE2.out.2]; rfl, below_setRow hb _ (by omega) _⟩
      | true =>
        rw [hbs] at HE HT2
        rw [if_pos rfl] at HE
        have HE2 := Lib.hid HE
        have g3 := k0.setRow (sdV F)
        clear HE hbs
        go_wp2_with fail
        refine HT2.out.mono ?_
        rintro e w3 ⟨rfl, hw3⟩
        rw [hw3]
        clear hw3
        go_wp2_with fail
        exact bodyPost_ret (results_cell_tmp_holds rfl wideSd _ rfl g3 rfl) rfl ⟨by rw [HE2.out.1, HE2.out.2]; rfl, below_setRow hb _ (by omega) _⟩
end Go.Proofs.YthfhpcigjnjkdaaDoor
