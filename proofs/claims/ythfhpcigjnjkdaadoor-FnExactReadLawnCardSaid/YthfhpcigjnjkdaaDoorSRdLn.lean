/- The model's reading of a lawn. -/
import Derived.Test.YthfhpcigjnjkdaaDoorRdLnP
import Derived.Test.YthfhpcigjnjkdaaDoorSplit
import Derived.Test.YthfhpcigjnjkdaaDoorSRdLv
namespace Go.Proofs.YthfhpcigjnjkdaaDoor
open Go.RowKit
set_option linter.unusedVariables false
set_option linter.unusedSimpArgs false
attribute [local go_sem ↓] loadRow loadGrid loadLawn loadMirror storeRow storeGrid storeLawn allocRow allocGrid allocLawn buildZero buildSides

set_option maxHeartbeats 1000000 in
theorem letter_walk (c : Int) (n : Nat) (hn : n ≤ 4) (h0 : n = 0 → c = 46) (h1 : n = 1 → c = 35) (h2 : n = 2 → c = 84) (h3 : n = 3 → c = 61) (g0 : n ≠ 0 → 46 ≠ c) (g1 : n ≠ 1 → 35 ≠ c) (g2 : n ≠ 2 → 84 ≠ c) (g3 : n ≠ 3 → 61 ≠ c) (w : World) :
    Calls Tryd.prog 59 #[.int .u8 c] w fun e w' => e = .returned (.int .i64 (if n = 4 then -1 else (n : Int))) ∧ w' = w := by
  have H := Lib.hid (And.intro h0 (And.intro h1 (And.intro h2 (And.intro h3 (And.intro g0 (And.intro g1 (And.intro g2 g3)))))))
  clear h0 h1 h2 h3 g0 g1 g2 g3
  go_enter Tryd.func59, Tryd.ntmps59
  go_wp2_with fail
  go_loopw [3] (fun i wr => ∃ k : Nat, k ≤ n ∧ i = .int .i64 (k : Int) ∧ wr = w) (fun i _ => 4 - (intOf i).toNat)
  case atStart => exact ⟨0, by omega, rfl, rfl⟩
  case round =>
    obtain ⟨k, hk, rfl, rfl⟩ := hrel
    obtain ⟨h0, h1, h2, h3, g0, g1, g2, g3⟩ := H.out
    have hc : k = 0 ∨ k = 1 ∨ k = 2 ∨ k = 3 ∨ k = 4 := by omega
    rcases hc with rfl | rfl | rfl | rfl | rfl
    · by_cases e : n = 0
      · have hq : (((((⟨#[46, 35, 84, 61]⟩ : ByteArray)[0]'(by decide)).toNat : Int)) == c) = true := by rw [h0 e]; rfl
        have hc := h0 e
        subst e
        clear hc
        clear h0 h1 h2 h3 g0 g1 g2 g3 H
        go_wp2_with fail
        go_ret
        exact ⟨rfl, rfl⟩
      · have hq : (((((⟨#[46, 35, 84, 61]⟩ : ByteArray)[0]'(by decide)).toNat : Int)) == c) = false := by rw [beq_eq_false_iff_ne]; exact g0 e
        have hkn : 1 ≤ n := by omega
        clear h0 h1 h2 h3 g0 g1 g2 g3 e
        go_wp2_with fail
        go_roundw
        case rel => exact ⟨1, hkn, rfl, trivial⟩
        case measure => simp [intOf]
    · by_cases e : n = 1
      · have hq : (((((⟨#[46, 35, 84, 61]⟩ : ByteArray)[1]'(by decide)).toNat : Int)) == c) = true := by rw [h1 e]; rfl
        have hc := h1 e
        subst e
        clear hc
        clear h0 h1 h2 h3 g0 g1 g2 g3 H
        go_wp2_with fail
        go_ret
        exact ⟨rfl, rfl⟩
      · have hq : (((((⟨#[46, 35, 84, 61]⟩ : ByteArray)[1]'(by decide)).toNat : Int)) == c) = false := by rw [beq_eq_false_iff_ne]; exact g1 e
        have hkn : 2 ≤ n := by omega
        clear h0 h1 h2 h3 g0 g1 g2 g3 e
        go_wp2_with fail
        go_roundw
        case rel => exact ⟨2, hkn, rfl, trivial⟩
        case measure => simp [intOf]
    · by_cases e : n = 2
      · have hq : (((((⟨#[46, 35, 84, 61]⟩ : ByteArray)[2]'(by decide)).toNat : Int)) == c) = true := by rw [h2 e]; rfl
        have hc := h2 e
        subst e
        clear hc
        clear h0 h1 h2 h3 g0 g1 g2 g3 H
        go_wp2_with fail
        go_ret
        exact ⟨rfl, rfl⟩
      · have hq : (((((⟨#[46, 35, 84, 61]⟩ : ByteArray)[2]'(by decide)).toNat : Int)) == c) = false := by rw [beq_eq_false_iff_ne]; exact g2 e
        have hkn : 3 ≤ n := by omega
        clear h0 h1 h2 h3 g0 g1 g2 g3 e
        go_wp2_with fail
        go_roundw
        case rel => exact ⟨3, hkn, rfl, trivial⟩
        case measure => simp [intOf]
    · by_cases e : n = 3
      · have hq : (((((⟨#[46, 35, 84, 61]⟩ : ByteArray)[3]'(by decide)).toNat : Int)) == c) = true := by rw [h3 e]; rfl
        have hc := h3 e
        subst e
        clear hc
        clear h0 h1 h2 h3 g0 g1 g2 g3 H
        go_wp2_with fail
        go_ret
        exact ⟨rfl, rfl⟩
      · have hq : (((((⟨#[46, 35, 84, 61]⟩ : ByteArray)[3]'(by decide)).toNat : Int)) == c) = false := by rw [beq_eq_false_iff_ne]; exact g3 e
        have hkn : 4 ≤ n := by omega
        clear h0 h1 h2 h3 g0 g1 g2 g3 e
        go_wp2_with fail
        go_roundw
        case rel => exact ⟨4, hkn, rfl, trivial⟩
        case measure => simp [intOf]
    · obtain rfl : n = 4 := by omega
      clear h0 h1 h2 h3 g0 g1 g2 g3 H
      go_wp2_with fail
      go_ret
      exact ⟨rfl, rfl⟩
theorem kletter_any (b : UInt8) (w : World) :
    Calls Tryd.prog 59 #[.int .u8 (b.toNat : Int)] w fun e w' => e = .returned (.int .i64 (kd b)) ∧ w' = w := by
  have hne : ∀ n : Nat, n < 256 → b ≠ UInt8.ofNat n → ((n : Int) ≠ (b.toNat : Int)) := fun n hn h e => h (UInt8.toNat_inj.1 (by rw [UInt8.toNat_ofNat']; omega))
  by_cases h0 : b = 46
  · subst h0
    exact letter_walk 46 0 (by omega) (by simp) (by simp) (by simp) (by simp) (by simp) (by simp) (by simp) (by simp) w
  by_cases h1 : b = 35
  · subst h1
    exact letter_walk 35 1 (by omega) (by simp) (by simp) (by simp) (by simp) (by simp) (by simp) (by simp) (by simp) w
  by_cases h2 : b = 84
  · subst h2
    exact letter_walk 84 2 (by omega) (by simp) (by simp) (by simp) (by simp) (by simp) (by simp) (by simp) (by simp) w
  by_cases h3 : b = 61
  · subst h3
    exact letter_walk 61 3 (by omega) (by simp) (by simp) (by simp) (by simp) (by simp) (by simp) (by simp) (by simp) w
  have e : kd b = -1 := by unfold kd; rw [if_neg h0, if_neg h1, if_neg h2, if_neg h3]
  rw [e]
  exact letter_walk (b.toNat : Int) 4 (by omega) (by simp) (by simp) (by simp) (by simp) (fun _ => hne 46 (by omega) h0) (fun _ => hne 35 (by omega) h1) (fun _ => hne 84 (by omega) h2) (fun _ => hne 61 (by omega) h3) w
@[go_sem] theorem store_ln (g : Nat) (f f' : Lawn) (w : World) : opStoreRow Tryd.prog 26 102 g 0 f.cells true f'.cells w = .ok .skip (w.setRow g f'.cells) := by
  rw [opStoreRow_at _ _ _ _ _ _ _ _ wideLawn (by simp) (Lawn.cells_ones f') (by simp), Lawn.splice_lawn]
/-- A row's text, as it lies in memory. -/
theorem row_text (l : List UInt8) : ∃ S : ByteArray, S = ⟨l.toArray⟩ ∧ S.size = l.length ∧ ∀ j (h : j < S.size), l[j]? = some (S[j]'h) := by
  refine ⟨⟨l.toArray⟩, rfl, by simp [ByteArray.size], fun j h => ?_⟩
  have h2 : j < l.length := by simpa [ByteArray.size] using h
  rw [List.getElem?_eq_getElem h2]
  rfl

set_option maxRecDepth 100000 in
set_option maxHeartbeats 4000000 in
theorem sreadLn_any (s : ByteArray) (hs : s.size ≤ 1048576) (w : World) :
    Calls Tryd.prog 14 #[.string s] w fun e w' => e = .returned (.tuple #[.agg (rnL s.data.toList).cells, .int .i64 (rnC s.data.toList)]) ∧ Below w.heap.size w w' := by
  have hlen : s.data.toList.length = s.size := by rw [Array.length_toList]; rfl
  have HSP0 := Lib.hid (fun w => split_any s hs 10 w)
  obtain ⟨t, ht⟩ : ∃ t, s.data.toList = t := ⟨_, rfl⟩
  rw [ht] at HSP0 hlen ⊢
  clear ht
  have hsn := splitS_ne 10 t
  have hsl := splitS_len 10 t
  have hHN : (splitS 10 t).length = hgT t + 1 := by have := List.length_pos_iff.2 hsn; unfold hgT; omega
  have HG1 := Lib.hid (show ∀ l, (splitS 10 t)[hgT t]? = some l → l ≠ [] → rnC t = 5 ∧ rnL t = Lawn.zero from fun l h h2 => rn_none fun hg => h2 (by rw [hg.1] at h; cases h; rfl))
  have HG2 := Lib.hid (show inB (hgT t : Int) 1 10 = false → rnC t = 5 ∧ rnL t = Lawn.zero from fun h => rn_none fun hg => by
    rw [show inB (hgT t : Int) 1 10 = true by simp [inB]; exact ⟨by have := hg.2.1.1; omega, by have := hg.2.1.2; omega⟩] at h
    cases h)
  have HG3 := Lib.hid (show inB (wdT t : Int) 1 10 = false → rnC t = 5 ∧ rnL t = Lawn.zero from fun h => rn_none fun hg => by
    rw [show inB (wdT t : Int) 1 10 = true by simp [inB]; exact ⟨by have := hg.2.2.1.1; omega, by have := hg.2.2.1.2; omega⟩] at h
    cases h)
  have HG4 := Lib.hid (show ∀ k l, k < hgT t → (splitS 10 t)[k]? = some l → l.length ≠ wdT t → rnC t = 5 ∧ rnL t = Lawn.zero from fun k l hk hl h => rn_none fun hg => h (hg.2.2.2 k l hk hl).1)
  have HG5 := Lib.hid (show ∀ k l j b, k < hgT t → (splitS 10 t)[k]? = some l → l[j]? = some b → kd b < 0 → rnC t = 5 ∧ rnL t = Lawn.zero from fun k l j b hk hl hb h => rn_none fun hg => by have := (hg.2.2.2 k l hk hl).2 j b hb; omega)
  have HG6 := Lib.hid (show (splitS 10 t)[hgT t]? = some [] → (1 ≤ hgT t ∧ hgT t ≤ 10) → (1 ≤ wdT t ∧ wdT t ≤ 10) → rowsOk t (hgT t) → rnC t = 0 ∧ rnL t = ⟨(wdT t : Int), (hgT t : Int), fillC (codeT t) (wdT t) (hgT t) 0⟩ from fun h1 h2 h3 h4 => rn_some ⟨h1, h2, h3, h4⟩)
  have HRS := Lib.hid (fun k l h hl h1 h2 => rowsOk_snoc (t := t) (k := k) (l := l) h hl h1 h2)
  have HR0 := Lib.hid (rowsOk_zero t)
  have HCD := Lib.hid (fun l y x b hl hb => codeT_get (t := t) (l := l) (y := y) (x := x) (b := b) hl hb)
  have hwd : ∀ l, (splitS 10 t)[0]? = some l → l.length = wdT t := fun l hl => by unfold wdT; simp only [List.getD_eq_getElem?_getD, hl, Option.getD_some]
  have HWD := Lib.hid hwd
  have HXL := Lib.hid (show ∀ (k : Nat) x, (splitS 10 t)[k]? = some x → x.length ≤ 1048576 from fun k x h => by
    have := splitS_mem_len (List.mem_of_getElem? h)
    omega)
  obtain ⟨C, hC⟩ : ∃ C, codeT t = C := ⟨_, rfl⟩
  obtain ⟨P, hP⟩ : ∃ P, rowsOk t = P := ⟨_, rfl⟩
  obtain ⟨ws, hws⟩ : ∃ ws, splitS 10 t = ws := ⟨_, rfl⟩
  obtain ⟨H, hH⟩ : ∃ H, hgT t = H := ⟨_, rfl⟩
  obtain ⟨W, hW⟩ : ∃ W, wdT t = W := ⟨_, rfl⟩
  obtain ⟨RC, hRC⟩ : ∃ RC, rnC t = RC := ⟨_, rfl⟩
  obtain ⟨RL, hRL⟩ : ∃ RL, rnL t = RL := ⟨_, rfl⟩
  rw [hws] at HSP0 hsn hsl hHN HG1 HG4 HG5 HG6 HRS HCD HWD HXL
  rw [hH] at hHN HG1 HG2 HG4 HG5 HG6
  rw [hW] at HG3 HG4 HG6 HRS HWD
  rw [hC] at HG6 HCD
  rw [hP] at HG6 HRS HR0
  rw [hRC, hRL] at HG1 HG2 HG3 HG4 HG5 HG6 ⊢
  obtain ⟨N, hN⟩ : ∃ N, ws.length = N := ⟨_, rfl⟩
  rw [hN] at HSP0 hHN hsl
  have HQ := Lib.hid (show ∀ i, i < N → ∃ x, ws[i]? = some x from fun i h => ⟨_, List.getElem?_eq_getElem (by omega)⟩)
  have hN2 : N ≤ 1048577 := by omega
  obtain ⟨u, hu⟩ : ∃ u, w.heap.size = u := ⟨_, rfl⟩
  have HU := Lib.hid hu
  obtain ⟨W1, hW1⟩ : ∃ W1, w.alloc (.cells (Lawn.cells ⟨0, 0, fun _ _ => 0⟩) 26) = W1 := ⟨_, rfl⟩
  have g0 : Holds W1 u Lawn.zero.cells := by rw [← hW1]; exact Holds.new' _ _ _ _ hu.symm
  have hB1 : Below u w W1 := by rw [← hW1]; exact (Below.refl u w).alloc (by omega) _
  have hs1 := g0.lt
  obtain ⟨LZ, hLZ⟩ : ∃ LZ, Lawn.zero = LZ := ⟨_, rfl⟩
  rw [hLZ] at HG1 HG2 HG3 HG4 HG5 g0
  have HLZ := Lib.hid hLZ
  obtain ⟨l0, hl0⟩ := HQ.out 0 (by omega)
  obtain ⟨S0, hS0, hz0, -⟩ := row_text l0
  obtain ⟨lH, hlH⟩ := HQ.out H (by omega)
  obtain ⟨SH, hSH, hzH, -⟩ := row_text lH
  have hl0W : S0.size = W := by rw [hz0]; exact HWD.out l0 hl0
  have hwb : W ≤ 1048576 := by rw [← HWD.out l0 hl0]; exact HXL.out 0 l0 hl0
  have HL0 := Lib.hid hl0
  have HLH := Lib.hid hlH
  have hN1 : (N : Int) - 1 = (H : Int) := by omega
  have w1 : IntKind.i64.wrap (H : Int) = (H : Int) := IntWalk.i64_in _ (by omega)
  have w2 : IntKind.i64.wrap ((N : Int) - 1) = (H : Int) := by rw [hN1]; exact w1
  have hHlt : (H : Int) < (N : Int) := by omega
  have hH0 : (0 : Int) ≤ (H : Int) := by omega
  rw [hu]
  clear hsn hN hlen hs hRC hRL hC hP hws hH hW hwd hsl hu hLZ hz0
  obtain ⟨r0, fr0, -, -, -⟩ := g0.facts
  go_enter Tryd.func14, Tryd.ntmps14
  go_wp2_with fail
  try simp only [HU.out]
  try rw [hW1]
  clear hW1 r0 fr0
  refine (HSP0.out _).mono ?_
  rintro e W2 ⟨⟨wv, rfl, how⟩, hb2⟩
  have g2 := g0.below hb2 g0.lt
  have hB2 : Below u w W2 := hB1.trans (hb2.mono (by omega))
  obtain ⟨g, cap, rfl, hug, hgl⟩ := own_form how (by omega)
  have hs2 := g2.lt
  obtain ⟨r0, fr0, -, -, -⟩ := g2.facts
  have c0 := own_cell how _ _ (strV_get HL0.out)
  have cH := own_cell how _ _ (strV_get HLH.out)
  rw [← hS0] at c0
  rw [← hSH] at cH
  have HW := Lib.hid how
  have gz := g2.setRow LZ.cells
  obtain ⟨m1, hm1⟩ : ∃ m, W1.heap.size = m := ⟨_, rfl⟩
  rw [hm1] at HW hug hs1
  clear how hb2 hB1 HSP0 g0 hm1 hS0
  have hze : Lawn.cells ⟨0, 0, fun _ _ => 0⟩ = LZ.cells := by rw [← HLZ.out]; rfl
  by_cases hle : lH = []
  case neg =>
    have hne : SH.toList.isEmpty = false := by
      rw [hSH, Lib.toList_data]
      cases lH with
      | nil => exact absurd rfl hle
      | cons => rfl
    have HE := Lib.hid (HG1.out lH HLH.out hle)
    clear hle hSH hzH
    go_wp2_with fail
    try rw [hze]
    exact bodyPost_ret (results_cell_tmp_holds rfl wideLawn _ rfl gz (by simp)) rfl ⟨by rw [HE.out.1, HE.out.2]; rfl, below_setRow' hB2 (by omega) _⟩
  have hne : SH.toList.isEmpty = true := by rw [hSH, Lib.toList_data, hle]; rfl
  have HLE := Lib.hid (show ws[H]? = some [] by rw [← hle]; exact HLH.out)
  obtain ⟨b1, hb1⟩ : ∃ b, inB (H : Int) 1 10 = b := ⟨_, rfl⟩
  have HS1 := Lib.hid (l01Side_is (H : Int) b1 hb1)
  obtain ⟨b2, hb2⟩ : ∃ b, inB (W : Int) 1 10 = b := ⟨_, rfl⟩
  have HS2 := Lib.hid (l01Side_is (W : Int) b2 hb2)
  clear hle hSH hzH HG1 HLH
  go_wp2_with fail
  refine (HS1.out _).mono ?_
  rintro e W3 ⟨rfl, hw3⟩
  rw [← hw3]
  clear hw3
  cases b1 with
  | false =>
    have HE := Lib.hid (HG2.out hb1)
    clear hb1 hb2
    go_wp2_with fail
    try rw [hze]
    exact bodyPost_ret (results_cell_tmp_holds rfl wideLawn _ rfl gz (by simp)) rfl ⟨by rw [HE.out.1, HE.out.2]; rfl, below_setRow' hB2 (by omega) _⟩
  | true =>
  go_wp2_with fail
  refine (HS2.out _).mono ?_
  rintro e W3 ⟨rfl, hw3⟩
  rw [← hw3]
  clear hw3
  cases b2 with
  | false =>
    have HE := Lib.hid (HG3.out hb2)
    clear hb1 hb2
    go_wp2_with fail
    try rw [hze]
    exact bodyPost_ret (results_cell_tmp_holds rfl wideLawn _ rfl gz (by simp)) rfl ⟨by rw [HE.out.1, HE.out.2]; rfl, below_setRow' hB2 (by omega) _⟩
  | true =>
  obtain ⟨p1, p2⟩ := inB_true hb1
  obtain ⟨p3, p4⟩ := inB_true hb2
  have wi1 : IntKind.i8.wrap (H : Int) = (H : Int) := IntWalk.i8_in _ (by omega)
  have wi2 : IntKind.i8.wrap (W : Int) = (W : Int) := IntWalk.i8_in _ (by omega)
  clear hb1 hb2 gz HS1 HS2
  go_wp2_with fail
  obtain ⟨p, hp⟩ : ∃ p, W2.heap.size = p := ⟨_, rfl⟩
  have i0 := g2.alloc (.cells (Lawn.cells ⟨(W : Int), (H : Int), fun _ _ => 0⟩) 26)
  have ip := Holds.new' W2 (Lawn.cells ⟨(W : Int), (H : Int), fun _ _ => 0⟩) 26 p hp.symm
  have HW3 := Lib.hid (own_below HW.out ((Below.refl W2.heap.size W2).alloc (Nat.le_refl _) (.cells (Lawn.cells ⟨(W : Int), (H : Int), fun _ _ => 0⟩) 26)))
  have hB3 : Below u w (W2.alloc (.cells (Lawn.cells ⟨(W : Int), (H : Int), fun _ _ => 0⟩) 26)) := hB2.alloc (by omega) _
  obtain ⟨W3, hW3⟩ : ∃ W3, W2.alloc (.cells (Lawn.cells ⟨(W : Int), (H : Int), fun _ _ => 0⟩) 26) = W3 := ⟨_, rfl⟩
  rw [hW3] at i0 ip HW3 hB3
  rw [hp] at hgl
  try simp only [hp]
  try rw [hW3]
  clear HW r0 fr0 hB2 c0 cH g2 hW3 hp
  have hup : u < g := by omega
  go_loopw [8] (fun i wr => ∃ (k : Nat), k ≤ H ∧ i = .int .i64 (k : Int) ∧ P k ∧ Holds wr u LZ.cells ∧ Holds wr p (Lawn.cells ⟨(W : Int), (H : Int), fillC C W k 0⟩) ∧ wr.ownsRow m1 9 1 (.slice (some ⟨g, 0, none⟩) N cap) N (strV ws) ∧ Below u w wr) (fun i _ => H - (intOf i).toNat)
  case atStart => exact ⟨0, by omega, rfl, HR0.out, i0, by rw [fillC_zero]; exact ip, HW3.out, hB3⟩
  case round =>
    obtain ⟨k, hk, rfl, hpk, k0, kp, hw, hb⟩ := hrel
    have HP := Lib.hid hpk
    have HW := Lib.hid hw
    clear hpk i0 ip HW3 hB3
    by_cases hlt : k < H
    · have hd : decide ((k : Int) < (H : Int)) = true := by simp; omega
      have hkN : (k : Int) < (N : Int) := by omega
      have hk0 : (0 : Int) ≤ (k : Int) := by omega
      obtain ⟨l, hl⟩ := HQ.out k (by omega)
      obtain ⟨S, hS, hz, hGS⟩ := row_text l
      have HCS := Lib.hid (show ∀ wr : World, wr.ownsRow m1 9 1 (.slice (some ⟨g, 0, none⟩) N cap) N (strV ws) → wr.cell? ⟨g, k, none⟩ = some (.string S) from fun wr h => by
        have := own_cell h _ _ (strV_get hl)
        rw [← hS] at this
        exact this)
      have d0 := HCS.out _ hw
      have HZ := Lib.hid hz
      have HGSS := Lib.hid hGS
      have HE4 := Lib.hid (HG4.out k l hlt hl)
      have HE5 := Lib.hid (fun j b hb h => HG5.out k l j b hlt hl hb h)
      have HRN := Lib.hid (HRS.out k l HP.out hl)
      have HCK := Lib.hid (fun j b hb => HCD.out l k j b hl hb)
      obtain ⟨r0, fr0, -, -, -⟩ := k0.facts
      clear hl hS hw hGS hz
      by_cases hSW : S.size = W
      case neg =>
        have hd2 : decide ((S.size : Int) = (W : Int)) = false := by simp; omega
        have hd3 : ((S.size : Int) == (W : Int)) = false := by simp; omega
        have HE := Lib.hid (HE4.out (by rw [← HZ.out]; exact hSW))
        have gz := k0.setRow LZ.cells
        clear hSW
        go_wp2_with fail
        try rw [hze]
        exact bodyPost_ret (results_cell_tmp_holds rfl wideLawn _ rfl gz (by simp)) rfl ⟨by rw [HE.out.1, HE.out.2]; rfl, below_setRow' hb (by omega) _⟩
      have hd2 : decide ((S.size : Int) = (W : Int)) = true := by simp; omega
      have hd3 : ((S.size : Int) == (W : Int)) = true := by simp; omega
      have hd4 : ((S.size : Int) != (W : Int)) = false := by simp; omega
      have HSW := Lib.hid hSW
      clear hSW HE4
      go_wp2_with fail
      clear d0 hd2 hd3 hd4 r0 fr0
      go_loopw [9] (fun i wr => ∃ (j : Nat), j ≤ W ∧ i = .int .i64 (j : Int) ∧ (∀ (x : Nat) b, x < j → l[x]? = some b → 0 ≤ kd b) ∧ Holds wr u LZ.cells ∧ Holds wr p (Lawn.cells ⟨(W : Int), (H : Int), fillC C W k j⟩) ∧ wr.ownsRow m1 9 1 (.slice (some ⟨g, 0, none⟩) N cap) N (strV ws) ∧ Below u w wr) (fun i _ => W - (intOf i).toNat)
      case atStart => exact ⟨0, by omega, rfl, (fun x b h => absurd h (Nat.not_lt_zero _)), k0, kp, HW.out, hb⟩
      case round =>
        clear k0 kp HW hb
        obtain ⟨j, hj, rfl, hpj, k0, kp, hw, hb⟩ := hrel
        have HPJ := Lib.hid hpj
        have HW := Lib.hid hw
        clear hpj
        by_cases hjt : j < W
        · have hdj : decide ((j : Int) < (W : Int)) = true := by simp; omega
          have hjs : j < S.size := by rw [HSW.out]; exact hjt
          have hjs2 : (j : Int) < (S.size : Int) := by omega
          have hj0 : (0 : Int) ≤ (j : Int) := by omega
          have d0 := HCS.out _ hw
          have hbj := HGSS.out j hjs
          obtain ⟨z, hz⟩ : ∃ z, kd (S[j]'hjs) = z := ⟨_, rfl⟩
          have HKL := Lib.hid (show ∀ w, Calls Tryd.prog 59 #[.int .u8 ((S[j]'hjs).toNat : Int)] w fun e w' => e = .returned (.int .i64 z) ∧ w' = w from fun w => by rw [← hz]; exact kletter_any _ w)
          have hzr := kd_range (S[j]'hjs)
          rw [hz] at hzr
          have HE := Lib.hid (fun h => HE5.out j _ hbj (by rw [hz]; exact h))
          have HC := Lib.hid (show C k j = z by rw [HCK.out j _ hbj, hz])
          have HPN := Lib.hid (show 0 ≤ z → ∀ (x : Nat) b, x < j + 1 → l[x]? = some b → 0 ≤ kd b from fun h x b hx hb => by
            rcases Nat.lt_or_ge x j with h1 | h1
            · exact HPJ.out x b h1 hb
            · have e : x = j := by omega
              rw [e, hbj] at hb
              cases hb
              rw [hz]; exact h)
          clear hw hbj hz
          go_wp2_with fail
          refine (HKL.out _).mono ?_
          rintro e W5 ⟨rfl, hw5⟩
          rw [hw5]
          clear hw5 d0 HKL
          by_cases hzn : z < 0
          · have hdz : decide (z < 0) = true := by simpa using hzn
            have HEE := Lib.hid (HE.out hzn)
            obtain ⟨r0, fr0, -, -, -⟩ := k0.facts
            have gz := k0.setRow LZ.cells
            clear hzn hzr
            go_wp2_with fail
            try rw [hze]
            exact bodyPost_ret (results_cell_tmp_holds rfl wideLawn _ rfl gz (by simp)) rfl ⟨by rw [HEE.out.1, HEE.out.2]; rfl, below_setRow' hb (by omega) _⟩
          · have hdz : decide (z < 0) = false := by simp; omega
            have hwu : IntKind.u8.wrap z = z := IntWalk.u8_in _ (by omega)
            have HPX := Lib.hid (HPN.out (by omega))
            obtain ⟨-, -, cc, fr, hl⟩ := kp.facts
            have ck : wr.cell? ⟨p, 2 + k * 10 + j, none⟩ = some (.int .u8 (fillC C W k j k j)) := (cc _).trans (Lawn.cells_get _ k j (by omega) (by omega))
            have hk1 : (k : Int) < 10 := by omega
            have hj1 : (j : Int) < 10 := by omega
            clear hzn hzr cc
            go_wp2_with fail
            go_roundw
            case rel =>
              refine ⟨j + 1, by omega, by go_num, HPX.out, k0.setCell_other _ _ (by dsimp only; omega), ?_, ?_, hb.setCell (p := ⟨p, 2 + k * 10 + j, none⟩) (by dsimp only; omega) _⟩
              · have := kp.setCell (2 + k * 10 + j) (.int .u8 z)
                rw [Lawn.cells_put _ k j (by omega) (by omega), ← HC.out, fill_put hjt] at this
                rw [← HC.out]
                exact this
              · obtain ⟨h1, h2⟩ := HW.out
                refine ⟨h1, ?_⟩
                rcases h2 with h2 | ⟨b, cap', cur, hv, hbg, hb', r⟩
                · exact .inl h2
                · cases hv
                  exact .inr ⟨g, cap, cur, rfl, hbg, (heap_setCell_other _ ⟨p, 2 + k * 10 + j, none⟩ g _ (by dsimp only; omega)).trans hb', r⟩
            case measure => simp [intOf]; omega
        · have hdj : decide ((j : Int) < (W : Int)) = false := by simp; omega
          obtain rfl : j = W := by omega
          have HPX := Lib.hid (HRN.out (by rw [← HZ.out]; exact HSW.out) (fun x b hx hb => HPJ.out x b (by rw [← HSW.out, HZ.out]; exact hx) hb))
          rw [fillC_row] at kp
          go_wp2_with fail
          go_roundw
          case rel => exact ⟨k + 1, by omega, by go_num, HPX.out, k0, kp, HW.out, hb⟩
          case measure => simp [intOf]; omega
    · have hd : decide ((k : Int) < (H : Int)) = false := by simp; omega
      obtain rfl : k = H := by omega
      have HE := Lib.hid (HG6.out HLE.out (by omega) (by omega) HP.out)
      obtain ⟨r0, fr0, -, -, -⟩ := k0.facts
      obtain ⟨rp, -, -, -, -⟩ := kp.facts
      have gz := k0.setRow (Lawn.cells ⟨(W : Int), (k : Int), fillC C W k 0⟩)
      clear hw HW kp
      go_wp2_with fail
      exact bodyPost_ret (results_cell_tmp_holds rfl wideLawn _ rfl gz (by simp)) rfl ⟨by rw [HE.out.1, HE.out.2]; rfl, below_setRow' hb (by omega) _⟩
end Go.Proofs.YthfhpcigjnjkdaaDoor
