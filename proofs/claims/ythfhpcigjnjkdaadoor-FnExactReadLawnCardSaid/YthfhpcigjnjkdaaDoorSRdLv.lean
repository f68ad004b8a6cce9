/- The model's reading of levels. -/
import Derived.Test.YthfhpcigjnjkdaaDoorRdLvP
import Derived.Test.YthfhpcigjnjkdaaDoorSLevT
import Derived.Test.YthfhpcigjnjkdaaDoorSplit
namespace Go.Proofs.YthfhpcigjnjkdaaDoor
open Go.RowKit
set_option linter.unusedVariables false
set_option linter.unusedSimpArgs false
attribute [local go_sem ↓] loadRow loadGrid loadLawn loadMirror storeRow storeGrid storeLawn allocRow allocGrid allocLawn buildZero buildSides loadR8 loadL8 loadLv storeR8 storeLv allocR8 allocLv buildZLv

theorem numO_lt {l : List UInt8} {n : Nat} (h : numO l = some n) : n < 10000000000 := by
  unfold numO at h
  split at h
  · cases h
  · rename_i hc
    simp only [not_or] at hc
    have := Lib.decFrom_lt _ _ _ h
    have h2 : 10 ^ l.length ≤ 10 ^ 10 := Nat.pow_le_pow_right (by decide) (by omega)
    omega
theorem sgR_bound (l : List UInt8) : -10000000000 < (sgR l).1 ∧ (sgR l).1 < 10000000000 := by
  unfold sgR
  split
  · simp
  · rename_i a r
    split
    · cases h : numO r with
      | none => simp
      | some n => have := numO_lt h; simp; omega
    · cases h : numO (a :: r) with
      | none => simp
      | some n => have := numO_lt h; simp; omega
theorem sgR_one {a : UInt8} {r : List UInt8} (h : a = 45) : sgR (a :: r) = (-(((numO r).getD 0 : Nat) : Int), (numO r).isSome && decide (0 < (numO r).getD 0)) := by unfold sgR; simp [h]
theorem sgR_two {a : UInt8} {r : List UInt8} (h : a ≠ 45) : sgR (a :: r) = ((((numO (a :: r)).getD 0 : Nat) : Int), (numO (a :: r)).isSome) := by unfold sgR; simp [h]

set_option maxRecDepth 100000 in
set_option maxHeartbeats 1000000 in
theorem signed_any (s : ByteArray) (hs : s.size ≤ 1048576) (w : World) :
    Calls Tryd.prog 96 #[.string s] w fun e w' => e = .returned (.tuple #[.int .i64 (sgR s.data.toList).1, .bool (sgR s.data.toList).2]) ∧ Below w.heap.size w w' := by
  have hlen : s.data.toList.length = s.size := by rw [Array.length_toList]; rfl
  have hG : ∀ i (h : i < s.size), s.data.toList[i]? = some (s[i]'h) := fun i h => by
    rw [Array.getElem?_toList]
    exact Array.getElem?_eq_getElem h
  have HNA := Lib.hid (number_any s hs)
  have hex := fun b i hb hi => extract_is s b i hb hi
  have hsd : s.toList = s.data.toList := Lib.toList_data s
  obtain ⟨t, ht⟩ : ∃ t, s.data.toList = t := ⟨_, rfl⟩
  rw [ht] at hG hlen HNA hex hsd ⊢
  cases t with
  | nil =>
    have e0 : s = ⟨#[]⟩ := by
      apply ByteArray.ext
      exact Array.eq_empty_of_size_eq_zero (by simpa using hlen.symm)
    have hn : sgR [] = ((((numO []).getD 0 : Nat) : Int), (numO []).isSome) := rfl
    rw [hn]
    subst e0
    clear hG hlen ht hn hs hex hsd
    go_enter Tryd.func96, Tryd.ntmps96
    go_wp2_with fail
    refine (HNA.out _).mono ?_
    rintro e w2 ⟨rfl, hb⟩
    go_wp2_with fail
    go_ret2
    exact ⟨rfl, hb⟩
  | cons a r =>
    have h1 : 0 < s.size := by rw [← hlen]; simp
    have hne : s.toList.isEmpty = false := by rw [hsd]; rfl
    have hg0 := hG 0 h1
    have ha : s[0]'h1 = a := by simpa using hg0.symm
    have hsz : s.size = r.length + 1 := by rw [← hlen]; simp
    by_cases h45 : a = 45
    · have hq : (((s[0]'h1).toNat : Int) == 45) = true := by rw [ha, h45]; rfl
      have hsl : s.extract 1 s.size = ⟨r.toArray⟩ := by
        rw [hex 1 s.size (by omega) (Nat.le_refl _), List.take_of_length_le (by simp; omega)]
        rfl
      have hc4 : (1 : Int) ≤ (s.size : Int) := by omega
      rw [sgR_one h45]
      have HNB := Lib.hid (show ∀ w, Calls Tryd.prog 72 #[.string ⟨r.toArray⟩] w fun e w' => e = .returned (.tuple #[.int .i64 (((numO r).getD 0 : Nat) : Int), .bool (numO r).isSome]) ∧ Below w.heap.size w w' from fun w => by
        have := number_any ⟨r.toArray⟩ (by rw [show (⟨r.toArray⟩ : ByteArray).size = r.length by simp [ByteArray.size]]; omega) w
        simpa using this)
      have hbn : (numO r).getD 0 < 10000000000 := by
        cases h : numO r with
        | none => simp
        | some n => exact numO_lt h
      obtain ⟨n, hn⟩ : ∃ n, (numO r).getD 0 = n := ⟨_, rfl⟩
      obtain ⟨o, ho⟩ : ∃ o, (numO r).isSome = o := ⟨_, rfl⟩
      rw [hn] at hbn HNB ⊢
      rw [ho] at HNB ⊢
      have hwn : IntKind.i64.wrap (-(n : Int)) = -(n : Int) := IntWalk.i64_in _ (by omega)
      have hp : decide ((0 : Int) < (n : Int)) = decide (0 < n) := by simp
      clear hn ho hG hlen ht hex hsd hg0 ha h45 hs hsz HNA
      cases o
      all_goals
        go_enter Tryd.func96, Tryd.ntmps96
        go_wp2_with fail
        refine (HNB.out _).mono ?_
        rintro e w2 ⟨rfl, hb⟩
        go_wp2_with fail
        go_ret2
        exact ⟨rfl, hb⟩
    · have hq : (((s[0]'h1).toNat : Int) == 45) = false := by
        rw [ha, beq_eq_false_iff_ne]
        intro h
        exact h45 (UInt8.toNat_inj.1 (by simpa using Int.ofNat_inj.1 h))
      rw [sgR_two h45]
      clear hG hlen ht hex hsd hg0 ha h45 hs hsz
      go_enter Tryd.func96, Tryd.ntmps96
      go_wp2_with fail
      refine (HNA.out _).mono ?_
      rintro e w2 ⟨rfl, hb⟩
      go_wp2_with fail
      go_ret2
      exact ⟨rfl, hb⟩

/-- What ReadLevels answers. -/
noncomputable def rvG (L : Lawn) (t : List UInt8) : Nat → Nat → Int := if validB L then rlG L t else fun _ _ => 0
noncomputable def rvC (L : Lawn) (t : List UInt8) : Int := if validB L then rlC L t else 1
/-- What has been read lies between -9 and 9. -/
def inTo (C : Nat → Nat → Int) (W k j : Nat) : Prop := ∀ y x, x < W → (y < k ∨ y = k ∧ x < j) → -9 ≤ C y x ∧ C y x ≤ 9
theorem inTo_zero (C : Nat → Nat → Int) (W : Nat) : inTo C W 0 0 := fun y x _ h => by omega
theorem inTo_snoc {C : Nat → Nat → Int} {W k j : Nat} (h : inTo C W k j) (h2 : -9 ≤ C k j ∧ C k j ≤ 9) : inTo C W k (j + 1) := fun y x hx hl => by
  by_cases e : y = k ∧ x = j
  · obtain ⟨rfl, rfl⟩ := e; exact h2
  · exact h y x hx (by omega)
theorem inTo_row {C : Nat → Nat → Int} {W k : Nat} (h : inTo C W k W) : inTo C W (k + 1) 0 := fun y x hx hl => h y x hx (by omega)
theorem inTo_fits {C : Nat → Nat → Int} {W k j : Nat} (h : inTo C W k j) : LevFits (fillC C W k j) := fun y x _ _ => by
  unfold fillC
  by_cases e : x < W ∧ (y < k ∨ y = k ∧ x < j)
  · rw [if_pos e]; have := h y x e.1 e.2; omega
  · rw [if_neg e]; omega
theorem own_setLv {W : World} {B : Nat} {e : TypeId} {size n : Nat} {v : Value} {xs : List Value} (h : W.ownsRow B e size v n xs) (g k : Nat) (u : Value) (hg : g < B) : (W.setCell ⟨g, k, none⟩ u).ownsRow B e size v n xs := by
  refine ⟨h.1, ?_⟩
  rcases h.2 with h2 | ⟨b, cap, cur, hv, hbg, hb, r⟩
  · exact .inl h2
  · exact .inr ⟨b, cap, cur, hv, hbg, (heap_setCell_other W ⟨g, k, none⟩ b u (by dsimp only; omega)).trans hb, r⟩
@[go_sem] theorem store_lv (g : Nat) (f f' : Nat → Nat → Int) (w : World) : opStoreRow Tryd.prog 64 100 g 0 (levV f) true (levV f') w = .ok .skip (w.setRow g (levV f')) := by
  rw [opStoreRow_at _ _ _ _ _ _ _ _ wideLv (by simp) (levV_ones f') (by simp), splice_lev]

set_option maxRecDepth 100000 in
set_option maxHeartbeats 4000000 in
theorem sreadLv_any (L : Lawn) (hL : L.Fits) (s : ByteArray) (hs : s.size ≤ 1048576) (w : World) :
    Calls Tryd.prog 45 #[.agg L.cells, .string s] w fun e w' => e = .returned (.tuple #[.agg (levV (rvG L s.data.toList)), .int .i64 (rvC L s.data.toList)]) ∧ Below w.heap.size w w' := by
  have hlen : s.data.toList.length = s.size := by rw [Array.length_toList]; rfl
  have HSP0 := Lib.hid (fun w => split_any s hs 10 w)
  have HOK := Lib.hid (fun (b : Nat) (w : World) (h : Holds w b L.cells) => l01Ok_any L hL b w h)
  obtain ⟨t, ht⟩ : ∃ t, s.data.toList = t := ⟨_, rfl⟩
  have hst : s.toList = t := by rw [Lib.toList_data, ht]
  rw [ht] at HSP0 hlen ⊢
  obtain ⟨u, hu⟩ : ∃ u, w.heap.size = u := ⟨_, rfl⟩
  have HU := Lib.hid hu
  obtain ⟨W1, hW1⟩ : ∃ W1, (w.alloc (.cells L.cells 26)).alloc (.cells (levV fun _ _ => 0) 64) = W1 := ⟨_, rfl⟩
  have g0 : Holds W1 u L.cells := by rw [← hW1]; exact (Holds.new' _ _ _ _ hu.symm).alloc _
  have g1 : Holds W1 (u + 1) (levV fun _ _ => 0) := by rw [← hW1]; exact Holds.new' _ _ _ _ (by simp; omega)
  have hB1 : Below u w W1 := by rw [← hW1]; exact ((Below.refl u w).alloc (by omega) _).alloc (by simp; omega) _
  have hs1 := g1.lt
  rw [hu]
  clear ht
  cases hv : validB L with
  | false =>
    have HE := Lib.hid (show rvC L t = 1 ∧ levV (rvG L t) = levV fun _ _ => 0 by unfold rvC rvG; rw [if_neg (by rw [hv]; simp), if_neg (by rw [hv]; simp)]; exact ⟨rfl, rfl⟩)
    rw [hv] at HOK
    clear hL hv hs hlen HSP0 hst hu
    go_enter Tryd.func45, Tryd.ntmps45
    go_wp2_with fail
    try simp only [HU.out, Nat.add_assoc, Nat.reduceAdd]
    try rw [hW1]
    clear hW1
    refine (HOK.out _ _ g0).mono ?_
    rintro e W2 ⟨rfl, hb2⟩
    have j1 := g1.below hb2 g1.lt
    have hB2 : Below u w W2 := hB1.trans (hb2.mono (by omega))
    obtain ⟨r0, fr0, -, -, -⟩ := j1.facts
    have g3 := j1.setRow (levV fun _ _ => 0)
    clear hb2 hB1 g0 g1
    go_wp2_with fail
    exact bodyPost_ret (results_cell_tmp_holds rfl wideLv _ rfl g3 (by simp)) rfl ⟨by rw [HE.out.1, HE.out.2]; rfl, below_setRow' hB2 (by omega) _⟩
  | true =>
    obtain ⟨hw0, hh0, -⟩ := validB_true hv
    have e1 : rvC L t = rlC L t := by unfold rvC; rw [if_pos hv]
    have e2 : rvG L t = rlG L t := by unfold rvG; rw [if_pos hv]
    rw [e1, e2]
    clear e1 e2
    obtain ⟨Wn, hWn⟩ : ∃ n, L.wide.toNat = n := ⟨_, rfl⟩
    obtain ⟨Hn, hHn⟩ : ∃ n, L.high.toNat = n := ⟨_, rfl⟩
    have hLw : L.wide = Wn := by omega
    have hLh : L.high = Hn := by omega
    have q0 : 1 ≤ Wn := by omega
    have q1 : Wn ≤ 10 := by omega
    have q2 : 1 ≤ Hn := by omega
    have q3 : Hn ≤ 10 := by omega
    rw [hv] at HOK
    have hal := fun g h => lv_all (L := L) (t := t) (g := g) hWn hHn q0 q1 q2 q3 h
    have HN1 := Lib.hid (show (splitS 10 t).length ≠ Hn + 1 → rlC L t = 5 ∧ levV (rlG L t) = levV fun _ _ => 0 from fun h => rl_none fun g hg => h (hal g hg).1)
    have HN2 := Lib.hid (show ∀ k l, k < Hn → (splitS 10 t)[k]? = some l → (splitS 32 l).length ≠ Wn → rlC L t = 5 ∧ levV (rlG L t) = levV fun _ _ => 0 from fun k l hk hl h => rl_none fun g hg => by
      obtain ⟨l', e1, -, e2, -⟩ := (hal g hg).2.2 k hk
      rw [hl] at e1
      cases e1
      exact h e2)
    have HN3 := Lib.hid (show ∀ k l j x, k < Hn → j < Wn → (splitS 10 t)[k]? = some l → (splitS 32 l)[j]? = some x → ¬ ((sgR x).2 = true ∧ -9 ≤ (sgR x).1 ∧ (sgR x).1 ≤ 9) → rlC L t = 5 ∧ levV (rlG L t) = levV fun _ _ => 0 from fun k l j x hk hj hl hx h => rl_none fun g hg => by
      obtain ⟨l', e1, -, -, e2⟩ := (hal g hg).2.2 k hk
      rw [hl] at e1
      cases e1
      obtain ⟨e3, e4, e5⟩ := e2 j hj
      rw [hx] at e3
      cases e3
      rw [sgR_sgT e4 e5] at h
      exact h ⟨rfl, e4, e5⟩)
    obtain ⟨C, hC⟩ : ∃ C : Nat → Nat → Int, (fun y x => (sgR ((splitS 32 ((splitS 10 t).getD y [])).getD x [])).1) = C := ⟨_, rfl⟩
    have HCV := Lib.hid (show ∀ k l j x, (splitS 10 t)[k]? = some l → (splitS 32 l)[j]? = some x → (sgR x).1 = C k j from fun k l j x hl hx => by
      rw [← hC]
      simp only [List.getD_eq_getElem?_getD, hl, hx, Option.getD_some])
    have HEND := Lib.hid (rl_end (L := L) (t := t) hWn hHn q0 q1 q2 q3 (C := C) fun g hg y x hy hx => by
      obtain ⟨l, e1, -, -, e2⟩ := (hal g hg).2.2 y hy
      obtain ⟨e3, e4, e5⟩ := e2 x hx
      rw [← HCV.out y l x _ e1 e3, sgR_sgT e4 e5])
    have HO6 := Lib.hid (fun (G : Nat → Nat → Int) (hG : LevFits G) (a b : Nat) (w : World) (h : Holds w a L.cells) (h' : Holds w b (levV G)) => l06Ok_any L hL G hG a b w h h')
    have HT6 := Lib.hid (fun (G : Nat → Nat → Int) (hG : LevFits G) (a b : Nat) (w : World) (h : Holds w a L.cells) (h' : Holds w b (levV G)) => l06Text_any Wn Hn q1 q3 L hLw hLh G hG a b w h h')
    have hsn := splitS_ne 10 t
    have hsl := splitS_len 10 t
    have HXL := Lib.hid (show ∀ (k : Nat) x, (splitS 10 t)[k]? = some x → x.length ≤ 1048576 from fun k x h => by
      have := splitS_mem_len (List.mem_of_getElem? h)
      omega)
    obtain ⟨ws, hws⟩ : ∃ ws, splitS 10 t = ws := ⟨_, rfl⟩
    rw [hws] at HSP0 HXL HN1 HN2 HN3 HCV hsn hsl
    have hwl : 0 < ws.length := List.length_pos_iff.2 hsn
    obtain ⟨RC, hRC⟩ : ∃ RC, rlC L t = RC := ⟨_, rfl⟩
    obtain ⟨RF, hRF⟩ : ∃ RF, rlG L t = RF := ⟨_, rfl⟩
    rw [hRC, hRF] at HN1 HN2 HN3 HEND ⊢
    obtain ⟨N, hN⟩ : ∃ N, ws.length = N := ⟨_, rfl⟩
    rw [hN] at HSP0 HN1 hwl hsl
    have HQ := Lib.hid (show ∀ i, i < N → ∃ x, ws[i]? = some x from fun i h => ⟨_, List.getElem?_eq_getElem (by omega)⟩)
    have hN2 : N ≤ 1048577 := by omega
    have HCL := Lib.hid (show ∀ wr, Holds wr u L.cells → wr.cell? ⟨u, 0, none⟩ = some (.int .i8 (Wn : Int)) ∧ wr.cell? ⟨u, 1, none⟩ = some (.int .i8 (Hn : Int)) from fun wr h => ⟨(h.cell 0).trans (by rw [Lawn.cells_0, hLw]), (h.cell 1).trans (by rw [Lawn.cells_1, hLh])⟩)
    have w1 : IntKind.i64.wrap (Hn : Int) = (Hn : Int) := IntWalk.i64_in _ (by omega)
    have w2 : IntKind.i64.wrap (Wn : Int) = (Wn : Int) := IntWalk.i64_in _ (by omega)
    have w3 : IntKind.i64.wrap ((Hn : Int) + 1) = (Hn : Int) + 1 := IntWalk.i64_in _ (by omega)
    clear hws hsn hN hlen hRC hRF hsl hu hL hv hw0 hh0 hWn hHn hLw hLh hal hC
    go_enter Tryd.func45, Tryd.ntmps45
    go_wp2_with fail
    try simp only [HU.out, Nat.add_assoc, Nat.reduceAdd]
    try rw [hW1]
    clear hW1
    refine (HOK.out _ _ g0).mono ?_
    rintro e W2 ⟨rfl, hb2⟩
    have j0 := g0.below hb2 g0.lt
    have j1 := g1.below hb2 g1.lt
    have hB2 : Below u w W2 := hB1.trans (hb2.mono (by omega))
    have hs2 := j1.lt
    clear hb2 hB1 g0 g1 HOK hs1
    go_wp2_with fail
    refine (HSP0.out _).mono ?_
    rintro e W3 ⟨⟨wv, rfl, how⟩, hb3⟩
    have k0 := j0.below hb3 j0.lt
    have k1 := j1.below hb3 j1.lt
    have hB3 : Below u w W3 := hB2.trans (hb3.mono (by omega))
    obtain ⟨g, cap, rfl, hug, hgl⟩ := own_form how (by omega)
    obtain ⟨-, c1⟩ := HCL.out _ k0
    obtain ⟨r0, fr0, -, -, -⟩ := k1.facts
    have HW := Lib.hid how
    obtain ⟨m1, hm1⟩ : ∃ m, W2.heap.size = m := ⟨_, rfl⟩
    rw [hm1] at HW hug hs2
    clear how hb3 hB2 HSP0 j0 j1 hm1
    by_cases h5 : N = Hn + 1
    case neg =>
      have hd : decide ((N : Int) = (Hn : Int) + 1) = false := by simp; omega
      have hd2 : ((N : Int) == (Hn : Int) + 1) = false := by simp; omega
      have HE := Lib.hid (HN1.out h5)
      have g3 := k1.setRow (levV fun _ _ => 0)
      clear h5
      go_wp2_with fail
      exact bodyPost_ret (results_cell_tmp_holds rfl wideLv _ rfl g3 (by simp)) rfl ⟨by rw [HE.out.1, HE.out.2]; rfl, below_setRow' hB3 (by omega) _⟩
    have hd : decide ((N : Int) = (Hn : Int) + 1) = true := by simp; omega
    have hd2 : ((N : Int) == (Hn : Int) + 1) = true := by simp; omega
    clear HN1
    go_wp2_with fail
    obtain ⟨p, hp⟩ : ∃ p, W3.heap.size = p := ⟨_, rfl⟩
    have i0 := k0.alloc (.cells (levV fun _ _ => 0) 64)
    have i1 := k1.alloc (.cells (levV fun _ _ => 0) 64)
    have ip := Holds.new' W3 (levV fun _ _ => 0) 64 p hp.symm
    have HW3 := Lib.hid (own_below HW.out ((Below.refl W3.heap.size W3).alloc (Nat.le_refl _) (.cells (levV fun _ _ => 0) 64)))
    have hB4 : Below u w (W3.alloc (.cells (levV fun _ _ => 0) 64)) := hB3.alloc (by have := k1.lt; omega) _
    obtain ⟨W4, hW4⟩ : ∃ W4, W3.alloc (.cells (levV fun _ _ => 0) 64) = W4 := ⟨_, rfl⟩
    rw [hW4] at i0 i1 ip HW3 hB4
    rw [hp] at hgl
    try simp only [hp]
    try rw [hW4]
    clear hW4 hp HW r0 fr0 hB3 c1 hd hd2 k0 k1
    go_loopw [8] (fun i wr => ∃ (k : Nat), k ≤ Hn ∧ i = .int .i64 (k : Int) ∧ inTo C Wn k 0 ∧ Holds wr u L.cells ∧ Holds wr (u + 1) (levV fun _ _ => 0) ∧ Holds wr p (levV (fillC C Wn k 0)) ∧ wr.ownsRow m1 9 1 (.slice (some ⟨g, 0, none⟩) N cap) N (strV ws) ∧ Below u w wr) (fun i _ => Hn - (intOf i).toNat)
    case atStart => exact ⟨0, by omega, rfl, inTo_zero C Wn, i0, i1, by rw [fillC_zero]; exact ip, HW3.out, hB4⟩
    case round =>
      obtain ⟨k, hk, rfl, hin, k0, k1, kp, hw, hb⟩ := hrel
      have HIN := Lib.hid hin
      have HW := Lib.hid hw
      obtain ⟨c0, c1⟩ := HCL.out _ k0
      clear hin i0 i1 ip hB4 HW3
      by_cases hlt : k < Hn
      · have hd : decide ((k : Int) < (Hn : Int)) = true := by simp; omega
        obtain ⟨l, hl⟩ := HQ.out k (by omega)
        have d0 := own_cell hw _ _ (strV_get hl)
        have hxl := HXL.out k l hl
        have HLL := Lib.hid hl
        have HSX := Lib.hid (show ∀ w, Calls Tryd.prog 57 #[.string ⟨l.toArray⟩, .int .u8 (32 : Int)] w fun e w' => (∃ v, e = .returned v ∧ w'.ownsRow w.heap.size 9 1 v (splitS 32 l).length (strV (splitS 32 l))) ∧ Below w.heap.size w w' from fun w => by
          have := split_any ⟨l.toArray⟩ (by simp [ByteArray.size]; omega) 32 w
          simpa using this)
        have HPL := Lib.hid (show ∀ y ∈ splitS 32 l, y.length ≤ 1048576 from fun y hy => by have := splitS_mem_len hy; omega)
        have HPV := Lib.hid (fun j x h => HCV.out k l j x hl h)
        have HPN := Lib.hid (fun j x hj h => HN3.out k l j x hlt hj hl h)
        have HPM := Lib.hid (HN2.out k l hlt hl)
        have hpn := List.length_pos_iff.2 (splitS_ne 32 l)
        have hpl := splitS_len 32 l
        obtain ⟨ps, hps⟩ : ∃ ps, splitS 32 l = ps := ⟨_, rfl⟩
        rw [hps] at HSX HPL HPV HPN HPM hpn hpl
        obtain ⟨M, hM⟩ : ∃ M, ps.length = M := ⟨_, rfl⟩
        rw [hM] at HSX HPM hpn hpl
        have HQP := Lib.hid (show ∀ i, i < M → ∃ x, ps[i]? = some x from fun i h => ⟨_, List.getElem?_eq_getElem (by omega)⟩)
        have hM2 : M ≤ 1048577 := by omega
        clear hw hl hps hM
        go_wp2_with fail
        refine (HSX.out _).mono ?_
        rintro e W5 ⟨⟨pv, rfl, hpo⟩, hb5⟩
        have l0 := k0.below hb5 k0.lt
        have l1 := k1.below hb5 k1.lt
        have lp := kp.below hb5 kp.lt
        have HW5 := Lib.hid (own_below HW.out hb5)
        have hB5 : Below u w W5 := hb.trans (hb5.mono (by have := k0.lt; omega))
        obtain ⟨gp, capp, rfl, hugp, hgpl⟩ := own_form hpo (by omega)
        obtain ⟨m2, hm2⟩ : ∃ m, wr.heap.size = m := ⟨_, rfl⟩
        rw [hm2] at hpo hugp
        have hpm : p < m2 := by have := kp.lt; omega
        have HPO := Lib.hid hpo
        obtain ⟨c0, c1⟩ := HCL.out _ l0
        obtain ⟨r1, fr1, -, -, -⟩ := l1.facts
        clear hb5 k0 k1 kp HW hb d0 HSX hpo hm2
        by_cases h5' : M = Wn
        case neg =>
          have hd5 : decide ((M : Int) = (Wn : Int)) = false := by simp; omega
          have hd6 : ((M : Int) == (Wn : Int)) = false := by simp; omega
          have HE := Lib.hid (HPM.out h5')
          have g3 := l1.setRow (levV fun _ _ => 0)
          clear h5'
          go_wp2_with fail
          exact bodyPost_ret (results_cell_tmp_holds rfl wideLv _ rfl g3 (by simp)) rfl ⟨by rw [HE.out.1, HE.out.2]; rfl, below_setRow' hB5 (by omega) _⟩
        subst h5'
        clear HPM
        go_wp2_with fail
        clear c0 c1 r1 fr1
        go_loopw [10] (fun i wr => ∃ (j : Nat), j ≤ M ∧ i = .int .i64 (j : Int) ∧ inTo C M k j ∧ Holds wr u L.cells ∧ Holds wr (u + 1) (levV fun _ _ => 0) ∧ Holds wr p (levV (fillC C M k j)) ∧ wr.ownsRow m1 9 1 (.slice (some ⟨g, 0, none⟩) N cap) N (strV ws) ∧ wr.ownsRow m2 9 1 (.slice (some ⟨gp, 0, none⟩) M capp) M (strV ps) ∧ Below u w wr) (fun i _ => M - (intOf i).toNat)
        case atStart => exact ⟨0, by omega, rfl, HIN.out, l0, l1, lp, HW5.out, HPO.out, hB5⟩
        case round =>
          obtain ⟨j, hj, rfl, hin, k0, k1, kp, hw, hpo, hb⟩ := hrel
          have HINJ := Lib.hid hin
          have HW := Lib.hid hw
          have HPO2 := Lib.hid hpo
          clear hin l0 l1 lp hB5 HW5 HPO hw
          by_cases hjt : j < M
          · have hdj : decide ((j : Int) < (M : Int)) = true := by simp; omega
            obtain ⟨x, hx⟩ := HQP.out j hjt
            have d0 := own_cell hpo _ _ (strV_get hx)
            have hxx := HPL.out x (List.mem_of_getElem? hx)
            have HV := Lib.hid (HPV.out j x hx)
            have HNO := Lib.hid (HPN.out j x hjt hx)
            have HSI := Lib.hid (show ∀ w, Calls Tryd.prog 96 #[.string ⟨x.toArray⟩] w fun e w' => e = .returned (.tuple #[.int .i64 (sgR x).1, .bool (sgR x).2]) ∧ Below w.heap.size w w' from fun w => by
              have := signed_any ⟨x.toArray⟩ (by simp [ByteArray.size]; omega) w
              simpa using this)
            obtain ⟨⟨z, o⟩, hzo⟩ : ∃ q, sgR x = q := ⟨_, rfl⟩
            rw [hzo] at HV HNO HSI
            simp only at HV HNO HSI
            clear hx hpo hzo
            go_wp2_with fail
            refine (HSI.out _).mono ?_
            rintro e W6 ⟨rfl, hb6⟩
            have l0 := k0.below hb6 k0.lt
            have l1 := k1.below hb6 k1.lt
            have lp := kp.below hb6 kp.lt
            have HW6 := Lib.hid (own_below HW.out hb6)
            have HP6 := Lib.hid (own_below HPO2.out hb6)
            have hB6 : Below u w W6 := hb.trans (hb6.mono (by have := k0.lt; omega))
            clear hb6 k0 k1 kp HW HPO2 hb d0 HSI
            cases o with
            | false =>
              have HE := Lib.hid (HNO.out (by simp))
              obtain ⟨r1, fr1, -, -, -⟩ := l1.facts
              have g3 := l1.setRow (levV fun _ _ => 0)
              go_wp2_with fail
              exact bodyPost_ret (results_cell_tmp_holds rfl wideLv _ rfl g3 (by simp)) rfl ⟨by rw [HE.out.1, HE.out.2]; rfl, below_setRow' hB6 (by omega) _⟩
            | true =>
              obtain ⟨bi, hbi⟩ : ∃ b, inB z (-9) 9 = b := ⟨_, rfl⟩
              have HLV := Lib.hid (l06Level_is z bi hbi)
              cases bi with
              | false =>
                have HE := Lib.hid (HNO.out (by
                  rintro ⟨-, h⟩
                  rw [show inB z (-9) 9 = true by simp [inB]; exact h] at hbi
                  cases hbi))
                obtain ⟨r1, fr1, -, -, -⟩ := l1.facts
                have g3 := l1.setRow (levV fun _ _ => 0)
                clear hbi
                go_wp2_with fail
                refine (HLV.out _).mono ?_
                rintro e W7 ⟨rfl, hw7⟩
                rw [hw7]
                clear hw7
                go_wp2_with fail
                exact bodyPost_ret (results_cell_tmp_holds rfl wideLv _ rfl g3 (by simp)) rfl ⟨by rw [HE.out.1, HE.out.2]; rfl, below_setRow' hB6 (by omega) _⟩
              | true =>
                have hz := inB_true hbi
                have hz0 := hz.1
                have hz1 := hz.2
                have HCK := Lib.hid (show z = C k j from HV.out)
                have HINX := Lib.hid (inTo_snoc HINJ.out (by rw [← HV.out]; exact hz))
                have hwz : IntKind.i8.wrap z = z := IntWalk.i8_in _ (by omega)
                obtain ⟨-, -, cc, fr, hl⟩ := lp.facts
                have ck : W6.cell? ⟨p, k * 10 + j, none⟩ = some (.int .i8 (fillC C M k j k j)) := (cc _).trans (levV_get _ k j (by omega) (by omega))
                have hy0 : (0 : Int) ≤ k := by omega
                have hy1 : (k : Int) < 10 := by omega
                have hx0 : (0 : Int) ≤ j := by omega
                have hx1 : (j : Int) < 10 := by omega
                clear hbi hz cc
                go_wp2_with fail
                refine (HLV.out _).mono ?_
                rintro e W7 ⟨rfl, hw7⟩
                rw [hw7]
                clear hw7
                go_wp2_with fail
                go_roundw
                case rel =>
                  refine ⟨j + 1, by omega, by go_num, HINX.out, l0.setCell_other _ _ (by dsimp only; omega), l1.setCell_other _ _ (by dsimp only; omega), ?_, ?_, ?_, hB6.setCell (p := ⟨p, k * 10 + j, none⟩) (by dsimp only; omega) _⟩
                  · rw [← fillC_set C hjt, ← HCK.out, ← levV_set _ k j _ (by omega) (by omega)]
                    exact lp.setCell _ _
                  · obtain ⟨h1, h2⟩ := HW6.out
                    refine ⟨h1, ?_⟩
                    rcases h2 with h2 | ⟨b, cap', cur, hv, hbg, hb', r⟩
                    · exact .inl h2
                    · cases hv
                      exact .inr ⟨g, cap, cur, rfl, hbg, (heap_setCell_other _ ⟨p, k * 10 + j, none⟩ g _ (by dsimp only; omega)).trans hb', r⟩
                  · exact own_setLv HP6.out p (k * 10 + j) _ hpm
                case measure => simp [intOf]; omega
          · have hdj : decide ((j : Int) < (M : Int)) = false := by simp; omega
            obtain rfl : j = M := by omega
            have HINX := Lib.hid (inTo_row HINJ.out)
            rw [fillC_row] at kp
            go_wp2_with fail
            go_roundw
            case rel => exact ⟨k + 1, by omega, by go_num, HINX.out, k0, k1, kp, HW.out, hb⟩
            case measure => simp [intOf]; omega
      · have hd : decide ((k : Int) < (Hn : Int)) = false := by simp; omega
        obtain rfl : k = Hn := by omega
        have hfit := inTo_fits HIN.out
        have HO := Lib.hid (HO6.out _ hfit u p wr k0 kp)
        have HT := Lib.hid (fun w h h' => HT6.out _ hfit u p w h h')
        obtain ⟨hE1, hE2⟩ := HEND.out
        obtain ⟨G, hG⟩ : ∃ G, fillC C Wn k 0 = G := ⟨_, rfl⟩
        rw [hG] at kp HO HT hE1 hE2
        have HE1 := Lib.hid hE1
        have HE2 := Lib.hid hE2
        clear hG hE1 hE2 hfit HIN HO6 HT6 HEND hw
        obtain ⟨bo, hbo⟩ : ∃ b, levB L G = b := ⟨_, rfl⟩
        rw [hbo] at HO HE1 HE2
        clear hbo
        go_wp2_with fail
        refine HO.out.mono ?_
        rintro e W5 ⟨rfl, hb5⟩
        have l0 := k0.below hb5 k0.lt
        have l1 := k1.below hb5 k1.lt
        have lp := kp.below hb5 kp.lt
        have hB5 : Below u w W5 := hb.trans (hb5.mono (by have := k0.lt; omega))
        clear hb5 k0 k1 kp hb c0 c1 HO HW
        cases bo with
        | false =>
          have HE := Lib.hid (HE2.out (by simp))
          obtain ⟨r1, fr1, -, -, -⟩ := l1.facts
          have g3 := l1.setRow (levV fun _ _ => 0)
          go_wp2_with fail
          exact bodyPost_ret (results_cell_tmp_holds rfl wideLv _ rfl g3 (by simp)) rfl ⟨by rw [HE.out.1, HE.out.2]; rfl, below_setRow' hB5 (by omega) _⟩
        | true =>
          have HTT := Lib.hid (HT.out _ l0 lp)
          obtain ⟨T, hT⟩ : ∃ T, levsT G Wn k = T := ⟨_, rfl⟩
          rw [hT] at HTT HE1 HE2
          clear hT HT
          have htl : (⟨T.toArray⟩ : ByteArray).toList = T := by rw [Lib.toList_data]
          obtain ⟨V, hV⟩ : ∃ V : ByteArray, ⟨T.toArray⟩ = V := ⟨_, rfl⟩
          rw [hV] at HTT htl
          clear hV
          go_wp2_with fail
          refine HTT.out.mono ?_
          rintro e W6 ⟨rfl, hb6⟩
          have m1 := l1.below hb6 l1.lt
          have mp := lp.below hb6 lp.lt
          have hB6 : Below u w W6 := hB5.trans (hb6.mono (by have := l0.lt; omega))
          obtain ⟨r1, fr1, -, -, -⟩ := m1.facts
          obtain ⟨rp, -, -, -, -⟩ := mp.facts
          clear hb6 l0 l1 lp hB5 HTT
          by_cases hTt : T = t
          · have hq : (V.toList == s.toList) = true := by rw [htl, hst, hTt]; simp
            have HE := Lib.hid (HE1.out (by simpa using hTt))
            have g3 := m1.setRow (levV G)
            clear hTt htl hst
            go_wp2_with fail
            exact bodyPost_ret (results_cell_tmp_holds rfl wideLv _ rfl g3 (by simp)) rfl ⟨by rw [HE.out.1, HE.out.2]; rfl, below_setRow' hB6 (by omega) _⟩
          · have hq : (V.toList == s.toList) = false := by rw [htl, hst, beq_eq_false_iff_ne]; exact hTt
            have HE := Lib.hid (HE2.out (fun h => hTt h.2))
            have g3 := m1.setRow (levV fun _ _ => 0)
            clear hTt htl hst
            go_wp2_with fail
            exact bodyPost_ret (results_cell_tmp_holds rfl wideLv _ rfl g3 (by simp)) rfl ⟨by rw [HE.out.1, HE.out.2]; rfl, below_setRow' hB6 (by omega) _⟩
end Go.Proofs.YthfhpcigjnjkdaaDoor
