/- The program's reading of levels. -/
import Derived.Test.YthfhpcigjnjkdaaDoorSRdLv
import Derived.Test.YthfhpcigjnjkdaaDoorRdNum
namespace Go.Proofs.YthfhpcigjnjkdaaDoor
open Go.RowKit
set_option linter.unusedVariables false
set_option linter.unusedSimpArgs false
attribute [local go_sem ↓] loadRow loadGrid loadLawn loadMirror storeRow storeGrid storeLawn allocRow allocGrid allocLawn buildZero buildSides loadR8 loadL8 loadLv storeR8 storeLv allocR8 allocLv buildZLv

theorem parse8_good (s : ByteArray) (hs : s.size ≤ 1048576) (z : Int) (hp : Lib.parseIntB 8 s.data.toList = .ok z) (w : World) :
    Calls Tryd.prog 84 #[.string s, .int .i64 10, .int .i64 8] w fun e w' => e = .returned (.tuple #[.int .i64 z, .nilIface]) ∧ Below w.heap.size w w' :=
  (Tryd.strconv_ParseInt_10_at8_ok s (by omega) z hp w).mono fun e w' ⟨h1, h2⟩ => ⟨h1, bytesW_below h2⟩
theorem parse8_fail (s : ByteArray) (hs : s.size ≤ 1048576) (hp : ∀ z, Lib.parseIntB 8 s.data.toList ≠ .ok z) (w : World) (hE : ErrsUp w) :
    Calls Tryd.prog 84 #[.string s, .int .i64 10, .int .i64 8] w fun e w' => (∃ z te N, e = .returned (.tuple #[.int .i64 z, .iface te (.pointer (some ⟨N, 0, none⟩))])) ∧ Below w.heap.size w w' := by
  obtain ⟨⟨e1, h1, h2⟩, e2, h3, h4⟩ := hE
  cases h : Lib.parseIntB 8 s.data.toList with
  | ok z => exact absurd h (hp z)
  | «syntax» => exact (Tryd.strconv_ParseInt_10_at8_syntax s (by omega) h e1 w h1 h2).mono fun e w' ⟨N, h1, _, _, h2⟩ => ⟨⟨_, _, N, h1⟩, h2⟩
  | range => exact (Tryd.strconv_ParseInt_10_at8_range s (by omega) h e2 w h3 h4).mono fun e w' ⟨N, h1, _, _, h2⟩ => ⟨⟨_, _, N, h1⟩, h2⟩
/-- The number that is read, or 0. -/
def rd0 (l : List UInt8) : Int := match Lib.parseIntB 8 l with | .ok v => v | _ => 0
theorem rd0_range (l : List UInt8) : -128 ≤ rd0 l ∧ rd0 l ≤ 127 := by
  unfold rd0
  cases h : Lib.parseIntB 8 l with
  | ok v => have := Lib.parseIntB_bounds h; simp at this ⊢; omega
  | «syntax» => simp
  | range => simp
theorem levS_some {L : Lawn} {G : Nat → Nat → Int} {W H : Nat} {t : List UInt8} (hW : L.wide.toNat = W) (hH : L.high.toNat = H) (ht : t ≠ []) : (levS L G).toList = t ↔ (levB L G = true ∧ levsT G W H = t) := by
  unfold levS
  cases h : levB L G with
  | true => rw [if_pos rfl, Lib.toList_data, hW, hH]; simp
  | false =>
    rw [if_neg (by simp), Lib.toList_data]
    simp
    exact fun e => ht e
theorem cells_below {wr w' : World} {g : Nat} {ls : List (List UInt8)} (h : ∀ (j : Nat) x, ls[j]? = some x → wr.cell? ⟨g, j, none⟩ = some (.string ⟨x.toArray⟩)) (hg : g < wr.heap.size) (hb : Below wr.heap.size wr w') : ∀ (j : Nat) x, ls[j]? = some x → w'.cell? ⟨g, j, none⟩ = some (.string ⟨x.toArray⟩) := fun j x hx => by
  rw [World.cell?_of_block (hb.block _ (by simpa using hg))]
  exact h j x hx
theorem cells_set {wr : World} {g : Nat} {ls : List (List UInt8)} (h : ∀ (j : Nat) x, ls[j]? = some x → wr.cell? ⟨g, j, none⟩ = some (.string ⟨x.toArray⟩)) (p i : Nat) (v : Value) (hp : p ≠ g) : ∀ (j : Nat) x, ls[j]? = some x → (wr.setCell ⟨p, i, none⟩ v).cell? ⟨g, j, none⟩ = some (.string ⟨x.toArray⟩) := fun j x hx => by
  rw [World.cell?_of_block (heap_setCell_other wr ⟨p, i, none⟩ g _ (by dsimp only; omega))]
  exact h j x hx

set_option maxRecDepth 100000 in
set_option maxHeartbeats 4000000 in
theorem ireadLv_any (L : Lawn) (hL : L.Fits) (s : ByteArray) (hs : s.size ≤ 1048576) (w : World) (hE : ErrsUp w) (hT : TabUp w) :
    Calls Tryd.prog 46 #[.agg L.cells, .string s] w fun e w' => e = .returned (.tuple #[.agg (levV (rvG L s.data.toList)), .int .i64 (rvC L s.data.toList)]) ∧ Below w.heap.size w w' := by
  have hlen : s.data.toList.length = s.size := by rw [Array.length_toList]; rfl
  have hSP := fun (n : Nat) h1 h2 w => splitN_one s hs 10 n h1 h2 w
  have HOK := Lib.hid (fun (w : World) => implValid_any L hL w)
  have HEE := Lib.hid hE
  have HTT := Lib.hid hT
  obtain ⟨t, ht⟩ : ∃ t, s.data.toList = t := ⟨_, rfl⟩
  have hst : s.toList = t := by rw [Lib.toList_data, ht]
  rw [ht] at hSP hlen ⊢
  obtain ⟨u, hu⟩ : ∃ u, w.heap.size = u := ⟨_, rfl⟩
  have HU := Lib.hid hu
  obtain ⟨W1, hW1⟩ : ∃ W1, (w.alloc (.cells L.cells 26)).alloc (.cells (levV fun _ _ => 0) 64) = W1 := ⟨_, rfl⟩
  have g0 : Holds W1 u L.cells := by rw [← hW1]; exact (Holds.new' _ _ _ _ hu.symm).alloc _
  have g1 : Holds W1 (u + 1) (levV fun _ _ => 0) := by rw [← hW1]; exact Holds.new' _ _ _ _ (by simp; omega)
  have hB1 : Below u w W1 := by rw [← hW1]; exact ((Below.refl u w).alloc (by omega) _).alloc (by simp; omega) _
  have hs1 := g1.lt
  rw [hu]
  clear ht hE hT
  cases hv : validB L with
  | false =>
    have HE := Lib.hid (show rvC L t = 1 ∧ levV (rvG L t) = levV fun _ _ => 0 by unfold rvC rvG; rw [if_neg (by rw [hv]; simp), if_neg (by rw [hv]; simp)]; exact ⟨rfl, rfl⟩)
    rw [hv] at HOK
    obtain ⟨q0, -, -, -, -⟩ := g0.facts
    clear hL hv hs hlen hSP hst
    go_enter Tryd.func46, Tryd.ntmps46
    go_wp2_with fail
    try simp only [hu, Nat.add_assoc, Nat.reduceAdd]
    try rw [hW1]
    clear hW1 hu
    refine (HOK.out _).mono ?_
    rintro e W2 ⟨rfl, hb2⟩
    have j1 := g1.below hb2 g1.lt
    have hB2 : Below u w W2 := hB1.trans (hb2.mono (by omega))
    obtain ⟨r0, fr0, -, -, -⟩ := j1.facts
    have g3 := j1.setRow (levV fun _ _ => 0)
    clear hb2 hB1 g0 g1
    go_wp2_with fail
    exact bodyPost_ret (results_cell_tmp_holds rfl wideLv _ rfl g3 (by simp)) rfl ⟨by rw [HE.out.1, HE.out.2]; rfl, below_setRow' hB2 (by omega) _⟩
  | true =>
    obtain ⟨hw0, hh0, -⟩ := validB_true hv
    have e1 : rvC L t = rlC L t := by unfold rvC; rw [if_pos hv]
    have e2 : rvG L t = rlG L t := by unfold rvG; rw [if_pos hv]
    rw [e1, e2]
    clear e1 e2
    obtain ⟨Wn, hWn⟩ : ∃ n, L.wide.toNat = n := ⟨_, rfl⟩
    obtain ⟨Hn, hHn⟩ : ∃ n, L.high.toNat = n := ⟨_, rfl⟩
    have hLw : L.wide = Wn := by omega
    have hLh : L.high = Hn := by omega
    have q0 : 1 ≤ Wn := by omega
    have q1 : Wn ≤ 10 := by omega
    have q2 : 1 ≤ Hn := by omega
    have q3 : Hn ≤ 10 := by omega
    rw [hv] at HOK
    have hal := fun g h => lv_all (L := L) (t := t) (g := g) hWn hHn q0 q1 q2 q3 h
    obtain ⟨ls, hls⟩ : ∃ ls, linesP Hn t = ls := ⟨_, rfl⟩
    have hal2 : ∀ g, IsLv L t g → ls.length = Hn + 1 ∧ ∀ y, y < Hn → ∃ l, ls[y]? = some l ∧ (wordsP Wn l).length = Wn ∧ ∀ x, x < Wn → (wordsP Wn l)[x]? = some (sgT (g y x)) ∧ -9 ≤ g y x ∧ g y x ≤ 9 := fun g hg => by
      obtain ⟨a1, a2, a3⟩ := hal g hg
      rw [hls] at a2
      refine ⟨by rw [a2]; exact a1, fun y hy => ?_⟩
      obtain ⟨l, b1, b2, b3, b4⟩ := a3 y hy
      exact ⟨l, by rw [a2]; exact b1, by rw [b2]; exact b3, by rw [b2]; exact b4⟩
    have HN1 := Lib.hid (show ls.length ≤ Hn → rlC L t = 5 ∧ levV (rlG L t) = levV fun _ _ => 0 from fun h => rl_none fun g hg => by have := (hal2 g hg).1; omega)
    have HN2 := Lib.hid (show ∀ k l, k < Hn → ls[k]? = some l → (wordsP Wn l).length ≠ Wn → rlC L t = 5 ∧ levV (rlG L t) = levV fun _ _ => 0 from fun k l hk hl h => rl_none fun g hg => by
      obtain ⟨l', e1, e2, -⟩ := (hal2 g hg).2 k hk
      rw [hl] at e1
      cases e1
      exact h e2)
    have HN3 := Lib.hid (show ∀ k l j x, k < Hn → j < Wn → ls[k]? = some l → (wordsP Wn l)[j]? = some x → (∀ v, Lib.parseIntB 8 x ≠ .ok v) → rlC L t = 5 ∧ levV (rlG L t) = levV fun _ _ => 0 from fun k l j x hk hj hl hx h => rl_none fun g hg => by
      obtain ⟨l', e1, -, e2⟩ := (hal2 g hg).2 k hk
      rw [hl] at e1
      cases e1
      obtain ⟨e3, e4, e5⟩ := e2 j hj
      rw [hx] at e3
      cases e3
      exact h _ (parse_sgT e4 e5))
    obtain ⟨C, hC⟩ : ∃ C : Nat → Nat → Int, (fun y x => rd0 ((wordsP Wn (ls.getD y [])).getD x [])) = C := ⟨_, rfl⟩
    have HCV := Lib.hid (show ∀ k l j x z, ls[k]? = some l → (wordsP Wn l)[j]? = some x → Lib.parseIntB 8 x = .ok z → z = C k j from fun k l j x z hl hx hz => by
      rw [← hC]
      simp only [List.getD_eq_getElem?_getD, hl, hx, Option.getD_some]
      unfold rd0
      rw [hz])
    have HFIT := Lib.hid (show ∀ k j, LevFits (fillC C Wn k j) from fun k j y x _ _ => by
      unfold fillC
      split
      · rw [← hC]; exact rd0_range _
      · omega)
    have HEND := Lib.hid (rl_end (L := L) (t := t) hWn hHn q0 q1 q2 q3 (C := C) fun g hg y x hy hx => by
      obtain ⟨l, e1, -, e2⟩ := (hal2 g hg).2 y hy
      obtain ⟨e3, e4, e5⟩ := e2 x hx
      exact (HCV.out y l x _ _ e1 e3 (parse_sgT e4 e5)).symm)
    have HTN := Lib.hid (show Hn < ls.length → t ≠ [] from fun h e => by
      rw [← hls, e] at h
      have h2 : min (Hn + 1) (([] : List UInt8).length + 1) - 1 = 0 := by simp
      unfold linesP at h
      rw [h2] at h
      simp [Lib.splitK] at h
      omega)
    have HLS := Lib.hid (fun G => fun h => levS_some (L := L) (G := G) (t := t) hWn hHn h)
    have HTX := Lib.hid (fun (G : Nat → Nat → Int) (hG : LevFits G) (w : World) (h : TabUp w) => ilevT_any L hL G hG w h)
    have HROW := Lib.hid (fun (b y : Nat) (hy : y < 10) (w : World) => lvrow_any L b y Wn hy q1 hLw w)
    have HXL := Lib.hid (show ∀ (k : Nat) x, ls[k]? = some x → x.length ≤ 1048576 from fun k x h => by
      have := splitK_mem_len (c := 10) (l := x) (t := t) (by unfold linesP at hls; rw [hls]; exact List.mem_of_getElem? h)
      omega)
    have hsp := hSP (Hn + 1) (by omega) (by omega)
    unfold linesP at hls
    rw [hls] at hsp
    obtain ⟨RC, hRC⟩ : ∃ RC, rlC L t = RC := ⟨_, rfl⟩
    obtain ⟨RF, hRF⟩ : ∃ RF, rlG L t = RF := ⟨_, rfl⟩
    rw [hRC, hRF] at HN1 HN2 HN3 HEND ⊢
    obtain ⟨N, hN⟩ : ∃ N, ls.length = N := ⟨_, rfl⟩
    rw [hN] at hsp HN1 HTN
    have HQ := Lib.hid (show ∀ i, i < N → ∃ x, ls[i]? = some x from fun i h => ⟨_, List.getElem?_eq_getElem (by omega)⟩)
    have HSP := Lib.hid (show ∀ w, Calls Tryd.prog 61 #[.string s, .string ⟨#[10]⟩, .int .i64 ((Hn : Int) + 1)] w fun e w' => (∃ cap, e = .returned (.slice (some ⟨w.heap.size, 0, none⟩) N cap)) ∧ N ≤ Hn + 1 ∧ (∀ (j : Nat) l, ls[j]? = some l → w'.cell? ⟨w.heap.size, j, none⟩ = some (.string ⟨l.toArray⟩)) ∧ Below w.heap.size w w' from fun w => by
      have := hsp w
      rw [show (((Hn + 1 : Nat)) : Int) = (Hn : Int) + 1 by omega] at this
      exact this.mono fun e w' ⟨⟨cap, h1, h2, h3⟩, h4⟩ => ⟨⟨cap, h1⟩, h2, h3, h4⟩)
    have HCL := Lib.hid (show ∀ wr, Holds wr u L.cells → wr.cell? ⟨u, 0, none⟩ = some (.int .i8 (Wn : Int)) ∧ wr.cell? ⟨u, 1, none⟩ = some (.int .i8 (Hn : Int)) from fun wr h => ⟨(h.cell 0).trans (by rw [Lawn.cells_0, hLw]), (h.cell 1).trans (by rw [Lawn.cells_1, hLh])⟩)
    have w1 : IntKind.i64.wrap (Hn : Int) = (Hn : Int) := IntWalk.i64_in _ (by omega)
    have w2 : IntKind.i64.wrap (Wn : Int) = (Wn : Int) := IntWalk.i64_in _ (by omega)
    have w3 : IntKind.i64.wrap ((Hn : Int) + 1) = (Hn : Int) + 1 := IntWalk.i64_in _ (by omega)
    have w4 : IntKind.i64.wrap ((Wn : Int) + 1) = (Wn : Int) + 1 := IntWalk.i64_in _ (by omega)
    obtain ⟨qr, -, -, -, -⟩ := g0.facts
    clear hN hlen hRC hRF hL hv hw0 hh0 hWn hHn hLw hLh hal hal2 hC hls hsp hSP hs
    go_enter Tryd.func46, Tryd.ntmps46
    go_wp2_with fail
    try simp only [hu, Nat.add_assoc, Nat.reduceAdd]
    try rw [hW1]
    clear hW1 hu
    refine (HOK.out _).mono ?_
    rintro e W2 ⟨rfl, hb2⟩
    have j0 := g0.below hb2 g0.lt
    have j1 := g1.below hb2 g1.lt
    have hB2 : Below u w W2 := hB1.trans (hb2.mono (by omega))
    have hs2 := j1.lt
    obtain ⟨-, c1⟩ := HCL.out _ j0
    clear hb2 hB1 g0 g1 HOK hs1 qr
    go_wp2_with fail
    refine (HSP.out _).mono ?_
    rintro e W3 ⟨⟨cap, rfl⟩, hNN, hcs, hb3⟩
    have k0 := j0.below hb3 j0.lt
    have k1 := j1.below hb3 j1.lt
    have hB3 : Below u w W3 := hB2.trans (hb3.mono (by omega))
    have hs3 := hb3.size
    obtain ⟨g, hg⟩ : ∃ g, W2.heap.size = g := ⟨_, rfl⟩
    rw [hg] at hcs hs2 hs3 ⊢
    have HC := Lib.hid hcs
    obtain ⟨-, c1⟩ := HCL.out _ k0
    obtain ⟨r0, fr0, -, -, -⟩ := k1.facts
    clear hcs hb3 hB2 HSP j0 j1 hg
    by_cases h5 : N ≤ Hn
    · have hd : decide ((N : Int) ≤ (Hn : Int)) = true := by simp; omega
      have hdN : decide (N ≤ Hn) = true := by simp; omega
      have HE := Lib.hid (HN1.out h5)
      have g3 := k1.setRow (levV fun _ _ => 0)
      clear h5
      go_wp2_with fail
      exact bodyPost_ret (results_cell_tmp_holds rfl wideLv _ rfl g3 (by simp)) rfl ⟨by rw [HE.out.1, HE.out.2]; rfl, below_setRow' hB3 (by omega) _⟩
    have hd : decide ((N : Int) ≤ (Hn : Int)) = false := by simp; omega
    have hdN : decide (N ≤ Hn) = false := by simp; omega
    have HTN2 := Lib.hid (HTN.out (by omega))
    have hgl : g < W3.heap.size := by
      obtain ⟨x, hx⟩ := HQ.out 0 (by omega)
      have := cell_block (HC.out 0 x hx)
      simpa using this
    clear HN1 HTN
    obtain ⟨p, hp⟩ : ∃ p, W3.heap.size = p := ⟨_, rfl⟩
    have i0 := k0.alloc (.cells (levV fun _ _ => 0) 64)
    have i1 := k1.alloc (.cells (levV fun _ _ => 0) 64)
    have ip := Holds.new' W3 (levV fun _ _ => 0) 64 p hp.symm
    have HC4 := Lib.hid (cells_below HC.out hgl ((Below.refl W3.heap.size W3).alloc (Nat.le_refl _) (.cells (levV fun _ _ => 0) 64)))
    have hB4 : Below u w (W3.alloc (.cells (levV fun _ _ => 0) 64)) := hB3.alloc (by have := k1.lt; omega) _
    obtain ⟨W4, hW4⟩ : ∃ W4, W3.alloc (.cells (levV fun _ _ => 0) 64) = W4 := ⟨_, rfl⟩
    rw [hW4] at i0 i1 ip HC4 hB4
    have hcc1 := (HCL.out _ i0).2
    have hu3 : u < W3.heap.size := by omega
    rw [hp] at hgl
    go_wp2_with fail
    try simp only [hp]
    try rw [hW4]
    clear hcc1 hW4 hu3 hp HC r0 fr0 hB3 c1 hd hdN k0 k1 hs3
    go_loopw [34] (fun i wr => ∃ (k : Nat), k ≤ Hn ∧ i = .int .i8 (k : Int) ∧ Holds wr u L.cells ∧ Holds wr (u + 1) (levV fun _ _ => 0) ∧ Holds wr p (levV (fillC C Wn k 0)) ∧ (∀ (j : Nat) x, ls[j]? = some x → wr.cell? ⟨g, j, none⟩ = some (.string ⟨x.toArray⟩)) ∧ Below u w wr) (fun i _ => Hn - (intOf i).toNat)
    case atStart => exact ⟨0, by omega, rfl, i0, i1, by rw [fillC_zero]; exact ip, HC4.out, hB4⟩
    case round =>
      obtain ⟨k, hk, rfl, k0, k1, kp, hcs, hb⟩ := hrel
      have HC := Lib.hid hcs
      clear i0 i1 ip hB4 HC4 hcs
      by_cases hlt : k < Hn
      · have hd : decide ((k : Int) < (Hn : Int)) = true := by simp; omega
        obtain ⟨r0, -, -, -, -⟩ := k0.facts
        have HR := Lib.hid (HROW.out p k (by omega) wr)
        obtain ⟨l, hl⟩ := HQ.out k (by omega)
        have hxl := HXL.out k l hl
        have HLC := Lib.hid (fun wr h => h k l hl : ∀ wr : World, (∀ (j : Nat) x, ls[j]? = some x → wr.cell? ⟨g, j, none⟩ = some (.string ⟨x.toArray⟩)) → wr.cell? ⟨g, k, none⟩ = some (.string ⟨l.toArray⟩))
        have hsw := splitN_one ⟨l.toArray⟩ (by simp [ByteArray.size]; omega) 32 (Wn + 1) (by omega) (by omega)
        have HPV := Lib.hid (fun j x z h hz => HCV.out k l j x z hl h hz)
        have HPN := Lib.hid (fun j x hj h => HN3.out k l j x hlt hj hl h)
        have HPM := Lib.hid (HN2.out k l hlt hl)
        have hpl : ∀ x ∈ wordsP Wn l, x.length ≤ 1048576 := fun x hx => by have := splitK_mem_len hx; omega
        have hsw2 : ∀ w, Calls Tryd.prog 61 #[.string ⟨l.toArray⟩, .string ⟨#[32]⟩, .int .i64 ((Wn : Int) + 1)] w fun e w' => (∃ cap, e = .returned (.slice (some ⟨w.heap.size, 0, none⟩) (wordsP Wn l).length cap)) ∧ (∀ (j : Nat) x, (wordsP Wn l)[j]? = some x → w'.cell? ⟨w.heap.size, j, none⟩ = some (.string ⟨x.toArray⟩)) ∧ Below w.heap.size w w' := fun w => by
          have := hsw w
          rw [show (((Wn + 1 : Nat)) : Int) = (Wn : Int) + 1 by omega] at this
          simp only [show (⟨l.toArray⟩ : ByteArray).data.toList = l by simp] at this
          exact this.mono fun e w' ⟨⟨cap, h1, h2, h3⟩, h4⟩ => ⟨⟨cap, h1⟩, h3, h4⟩
        obtain ⟨ps, hps⟩ : ∃ ps, wordsP Wn l = ps := ⟨_, rfl⟩
        rw [hps] at hsw2 HPV HPN HPM hpl
        obtain ⟨M, hM⟩ : ∃ M, ps.length = M := ⟨_, rfl⟩
        rw [hM] at hsw2 HPM
        have HSX := Lib.hid hsw2
        have HPL := Lib.hid hpl
        have HQP := Lib.hid (show ∀ i, i < M → ∃ x, ps[i]? = some x from fun i h => ⟨_, List.getElem?_eq_getElem (by omega)⟩)
        clear hl hps hM hsw hsw2 hpl
        go_wp2_with fail
        refine HR.out.mono ?_
        rintro e W5 ⟨rfl, hb5⟩
        have l0 := k0.below hb5 k0.lt
        have l1 := k1.below hb5 k1.lt
        have lp := kp.below hb5 kp.lt
        have HC5 := Lib.hid (cells_below HC.out (by have := kp.lt; omega) hb5)
        have hB5 : Below u w W5 := hb.trans (hb5.mono (by have := k0.lt; omega))
        have d0 := HLC.out _ HC5.out
        clear hb5 k0 k1 kp hb HC r0 HR
        go_wp2_with fail
        refine (HSX.out _).mono ?_
        rintro e W6 ⟨⟨capp, rfl⟩, hpc, hb6⟩
        have k0 := l0.below hb6 l0.lt
        have k1 := l1.below hb6 l1.lt
        have kp := lp.below hb6 lp.lt
        have HC6 := Lib.hid (cells_below HC5.out (by have := lp.lt; omega) hb6)
        have hB6 : Below u w W6 := hB5.trans (hb6.mono (by have := l0.lt; omega))
        have hs6 := hb6.size
        obtain ⟨gp, hgp⟩ : ∃ g, W5.heap.size = g := ⟨_, rfl⟩
        have hpg : p < gp := by have := lp.lt; omega
        rw [hgp] at hpc hs6 ⊢
        have HPC := Lib.hid hpc
        obtain ⟨r1, fr1, -, -, -⟩ := k1.facts
        clear hb6 l0 l1 lp hB5 HC5 hpc hgp d0 HSX
        by_cases h5' : M = Wn
        case neg =>
          have hd5 : decide ((M : Int) = (Wn : Int)) = false := by simp; omega
          have hd6 : ((M : Int) == (Wn : Int)) = false := by simp; omega
          have HE := Lib.hid (HPM.out h5')
          have g3 := k1.setRow (levV fun _ _ => 0)
          clear h5'
          go_wp2_with fail
          exact bodyPost_ret (results_cell_tmp_holds rfl wideLv _ rfl g3 (by simp)) rfl ⟨by rw [HE.out.1, HE.out.2]; rfl, below_setRow' hB6 (by omega) _⟩
        subst h5'
        have hgpl : gp < W6.heap.size := by
          obtain ⟨x, hx⟩ := HQP.out 0 (by omega)
          have := cell_block (HPC.out 0 x hx)
          simpa using this
        clear HPM r1 fr1
        go_wp2_with fail
        go_loopw [56] (fun i wr => ∃ (j : Nat), j ≤ M ∧ i = .int .i64 (j : Int) ∧ Holds wr u L.cells ∧ Holds wr (u + 1) (levV fun _ _ => 0) ∧ Holds wr p (levV (fillC C M k j)) ∧ (∀ (j : Nat) x, ls[j]? = some x → wr.cell? ⟨g, j, none⟩ = some (.string ⟨x.toArray⟩)) ∧ (∀ (j : Nat) x, ps[j]? = some x → wr.cell? ⟨gp, j, none⟩ = some (.string ⟨x.toArray⟩)) ∧ gp < wr.heap.size ∧ Below u w wr) (fun i _ => M - (intOf i).toNat)
        case atStart => exact ⟨0, by omega, rfl, k0, k1, kp, HC6.out, HPC.out, hgpl, hB6⟩
        case round =>
          obtain ⟨j, hj, rfl, l0, l1, lp, hcs, hpc, hgl2, hb⟩ := hrel
          have HC := Lib.hid hcs
          have HPC2 := Lib.hid hpc
          have HER := Lib.hid (HEE.out.below hb (by have := HU.out; omega))
          clear k0 k1 kp HC6 HPC hgpl hB6 hcs
          by_cases hjt : j < M
          · have hdj : decide ((j : Int) < (M : Int)) = true := by simp; omega
            obtain ⟨x, hx⟩ := HQP.out j hjt
            have d0 := hpc j x hx
            have hxx := HPL.out x (List.mem_of_getElem? hx)
            have HNO := Lib.hid (HPN.out j x hjt hx)
            have HVV := Lib.hid (fun z hz => HPV.out j x z hx hz)
            clear hx hpc
            by_cases hok : ∃ z, Lib.parseIntB 8 x = .ok z
            · obtain ⟨z, hz⟩ := hok
              have HZ := Lib.hid (HVV.out z hz)
              have hbd := Lib.parseIntB_bounds hz
              have HPA := Lib.hid (parse8_good ⟨x.toArray⟩ (by simp [ByteArray.size]; omega) z (by simpa using hz))
              have hwz : IntKind.i8.wrap z = z := IntWalk.i8_in _ (by simp at hbd; omega)
              clear hz hbd
              go_wp2_with fail
              refine (HPA.out _).mono ?_
              rintro e W7 ⟨rfl, hb7⟩
              have k0 := l0.below hb7 l0.lt
              have k1 := l1.below hb7 l1.lt
              have kp := lp.below hb7 lp.lt
              have HC7 := Lib.hid (cells_below HC.out (by have := lp.lt; omega) hb7)
              have HP7 := Lib.hid (cells_below HPC2.out hgl2 hb7)
              have hB7 : Below u w W7 := hb.trans (hb7.mono (by have := l0.lt; omega))
              have hg7 : gp < W7.heap.size := by have := hb7.size; omega
              obtain ⟨-, -, cc, fr, hl⟩ := kp.facts
              have ck : W7.cell? ⟨p, k * 10 + j, none⟩ = some (.int .i8 (fillC C M k j k j)) := (cc _).trans (levV_get _ k j (by omega) (by omega))
              clear hb7 l0 l1 lp HC HPC2 hb d0 HPA cc hgl2
              go_wp2_with fail
              go_roundw
              case rel =>
                refine ⟨j + 1, by omega, by go_num, k0.setCell_other _ _ (by dsimp only; omega), k1.setCell_other _ _ (by dsimp only; omega), ?_, cells_set HC7.out p _ _ (by omega), cells_set HP7.out p _ _ (by omega), by simpa using hg7, hB7.setCell (p := ⟨p, k * 10 + j, none⟩) (by dsimp only; omega) _⟩
                rw [← fillC_set C hjt, ← HZ.out, ← levV_set _ k j _ (by omega) (by omega)]
                exact kp.setCell _ _
              case measure => simp [intOf]; omega
            · have hno : ∀ z, Lib.parseIntB 8 x ≠ .ok z := fun z h => hok ⟨z, h⟩
              have HE := Lib.hid (HNO.out hno)
              have HPA := Lib.hid (parse8_fail ⟨x.toArray⟩ (by simp [ByteArray.size]; omega) (by simpa using hno))
              clear hok hno
              go_wp2_with fail
              refine (HPA.out _ HER.out).mono ?_
              rintro e W7 ⟨⟨z, te, N', rfl⟩, hb7⟩
              have k1 := l1.below hb7 l1.lt
              have hB7 : Below u w W7 := hb.trans (hb7.mono (by have := l0.lt; omega))
              obtain ⟨r1, fr1, -, -, -⟩ := k1.facts
              have g3 := k1.setRow (levV fun _ _ => 0)
              clear hb7 l0 l1 lp HC HPC2 hb d0 HPA
              go_wp2_with fail
              exact bodyPost_ret (results_cell_tmp_holds rfl wideLv _ rfl g3 (by simp)) rfl ⟨by rw [HE.out.1, HE.out.2]; rfl, below_setRow' hB7 (by omega) _⟩
          · have hdj : decide ((j : Int) < (M : Int)) = false := by simp; omega
            obtain rfl : j = M := by omega
            rw [fillC_row] at lp
            go_wp2_with fail
            go_roundw
            case rel => exact ⟨k + 1, by omega, by go_num, l0, l1, lp, HC.out, hb⟩
            case measure => simp [intOf]; omega
      · have hd : decide ((k : Int) < (Hn : Int)) = false := by simp; omega
        obtain rfl : k = Hn := by omega
        have HTR := Lib.hid (HTT.out.below hb (by have := HU.out; omega))
        have HT := Lib.hid (HTX.out _ (HFIT.out k 0) wr HTR.out)
        have HLL := Lib.hid (HLS.out (fillC C Wn k 0) HTN2.out)
        obtain ⟨hE1, hE2⟩ := HEND.out
        obtain ⟨G, hG⟩ : ∃ G, fillC C Wn k 0 = G := ⟨_, rfl⟩
        rw [hG] at kp HT HLL hE1 hE2
        have HE1 := Lib.hid hE1
        have HE2 := Lib.hid hE2
        obtain ⟨V, hV⟩ : ∃ V, levS L G = V := ⟨_, rfl⟩
        rw [hV] at HT HLL
        obtain ⟨r0, -, -, -, -⟩ := k0.facts
        obtain ⟨rp, -, -, -, -⟩ := kp.facts
        clear hG hE1 hE2 HTX HEND hV HFIT HLS
        go_wp2_with fail
        refine HT.out.mono ?_
        rintro e W5 ⟨rfl, hb5⟩
        have m1 := k1.below hb5 k1.lt
        have mp := kp.below hb5 kp.lt
        have hB5 : Below u w W5 := hb.trans (hb5.mono (by have := k0.lt; omega))
        clear hb5 k0 k1 kp hb HT HC r0 rp
        obtain ⟨r1, fr1, -, -, -⟩ := m1.facts
        obtain ⟨rp, -, -, -, -⟩ := mp.facts
        by_cases hTt : V.toList = t
        · have hq : (V.toList == s.toList) = true := by rw [hst, hTt]; simp
          have HE := Lib.hid (HE1.out (HLL.out.1 hTt))
          have g3 := m1.setRow (levV G)
          clear hTt hst
          go_wp2_with fail
          exact bodyPost_ret (results_cell_tmp_holds rfl wideLv _ rfl g3 (by simp)) rfl ⟨by rw [HE.out.1, HE.out.2]; rfl, below_setRow' hB5 (by omega) _⟩
        · have hq : (V.toList == s.toList) = false := by rw [hst, beq_eq_false_iff_ne]; exact hTt
          have HE := Lib.hid (HE2.out (fun h => hTt (HLL.out.2 h)))
          have g3 := m1.setRow (levV fun _ _ => 0)
          clear hTt hst
          go_wp2_with fail
          exact bodyPost_ret (results_cell_tmp_holds rfl wideLv _ rfl g3 (by simp)) rfl ⟨by rw [HE.out.1, HE.out.2]; rfl, below_setRow' hB5 (by omega) _⟩
end Go.Proofs.YthfhpcigjnjkdaaDoor
