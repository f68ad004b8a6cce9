/- PiecesOf, of the model. -/
import Derived.Test.YtaeenkjbmlgcmaaSReachG
import Derived.Test.YtaeenkjbmlgcmaaGridT
import Derived.Test.YtaeenkjbmlgcmaaRowsC
import Derived.Test.YtaeenkjbmlgcmaaZD
import Derived.Test.YtaeenkjbmlgcmaaZE
namespace Go.Proofs.Ytaeenkjbmlgcmaa
open Go.RowKit
set_option linter.unusedVariables false
attribute [local go_sem ↓] loadRow loadGrid loadLawn loadMirror storeRow storeGrid storeLawn allocRow allocGrid allocLawn buildZero buildSides loadG64 storeG64 allocG64 buildG64 loadGT storeGT allocGT buildGT

theorem rowsInfoS : (Try.prog.info? 45).map (fun i => (i.zero, i.size, i.bytes)) = some (some (.slice none 0 0), 1, 24) := by kernel_rfl
def rowsOfS {W H : Nat} (P : List (List (Fin W × Fin H))) : List (List Value) := P.map flatV

set_option maxRecDepth 100000 in
set_option maxHeartbeats 4000000 in
theorem l01Pieces_any (Wn Hn : Nat) (hW : Wn ≤ 10) (hH : Hn ≤ 10) (hW1 : 1 ≤ Wn) (hH1 : 1 ≤ Hn) (L : Lawn) (hL : L.Fits) (hV : validB L = true) (hLw : L.wide = Wn) (hLh : L.high = Hn) (b : Nat) (w : World) (h : Holds w b L.cells) :
    Calls Try.prog 46 #[.pointer (some ⟨b, 0, none⟩)] w fun e w' => (∃ v, e = .returned v ∧ RowsC w' w.heap.size v (rowsOfS (piecesG L (ofKind L Wn Hn 0)))) ∧ Below w.heap.size w w' := by
  obtain ⟨ri, hri, hrz0, hrz1, hrz2⟩ := info_parts rowsInfoS
  have HRI := Lib.hid (show Try.prog.info? 45 = some ri ∧ ri.zero = some (.slice none 0 0) ∧ ri.size = 1 ∧ ri.bytes = 24 from ⟨hri, hrz0, hrz1, hrz2⟩)
  obtain ⟨ci, hi, hz0, hz1, hz2⟩ := info_parts cellInfo
  have HCI := Lib.hid (show Try.prog.info? 37 = some ci ∧ ci.zero = some (.agg #[.int .i8 0, .int .i8 0]) ∧ ci.size = 2 ∧ ci.bytes = 2 from ⟨hi, hz0, hz1, hz2⟩)
  clear hri hrz0 hrz1 hrz2 hi hz0 hz1 hz2
  have HLC := Lib.hid (fun w h => l01Cells_any Wn Hn hW hH hW1 hH1 L hL hLw hLh 0 b w h)
  obtain ⟨G, hG⟩ : ∃ G, ofKind L Wn Hn 0 = G := ⟨_, rfl⟩
  have HRE := Lib.hid (fun (c : Fin Wn × Fin Hn) (hc : passG L true ((c.1.val : Int), (c.2.val : Int)) = true) w h => reach_grass L hL hV b c.1.val c.2.val (by have := c.1.isLt; omega) (by have := c.2.isLt; omega) hc w h)
  have HGr := Lib.hid (show ∀ (i : Nat) c, G[i]? = some c → passG L true ((c.1.val : Int), (c.2.val : Int)) = true from fun i c hc => by
    rw [← hG] at hc
    have hm := List.mem_of_getElem? hc
    unfold ofKind at hm
    have hk := (List.mem_filter.1 hm).2
    unfold passG grassP grassB isB inB
    have := c.1.isLt; have := c.2.isLt
    simp only [if_true, Bool.and_eq_true, decide_eq_true_eq, Int.toNat_natCast]
    exact ⟨by omega, hk⟩)
  have HTG := Lib.hid (show ∀ c, passG L true ((c.1.val : Int), (c.2.val : Int)) = true → pieceT L c G = pieceL L c from fun c hc => hG ▸ pieceT_grass hc)
  have hN1 : G.length ≤ 100 := by
    rw [← hG]
    unfold ofKind
    refine Nat.le_trans (List.length_filter_le _ _) ?_
    rw [allC_length]
    exact Nat.le_trans (Nat.mul_le_mul hH hW) (by omega)
  have HH := Lib.hid h
  rw [hG] at HLC ⊢
  obtain ⟨N, hN⟩ : ∃ N, G.length = N := ⟨_, rfl⟩
  have HN := Lib.hid hN
  rw [hN] at HLC hN1
  have hbw := h.lt
  clear h hL hV hLw hLh hG hN
  obtain ⟨u, hu⟩ : ∃ u, w.heap.size = u := ⟨_, rfl⟩
  obtain ⟨W0, hW0⟩ : ∃ W0, (w.alloc (.cells #[] 45)).alloc (.cells (gridT fun _ _ => false) 149) = W0 := ⟨_, rfl⟩
  have g0 : W0.ownsRow u 45 1 (.slice (some ⟨u, 0, none⟩) 0 0) 0 [] := by
    rw [← hW0, ← hu]
    exact own_below (World.ownsRow_made w #[] 0 (Nat.le_refl _) (by simp [maxLen]) rfl) ((Below.refl _ _).alloc (Nat.le_refl _) _)
  have g1 : Holds W0 (u + 1) (gridT fun _ _ => false) := by rw [← hW0]; exact Holds.new' _ _ _ _ (by simp; omega)
  have kb : Holds W0 b L.cells := by rw [← hW0]; exact (HH.out.alloc _).alloc _
  have hB0 : Below u w W0 := by rw [← hW0]; exact ((Below.refl u w).alloc (by omega) _).alloc (by simp; omega) _
  have hz : W0.heap.size = u + 2 := by rw [← hW0]; simp; omega
  obtain ⟨r1, f1, -, z1, l1⟩ := g1.facts
  rw [hu]
  go_enter Try.func46, Try.ntmps46
  go_wp2_with fail
  obtain ⟨W1, hW1⟩ : ∃ W1, W0.setRow (u + 1) (gridT fun _ _ => false) = W1 := ⟨_, rfl⟩
  have j0 : W1.ownsRow u 45 1 (.slice (some ⟨u, 0, none⟩) 0 0) 0 [] := by
    rw [← hW1]; exact ((Only.refl [u + 1] W0).setRow (.inl (by simp)) _).own g0 (fun k hk => by cases hk; simp)
  have j1 : Holds W1 (u + 1) (gridT fun _ _ => false) := by rw [← hW1]; exact g1.setRow _
  have jb : Holds W1 b L.cells := by rw [← hW1]; exact ((Only.refl [u + 1] W0).setRow (.inl (by simp)) _).holds kb (by simp; omega)
  have jB : Below u w W1 := by rw [← hW1]; exact ((Only.refl [u + 1] W0).setRow (.inl (by simp)) _).toBelow (by simp) (by omega) |> hB0.trans
  have jz : W1.heap.size = u + 2 := by rw [← hW1]; simpa [World.setRow] using hz
  rw [hW1]
  clear hW1 g0 g1 kb hB0 hz r1 f1 z1 l1 hW0
  refine (HLC.out W1 jb).mono ?_
  rintro e W2 ⟨vG, rfl, hoG, hb2⟩
  rw [jz] at hoG
  have k0 := own_below j0 hb2
  have k1 := j1.below hb2 j1.lt
  have kb := jb.below hb2 jb.lt
  have kB : Below u w W2 := jB.trans (hb2.mono (by omega))
  have kz : u + 2 ≤ W2.heap.size := by have := hb2.size; omega
  clear hb2 j0 j1 jb jB jz
  obtain ⟨aG, cG, rfl⟩ := own_slice hoG
  have hgf := own_far hoG
  have hgl := fun k hk => (hoG.lt k hk).2
  have HAG := Lib.hid (fun k hk => And.intro (hgf k hk) (hgl k hk))
  clear hgf hgl
  go_wp2_with fail
  go_loopw [3, 6] (fun v x wr => ∃ (i : Nat) (hs : List Value), i ≤ N ∧ x = .int .i64 i ∧ RowsAt wr u v hs (rowsOfS (piecesG L (G.take i))) ∧ (∀ r ∈ hs, ∀ k, r.ownBlock = some k → u + 2 ≤ k) ∧ v.ownBlock ≠ some (u + 1) ∧ Holds wr (u + 1) (gridT (doneB (piecesG L (G.take i)))) ∧ wr.ownsRow (u + 2) 37 2 (.slice aG N cG) N (flatV G) ∧ Holds wr b L.cells ∧ Below u w wr ∧ W2.heap.size ≤ wr.heap.size) (fun _ x _ => N - (intOf x).toNat)
  case atStart => exact ⟨0, [], by omega, rfl, ⟨k0, by simp, by simp⟩, by simp, by simp [Value.ownBlock], k1, hoG, kb, kB, Nat.le_refl _⟩
  case round =>
    obtain ⟨i, hs, hi, rfl, ho, hfar, hva, hd, hG, kb, hB, hz⟩ := hrel
    have HO := Lib.hid ho
    have HGo := Lib.hid hG
    have HFAR := Lib.hid hfar
    have HVA := Lib.hid hva
    clear ho hG hfar hva
    by_cases hlt : i < N
    · have hd0 : decide ((i : Int) < (N : Int)) = true := by simp; omega
      obtain ⟨c, hc⟩ : ∃ c, G[i]? = some c := ⟨_, List.getElem?_eq_getElem (by rw [HN.out]; exact hlt)⟩
      have HC := Lib.hid hc
      have hpc := HGr.out i c hc
      have HPC := Lib.hid hpc
      obtain ⟨ca, cb⟩ := flatV_get _ _ _ hc
      obtain ⟨ga, capa, he, -, -⟩ := own_form HGo.out (by omega)
      simp only [Value.slice.injEq, true_and] at he
      obtain ⟨rfl, rfl⟩ := he
      have ca := own_cell HGo.out _ _ ca
      have cb := own_cell HGo.out _ _ cb
      have HDI := Lib.hid (doneB_in (piecesG L (G.take i)) c)
      have HPO := Lib.hid (fun h => piecesG_old (L := L) hc h)
      have HPN := Lib.hid (fun h => piecesG_new (L := L) hc h)
      have hx10 : c.1.val < 10 := by have := c.1.isLt; omega
      have hy10 : c.2.val < 10 := by have := c.2.isLt; omega
      obtain ⟨PI, hPI⟩ : ∃ PI, piecesG L (G.take i) = PI := ⟨_, rfl⟩
      have HPI := Lib.hid hPI
      rw [hPI] at HO hd HDI HPO HPN
      have hg100 := gridT_get (doneB PI) c.2.val c.1.val hy10 hx10
      obtain ⟨q, hq⟩ : ∃ q, inP PI c = q := ⟨_, rfl⟩
      rw [HDI.out, hq] at hg100
      rw [hq] at HPO HPN
      have hcd := (hd.cell (c.2.val * 10 + c.1.val)).trans hg100
      have HD := Lib.hid hd
      have hdl := hd.lt
      have hbl := kb.lt
      clear hc hpc hPI hg100 hq hd
      cases q
      · have HPN' := Lib.hid (HPN.out rfl)
        clear HPO HPN
        go_wp2_with fail
        go_region
        have hb1 : Below wr.heap.size wr wr.drew := (Below.refl _ _).drew
        obtain ⟨Wd, hWd⟩ : ∃ Wd, wr.drew = Wd := ⟨_, rfl⟩
        rw [hWd] at hb1 ⊢
        have ca := own_cell (own_below HGo.out hb1) _ _ (flatV_get _ _ _ HC.out).1
        have cb := own_cell (own_below HGo.out hb1) _ _ (flatV_get _ _ _ HC.out).2
        have kb1 := kb.below hb1 kb.lt
        clear hWd hcd
        go_wp2_with fail
        refine (HRE.out c HPC.out Wd kb1).mono ?_
        obtain ⟨R, hR⟩ : ∃ R, gridF (found (passG L true) ((c.1.val : Int), (c.2.val : Int)) 100) = R := ⟨_, rfl⟩
        have HRV := Lib.hid (show ∀ a : Fin Wn × Fin Hn, decide (0 ≤ R a.2.val a.1.val) = hitB L c a from fun a => hR ▸ hitB_steps HPC.out)
        rw [hR]
        rintro e w3 ⟨rfl, hb2⟩
        have hb3 := below_onto hb1 hb2
        have HO3 := Lib.hid (HO.out.below hb3)
        have HG3 := Lib.hid (own_below HGo.out hb3)
        have HD3 := Lib.hid (HD.out.below hb3 hdl)
        have kb3 := kb.below hb3 kb.lt
        have hB3 : Below u w w3 := hB.trans (hb3.mono (by omega))
        have hz3 : W2.heap.size ≤ w3.heap.size := Nat.le_trans hz hb3.size
        clear hb1 hb2 hb3 ca cb kb1 hR hB hz kb HO HGo HD hbl
        go_wp2_with fail
        obtain ⟨s, hs0⟩ : ∃ s, w3.heap.size = s := ⟨_, rfl⟩
        obtain ⟨W4, hW4⟩ : ∃ W4, (w3.alloc (.cells (grid64 R) 89)).alloc (.cells #[] 37) = W4 := ⟨_, rfl⟩
        have m0 : Holds W4 s (grid64 R) := by rw [← hW4]; exact (Holds.new' _ _ _ _ hs0.symm).alloc _
        have m1 : W4.ownsRow (s + 1) 37 2 (.slice (some ⟨s + 1, 0, none⟩) 0 0) 0 [] := by
          rw [← hW4]
          have := World.ownsRow_made (e := 37) (size := 2) (w3.alloc (.cells (grid64 R) 89)) #[] 0 (Nat.le_refl _) (by simp [maxLen]) rfl
          simpa [hs0] using this
        have mO : Only [u + 1] w3 W4 := by rw [← hW4]; exact ((Only.refl _ _).alloc _).alloc _
        have m2 : Holds W4 (u + 1) (gridT (doneB PI)) := by rw [← hW4]; exact (HD3.out.alloc _).alloc _
        have hsu : u + 2 ≤ s := by omega
        try rw [hW4]
        try rw [hs0]
        clear hW4
        go_loopw [8, 9] (fun o x wk => ∃ k : Nat, k ≤ N ∧ x = .int .i64 k ∧ wk.ownsRow (s + 1) 37 2 o (pieceT L c (G.take k)).length (flatV (pieceT L c (G.take k))) ∧ Holds wk (u + 1) (gridT (doneB (PI ++ [pieceT L c (G.take k)]))) ∧ Holds wk s (grid64 R) ∧ Only [u + 1] w3 wk) (fun _ x _ => N - (intOf x).toNat)
        case atStart =>
          refine ⟨0, by omega, rfl, m1, ?_, m0, mO⟩
          rw [show pieceT L c (G.take 0) = [] from rfl, doneB_none]
          exact m2
        case round =>
          obtain ⟨k, hk, rfl, hq, hdk, hrk, hOk⟩ := hrel
          have HQ := Lib.hid hq
          have HDK := Lib.hid hdk
          have HOK := Lib.hid hOk
          have HRK := Lib.hid hrk
          have HGk := Lib.hid (hOk.own HG3.out (fun z hz => by have := HAG.out z hz; simp; omega))
          have hrl := hrk.lt
          have hdl2 := hdk.lt
          have hw3k := hOk.size
          clear hq m0 m1 m2 mO hOk
          by_cases hltk : k < N
          · have hd1 : decide ((k : Int) < (N : Int)) = true := by simp; omega
            obtain ⟨a, ha⟩ : ∃ a, G[k]? = some a := ⟨_, List.getElem?_eq_getElem (by rw [HN.out]; exact hltk)⟩
            have HA := Lib.hid ha
            obtain ⟨va, vb⟩ := flatV_get _ _ _ ha
            have va := own_cell HGk.out _ _ va
            have vb := own_cell HGk.out _ _ vb
            have hx11 : a.1.val < 10 := by have := a.1.isLt; omega
            have hy11 : a.2.val < 10 := by have := a.2.isLt; omega
            have hrr := (hrk.cell (a.2.val * 10 + a.1.val)).trans (grid64_get R a.2.val a.1.val hy11 hx11)
            have hrv := HRV.out a
            obtain ⟨rv, hrv2⟩ : ∃ rv, R a.2.val a.1.val = rv := ⟨_, rfl⟩
            rw [hrv2] at hrr hrv
            have HIT := Lib.hid (fun h => pieceT_hit (L := L) (c := c) ha h)
            have HMS := Lib.hid (fun h => pieceT_miss (L := L) (c := c) ha h)
            have HLE := Lib.hid (show (pieceT L c (G.take k)).length ≤ k from Nat.le_trans (List.length_filter_le _ _) (by simp; omega))
            have HUP := Lib.hid (doneB_more PI (pieceT L c (G.take k)) a)
            obtain ⟨T, hT⟩ : ∃ T, pieceT L c (G.take k) = T := ⟨_, rfl⟩
            rw [hT] at HQ HDK HIT HMS HLE HUP hdk
            obtain ⟨hb, hhb⟩ : ∃ hb, hitB L c a = hb := ⟨_, rfl⟩
            rw [hhb] at hrv HIT HMS
            clear ha hT hhb hrv2 hrk
            cases hb
            · have HMS' := Lib.hid (HMS.out rfl)
              clear HIT HMS hdk
              go_wp2_with fail
              go_region
              have hb1 : Below wr.heap.size wr wr.drew := (Below.refl _ _).drew
              go_wp2_with fail
              go_roundw
              case rel => exact ⟨k + 1, by omega, by go_num, by rw [HMS'.out]; exact own_below HQ.out hb1, by rw [HMS'.out]; exact HDK.out.below hb1 hdl2, HRK.out.below hb1 hrl, HOK.out.drew⟩
              case measure => simp [intOf]; omega
            · have HIT' := Lib.hid (HIT.out rfl)
              clear HIT HMS
              have hb1 : Below wr.heap.size wr wr.drew := (Below.refl _ _).drew
              have HQ1 := Lib.hid (own_below HQ.out hb1)
              have HG1 := Lib.hid (own_below HGk.out hb1)
              have HR1 := Lib.hid (HRK.out.below hb1 hrl)
              have hdk1 := hdk.below hb1 hdk.lt
              clear hdk
              go_wp2_with fail
              go_region
              obtain ⟨Wd, hWd⟩ : ∃ Wd, wr.drew = Wd := ⟨_, rfl⟩
              have hOd : Only [u + 1] w3 Wd := by rw [← hWd]; exact HOK.out.drew
              rw [hWd] at HQ1 HG1 HR1 hdk1 hb1 ⊢
              have va := own_cell HG1.out _ _ (flatV_get _ _ _ HA.out).1
              have vb := own_cell HG1.out _ _ (flatV_get _ _ _ HA.out).2
              have hwz := hb1.size
              clear hWd hrr
              go_wp2_with (at_builtin; refine wpList_append_own_at _ rfl _ _ 45 rfl (s + 1) 37 ci (.agg #[.int .i8 0, .int .i8 0]) 2 2 Try.underlying45 HCI.out.1 HCI.out.2.1 HCI.out.2.2.1 HCI.out.2.2.2 rfl (by decide) _ _ _ rfl (HQ1.out.alloc _) ⟨Wd.heap.size, 0, none⟩ 1 1 [.int .i8 a.1.val, .int .i8 a.2.val] rfl rfl ?c1 ?c2 ?c3 ?c4 ?c5 ?_)
              case c1 =>
                intro m z hz
                match m, hz with
                | 0, hz => simp at hz; subst hz; exact (Holds.new Wd #[.int .i8 a.1.val, .int .i8 a.2.val] 37).cell 0
                | 1, hz => simp at hz; subst hz; exact (Holds.new Wd #[.int .i8 a.1.val, .int .i8 a.2.val] 37).cell 1
              case c2 => intro z hz; simp at hz; rcases hz with rfl | rfl <;> rfl
              case c3 => have := HLE.out; unfold maxLen; omega
              case c4 => have := HLE.out; omega
              case c5 => have := HR1.out.lt; simp; omega
              intro v' w9 hown' hgrow _ hat
              have ho9 : w9.ownsRow (s + 1) 37 2 v' (T ++ [a]).length (flatV (T ++ [a])) := by
                rw [flatV_append, List.length_append]; exact hown'
              have hd9 := held_grown (hdk1.alloc (.cells #[.int .i8 a.1.val, .int .i8 a.2.val] 37)) (HQ1.out.alloc _) hgrow (by omega)
              have hr9 := held_grown (HR1.out.alloc (.cells #[.int .i8 a.1.val, .int .i8 a.2.val] 37)) (HQ1.out.alloc _) hgrow (by omega)
              have hO9 : Only [u + 1] w3 w9 := (hOd.alloc _).grown hgrow (fun z hz => .inr (by have := own_far HQ1.out z hz; omega))
              have HG9 := Lib.hid (hO9.own HG3.out (fun z hz => by have := HAG.out z hz; simp; omega))
              have HO9 := Lib.hid ho9
              have HR9 := Lib.hid hr9
              have HOn := Lib.hid hO9
              clear hown' hgrow hat ho9 hr9 hO9 hOd HQ1 HG1 HR1 hdk1 va vb
              have va := own_cell HG9.out _ _ (flatV_get _ _ _ HA.out).1
              have vb := own_cell HG9.out _ _ (flatV_get _ _ _ HA.out).2
              obtain ⟨-, -, cd, zd, ld⟩ := hd9.facts
              have cd1 := (cd (a.2.val * 10 + a.1.val)).trans (gridT_get _ a.2.val a.1.val hy11 hx11)
              have zd1 := zd (a.2.val * 10 + a.1.val)
              have HD9 := Lib.hid hd9
              clear cd zd hd9
              have hOw : Only [u + 1] w3 (w9.drew.setCell ⟨u + 1, a.2.val * 10 + a.1.val, none⟩ (.bool true)) := HOn.out.drew.setCell (.inl (by simp)) _
              have hgw : w9.grownBy (w9.drew.setCell ⟨u + 1, a.2.val * 10 + a.1.val, none⟩ (.bool true)) (some (u + 1)) := grown_set (w := w9) (w' := w9.drew) ⟨rfl, rfl, rfl, Nat.le_refl _, fun _ _ _ => rfl⟩ _ _
              have hoF := HO9.out.kept hgw (by cases hv : Value.ownBlock v' with | none => exact .inl rfl | some z => exact .inr (by have := own_far HO9.out z hv; simp; omega))
              have hdF : Holds (w9.drew.setCell ⟨u + 1, a.2.val * 10 + a.1.val, none⟩ (.bool true)) (u + 1) (gridT (doneB (PI ++ [T ++ [a]]))) := by
                rw [← HUP.out, ← gridT_set _ _ _ _ hy11 hx11]
                exact (HD9.out.below (Below.refl _ _).drew HD9.out.lt).setCell _ _
              have hrF : Holds (w9.drew.setCell ⟨u + 1, a.2.val * 10 + a.1.val, none⟩ (.bool true)) s (grid64 R) := (HR9.out.below (Below.refl _ _).drew HR9.out.lt).setCell_other _ _ (by dsimp only; omega)
              have HE := Lib.hid (And.intro hOw (And.intro hoF (And.intro hdF hrF)))
              clear hOw hgw hoF hdF hrF
              go_wp2_with fail
              go_region
              go_wp2_with fail
              go_roundw
              case rel => exact ⟨k + 1, by omega, by go_num, by rw [HIT'.out]; exact HE.out.2.1, by rw [HIT'.out]; exact HE.out.2.2.1, HE.out.2.2.2, HE.out.1⟩
              case measure => simp [intOf]; omega
          · have hd1 : decide ((k : Int) < (N : Int)) = false := by simp; omega
            have hkN : k = N := by omega
            have HT := Lib.hid (show pieceT L c (G.take k) = pieceL L c by rw [hkN, ← HN.out, List.take_length]; exact HTG.out c HPC.out)
            rw [HT.out] at HQ HDK
            have HOo := Lib.hid (HO3.out.only HOK.out (fun z hz => by have := HVA.out; intro hm; simp at hm; subst hm; exact this hz) (fun r hr z hz => by have := HFAR.out r hr z hz; simp; omega))
            have hOO := HOo.out
            have hPL := piecesG_le L (G.take i)
            rw [HPI.out] at hPL
            have hPLn : PI.length ≤ 100 := by have : (G.take i).length ≤ 100 := by simp; omega
                                              omega
            have hRL : (rowsOfS PI).length = PI.length := by simp [rowsOfS]
            obtain ⟨ho1, -⟩ := hOO
            rw [hRL] at ho1
            obtain ⟨aq, cq, hqe⟩ := own_slice HQ.out
            subst hqe
            obtain ⟨ao, co, hoe⟩ := own_slice ho1
            subst hoe
            have HO1 := Lib.hid ho1
            obtain ⟨qn, hqn⟩ : ∃ qn, (pieceL L c).length = qn := ⟨_, rfl⟩
            rw [hqn] at HQ ⊢
            obtain ⟨pn, hpn⟩ : ∃ pn, PI.length = pn := ⟨_, rfl⟩
            rw [hpn] at HO1 HOo HVA hPLn ⊢
            clear hkN hdk hrk hPL ho1
            go_wp2_with (at_builtin; refine wpList_append_own_at _ rfl _ _ 72 rfl u 45 ri (.slice none 0 0) 1 24 Try.underlying72 HRI.out.1 HRI.out.2.1 HRI.out.2.2.1 HRI.out.2.2.2 rfl (by decide) _ _ _ rfl (HO1.out.alloc _) ⟨wr.heap.size, 0, none⟩ 1 1 [.slice aq qn cq] rfl rfl ?c1 ?c2 ?c3 ?c4 ?c5 ?_)
            case c1 =>
              intro m z hz
              match m, hz with
              | 0, hz => simp at hz; subst hz; exact (Holds.new wr #[.slice aq qn cq] 45).cell 0
            case c2 => intro z hz; simp at hz; subst hz; rfl
            case c3 => unfold maxLen; omega
            case c4 => omega
            case c5 => simp; omega
            intro v' w9 hown' hgrow _ hat
            have hKb := kb3
            have hwk : Below wr.heap.size wr (wr.alloc (.cells #[.slice aq qn cq] 45)) := (Below.refl _ _).alloc (Nat.le_refl _) _
            have hB9 : Below u w w9 := (hB3.trans (HOK.out.toBelow (by simp) (by omega))).trans ((hwk.mono (by omega)).grown hgrow (by simp; omega) (fun z hz => own_far HO1.out z hz))
            have hd9 : Holds w9 (u + 1) (gridT (doneB (PI ++ [pieceL L c]))) := by
              obtain ⟨tt, htt⟩ := HDK.out.below hwk hdl2
              exact ⟨tt, (hgrow.block (u + 1) (by simp; omega) (fun e => HVA.out e.symm)).trans htt⟩
            have kb9 : Holds w9 b L.cells := held_grown ((HOK.out.holds kb3 (by simp; omega)).below hwk (HOK.out.holds kb3 (by simp; omega)).lt) (own_below HO1.out hwk) hgrow (by omega)
            have hG9 := (own_below HGk.out hwk).kept hgrow (own_kinds (own_below HGk.out hwk) (own_below HO1.out hwk) typesApart.symm)
            have hR9 : RowsAt w9 u v' (hs ++ [.slice aq qn cq]) (rowsOfS PI ++ [flatV (pieceL L c)]) := by
              refine (HOo.out.below hwk).more (by rw [flatV_half, hqn]; exact ownsRow_low (own_below HQ.out hwk) (by omega)) (HO3.out.fresh (B' := s + 1) (by omega) HQ.out) hgrow ?_
              rw [hRL, hpn]
              exact hown'
            have hf9 : ∀ r ∈ hs ++ [Value.slice aq qn cq], ∀ z, r.ownBlock = some z → u + 2 ≤ z := by
              intro r hr z hz
              rcases List.mem_append.1 hr with hr | hr
              · exact HFAR.out r hr z hz
              · simp at hr; subst hr; have := own_far HQ.out z hz; omega
            have hv9 : v'.ownBlock ≠ some (u + 1) := by
              rcases hat with h | h
              · rw [h]; exact HVA.out
              · rw [h]; intro e; cases e; have := HOK.out.size; simp at *; omega
            have hz9 : W2.heap.size ≤ w9.heap.size := Nat.le_trans hz3 (Nat.le_trans HOK.out.size (Nat.le_trans hwk.size hgrow.size))
            have HR9 := Lib.hid hR9
            have HF9 := Lib.hid hf9
            have HV9 := Lib.hid hv9
            have HG9 := Lib.hid hG9
            clear hown' hgrow hat hR9 hf9 hv9 hG9 hwk hKb
            go_wp2_with fail
            go_roundw
            case rel => exact ⟨i + 1, _, by omega, by go_num, by rw [HPN'.out]; unfold rowsOfS; rw [List.map_append]; exact HR9.out, HF9.out, HV9.out, by rw [HPN'.out]; exact hd9, HG9.out, kb9, hB9, hz9⟩
            case measure => simp [intOf]; omega
      · have HPO' := Lib.hid (HPO.out rfl)
        clear HPO HPN
        go_wp2_with fail
        go_region
        have hb1 : Below wr.heap.size wr wr.drew := (Below.refl _ _).drew
        go_wp2_with fail
        go_roundw
        case rel => exact ⟨i + 1, hs, by omega, by go_num, by rw [HPO'.out]; exact HO.out.below hb1, HFAR.out, HVA.out, by rw [HPO'.out]; exact HD.out.below hb1 hdl, own_below HGo.out hb1, kb.below hb1 kb.lt, hB.drew, hz⟩
        case measure => simp [intOf]; omega
    · have hd0 : decide ((i : Int) < (N : Int)) = false := by simp; omega
      have hiN : i = N := by omega
      have HF := Lib.hid (show RowsC wr u _ (rowsOfS (piecesG L G)) from ⟨_, by have := HO.out; rwa [hiN, ← HN.out, List.take_length] at this⟩)
      clear hiN
      go_wp2_with fail
      go_ret
      exact ⟨⟨_, rfl, HF.out⟩, hB⟩

end Go.Proofs.Ytaeenkjbmlgcmaa
