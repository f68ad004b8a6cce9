/- A night of the model. -/
import Derived.Test.YtabemgplddfemaaGreatDoorZN
import Derived.Test.YtabemgplddfemaaGreatDoorZG
import Derived.Test.YtabemgplddfemaaGreatDoorZD
import Derived.Test.YtabemgplddfemaaGreatDoorZR
import Derived.BigQuiet
namespace Go.Proofs.YtabemgplddfemaaGreatDoor
open Go.RowKit Go.Shelf
set_option linter.unusedVariables false
set_option linter.unusedSimpArgs false
attribute [local go_sem ↓] loadRow loadGrid loadLawn loadMirror storeRow storeGrid storeLawn allocRow allocGrid allocLawn buildZero buildSides loadR8 loadL8 loadLv storeR8 storeLv allocR8 allocLv buildZLv

/-- The model's state ahead of a round. -/
def stR (L : Lawn) (g : Nat → Nat → Int) (q bf : Q10) (r : Nat) (b : Q10) : Prop := (r = 0 ∧ b = q) ∨ (r = 1 ∧ b = roundQ L g q bf true q) ∨ (r = 2 ∧ roundQ L g q bf true q = q ∧ b = roundQ L g q bf false q)
theorem stR_case {L : Lawn} (hv : validB L = true) {g : Nat → Nat → Int} {q bf : Q10} {r : Nat} {b : Q10} (h : stR L g q bf r b) :
    (r < 2 ∧ b = q ∧ ∃ ex, ((r : Int) == 0) = ex ∧ stR L g q bf (r + 1) (roundQ L g q bf ex q)) ∨ (b = nextQ L g q bf ∧ ((r = 1 ∧ b ≠ q) ∨ r = 2)) := by
  have hn := rounds_next hv g q bf
  rcases h with ⟨rfl, rfl⟩ | ⟨rfl, rfl⟩ | ⟨rfl, h1, rfl⟩
  · exact .inl ⟨by omega, rfl, true, rfl, .inr (.inl ⟨rfl, rfl⟩)⟩
  · by_cases e : roundQ L g q bf true q = q
    · exact .inl ⟨by omega, e, false, rfl, .inr (.inr ⟨rfl, e, rfl⟩)⟩
    · rw [if_neg e] at hn
      exact .inr ⟨hn, .inl ⟨rfl, e⟩⟩
  · rw [if_pos h1] at hn
    exact .inr ⟨hn, .inr rfl⟩
def clQ (q : Q10) : Array Value := #[.int .i8 q.1.val, .int .i8 q.2.val]
theorem Q10_ne {a b : Q10} (h : a ≠ b) : decide ((a.1.val : Int) = b.1.val) = false ∨ (decide ((a.1.val : Int) = b.1.val) = true ∧ decide ((a.2.val : Int) = b.2.val) = false) := by
  obtain ⟨⟨x, hx⟩, ⟨y, hy⟩⟩ := a
  obtain ⟨⟨x', hx'⟩, ⟨y', hy'⟩⟩ := b
  simp only [ne_eq, Prod.mk.injEq, Fin.mk.injEq] at h
  by_cases e : x = x'
  · exact .inr ⟨by simp [e], by simp; omega⟩
  · exact .inl (by simp; omega)

theorem Q10_neq {a b : Q10} (h : ¬ a = b) : (¬ (a.1.val : Int) = b.1.val) ∨ ((a.1.val : Int) = b.1.val ∧ ¬ (a.2.val : Int) = b.2.val) := by
  rcases Q10_ne h with h | ⟨h1, h2⟩
  · exact .inl (by simpa using h)
  · exact .inr ⟨by simpa using h1, by simpa using h2⟩
theorem onlyDrewN {T : List Nat} {w0 w : World} (h : Only T w0 w) (n : Nat) : Only T w0 (w.drewN n) := ⟨h.os, h.tape, h.output, h.size, h.block⟩
theorem onlyNew {T : List Nat} {p : Nat} {w a b : World} (h1 : Only T w a) (h2 : Only [p] a b) (hp : w.heap.size ≤ p) : Only T w b :=
  ⟨h2.os.trans h1.os, h2.tape.trans h1.tape, h2.output.trans h1.output, Nat.le_trans h1.size h2.size, fun k hk ht => (h2.block k (Nat.lt_of_lt_of_le hk h1.size) (by simp; omega)).trans (h1.block k hk ht)⟩
theorem own_near {w : World} {B : Nat} {e : TypeId} {size n : Nat} {v : Value} {xs : List Value} (h : w.ownsRow B e size v n xs) (k : Nat) (hk : v.ownBlock = some k) : k < w.heap.size := by
  rcases h.2 with ⟨rfl, -⟩ | ⟨g, cap, cur, rfl, hb, hg, -⟩
  · simp [Value.ownBlock] at hk
  · simp only [Value.ownBlock, Option.some.injEq] at hk
    exact hk ▸ (Array.getElem?_eq_some_iff.1 hg).1

set_option maxRecDepth 100000 in
set_option maxHeartbeats 8000000 in
theorem snight_any (L : Lawn) (hL : L.Fits) (g : Nat → Nat → Int) (hv : levB L g = true) (q bf : Q10) (bl bg bm : Nat) (hlg : bl ≠ bg) (hlm : bl ≠ bm) (hgm : bg ≠ bm) (w : World) (kl : Holds w bl L.cells) (kg : Holds w bg (levV g)) (km : Holds w bm (moleV q bf)) :
    Calls Tryz.prog 32 #[.pointer (some ⟨bm, 0, none⟩), .pointer (some ⟨bl, 0, none⟩), .pointer (some ⟨bg, 0, none⟩)] w fun e w' => e = .returned (.tuple #[]) ∧ Holds w' bg (levV (nightG g (nextQ L g q bf))) ∧ Holds w' bm (moleV (nextQ L g q bf) q) ∧ Only [bg, bm] w w' := by
  have hV := (levB_true hv).1
  have HR := Lib.hid (show ∀ y x, y < 10 → x < 10 → -9 ≤ g y x ∧ g y x ≤ 9 from fun y x hy hx => lev_range hv y x hy hx)
  have HBS := Lib.hid (show ∀ w, Holds w bl L.cells → Calls Tryz.prog 55 #[.pointer (some ⟨bl, 0, none⟩), .agg #[.int .i8 q.1.val, .int .i8 q.2.val]] w fun e w' => ∃ v, e = .returned v ∧ w'.ownsRow w.heap.size 30 2 v (besideK L (ptQ q).1 (ptQ q).2 4).length (flatP (besideK L (ptQ q).1 (ptQ q).2 4)) ∧ Below w.heap.size w w' from fun w h => beside_any L hL bl _ _ (by have := q.1.isLt; omega) (by have := q.1.isLt; omega) (by have := q.2.isLt; omega) (by have := q.2.isLt; omega) w h)
  have HGR := Lib.hid (show ∀ (x y : Int), -1 ≤ x → x ≤ 10 → -1 ≤ y → y ≤ 10 → ∀ w, Holds w bl L.cells → Calls Tryz.prog 53 #[.pointer (some ⟨bl, 0, none⟩), .agg #[.int .i8 x, .int .i8 y]] w fun e w' => e = .returned (.bool (grassP L (x, y))) ∧ Below w.heap.size w w' from fun x y x0 x1 y0 y1 w h => grass_any L hV hL bl x y (by omega) (by omega) (by omega) (by omega) w h)
  have HAT := Lib.hid (show ∀ (c : Q10) w, Holds w bg (levV g) → Calls Tryz.prog 56 #[.pointer (some ⟨bg, 0, none⟩), .agg #[.int .i8 c.1.val, .int .i8 c.2.val]] w fun e w' => e = .returned (.int .i64 (g c.2.val c.1.val)) ∧ Below w.heap.size w w' from fun c w h => l06At_any g bg c.1.val c.2.val c.1.isLt c.2.isLt (by have := lev_range hv c.2.val c.1.val c.2.isLt c.1.isLt; omega) w h)
  have HSC := Lib.hid (show ∀ r b, stR L g q bf r b → _ from fun r b h => stR_case hV h)
  have HK : Hid (∀ c ∈ besideK L (ptQ q).1 (ptQ q).2 4, (-1 ≤ c.1 ∧ c.1 ≤ 10) ∧ -1 ≤ c.2 ∧ c.2 ≤ 10) := Lib.hid fun c hc => by
    unfold besideK at hc
    exact beside_in (by have := q.1.isLt; simp only [ptQ]; omega) (by have := q.1.isLt; simp only [ptQ]; omega) (by have := q.2.isLt; simp only [ptQ]; omega) (by have := q.2.isLt; simp only [ptQ]; omega) (List.mem_of_mem_take (List.mem_filter.1 hc).1)
  have HNR := Lib.hid (fun c (h : grassP L c = true) => grassP_near hV c h)
  have HRQ := Lib.hid (show ∀ ex, roundQ L g q bf ex q = (besideK L (ptQ q).1 (ptQ q).2 4).foldl (seeQ L g q bf ex) q from fun ex => rfl)
  have HS0 : Hid (stR L g q bf 0 q) := Lib.hid (.inl ⟨rfl, rfl⟩)
  have hkl := besideK_le L (ptQ q).1 (ptQ q).2 4
  obtain ⟨K, hK⟩ : ∃ K, besideK L (ptQ q).1 (ptQ q).2 4 = K := ⟨_, rfl⟩
  rw [hK] at HBS HK hkl HRQ
  obtain ⟨n, hn⟩ : ∃ n, K.length = n := ⟨_, rfl⟩
  rw [hn] at HBS hkl
  have HKN := Lib.hid hn
  obtain ⟨ST, hST⟩ : ∃ ST, stR L g q bf = ST := ⟨_, rfl⟩
  obtain ⟨RQ, hRQ⟩ : ∃ RQ, (fun ex => roundQ L g q bf ex q) = RQ := ⟨_, rfl⟩
  have hRQ' : ∀ ex, roundQ L g q bf ex q = RQ ex := fun ex => congrFun hRQ ex
  simp only [hST, hRQ'] at HSC HS0 HRQ
  obtain ⟨NX, hNX⟩ : ∃ NX, nextQ L g q bf = NX := ⟨_, rfl⟩
  rw [hNX] at HSC ⊢
  obtain ⟨q1, hq1⟩ : ∃ k : Nat, q.1.val = k := ⟨_, rfl⟩
  obtain ⟨q2, hq2⟩ : ∃ k : Nat, q.2.val = k := ⟨_, rfl⟩
  rw [hq1, hq2] at HBS
  have HQ := Lib.hid (And.intro hq1 hq2)
  clear hK hn hST hRQ hRQ' hNX hV hv hL hq1 hq2
  obtain ⟨s, hs⟩ : ∃ s, w.heap.size = s := ⟨_, rfl⟩
  have hls := kl.lt
  have hgs := kg.lt
  have hms := km.lt
  obtain ⟨-, -, cm, -, -⟩ := km.facts
  have cm0 := (cm 0).trans (show _ = some (.int .i8 q1) by rw [← HQ.out.1]; rfl)
  have cm1 := (cm 1).trans (show _ = some (.int .i8 q2) by rw [← HQ.out.2]; rfl)
  clear cm
  go_enter Tryz.func32, Tryz.ntmps32
  go_wp2_with fail
  refine (HBS.out _ kl).mono ?_
  rintro e w1 ⟨v, rfl, ho, hb1⟩
  rw [hs] at ho
  obtain ⟨av, cv, rfl⟩ := own_slice ho
  obtain ⟨p, hp⟩ : ∃ p, w1.heap.size = p := ⟨_, rfl⟩
  have hsp : s ≤ p := by have := hb1.size; omega
  have jl := kl.below hb1 kl.lt
  have jg := kg.below hb1 kg.lt
  have jm := km.below hb1 km.lt
  have hO1 : Only [bg, bm] w w1 := Only.ofBelow (T := [bg, bm]) hb1
  clear cm0 cm1 kl kg km hb1
  obtain ⟨-, -, cm, -, lm⟩ := jm.facts
  have cm0 := (cm 0).trans (show _ = some (.int .i8 q1) by rw [← HQ.out.1]; rfl)
  have cm1 := (cm 1).trans (show _ = some (.int .i8 q2) by rw [← HQ.out.2]; rfl)
  clear cm
  obtain ⟨W2, hW2⟩ : ∃ W2, w1.alloc (.cells #[.int .i8 q1, .int .i8 q2] 30) = W2 := ⟨_, rfl⟩
  have ml : Holds W2 bl L.cells := by rw [← hW2]; exact jl.alloc _
  have mg : Holds W2 bg (levV g) := by rw [← hW2]; exact jg.alloc _
  have mm : Holds W2 bm (moleV q bf) := by rw [← hW2]; exact jm.alloc _
  have mp : Holds W2 p (clQ q) := by rw [← hW2]; unfold clQ; rw [HQ.out.1, HQ.out.2]; exact Holds.new' _ _ _ _ hp.symm
  have HO2 : Hid (W2.ownsRow s 30 2 (.slice av n cv) n (flatP K)) := Lib.hid (by rw [← hW2]; exact ho.alloc _)
  have HO1 : Hid (Only [bg, bm] w W2) := Lib.hid (by rw [← hW2]; exact hO1.alloc _)
  have HFR : Hid (∀ z, (Value.slice av n cv).ownBlock = some z → z ≠ p) := Lib.hid fun z hz => by have := own_near ho z hz; omega
  clear ho hO1 jl jg jm
  go_wp2_with fail
  try rw [hp]
  try rw [hW2]
  clear hW2 cm0 cm1 lm
  go_loopw [8] (fun x wr => ∃ (r : Nat) (b : Q10), x = .int .i64 r ∧ ST r b ∧ Holds wr p (clQ b) ∧ Only [p] W2 wr) (fun x _ => 3 - (intOf x).toNat)
  case atStart => exact ⟨0, q, rfl, HS0.out, mp, Only.refl _ _⟩
  case round =>
    obtain ⟨r, b, rfl, hst, hp1, hO⟩ := hrel
    have nl := hO.holds ml (by simp <;> omega)
    have ng := hO.holds mg (by simp <;> omega)
    have nm := hO.holds mm (by simp <;> omega)
    have HO3 := Lib.hid hO
    have cb0 := (hp1.cell 0).trans (show _ = some (.int .i8 b.1.val) from rfl)
    have cb1 := (hp1.cell 1).trans (show _ = some (.int .i8 b.2.val) from rfl)
    have lb := hp1.lt
    have cm0 := (nm.cell 0).trans (show _ = some (.int .i8 q1) by rw [← HQ.out.1]; rfl)
    have cm1 := (nm.cell 1).trans (show _ = some (.int .i8 q2) by rw [← HQ.out.2]; rfl)
    have lm := nm.lt
    rcases HSC.out r b hst with ⟨hr2, hbq, ex, hex, hst1⟩ | ⟨hbn, hcase⟩
    · rw [hbq] at cb0 cb1
      rw [HQ.out.1] at cb0
      rw [HQ.out.2] at cb1
      have hd : decide ((r : Int) < 2) = true := by simp; omega
      have HST := Lib.hid hst1
      clear hst hst1 hO HSC
      go_wp2_with fail
      go_quiet (fail)
      go_wp2_with fail
      rw [hbq] at hp1
      have HRX := Lib.hid (HRQ.out ex)
      obtain ⟨F, hF⟩ : ∃ F : Nat → Q10, (fun i => (K.take i).foldl (seeQ L g q bf ex) q) = F := ⟨_, rfl⟩
      have HF0 : Hid (F 0 = q) := Lib.hid (by rw [← hF]; rfl)
      have HFN : Hid (F n = RQ ex) := Lib.hid (by rw [HRX.out, ← hF]; show (K.take n).foldl _ _ = _; rw [List.take_of_length_le (by have := HKN.out; omega)])
      have HFS := Lib.hid (show ∀ i c, K[i]? = some c → F (i + 1) = seeQ L g q bf ex (F i) c from fun i c h => by
        rw [← hF]
        show (K.take (i + 1)).foldl _ _ = _
        rw [List.take_add_one, h, Option.toList_some, List.foldl_append]
        rfl)
      clear hF HRX hd hbq nl ng nm cb0 cb1 lb cm0 cm1 lm HRQ
      go_loopw [9] (fun x wr => ∃ i : Nat, i ≤ n ∧ x = .int .i64 i ∧ Holds wr p (clQ (F i)) ∧ Only [p] W2 wr) (fun x _ => n - (intOf x).toNat)
      case atStart => exact ⟨0, by omega, rfl, by rw [HF0.out]; exact hp1.drewN _, onlyDrewN HO3.out _⟩
      case round =>
        obtain ⟨i, hi, rfl, hp2, hO⟩ := hrel
        clear hp1 HO3 HF0
        by_cases hlt : i < n
        · have hd : decide ((i : Int) < (n : Int)) = true := by simp; omega
          obtain ⟨⟨cx, cy⟩, hc⟩ : ∃ c, K[i]? = some c := ⟨_, List.getElem?_eq_getElem (by rw [HKN.out]; exact hlt)⟩
          have hcr := HK.out _ (List.mem_of_getElem? hc)
          dsimp only at hcr
          have HFC := Lib.hid (HFS.out i _ hc)
          have nl := hO.holds ml (by simp <;> omega)
          have ng := hO.holds mg (by simp <;> omega)
          have nm := hO.holds mm (by simp <;> omega)
          have oa := hO.own HO2.out (fun z hz => by have := HFR.out z hz; simpa using this)
          obtain ⟨ga, cap, he, hBg, hgw⟩ := own_form oa (by omega)
          simp only [Value.slice.injEq, true_and] at he
          obtain ⟨rfl, rfl⟩ := he
          obtain ⟨fa, fb⟩ := flatP_get _ _ _ hc
          have FX := Lib.hid (show ∀ w', Below wr.heap.size wr w' → w'.cell? ⟨ga, i * 2, none⟩ = some (.int .i8 cx) ∧ w'.cell? ⟨ga, i * 2 + 1, none⟩ = some (.int .i8 cy) from fun w' hw' => ⟨own_cell (own_below oa hw') _ _ fa, own_cell (own_below oa hw') _ _ fb⟩)
          have HO4 := Lib.hid hO
          have HGC := Lib.hid (show ∀ w, Holds w bl L.cells → _ from HGR.out cx cy hcr.1.1 hcr.1.2 hcr.2.1 hcr.2.2)
          have HNC := Lib.hid (HNR.out (cx, cy))
          obtain ⟨B, hB⟩ : ∃ B, F i = B := ⟨_, rfl⟩
          obtain ⟨B', hB'⟩ : ∃ B', F (i + 1) = B' := ⟨_, rfl⟩
          rw [hB] at hp2 HFC
          rw [hB'] at HFC
          have HBB := Lib.hid hB'
          obtain ⟨gg, hgg⟩ : ∃ gg, grassP L (cx, cy) = gg := ⟨_, rfl⟩
          rw [hgg] at HGC
          have HGG := Lib.hid hgg
          clear hc hB hB' oa fa fb hO hgg HGR HNR HFN HFS HK
          go_wp2_with fail
          refine wp_region_grow 21 (by kernel_rfl) (by kernel_rfl) ?_
          simp only [List.take_succ_cons, List.take_zero, List.drop_succ_cons, List.drop_zero]
          iterate 8
            apply wpGrow_plain rfl
            · intro w' hw' K hK
              obtain ⟨f1, f2⟩ := FX.out _ hw'
              have e1 := nl.below hw' nl.lt
              go_wp2_with (go_at_call 53; with_reducible refine (HGC.out _ e1).mono ?_; rintro e w1 ⟨rfl, hb1⟩)
              first | exact hK _ _ rfl hw' | exact hK _ _ rfl (below_onto hw' hb1)
            simp only [Act.put, List.setIfInBounds_toArray, List.set_cons_succ, List.set_cons_zero]
          cases gg
          case false =>
            iterate 13
              apply wpGrow_off rfl
              simp only [Act.put, List.setIfInBounds_toArray, List.set_cons_succ, List.set_cons_zero]
            refine wpGrow_nil ?_
            intro W3 hW3
            have hp3 := hp2.below hW3 hp2.lt
            have hO5 := HO4.out.onto hW3
            have HEQ := Lib.hid (show B' = B by rw [HFC.out]; unfold seeQ; rw [HGG.out]; simp)
            clear hW3 hp2 nl ng nm FX
            go_wp2_with fail
            go_roundw
            case rel => exact ⟨i + 1, by omega, by go_num, by rw [HBB.out, HEQ.out]; exact hp3, hO5⟩
            case measure => simp [intOf]; omega
          case true =>
            have hcr2 := HNC.out HGG.out
            obtain ⟨x, rfl⟩ : ∃ k : Nat, cx = k := ⟨cx.toNat, by omega⟩
            obtain ⟨y, rfl⟩ : ∃ k : Nat, cy = k := ⟨cy.toNat, by omega⟩
            have hx10 : x < 10 := by omega
            have hy10 : y < 10 := by omega
            have HEX := Lib.hid hex
            apply wpGrow_on rfl
            · intro w' hw' K hK
              go_wp2_with fail
              exact hK _ _ rfl hw'
            simp only [Act.put, List.setIfInBounds_toArray, List.set_cons_succ, List.set_cons_zero]
            refine wpGrow_on (v := .bool ex) rfl ?_ ?_
            · intro w' hw' K hK
              have hex := HEX.out
              go_wp2_with fail
              exact hK _ _ rfl hw'
            simp only [Act.put, List.setIfInBounds_toArray, List.set_cons_succ, List.set_cons_zero]
            apply wpGrow_on rfl
            · intro w' hw' K hK
              go_wp2_with fail
              exact hK _ _ rfl hw'
            simp only [Act.put, List.setIfInBounds_toArray, List.set_cons_succ, List.set_cons_zero]
            clear hex
            obtain ⟨bu, hbu⟩ : ∃ bu : Nat, bf.1.val = bu := ⟨_, rfl⟩
            obtain ⟨bv, hbv⟩ : ∃ bv : Nat, bf.2.val = bv := ⟨_, rfl⟩
            have HBU := Lib.hid (And.intro hbu hbv)
            clear hbu hbv
            obtain ⟨bu, hbu⟩ : ∃ bu : Nat, bf.1.val = bu := ⟨_, rfl⟩
            obtain ⟨bv, hbv⟩ : ∃ bv : Nat, bf.2.val = bv := ⟨_, rfl⟩
            have HBU := Lib.hid (And.intro hbu hbv)
            clear hbu hbv
            obtain ⟨bu, hbu⟩ : ∃ bu : Nat, bf.1.val = bu := ⟨_, rfl⟩
            obtain ⟨bv, hbv⟩ : ∃ bv : Nat, bf.2.val = bv := ⟨_, rfl⟩
            have HBU := Lib.hid (And.intro hbu hbv)
            clear hbu hbv
            obtain ⟨bu, hbu⟩ : ∃ bu : Nat, bf.1.val = bu := ⟨_, rfl⟩
            obtain ⟨bv, hbv⟩ : ∃ bv : Nat, bf.2.val = bv := ⟨_, rfl⟩
            have HBU := Lib.hid (And.intro hbu hbv)
            clear hbu hbv
            cases ex
            case true =>
              iterate 8
                apply wpGrow_on rfl
                · intro w' hw' K hK
                  obtain ⟨f1, f2⟩ := FX.out _ hw'
                  have e1 := nm.below hw' nm.lt
                  have c2 := (e1.cell 2).trans (show _ = some (.int .i8 bu) by rw [← HBU.out.1]; rfl)
                  have c3 := (e1.cell 3).trans (show _ = some (.int .i8 bv) by rw [← HBU.out.2]; rfl)
                  have l2 := e1.lt
                  go_wp2_with fail
                  exact hK _ _ rfl hw'
                simp only [Act.put, List.setIfInBounds_toArray, List.set_cons_succ, List.set_cons_zero]
              obtain ⟨d, hd1⟩ : ∃ d, decide (x = bu ∧ y = bv) = d := ⟨_, rfl⟩
              have HD := Lib.hid hd1
              clear hd1
              refine wpGrow_on (v := .bool d) rfl ?_ ?_
              · intro w' hw' K hK
                by_cases h1 : x = bu
                · by_cases h2 : y = bv
                  · have hdd : d = true := by rw [← HD.out]; simp [h1, h2]
                    subst hdd; subst h1; subst h2
                    go_wp2_with fail
                    exact hK _ _ rfl hw'
                  · have hdd : d = false := by rw [← HD.out]; simp [h1, h2]
                    have h3 : ¬ (y : Int) = bv := by omega
                    have h4 : ¬ (bv : Int) = y := by omega
                    subst hdd; subst h1
                    go_wp2_with fail
                    exact hK _ _ rfl hw'
                · have hdd : d = false := by rw [← HD.out]; simp [h1]
                  have h3 : ¬ (x : Int) = bu := by omega
                  have h4 : ¬ (bu : Int) = x := by omega
                  subst hdd
                  go_wp2_with fail
                  exact hK _ _ rfl hw'
              simp only [Act.put, List.setIfInBounds_toArray, List.set_cons_succ, List.set_cons_zero]
              refine wpGrow_on (v := .bool d) rfl ?_ ?_
              · intro w' hw' K hK
                go_wp2_with fail
                exact hK _ _ rfl hw'
              simp only [Act.put, List.setIfInBounds_toArray, List.set_cons_succ, List.set_cons_zero]
              cases d
              case true =>
                have HEQ := Lib.hid (show B' = B by
                  have h := HD.out
                  simp only [decide_eq_true_eq] at h
                  rw [HFC.out]; unfold seeQ ptQ; rw [HBU.out.1, HBU.out.2, h.1, h.2]; simp)
                refine wpGrow_nil ?_
                intro W3 hW3
                have hp3 := hp2.below hW3 hp2.lt
                have hO5 := HO4.out.onto hW3
                clear hW3 hp2 nl ng nm FX
                go_wp2_with fail
                go_roundw
                case rel => exact ⟨i + 1, by omega, by go_num, by rw [HBB.out, HEQ.out]; exact hp3, hO5⟩
                case measure => simp [intOf]; omega
              case false =>
                have HSE := Lib.hid (show B' = if B = q ∨ ltQ g (toQ ((x : Int), (y : Int))) B = true then toQ ((x : Int), (y : Int)) else B by
                  have h := HD.out
                  simp only [decide_eq_false_iff_not] at h
                  have h2 : (((x : Int), (y : Int)) == ptQ bf) = false := by
                    simp only [beq_eq_false_iff_ne, ne_eq, ptQ, Prod.mk.injEq]
                    rw [HBU.out.1, HBU.out.2]
                    omega
                  rw [HFC.out]; unfold seeQ; rw [HGG.out, h2]; simp)
                refine wpGrow_nil ?_
                intro W3 hW3
                have hp3 := hp2.below hW3 hp2.lt
                have nl3 := nl.below hW3 nl.lt
                have ng3 := ng.below hW3 ng.lt
                have nm3 := nm.below hW3 nm.lt
                have FX := Lib.hid (show ∀ w', Below W3.heap.size W3 w' → w'.cell? ⟨ga, i * 2, none⟩ = some (.int .i8 x) ∧ w'.cell? ⟨ga, i * 2 + 1, none⟩ = some (.int .i8 y) from fun w' hw' => FX.out w' (below_onto hW3 hw'))
                have HO5 := Lib.hid (HO4.out.onto hW3)
                clear hW3 hp2 nl ng nm HO4
                obtain ⟨b1, hb1⟩ : ∃ k : Nat, B.1.val = k := ⟨_, rfl⟩
                obtain ⟨b2, hb2⟩ : ∃ k : Nat, B.2.val = k := ⟨_, rfl⟩
                have HB12 := Lib.hid (And.intro hb1 hb2)
                clear hb1 hb2
                go_wp2_with fail
                refine wp_region_grow 17 (by kernel_rfl) (by kernel_rfl) ?_
                simp only [List.take_succ_cons, List.take_zero, List.drop_succ_cons, List.drop_zero]
                iterate 5
                  apply wpGrow_plain rfl
                  · intro w' hw' K hK
                    have e1 := hp3.below hw' hp3.lt
                    have c0 := (e1.cell 0).trans (show _ = some (.int .i8 b1) by rw [← HB12.out.1]; rfl)
                    have c1 := (e1.cell 1).trans (show _ = some (.int .i8 b2) by rw [← HB12.out.2]; rfl)
                    have l1 := e1.lt
                    have e2 := nm3.below hw' nm3.lt
                    have c2 := (e2.cell 0).trans (show _ = some (.int .i8 q1) by rw [← HQ.out.1]; rfl)
                    have c3 := (e2.cell 1).trans (show _ = some (.int .i8 q2) by rw [← HQ.out.2]; rfl)
                    have l2 := e2.lt
                    clear e1 e2
                    go_wp2_with fail
                    exact hK _ _ rfl hw'
                  simp only [Act.put, List.setIfInBounds_toArray, List.set_cons_succ, List.set_cons_zero]
                obtain ⟨e, he⟩ : ∃ e, decide (b1 = q1 ∧ b2 = q2) = e := ⟨_, rfl⟩
                have HE := Lib.hid he
                clear he
                refine wpGrow_plain (v := .bool e) rfl ?_ ?_
                · intro w' hw' K hK
                  by_cases h1 : b1 = q1
                  · by_cases h2 : b2 = q2
                    · have hdd : e = true := by rw [← HE.out]; simp [h1, h2]
                      subst hdd; subst h1; subst h2
                      go_wp2_with fail
                      exact hK _ _ rfl hw'
                    · have hdd : e = false := by rw [← HE.out]; simp [h1, h2]
                      have h3 : ¬ (b2 : Int) = q2 := by omega
                      have h4 : ¬ (q2 : Int) = b2 := by omega
                      subst hdd; subst h1
                      go_wp2_with fail
                      exact hK _ _ rfl hw'
                  · have hdd : e = false := by rw [← HE.out]; simp [h1]
                    have h3 : ¬ (b1 : Int) = q1 := by omega
                    have h4 : ¬ (q1 : Int) = b1 := by omega
                    subst hdd
                    go_wp2_with fail
                    exact hK _ _ rfl hw'
                simp only [Act.put, List.setIfInBounds_toArray, List.set_cons_succ, List.set_cons_zero]
                apply wpGrow_plain rfl
                · intro w' hw' K hK
                  go_wp2_with fail
                  exact hK _ _ rfl hw'
                simp only [Act.put, List.setIfInBounds_toArray, List.set_cons_succ, List.set_cons_zero]
                have HTQ : Hid (toQ ((x : Int), (y : Int)) = (⟨x, hx10⟩, ⟨y, hy10⟩)) := Lib.hid (toQ_ptQ ((⟨x, hx10⟩, ⟨y, hy10⟩) : Q10))
                cases e
                case true =>
                  have HEQ := Lib.hid (show B' = toQ ((x : Int), (y : Int)) by
                    have h := HE.out
                    simp only [decide_eq_true_eq] at h
                    have hB : B = q := Prod.ext (Fin.ext (by rw [HB12.out.1, HQ.out.1]; exact h.1)) (Fin.ext (by rw [HB12.out.2, HQ.out.2]; exact h.2))
                    rw [HSE.out, if_pos (.inl hB)])
                  iterate 10
                    apply wpGrow_off rfl
                    simp only [Act.put, List.setIfInBounds_toArray, List.set_cons_succ, List.set_cons_zero]
                  refine wpGrow_nil ?_
                  intro W4 hW4
                  have hp4 := hp3.below hW4 hp3.lt
                  have cp0 := (hp4.cell 0).trans (show _ = some (.int .i8 B.1.val) from rfl)
                  have cp1 := (hp4.cell 1).trans (show _ = some (.int .i8 B.2.val) from rfl)
                  have zp0 := hp4.free 0
                  have zp1 := hp4.free 1
                  have lp := hp4.lt
                  obtain ⟨f1, f2⟩ := FX.out W4 hW4
                  have hO6 := ((HO5.out.onto hW4).setCell (a := ⟨p, 0, none⟩) (.inl (by simp)) (.int .i8 (x : Int))).setCell (a := ⟨p, 1, none⟩) (.inl (by simp)) (.int .i8 (y : Int))
                  have hp5 : Holds ((W4.setCell ⟨p, 0, none⟩ (.int .i8 (x : Int))).setCell ⟨p, 1, none⟩ (.int .i8 (y : Int))) p (clQ B') := by rw [HEQ.out, HTQ.out]; exact (hp4.setCell 0 _).setCell 1 _
                  clear FX hW4 hp4 hp3 nl3 ng3 nm3
                  go_wp2_with fail
                  go_roundw
                  case rel => exact ⟨i + 1, by omega, by go_num, by rw [HBB.out]; exact hp5, hO6⟩
                  case measure => simp [intOf]; omega
                case false =>
                  have HA1 := Lib.hid (show ∀ w, Holds w bg (levV g) → Calls Tryz.prog 56 #[.pointer (some ⟨bg, 0, none⟩), .agg #[.int .i8 x, .int .i8 y]] w fun e w' => e = .returned (.int .i64 (g y x)) ∧ Below w.heap.size w w' from HAT.out (⟨x, hx10⟩, ⟨y, hy10⟩))
                  have HA2 := Lib.hid (show ∀ w, Holds w bg (levV g) → Calls Tryz.prog 56 #[.pointer (some ⟨bg, 0, none⟩), .agg #[.int .i8 b1, .int .i8 b2]] w fun e w' => e = .returned (.int .i64 (g b2 b1)) ∧ Below w.heap.size w w' from by
                    have h := HAT.out B
                    rw [HB12.out.1, HB12.out.2] at h
                    exact h)
                  obtain ⟨z1, hz1⟩ : ∃ z, g y x = z := ⟨_, rfl⟩
                  obtain ⟨z2, hz2⟩ : ∃ z, g b2 b1 = z := ⟨_, rfl⟩
                  obtain ⟨l, hll⟩ : ∃ l, decide (z1 < z2) = l := ⟨_, rfl⟩
                  have HLT := Lib.hid (show B' = if l then toQ ((x : Int), (y : Int)) else B by
                    have h := HE.out
                    simp only [decide_eq_false_iff_not] at h
                    have hB : ¬ B = q := fun hB => h ⟨by rw [← HB12.out.1, ← HQ.out.1, hB], by rw [← HB12.out.2, ← HQ.out.2, hB]⟩
                    have hL : ltQ g (toQ ((x : Int), (y : Int))) B = l := by
                      rw [HTQ.out]
                      unfold ltQ
                      rw [HB12.out.1, HB12.out.2, hz2]
                      show decide (g y x < z2) = l
                      rw [hz1, hll]
                    rw [HSE.out, hL]
                    simp only [hB, false_or])
                  rw [hz1] at HA1
                  rw [hz2] at HA2
                  clear hz1 hz2
                  have HLL := Lib.hid hll
                  clear hll
                  iterate 9
                    apply wpGrow_on rfl
                    · intro w' hw' K hK
                      obtain ⟨f1, f2⟩ := FX.out _ hw'
                      have e1 := hp3.below hw' hp3.lt
                      have c0 := (e1.cell 0).trans (show _ = some (.int .i8 b1) by rw [← HB12.out.1]; rfl)
                      have c1 := (e1.cell 1).trans (show _ = some (.int .i8 b2) by rw [← HB12.out.2]; rfl)
                      have l1 := e1.lt
                      have e2 := ng3.below hw' ng3.lt
                      clear e1
                      go_wp2_with (first | (go_at_call 56; with_reducible refine (HA1.out _ e2).mono ?_; rintro e w1 ⟨rfl, hb1⟩) | (go_at_call 56; with_reducible refine (HA2.out _ e2).mono ?_; rintro e w1 ⟨rfl, hb1⟩))
                      first | exact hK _ _ rfl hw' | exact hK _ _ rfl (below_onto hw' hb1)
                    simp only [Act.put, List.setIfInBounds_toArray, List.set_cons_succ, List.set_cons_zero]
                  refine wpGrow_on (v := .bool l) rfl ?_ ?_
                  · intro w' hw' K hK
                    have hll := HLL.out
                    go_wp2_with fail
                    exact hK _ _ rfl hw'
                  simp only [Act.put, List.setIfInBounds_toArray, List.set_cons_succ, List.set_cons_zero]
                  refine wpGrow_nil ?_
                  intro W4 hW4
                  cases l
                  case true =>
                    have HEQ := Lib.hid (show B' = toQ ((x : Int), (y : Int)) by rw [HLT.out, if_pos rfl])
                    have hp4 := hp3.below hW4 hp3.lt
                    have cp0 := (hp4.cell 0).trans (show _ = some (.int .i8 B.1.val) from rfl)
                    have cp1 := (hp4.cell 1).trans (show _ = some (.int .i8 B.2.val) from rfl)
                    have zp0 := hp4.free 0
                    have zp1 := hp4.free 1
                    have lp := hp4.lt
                    obtain ⟨f1, f2⟩ := FX.out W4 hW4
                    have hO6 := ((HO5.out.onto hW4).setCell (a := ⟨p, 0, none⟩) (.inl (by simp)) (.int .i8 (x : Int))).setCell (a := ⟨p, 1, none⟩) (.inl (by simp)) (.int .i8 (y : Int))
                    have hp5 : Holds ((W4.setCell ⟨p, 0, none⟩ (.int .i8 (x : Int))).setCell ⟨p, 1, none⟩ (.int .i8 (y : Int))) p (clQ B') := by rw [HEQ.out, HTQ.out]; exact (hp4.setCell 0 _).setCell 1 _
                    clear FX hW4 hp4 hp3 nl3 ng3 nm3
                    go_wp2_with fail
                    go_roundw
                    case rel => exact ⟨i + 1, by omega, by go_num, by rw [HBB.out]; exact hp5, hO6⟩
                    case measure => simp [intOf]; omega
                  case false =>
                    have HEQ := Lib.hid (show B' = B by rw [HLT.out]; simp)
                    have hp4 := hp3.below hW4 hp3.lt
                    have hO6 := HO5.out.onto hW4
                    clear FX hW4 hp3 nl3 ng3 nm3
                    go_wp2_with fail
                    go_roundw
                    case rel => exact ⟨i + 1, by omega, by go_num, by rw [HBB.out, HEQ.out]; exact hp4, hO6⟩
                    case measure => simp [intOf]; omega
            case false =>
              iterate 9
                apply wpGrow_off rfl
                simp only [Act.put, List.setIfInBounds_toArray, List.set_cons_succ, List.set_cons_zero]
              refine wpGrow_on (v := .bool false) rfl ?_ ?_
              · intro w' hw' K hK
                go_wp2_with fail
                exact hK _ _ rfl hw'
              simp only [Act.put, List.setIfInBounds_toArray, List.set_cons_succ, List.set_cons_zero]
              have HSE := Lib.hid (show B' = if B = q ∨ ltQ g (toQ ((x : Int), (y : Int))) B = true then toQ ((x : Int), (y : Int)) else B by
                rw [HFC.out]; unfold seeQ; rw [HGG.out]; simp)
              refine wpGrow_nil ?_
              intro W3 hW3
              have hp3 := hp2.below hW3 hp2.lt
              have nl3 := nl.below hW3 nl.lt
              have ng3 := ng.below hW3 ng.lt
              have nm3 := nm.below hW3 nm.lt
              have FX := Lib.hid (show ∀ w', Below W3.heap.size W3 w' → w'.cell? ⟨ga, i * 2, none⟩ = some (.int .i8 x) ∧ w'.cell? ⟨ga, i * 2 + 1, none⟩ = some (.int .i8 y) from fun w' hw' => FX.out w' (below_onto hW3 hw'))
              have HO5 := Lib.hid (HO4.out.onto hW3)
              clear hW3 hp2 nl ng nm HO4
              obtain ⟨b1, hb1⟩ : ∃ k : Nat, B.1.val = k := ⟨_, rfl⟩
              obtain ⟨b2, hb2⟩ : ∃ k : Nat, B.2.val = k := ⟨_, rfl⟩
              have HB12 := Lib.hid (And.intro hb1 hb2)
              clear hb1 hb2
              go_wp2_with fail
              refine wp_region_grow 17 (by kernel_rfl) (by kernel_rfl) ?_
              simp only [List.take_succ_cons, List.take_zero, List.drop_succ_cons, List.drop_zero]
              iterate 5
                apply wpGrow_plain rfl
                · intro w' hw' K hK
                  have e1 := hp3.below hw' hp3.lt
                  have c0 := (e1.cell 0).trans (show _ = some (.int .i8 b1) by rw [← HB12.out.1]; rfl)
                  have c1 := (e1.cell 1).trans (show _ = some (.int .i8 b2) by rw [← HB12.out.2]; rfl)
                  have l1 := e1.lt
                  have e2 := nm3.below hw' nm3.lt
                  have c2 := (e2.cell 0).trans (show _ = some (.int .i8 q1) by rw [← HQ.out.1]; rfl)
                  have c3 := (e2.cell 1).trans (show _ = some (.int .i8 q2) by rw [← HQ.out.2]; rfl)
                  have l2 := e2.lt
                  clear e1 e2
                  go_wp2_with fail
                  exact hK _ _ rfl hw'
                simp only [Act.put, List.setIfInBounds_toArray, List.set_cons_succ, List.set_cons_zero]
              obtain ⟨e, he⟩ : ∃ e, decide (b1 = q1 ∧ b2 = q2) = e := ⟨_, rfl⟩
              have HE := Lib.hid he
              clear he
              refine wpGrow_plain (v := .bool e) rfl ?_ ?_
              · intro w' hw' K hK
                by_cases h1 : b1 = q1
                · by_cases h2 : b2 = q2
                  · have hdd : e = true := by rw [← HE.out]; simp [h1, h2]
                    subst hdd; subst h1; subst h2
                    go_wp2_with fail
                    exact hK _ _ rfl hw'
                  · have hdd : e = false := by rw [← HE.out]; simp [h1, h2]
                    have h3 : ¬ (b2 : Int) = q2 := by omega
                    have h4 : ¬ (q2 : Int) = b2 := by omega
                    subst hdd; subst h1
                    go_wp2_with fail
                    exact hK _ _ rfl hw'
                · have hdd : e = false := by rw [← HE.out]; simp [h1]
                  have h3 : ¬ (b1 : Int) = q1 := by omega
                  have h4 : ¬ (q1 : Int) = b1 := by omega
                  subst hdd
                  go_wp2_with fail
                  exact hK _ _ rfl hw'
              simp only [Act.put, List.setIfInBounds_toArray, List.set_cons_succ, List.set_cons_zero]
              apply wpGrow_plain rfl
              · intro w' hw' K hK
                go_wp2_with fail
                exact hK _ _ rfl hw'
              simp only [Act.put, List.setIfInBounds_toArray, List.set_cons_succ, List.set_cons_zero]
              have HTQ : Hid (toQ ((x : Int), (y : Int)) = (⟨x, hx10⟩, ⟨y, hy10⟩)) := Lib.hid (toQ_ptQ ((⟨x, hx10⟩, ⟨y, hy10⟩) : Q10))
              cases e
              case true =>
                have HEQ := Lib.hid (show B' = toQ ((x : Int), (y : Int)) by
                  have h := HE.out
                  simp only [decide_eq_true_eq] at h
                  have hB : B = q := Prod.ext (Fin.ext (by rw [HB12.out.1, HQ.out.1]; exact h.1)) (Fin.ext (by rw [HB12.out.2, HQ.out.2]; exact h.2))
                  rw [HSE.out, if_pos (.inl hB)])
                iterate 10
                  apply wpGrow_off rfl
                  simp only [Act.put, List.setIfInBounds_toArray, List.set_cons_succ, List.set_cons_zero]
                refine wpGrow_nil ?_
                intro W4 hW4
                have hp4 := hp3.below hW4 hp3.lt
                have cp0 := (hp4.cell 0).trans (show _ = some (.int .i8 B.1.val) from rfl)
                have cp1 := (hp4.cell 1).trans (show _ = some (.int .i8 B.2.val) from rfl)
                have zp0 := hp4.free 0
                have zp1 := hp4.free 1
                have lp := hp4.lt
                obtain ⟨f1, f2⟩ := FX.out W4 hW4
                have hO6 := ((HO5.out.onto hW4).setCell (a := ⟨p, 0, none⟩) (.inl (by simp)) (.int .i8 (x : Int))).setCell (a := ⟨p, 1, none⟩) (.inl (by simp)) (.int .i8 (y : Int))
                have hp5 : Holds ((W4.setCell ⟨p, 0, none⟩ (.int .i8 (x : Int))).setCell ⟨p, 1, none⟩ (.int .i8 (y : Int))) p (clQ B') := by rw [HEQ.out, HTQ.out]; exact (hp4.setCell 0 _).setCell 1 _
                clear FX hW4 hp4 hp3 nl3 ng3 nm3
                go_wp2_with fail
                go_roundw
                case rel => exact ⟨i + 1, by omega, by go_num, by rw [HBB.out]; exact hp5, hO6⟩
                case measure => simp [intOf]; omega
              case false =>
                have HA1 := Lib.hid (show ∀ w, Holds w bg (levV g) → Calls Tryz.prog 56 #[.pointer (some ⟨bg, 0, none⟩), .agg #[.int .i8 x, .int .i8 y]] w fun e w' => e = .returned (.int .i64 (g y x)) ∧ Below w.heap.size w w' from HAT.out (⟨x, hx10⟩, ⟨y, hy10⟩))
                have HA2 := Lib.hid (show ∀ w, Holds w bg (levV g) → Calls Tryz.prog 56 #[.pointer (some ⟨bg, 0, none⟩), .agg #[.int .i8 b1, .int .i8 b2]] w fun e w' => e = .returned (.int .i64 (g b2 b1)) ∧ Below w.heap.size w w' from by
                  have h := HAT.out B
                  rw [HB12.out.1, HB12.out.2] at h
                  exact h)
                obtain ⟨z1, hz1⟩ : ∃ z, g y x = z := ⟨_, rfl⟩
                obtain ⟨z2, hz2⟩ : ∃ z, g b2 b1 = z := ⟨_, rfl⟩
                obtain ⟨l, hll⟩ : ∃ l, decide (z1 < z2) = l := ⟨_, rfl⟩
                have HLT := Lib.hid (show B' = if l then toQ ((x : Int), (y : Int)) else B by
                  have h := HE.out
                  simp only [decide_eq_false_iff_not] at h
                  have hB : ¬ B = q := fun hB => h ⟨by rw [← HB12.out.1, ← HQ.out.1, hB], by rw [← HB12.out.2, ← HQ.out.2, hB]⟩
                  have hL : ltQ g (toQ ((x : Int), (y : Int))) B = l := by
                    rw [HTQ.out]
                    unfold ltQ
                    rw [HB12.out.1, HB12.out.2, hz2]
                    show decide (g y x < z2) = l
                    rw [hz1, hll]
                  rw [HSE.out, hL]
                  simp only [hB, false_or])
                rw [hz1] at HA1
                rw [hz2] at HA2
                clear hz1 hz2
                have HLL := Lib.hid hll
                clear hll
                iterate 9
                  apply wpGrow_on rfl
                  · intro w' hw' K hK
                    obtain ⟨f1, f2⟩ := FX.out _ hw'
                    have e1 := hp3.below hw' hp3.lt
                    have c0 := (e1.cell 0).trans (show _ = some (.int .i8 b1) by rw [← HB12.out.1]; rfl)
                    have c1 := (e1.cell 1).trans (show _ = some (.int .i8 b2) by rw [← HB12.out.2]; rfl)
                    have l1 := e1.lt
                    have e2 := ng3.below hw' ng3.lt
                    clear e1
                    go_wp2_with (first | (go_at_call 56; with_reducible refine (HA1.out _ e2).mono ?_; rintro e w1 ⟨rfl, hb1⟩) | (go_at_call 56; with_reducible refine (HA2.out _ e2).mono ?_; rintro e w1 ⟨rfl, hb1⟩))
                    first | exact hK _ _ rfl hw' | exact hK _ _ rfl (below_onto hw' hb1)
                  simp only [Act.put, List.setIfInBounds_toArray, List.set_cons_succ, List.set_cons_zero]
                refine wpGrow_on (v := .bool l) rfl ?_ ?_
                · intro w' hw' K hK
                  have hll := HLL.out
                  go_wp2_with fail
                  exact hK _ _ rfl hw'
                simp only [Act.put, List.setIfInBounds_toArray, List.set_cons_succ, List.set_cons_zero]
                refine wpGrow_nil ?_
                intro W4 hW4
                cases l
                case true =>
                  have HEQ := Lib.hid (show B' = toQ ((x : Int), (y : Int)) by rw [HLT.out, if_pos rfl])
                  have hp4 := hp3.below hW4 hp3.lt
                  have cp0 := (hp4.cell 0).trans (show _ = some (.int .i8 B.1.val) from rfl)
                  have cp1 := (hp4.cell 1).trans (show _ = some (.int .i8 B.2.val) from rfl)
                  have zp0 := hp4.free 0
                  have zp1 := hp4.free 1
                  have lp := hp4.lt
                  obtain ⟨f1, f2⟩ := FX.out W4 hW4
                  have hO6 := ((HO5.out.onto hW4).setCell (a := ⟨p, 0, none⟩) (.inl (by simp)) (.int .i8 (x : Int))).setCell (a := ⟨p, 1, none⟩) (.inl (by simp)) (.int .i8 (y : Int))
                  have hp5 : Holds ((W4.setCell ⟨p, 0, none⟩ (.int .i8 (x : Int))).setCell ⟨p, 1, none⟩ (.int .i8 (y : Int))) p (clQ B') := by rw [HEQ.out, HTQ.out]; exact (hp4.setCell 0 _).setCell 1 _
                  clear FX hW4 hp4 hp3 nl3 ng3 nm3
                  go_wp2_with fail
                  go_roundw
                  case rel => exact ⟨i + 1, by omega, by go_num, by rw [HBB.out]; exact hp5, hO6⟩
                  case measure => simp [intOf]; omega
                case false =>
                  have HEQ := Lib.hid (show B' = B by rw [HLT.out]; simp)
                  have hp4 := hp3.below hW4 hp3.lt
                  have hO6 := HO5.out.onto hW4
                  clear FX hW4 hp3 nl3 ng3 nm3
                  go_wp2_with fail
                  go_roundw
                  case rel => exact ⟨i + 1, by omega, by go_num, by rw [HBB.out, HEQ.out]; exact hp4, hO6⟩
                  case measure => simp [intOf]; omega
        · have hd : decide ((i : Int) < (n : Int)) = false := by simp; omega
          obtain rfl : i = n := by omega
          rw [HFN.out] at hp2
          clear HGR HNR HFS HK
          go_wp2_with fail
          go_roundw
          case rel => exact ⟨r + 1, RQ ex, by go_num, HST.out, hp2, hO⟩
          case measure => simp [intOf]; omega
    · have hgr := HR.out b.2.val b.1.val b.2.isLt b.1.isLt
      have HBN := Lib.hid hbn
      obtain ⟨b1, hb1⟩ : ∃ k : Nat, b.1.val = k := ⟨_, rfl⟩
      obtain ⟨b2, hb2⟩ : ∃ k : Nat, b.2.val = k := ⟨_, rfl⟩
      have HB12 := Lib.hid (And.intro hb1 hb2)
      have hb10 : b1 < 10 := by have := b.1.isLt; omega
      have hb20 : b2 < 10 := by have := b.2.isLt; omega
      rw [hb1, hb2] at hgr
      rw [hb1] at cb0
      rw [hb2] at cb1
      obtain ⟨G, hG⟩ : ∃ G, g b2 b1 = G := ⟨_, rfl⟩
      have HNG : Hid (nightG g NX = upd g b2 b1 (min (G + 1) 9)) := Lib.hid (by rw [← HBN.out]; unfold nightG; rw [HB12.out.1, HB12.out.2, hG])
      rw [hG] at hgr
      have hw1 : IntKind.i8.wrap (G + 1) = G + 1 := IntWalk.i8_in _ (by omega)
      have HOW := Lib.hid (onlyNew HO1.out HO3.out (by omega))
      obtain ⟨-, -, c1, z1, l1⟩ := ng.facts
      have c1v := (c1 (b2 * 10 + b1)).trans (by rw [levV_get g b2 b1 hb20 hb10, hG] : _ = some (.int .i8 G))
      have z1v := z1 (b2 * 10 + b1)
      clear c1 z1 hb1 hb2 hbn hst hO HSC HGR HNR HK HAT HO2 HO3 HFR HRQ HBS HS0 ml mg mm mp HKN
      have HG9 := Lib.hid hG
      clear hG
      have cm2 := (nm.cell 2).trans (show _ = some (.int .i8 bf.1.val) from rfl)
      have cm3 := (nm.cell 3).trans (show _ = some (.int .i8 bf.2.val) from rfl)
      have zm0 := nm.free 0
      have zm1 := nm.free 1
      have zm2 := nm.free 2
      have zm3 := nm.free 3
      have HMV : Hid (moleV NX q = #[.int .i8 (b1 : Int), .int .i8 (b2 : Int), .int .i8 (q1 : Int), .int .i8 (q2 : Int)]) := Lib.hid (by unfold moleV; rw [← HBN.out, HB12.out.1, HB12.out.2, HQ.out.1, HQ.out.2])
      have FIN1 := Lib.hid (show G < 9 → ∀ k, Holds ((((((wr.drewN k).setCell ⟨bg, b2 * 10 + b1, none⟩ (.int .i8 (G + 1))).setCell ⟨bm, 2, none⟩ (.int .i8 (q1 : Int))).setCell ⟨bm, 3, none⟩ (.int .i8 (q2 : Int))).setCell ⟨bm, 0, none⟩ (.int .i8 (b1 : Int))).setCell ⟨bm, 1, none⟩ (.int .i8 (b2 : Int))) bg (levV (nightG g NX)) ∧ Holds ((((((wr.drewN k).setCell ⟨bg, b2 * 10 + b1, none⟩ (.int .i8 (G + 1))).setCell ⟨bm, 2, none⟩ (.int .i8 (q1 : Int))).setCell ⟨bm, 3, none⟩ (.int .i8 (q2 : Int))).setCell ⟨bm, 0, none⟩ (.int .i8 (b1 : Int))).setCell ⟨bm, 1, none⟩ (.int .i8 (b2 : Int))) bm (moleV NX q) ∧ Only [bg, bm] w ((((((wr.drewN k).setCell ⟨bg, b2 * 10 + b1, none⟩ (.int .i8 (G + 1))).setCell ⟨bm, 2, none⟩ (.int .i8 (q1 : Int))).setCell ⟨bm, 3, none⟩ (.int .i8 (q2 : Int))).setCell ⟨bm, 0, none⟩ (.int .i8 (b1 : Int))).setCell ⟨bm, 1, none⟩ (.int .i8 (b2 : Int))) from fun h k => by
        refine ⟨?_, ?_, ?_⟩
        · rw [HNG.out, show min (G + 1) 9 = G + 1 by omega, ← levV_set g b2 b1 _ hb20 hb10]
          exact (((((ng.drewN k).setCell (b2 * 10 + b1) _).setCell_other _ _ (by dsimp only; omega)).setCell_other _ _ (by dsimp only; omega)).setCell_other _ _ (by dsimp only; omega)).setCell_other _ _ (by dsimp only; omega)
        · rw [HMV.out]
          exact (((((nm.drewN k).setCell_other ⟨bg, b2 * 10 + b1, none⟩ _ (by dsimp only; omega)).setCell 2 _).setCell 3 _).setCell 0 _).setCell 1 _
        · exact (((((onlyDrewN HOW.out k).setCell (.inl (by simp)) _).setCell (.inl (by simp)) _).setCell (.inl (by simp)) _).setCell (.inl (by simp)) _).setCell (.inl (by simp)) _)
      have FIN2 := Lib.hid (show ¬ G < 9 → ∀ k, Holds (((((wr.drewN k).setCell ⟨bm, 2, none⟩ (.int .i8 (q1 : Int))).setCell ⟨bm, 3, none⟩ (.int .i8 (q2 : Int))).setCell ⟨bm, 0, none⟩ (.int .i8 (b1 : Int))).setCell ⟨bm, 1, none⟩ (.int .i8 (b2 : Int))) bg (levV (nightG g NX)) ∧ Holds (((((wr.drewN k).setCell ⟨bm, 2, none⟩ (.int .i8 (q1 : Int))).setCell ⟨bm, 3, none⟩ (.int .i8 (q2 : Int))).setCell ⟨bm, 0, none⟩ (.int .i8 (b1 : Int))).setCell ⟨bm, 1, none⟩ (.int .i8 (b2 : Int))) bm (moleV NX q) ∧ Only [bg, bm] w (((((wr.drewN k).setCell ⟨bm, 2, none⟩ (.int .i8 (q1 : Int))).setCell ⟨bm, 3, none⟩ (.int .i8 (q2 : Int))).setCell ⟨bm, 0, none⟩ (.int .i8 (b1 : Int))).setCell ⟨bm, 1, none⟩ (.int .i8 (b2 : Int))) from fun h k => by
        refine ⟨?_, ?_, ?_⟩
        · have hu : nightG g NX = g := by
            rw [HNG.out, show min (G + 1) 9 = G by omega, ← HG9.out]
            funext y x
            unfold upd
            split
            · rename_i h; rw [h.1, h.2]
            · rfl
          rw [hu]
          exact ((((ng.drewN k).setCell_other _ _ (by dsimp only; omega)).setCell_other _ _ (by dsimp only; omega)).setCell_other _ _ (by dsimp only; omega)).setCell_other _ _ (by dsimp only; omega)
        · rw [HMV.out]
          exact ((((nm.drewN k).setCell 2 _).setCell 3 _).setCell 0 _).setCell 1 _
        · exact ((((onlyDrewN HOW.out k).setCell (.inl (by simp)) _).setCell (.inl (by simp)) _).setCell (.inl (by simp)) _).setCell (.inl (by simp)) _)
      clear ng nm hp1
      rcases hcase with ⟨hr1, hne⟩ | hr2
      · have hne2 : b1 ≠ q1 ∨ (b1 = q1 ∧ b2 ≠ q2) := by
          rcases Q10_neq hne with h | ⟨h1, h2⟩
          · left; rw [HB12.out.1, HQ.out.1] at h; omega
          · right; rw [HB12.out.1, HQ.out.1] at h1; rw [HB12.out.2, HQ.out.2] at h2; omega
        subst hr1
        clear hne
        rcases hne2 with h1 | ⟨h1, h2⟩
        · have h3 : ¬ (b1 : Int) = q1 := by omega
          have h4 : ¬ (q1 : Int) = b1 := by omega
          by_cases hG9 : G < 9
          · have hd9 : decide (G < 9) = true := by simpa using hG9
            have FIN := Lib.hid (FIN1.out hG9)
            clear FIN1 FIN2
            go_wp2_with fail
            go_quiet (fail)
            go_wp2_with fail
            go_region
            go_wp2_with fail
            go_region
            go_wp2_with fail
            go_end0
            exact ⟨rfl, FIN.out _⟩
          · have hd9 : decide (G < 9) = false := by simpa using hG9
            have FIN := Lib.hid (FIN2.out hG9)
            clear FIN1 FIN2
            go_wp2_with fail
            go_quiet (fail)
            go_wp2_with fail
            go_region
            go_wp2_with fail
            go_end0
            exact ⟨rfl, FIN.out _⟩
        · have h3 : ¬ (b2 : Int) = q2 := by omega
          have h4 : ¬ (q2 : Int) = b2 := by omega
          subst h1
          by_cases hG9 : G < 9
          · have hd9 : decide (G < 9) = true := by simpa using hG9
            have FIN := Lib.hid (FIN1.out hG9)
            clear FIN1 FIN2
            go_wp2_with fail
            go_quiet (fail)
            go_wp2_with fail
            go_region
            go_wp2_with fail
            go_region
            go_wp2_with fail
            go_end0
            exact ⟨rfl, FIN.out _⟩
          · have hd9 : decide (G < 9) = false := by simpa using hG9
            have FIN := Lib.hid (FIN2.out hG9)
            clear FIN1 FIN2
            go_wp2_with fail
            go_quiet (fail)
            go_wp2_with fail
            go_region
            go_wp2_with fail
            go_end0
            exact ⟨rfl, FIN.out _⟩
      · subst hr2
        by_cases hG9 : G < 9
        · have hd9 : decide (G < 9) = true := by simpa using hG9
          have FIN := Lib.hid (FIN1.out hG9)
          clear FIN1 FIN2
          go_wp2_with fail
          go_quiet (fail)
          go_wp2_with fail
          go_region
          go_wp2_with fail
          go_region
          go_wp2_with fail
          go_end0
          exact ⟨rfl, FIN.out _⟩
        · have hd9 : decide (G < 9) = false := by simpa using hG9
          have FIN := Lib.hid (FIN2.out hG9)
          clear FIN1 FIN2
          go_wp2_with fail
          go_quiet (fail)
          go_wp2_with fail
          go_region
          go_wp2_with fail
          go_end0
          exact ⟨rfl, FIN.out _⟩
end Go.Proofs.YtabemgplddfemaaGreatDoor
