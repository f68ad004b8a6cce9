/- StepsFrom, of the model. -/
import Derived.Test.YtgmahakpmjfhhaaRRSReachO
import Derived.Test.YtgmahakpmjfhhaaRRJStepsFrom
namespace Go.Proofs.YtgmahakpmjfhhaaRR
open Go.RowKit
set_option linter.unusedVariables false
attribute [local go_sem ↓] loadRow loadGrid loadLawn loadMirror storeRow storeGrid storeLawn allocRow allocGrid allocLawn buildZero buildSides loadG64 storeG64 allocG64 buildG64

set_option maxRecDepth 100000 in
set_option maxHeartbeats 2000000 in
theorem sstepsFrom_loop (Wn Hn : Nat) (hW : Wn ≤ 10) (hH : Hn ≤ 10) (L : Lawn) (hLw : L.wide = Wn) (hLh : L.high = Hn) (hL : L.Fits) (hV : validB L = true) (x y : Int) (x0 : -128 ≤ x) (x1 : x ≤ 127) (y0 : -128 ≤ y) (y1 : y ≤ 127) (hI : isB L x y = true) (hO : openB L x y = true) (w : World) :
    Calls Try.prog 70 #[.agg L.cells, .agg #[.int .i8 x, .int .i8 y]] w fun e w' => (∃ v, e = .returned (.tuple #[v, .int .i64 0]) ∧ w'.ownsRow w.heap.size 2 1 v (allC Wn Hn).length (stepsV (found (openP L) (x, y) 100) (allC Wn Hn))) ∧ Below w.heap.size w w' := by
  obtain ⟨ci, hi, hz0, hz1, hz2⟩ := info_parts int64Info
  have HCI := Lib.hid (show Try.prog.info? 2 = some ci ∧ ci.zero = some (.int .i64 0) ∧ ci.size = 1 ∧ ci.bytes = 8 from ⟨hi, hz0, hz1, hz2⟩)
  have hxy := isB_near hV hI
  obtain ⟨a, rfl⟩ : ∃ a : Nat, x = a := ⟨x.toNat, by omega⟩
  obtain ⟨c, rfl⟩ : ∃ c : Nat, y = c := ⟨y.toNat, by omega⟩
  have ha : a < 10 := by omega
  have hc : c < 10 := by omega
  have hwh : 0 < Wn ∧ 0 < Hn := by obtain ⟨h1, h2, -⟩ := validB_true hV; omega
  have HWH := Lib.hid hwh
  have hop : (L.kind c a == 0 || L.kind c a == 3) = true := by
    have := hO
    simp only [openB, hI, Bool.true_and, Int.toNat_natCast] at this
    exact this
  have HL := Lib.hid hL
  have HLw := Lib.hid hLw
  have HLh := Lib.hid hLh
  have HI' := Lib.hid hI
  have HOP := Lib.hid hop
  have HV := Lib.hid hV
  have HPS := Lib.hid (show passG L false ((a : Int), (c : Int)) = true from hO)
  clear hi hz0 hz1 hz2 hLw hLh hL hI hO hop hV hwh hxy
  go_enter Try.func70, Try.ntmps70
  go_wp2_with fail
  have g0 : Holds ((w.alloc (.cells L.cells 28)).alloc (.cells #[.int .i8 a, .int .i8 c] 35)) w.heap.size L.cells := (Holds.new _ _ _).alloc _
  have c0 : Holds ((w.alloc (.cells L.cells 28)).alloc (.cells #[.int .i8 a, .int .i8 c] 35)) (w.heap.size + 1) #[.int .i8 a, .int .i8 c] := Holds.new' _ _ _ _ (by simp)
  have hb : Below w.heap.size w ((w.alloc (.cells L.cells 28)).alloc (.cells #[.int .i8 a, .int .i8 c] 35)) := ((Below.refl w.heap.size w).alloc (Nat.le_refl _) _).alloc (by simp) _
  refine (l01Is_is L HL.out w.heap.size _ _ _ g0 (by omega) (by omega) (by omega) (by omega) true HI'.out).mono ?_
  rintro e w1 ⟨rfl, hb1⟩
  have g1 := g0.below hb1 g0.lt
  have c1 := c0.below hb1 c0.lt
  have jB := below_onto hb hb1
  clear g0 c0 hb hb1
  go_wp2_with fail
  refine (told_any L HL.out w.heap.size _ g1 true).mono ?_
  rw [HV.out]
  simp only [told, if_true]
  rintro e w2 ⟨rfl, hb1⟩
  have g2 := g1.below hb1 g1.lt
  have c2 := c1.below hb1 c1.lt
  have jB2 := below_onto jB hb1
  clear g1 c1 jB hb1
  obtain ⟨-, -, d1, -, -⟩ := c2.facts
  go_wp2_with fail
  refine (open_any L HL.out w.heap.size a c ha hc _ g2).mono ?_
  rw [HOP.out]
  rintro e w3 ⟨rfl, hb1⟩
  have g3 := g2.below hb1 g2.lt
  have c3 := c2.below hb1 c2.lt
  have jB3 := below_onto jB2 hb1
  clear g2 c2 jB2 hb1 d1
  obtain ⟨-, -, d1, -, -⟩ := c3.facts
  go_wp2_with fail
  refine (reach_open L HL.out HV.out w.heap.size a c ha hc HPS.out _ g3).mono ?_
  obtain ⟨G, hG⟩ : ∃ G, gridF (found (passG L false) ((a : Int), (c : Int)) 100) = G := ⟨_, rfl⟩
  have hGv : ∀ i j : Nat, G j i = stepsAt (found (openP L) ((a : Int), (c : Int)) 100) i j := fun i j => by rw [← hG]; rfl
  have HGV := Lib.hid hGv
  rw [hG]
  rintro e w4 ⟨rfl, hb1⟩
  have g4 := g3.below hb1 g3.lt
  have jB4 := below_onto jB3 hb1
  clear g3 c3 jB3 hb1 d1 hG hGv
  go_wp2_with fail
  obtain ⟨s, hs⟩ : ∃ s, w4.heap.size = s := ⟨_, rfl⟩
  obtain ⟨W0, hW0⟩ : ∃ W0, (w4.alloc (.cells (grid64 G) 138)).alloc (.cells #[] 2) = W0 := ⟨_, rfl⟩
  have hG0 : Holds W0 s (grid64 G) := by rw [← hW0]; exact (Holds.new' _ _ _ _ hs.symm).alloc _
  have hL0 : Holds W0 w.heap.size L.cells := by rw [← hW0]; exact (g4.alloc _).alloc _
  have hm : W0.ownsRow (s + 1) 2 1 (.slice (some ⟨s + 1, 0, none⟩) 0 0) 0 [] := by
    have := World.ownsRow_made (e := 2) (size := 1) (w4.alloc (.cells (grid64 G) 138)) #[] 0 (Nat.le_refl _) (by simp [maxLen]) rfl
    rw [hW0] at this
    simpa [hs] using this
  have hB0 : Below w.heap.size w W0 := by rw [← hW0]; exact (jB4.alloc jB4.size _).alloc (by have := jB4.size; simp; omega) _
  have hws : w.heap.size < s := by have := g4.lt; omega
  have hz0 : s + 2 ≤ W0.heap.size := by rw [← hW0]; simp; omega
  rw [hW0, hs]
  clear hW0 hs g4 jB4
  refine (l01All_any Wn Hn hW hH L HLw.out HLh.out _ W0 hL0).mono ?_
  rintro e w5 ⟨vA, rfl, hoA, hb1⟩
  have hn : 0 < Hn * Wn := Nat.mul_pos HWH.out.2 HWH.out.1
  have hn1 : Hn * Wn ≤ 100 := Nat.le_trans (Nat.mul_le_mul hH hW) (by omega)
  obtain ⟨g, cap, rfl, hg0, hg1⟩ := own_form hoA hn
  have hb2 := below_onto hB0 hb1
  have k0 := hG0.below hb1 hG0.lt
  have hm1 := own_below hm hb1
  clear hm hB0 hb1 hG0 hL0
  obtain ⟨N, hN⟩ : ∃ N, Hn * Wn = N := ⟨_, rfl⟩
  have hall : (allC Wn Hn).length = N := by rw [allC_length, hN]
  rw [hN] at hoA hn hn1 ⊢
  have HA := Lib.hid hall
  clear hN hall
  go_wp2_with fail
  go_loopw [8, 10] (fun v x wr => ∃ i : Nat, i ≤ N ∧ x = .int .i64 i ∧ wr.ownsRow (s + 1) 2 1 v i (stepsV (found (openP L) ((a : Int), (c : Int)) 100) ((allC Wn Hn).take i)) ∧ wr.ownsRow W0.heap.size 35 2 (.slice (some ⟨g, 0, none⟩) N cap) N (flatV (allC Wn Hn)) ∧ v.ownBlock ≠ some g ∧ g < wr.heap.size ∧ Holds wr s (grid64 G) ∧ Below w.heap.size w wr) (fun _ x _ => N - (intOf x).toNat)
  case atStart => exact ⟨0, by omega, rfl, by simpa [stepsV] using hm1, hoA, by simp [Value.ownBlock]; omega, hg1, k0, hb2⟩
  case round =>
    obtain ⟨i, hi, rfl, ho, hA', hv, hg, k0, hb⟩ := hrel
    have HO := Lib.hid ho
    have HAo := Lib.hid hA'
    have HV2 := Lib.hid hv
    clear ho hA' hv hm1 hoA hb2
    by_cases hlt : i < N
    · have hd : decide ((i : Int) < (N : Int)) = true := by simp; omega
      obtain ⟨q, hq⟩ : ∃ q, (allC Wn Hn)[i]? = some q := ⟨_, List.getElem?_eq_getElem (by rw [HA.out]; exact hlt)⟩
      have HC := Lib.hid hq
      obtain ⟨fa, fb⟩ := flatV_get _ _ _ hq
      obtain ⟨⟨e1, he1⟩, ⟨e2, he2⟩⟩ := q
      dsimp only at fa fb
      have hw1 : e1 < 10 := by omega
      have hw2 : e2 < 10 := by omega
      have hO1 := grid64_get G e2 e1 hw2 hw1
      obtain ⟨v, hv⟩ : ∃ v, G e2 e1 = v := ⟨_, rfl⟩
      rw [hv] at hO1
      have HVV := Lib.hid (show stepsAt (found (openP L) ((a : Int), (c : Int)) 100) e1 e2 = v by rw [← hv, HGV.out])
      have FX := Lib.hid (show ∀ w', Below wr.heap.size wr w' → w'.cell? ⟨g, i * 2, none⟩ = some (.int .i8 e1) ∧ w'.cell? ⟨g, i * 2 + 1, none⟩ = some (.int .i8 e2) ∧ w'.cell? ⟨s, e2 * 10 + e1, none⟩ = some (.int .i64 v) from fun w' hw' =>
        ⟨own_cell (own_below HAo.out hw') _ _ fa, own_cell (own_below HAo.out hw') _ _ fb, by rw [(k0.below hw' k0.lt).cell, hO1]⟩)
      have hsz := k0.lt
      clear hq fa fb hO1 hv
      go_wp2_with fail
      refine wp_region_make 14 rfl rfl (by kernel_rfl) (by kernel_rfl) (by kernel_rfl) ?_
      simp only [List.take_succ_cons, List.take_zero, List.drop_succ_cons, List.drop_zero]
      iterate 14
        apply wpGrowB_plain rfl
        · intro w' hw' K hK
          obtain ⟨f1, f2, f3⟩ := FX.out _ hw'
          go_wp2_with fail
          exact hK _ _ rfl (Below.refl _ _)
        simp only [Act.put, List.setIfInBounds_toArray, List.set_cons_succ, List.set_cons_zero]
      refine wpGrowB_nil ⟨fun g => .slice (some ⟨g, 0, none⟩) 1 1, .cells #[.int .i64 v] 2, fun w1 hw1 K hK => ?_, ?_⟩
      · go_wp2_with fail
        exact hK _ _ rfl rfl
      intro gg W3 hg3 hW3 hobj
      have HO3 := Lib.hid (own_below HO.out hW3)
      have HA3 := Lib.hid (own_below HAo.out hW3)
      have k3 := k0.below hW3 k0.lt
      have hb3 := hb.trans (hW3.mono hb.size)
      have hgg : Holds W3 gg #[.int .i64 v] := ⟨_, hobj⟩
      have HG3 := Lib.hid hgg
      have hgs := hgg.lt
      have hgw : g < W3.heap.size := Nat.lt_of_lt_of_le hg hW3.size
      clear HO HAo k0 hb hW3 hobj FX hgg
      simp only [List.setIfInBounds_toArray, List.set_cons_succ, List.set_cons_zero]
      go_wp2_with (at_builtin; refine wpList_append_own_at _ rfl _ _ 59 rfl (s + 1) 2 ci (.int .i64 0) 1 8 Try.underlying59 HCI.out.1 HCI.out.2.1 HCI.out.2.2.1 HCI.out.2.2.2 rfl (by decide) _ _ _ rfl HO3.out ⟨gg, 0, none⟩ 1 1 [.int .i64 v] rfl rfl ?c1 ?c2 ?c3 ?c4 ?c5 ?_)
      case c1 =>
        intro m z hz
        match m, hz with
        | 0, hz => simp at hz; subst hz; exact HG3.out.cell 0
      case c2 => intro z hz; simp at hz; subst hz; rfl
      case c3 => unfold maxLen; omega
      case c4 => omega
      case c5 => have := k3.lt; omega
      intro v' w9 hown' hgrow _ hat
      have hb9 : Below w.heap.size w w9 := hb3.grown hgrow hb3.size (fun k hk => by have := own_far HO3.out k hk; omega)
      have k9 := held_grown k3 HO3.out hgrow (by omega)
      have HA9 := Lib.hid (HA3.out.kept hgrow (.inr (fun e => HV2.out e.symm)))
      have hap9 : v'.ownBlock ≠ some g := by
        rcases hat with h | h
        · rw [h]; exact HV2.out
        · rw [h]; intro e; cases e; omega
      have ho9 : w9.ownsRow (s + 1) 2 1 v' (i + 1) (stepsV (found (openP L) ((a : Int), (c : Int)) 100) ((allC Wn Hn).take (i + 1))) := by
        rw [List.take_add_one, HC.out, Option.toList_some, stepsV_append]
        simp only [stepsV, List.map_cons, List.map_nil, HVV.out]
        exact hown'
      have HO9 := Lib.hid ho9
      have HP9 := Lib.hid hap9
      have hg9 : g < w9.heap.size := Nat.lt_of_lt_of_le hgw hgrow.size
      clear hown' hgrow hat ho9 hap9
      go_wp2_with fail
      go_roundw
      case rel => exact ⟨i + 1, by omega, by go_num, HO9.out, HA9.out, HP9.out, hg9, k9, hb9⟩
      case measure => simp [intOf]; omega
    · have hiN : i = N := by omega
      have hd : decide ((i : Int) < (N : Int)) = false := by simp; omega
      have HF := Lib.hid (show wr.ownsRow (s + 1) 2 1 _ (allC Wn Hn).length (stepsV (found (openP L) ((a : Int), (c : Int)) 100) (allC Wn Hn)) by
        have := HO.out
        rw [hiN, ← HA.out, List.take_length] at this
        exact this)
      obtain ⟨av, cv, hve⟩ := own_slice HO.out
      subst hve
      clear hiN
      go_wp2_with fail
      go_ret2
      exact ⟨⟨_, rfl, ownsRow_low HF.out (by omega)⟩, hb⟩

theorem own_none {w1 w2 : World} {B : Nat} {b : Nat} {e : TypeId} {size : Nat} (h : w2 = w1.alloc (.cells #[] e)) (hb : b = w1.heap.size) (hB : B ≤ w1.heap.size) : w2.ownsRow B e size (.slice (some ⟨b, 0, none⟩) 0 0) 0 [] := by
  subst h; subst hb
  exact ownsRow_low (World.ownsRow_made w1 #[] 0 (Nat.le_refl _) (by simp [maxLen]) (by simp)) hB

set_option maxRecDepth 100000 in
set_option maxHeartbeats 1000000 in
theorem specStepsFrom_any (L : Lawn) (hL : L.Fits) (x y : Int) (x0 : -128 ≤ x) (x1 : x ≤ 127) (y0 : -128 ≤ y) (y1 : y ≤ 127) (w : World) :
    Calls Try.prog 70 #[.agg L.cells, .agg #[.int .i8 x, .int .i8 y]] w fun e w' => (∃ v, e = .returned (.tuple #[v, .int .i64 (stepsC L x y)]) ∧ w'.ownsRow w.heap.size 2 1 v (stepsN L x y) (stepsL L x y)) ∧ Below w.heap.size w w' := by
  obtain ⟨v, hv⟩ : ∃ v, validB L = v := ⟨_, rfl⟩
  obtain ⟨f, hf⟩ : ∃ f, isB L x y = f := ⟨_, rfl⟩
  obtain ⟨o, ho⟩ : ∃ o, openB L x y = o := ⟨_, rfl⟩
  obtain ⟨c, hc⟩ : ∃ c, stepsC L x y = c := ⟨_, rfl⟩
  have h0 : c ≠ 0 → stepsN L x y = 0 ∧ stepsL L x y = [] := fun h => by
    constructor
    · unfold stepsN; rw [hc, if_neg h]
    · unfold stepsL; rw [hc, if_neg h]
  have hC := hc
  unfold stepsC at hc
  rw [hv, hf, ho] at hc
  cases v <;> cases f <;> cases o
  case true.true.true =>
    obtain ⟨h1, h2, -⟩ := validB_true hv
    simp only [if_true] at hc
    subst hc
    have e1 : stepsN L x y = (allC L.wide.toNat L.high.toNat).length := by unfold stepsN; rw [hC, if_pos rfl]
    have e2 : stepsL L x y = stepsV (found (openP L) (x, y) 100) (allC L.wide.toNat L.high.toNat) := by unfold stepsL; rw [hC, if_pos rfl]
    rw [hC, e1, e2]
    exact sstepsFrom_loop L.wide.toNat L.high.toNat (by omega) (by omega) L (by omega) (by omega) hL hv x y x0 x1 y0 y1 hf ho w
  case true.true.false =>
    simp only [if_true, Bool.false_eq_true, if_false] at hc
    subst hc
    obtain ⟨e1, e2⟩ := h0 (by decide)
    rw [hC, e1, e2]
    have hxy := isB_near hv hf
    obtain ⟨a, rfl⟩ : ∃ a : Nat, x = a := ⟨x.toNat, by omega⟩
    obtain ⟨b, rfl⟩ : ∃ b : Nat, y = b := ⟨y.toNat, by omega⟩
    have ha : a < 10 := by omega
    have hb : b < 10 := by omega
    have hop : (L.kind b a == 0 || L.kind b a == 3) = false := by
      have := ho
      simp only [openB, hf, Bool.true_and, Int.toNat_natCast] at this
      exact this
    have HL := Lib.hid hL
    have HI' := Lib.hid hf
    have HOP := Lib.hid hop
    have HV := Lib.hid hv
    clear hC h0 e1 e2 hv hf ho hL hop hxy
    go_enter Try.func70, Try.ntmps70
    go_wp2_with fail
    have g0 : Holds ((w.alloc (.cells L.cells 28)).alloc (.cells #[.int .i8 a, .int .i8 b] 35)) w.heap.size L.cells := (Holds.new _ _ _).alloc _
    have c0 : Holds ((w.alloc (.cells L.cells 28)).alloc (.cells #[.int .i8 a, .int .i8 b] 35)) (w.heap.size + 1) #[.int .i8 a, .int .i8 b] := Holds.new' _ _ _ _ (by simp)
    have hb0 : Below w.heap.size w ((w.alloc (.cells L.cells 28)).alloc (.cells #[.int .i8 a, .int .i8 b] 35)) := ((Below.refl w.heap.size w).alloc (Nat.le_refl _) _).alloc (by simp) _
    refine (l01Is_is L HL.out w.heap.size _ _ _ g0 (by omega) (by omega) (by omega) (by omega) true HI'.out).mono ?_
    rintro e w1 ⟨rfl, hb1⟩
    have g1 := g0.below hb1 g0.lt
    have c1 := c0.below hb1 c0.lt
    have jB := below_onto hb0 hb1
    clear g0 c0 hb0 hb1
    go_wp2_with fail
    refine (told_any L HL.out w.heap.size _ g1 true).mono ?_
    rw [HV.out]
    simp only [told, if_true]
    rintro e w2 ⟨rfl, hb1⟩
    have g2 := g1.below hb1 g1.lt
    have c2 := c1.below hb1 c1.lt
    have jB2 := below_onto jB hb1
    clear g1 c1 jB hb1
    obtain ⟨-, -, d1, -, -⟩ := c2.facts
    go_wp2_with fail
    refine (open_any L HL.out w.heap.size a b ha hb _ g2).mono ?_
    rw [HOP.out]
    rintro e w3 ⟨rfl, hb1⟩
    have jB3 := below_onto jB2 hb1
    clear g2 c2 jB2 hb1 d1
    go_wp2_with fail
    go_ret2
    exact ⟨⟨_, rfl, own_none rfl rfl jB3.size⟩, jB3.alloc jB3.size _⟩
  all_goals
    simp only [if_true, Bool.false_eq_true, if_false] at hc
    subst hc
    obtain ⟨e1, e2⟩ := h0 (by decide)
    rw [hC, e1, e2]
    have HL := Lib.hid hL
    have HI' := Lib.hid hf
    have HV := Lib.hid hv
    clear hC h0 e1 e2 hv hf ho hL
    go_enter Try.func70, Try.ntmps70
    go_wp2_with fail
    have g0 : Holds ((w.alloc (.cells L.cells 28)).alloc (.cells #[.int .i8 x, .int .i8 y] 35)) w.heap.size L.cells := (Holds.new _ _ _).alloc _
    have hb0 : Below w.heap.size w ((w.alloc (.cells L.cells 28)).alloc (.cells #[.int .i8 x, .int .i8 y] 35)) := ((Below.refl w.heap.size w).alloc (Nat.le_refl _) _).alloc (by simp) _
    refine (l01Is_is L HL.out w.heap.size _ _ _ g0 (by omega) (by omega) (by omega) (by omega) _ HI'.out).mono ?_
    rintro e w1 ⟨rfl, hb1⟩
    have g1 := g0.below hb1 g0.lt
    have jB := below_onto hb0 hb1
    clear g0 hb0 hb1
    go_wp2_with fail
    refine (told_any L HL.out w.heap.size _ g1 _).mono ?_
    rw [HV.out]
    simp only [told, if_true, Bool.false_eq_true, if_false]
    rintro e w2 ⟨rfl, hb1⟩
    have jB2 := below_onto jB hb1
    clear g1 jB hb1
    go_wp2_with fail
    go_ret2
    exact ⟨⟨_, rfl, own_none rfl rfl jB2.size⟩, jB2.alloc jB2.size _⟩
end Go.Proofs.YtgmahakpmjfhhaaRR
