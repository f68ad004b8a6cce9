/- Weeds a day later, of the model: the same as the program's, where they are valid. -/
import Derived.Test.YtemjppchnhemjaaDoorSWeed
import Derived.Test.YtemjppchnhemjaaDoorSpread
import Derived.Test.YtemjppchnhemjaaDoorZG
import Derived.Test.YtemjppchnhemjaaDoorZC
namespace Go.Proofs.YtemjppchnhemjaaDoor
open Go.RowKit
set_option linter.unusedVariables false
set_option linter.unusedSimpArgs false
attribute [local go_sem ↓] loadRow loadGrid loadLawn loadMirror storeRow storeGrid storeLawn allocRow allocGrid allocLawn buildZero buildSides loadWd storeWd allocWd buildZWd eqlWd

/-- How many of the cells beside one have weeds. -/
def nearN (L : Lawn) (s : Nat → Nat → Bool) (x y : Int) (j : Nat) : Nat := ((besideK L x y 4).take j).countP fun c => s c.2.toNat c.1.toNat
theorem nearN_succ {L : Lawn} {s : Nat → Nat → Bool} {x y : Int} {j : Nat} {c : Pt} (h : (besideK L x y 4)[j]? = some c) : nearN L s x y (j + 1) = nearN L s x y j + (if s c.2.toNat c.1.toNat then 1 else 0) := by
  unfold nearN
  rw [List.take_add_one, h, Option.toList_some, List.countP_append]
  simp [List.countP_cons]
theorem nearN_le (L : Lawn) (s : Nat → Nat → Bool) (x y : Int) (j : Nat) : nearN L s x y j ≤ 4 := by
  unfold nearN
  refine Nat.le_trans List.countP_le_length (Nat.le_trans (List.length_take_le' ..) (besideK_le L x y 4))
theorem near_is {L : Lawn} {s : Nat → Nat → Bool} (hw : weedB L s = true) {x y : Nat} (hi : isB L x y = true) : nearN L s x y (besideK L x y 4).length = cntJ (besR s y) 4 x := by
  obtain ⟨hv, hs⟩ := weedB_true hw
  obtain ⟨h1, h2, -⟩ := validB_true hv
  have hin := isB_in hi
  have hx : x < 10 := by omega
  have hy : y < 10 := by omega
  have K : ∀ y' x' : Nat, y' < 10 → x' < 16 → (s y' x' && isB L x' y') = s y' x' := fun y' x' a b => by
    cases h : s y' x' with
    | false => rfl
    | true => rw [kindS_in (hs y' x' a b h)]; rfl
  unfold nearN
  rw [List.take_length]
  unfold besideK
  rw [List.countP_filter]
  simp only [beside, List.take_succ_cons, List.take_zero, List.countP_cons, List.countP_nil, cntJ, besR, rowsR]
  have e0 : (s ((y : Int) - 1).toNat (x : Int).toNat && isB L x ((y : Int) - 1)) = (decide (1 ≤ y) && (decide (y ≤ 10) && s (y - 1) x)) := by
    rcases Nat.eq_zero_or_pos y with h | h
    · subst h; simp [isB, inB]
    · have := K (y - 1) x (by omega) (by omega)
      rw [show ((y : Int) - 1) = ((y - 1 : Nat) : Int) by omega]
      simp only [Int.toNat_natCast]
      rw [this]
      simp [show 1 ≤ y by omega, show y ≤ 10 by omega]
  have e1 : (s (y : Int).toNat ((x : Int) - 1).toNat && isB L ((x : Int) - 1) y) = (decide (1 ≤ x) && (decide (1 ≤ y + 1) && (decide (y + 1 ≤ 10) && s (y + 1 - 1) (x - 1)))) := by
    rcases Nat.eq_zero_or_pos x with h | h
    · subst h; simp [isB, inB]
    · have := K y (x - 1) (by omega) (by omega)
      rw [show ((x : Int) - 1) = ((x - 1 : Nat) : Int) by omega]
      simp only [Int.toNat_natCast]
      rw [this]
      simp [show 1 ≤ x by omega, show y + 1 ≤ 10 by omega]
  have e2 : (s (y : Int).toNat ((x : Int) + 1).toNat && isB L ((x : Int) + 1) y) = (decide (x + 1 < 16) && (decide (1 ≤ y + 1) && (decide (y + 1 ≤ 10) && s (y + 1 - 1) (x + 1)))) := by
    have := K y (x + 1) (by omega) (by omega)
    rw [show ((x : Int) + 1) = ((x + 1 : Nat) : Int) by omega]
    simp only [Int.toNat_natCast]
    rw [this]
    simp [show x + 1 < 16 by omega, show y + 1 ≤ 10 by omega]
  have e3 : (s ((y : Int) + 1).toNat (x : Int).toNat && isB L x ((y : Int) + 1)) = (decide (1 ≤ y + 2) && (decide (y + 2 ≤ 10) && s (y + 2 - 1) x)) := by
    rcases Nat.lt_or_ge y 9 with h | h
    · have := K (y + 1) x (by omega) (by omega)
      rw [show ((y : Int) + 1) = ((y + 1 : Nat) : Int) by omega]
      simp only [Int.toNat_natCast]
      rw [this]
      simp [show y + 2 ≤ 10 by omega]
    · obtain rfl : y = 9 := by omega
      have : isB L x (((9 : Nat) : Int) + 1) = false := by
        cases hb : isB L x (((9 : Nat) : Int) + 1) with
        | false => rfl
        | true => have := isB_in hb; omega
      rw [this]; simp
  rw [e0, e1, e2, e3]
  omega

theorem own_setAt3 {W : World} {B n ga cap : Nat} {e : TypeId} {size : Nat} {xs : List Value} (h : W.ownsRow B e size (.slice (some ⟨ga, 0, none⟩) n cap) n xs) (g k : Nat) (u : Value) (hg : ga ≠ g) : (W.setCell ⟨g, k, none⟩ u).ownsRow B e size (.slice (some ⟨ga, 0, none⟩) n cap) n xs := by
  refine ⟨h.1, ?_⟩
  rcases h.2 with h2 | ⟨b, cap', cur, hv, hbg, hb, r⟩
  · exact .inl h2
  · have : b = ga := by simp at hv; exact hv.1.symm
    exact .inr ⟨b, cap', cur, hv, hbg, (heap_setCell_other W ⟨g, k, none⟩ b u (by dsimp only; omega)).trans hb, r⟩
theorem index_cells (a : Option Addr) (g : Nat) (ha : a = some ⟨g, 0, none⟩) (m c j : Nat) (hj : j < m) (w : World) : (Instr.indexAt 79 (.slice a m c) (.int .i64 j)).run Tryd.prog w = .ok (.pointer (some ⟨g, j * 2, none⟩)) w := by
  obtain ⟨i0, hi, -, hz1, -⟩ := info_parts cellInfo
  subst ha
  have h1 : (0 : Int) ≤ (j : Int) ∧ (j : Int) < (m : Int) := by omega
  simp [Instr.indexAt, asIntOf, Sem.run_bind, run_underlying Tryd.underlying79, sizeOf, typeInfo, hi, hz1, hj, Addr.add]
  omega
/-- The cells that get weeds. -/
def newD (L : Lawn) (n : Nat) (s : Nat → Nat → Bool) : Nat → Nat → Bool := fun y x => soilS L y x && decide (n ≤ nearN L s x y (besideK L x y 4).length)
def accS {W H : Nat} (D s : Nat → Nat → Bool) (pre : List (Fin W × Fin H)) : Nat → Nat → Bool := fun y x => s y x || layS D pre y x
theorem accS_nil {W H : Nat} (D s : Nat → Nat → Bool) : bV 10 (accS D s ([] : List (Fin W × Fin H))) = bV 10 s := bV_ext fun y x _ _ => by simp [accS, layS]
theorem accS_hit {W H : Nat} (D s : Nat → Nat → Bool) (pre : List (Fin W × Fin H)) (c : Fin W × Fin H) (h : D c.2 c.1 = true) : bV 10 (withB (accS D s pre) c.2 c.1) = bV 10 (accS D s (pre ++ [c])) := by
  refine bV_ext fun y x hy hx => ?_
  have : bV 10 (withB (layS D pre) c.2 c.1) = bV 10 (layS D (pre ++ [c])) := layS_hit D pre c h
  have h2 := congrArg (fun a : Array Value => a[y]?) this
  simp only [bV_get _ _ _ hy, Option.some.injEq, Value.int.injEq, true_and] at h2
  have h3 := rowN_inj (Int.ofNat.inj h2) x hx
  simp only [withB, accS] at h3 ⊢
  rw [← h3, Bool.or_assoc]
theorem accS_miss {W H : Nat} (D s : Nat → Nat → Bool) (pre : List (Fin W × Fin H)) (c : Fin W × Fin H) (h : D c.2 c.1 = false) : bV 10 (accS D s (pre ++ [c])) = bV 10 (accS D s pre) := by
  refine bV_ext fun y x hy hx => ?_
  have h2 := congrArg (fun a : Array Value => a[y]?) (layS_miss D pre c h)
  simp only [bV_get _ _ _ hy, Option.some.injEq, Value.int.injEq, true_and] at h2
  have h3 := rowN_inj (Int.ofNat.inj h2) x hx
  simp only [accS]
  rw [h3]
theorem accS_all {W H : Nat} {L : Lawn} (hW : L.wide = W) (hH : L.high = H) (n : Nat) {s : Nat → Nat → Bool} (hw : weedB L s = true) : bV 10 (accS (newD L n s) s (allC W H)) = bV 10 (dayS (soilS L) n s) := by
  refine bV_ext fun y x hy hx => ?_
  have h2 := congrArg (fun a : Array Value => a[y]?) (layS_all hW hH (newD L n s) (fun y x h => by simp only [newD, Bool.and_eq_true] at h; exact kindS_in h.1))
  simp only [bV_get _ _ _ hy, Option.some.injEq, Value.int.injEq, true_and] at h2
  have h3 := rowN_inj (Int.ofNat.inj h2) x hx
  simp only [accS, dayS]
  rw [h3, newD]
  cases hs : soilS L y x with
  | false => rfl
  | true => rw [near_is hw (kindS_in hs)]

set_option maxRecDepth 100000 in
set_option maxHeartbeats 4000000 in
theorem day_loop (Wn Hn : Nat) (hW : Wn ≤ 10) (hH : Hn ≤ 10) (hW1 : 1 ≤ Wn) (hH1 : 1 ≤ Hn) (L : Lawn) (hL : L.Fits) (hLw : L.wide = Wn) (hLh : L.high = Hn) (s : Nat → Nat → Bool) (hw : weedB L s = true) (n : Nat) (hn4 : n ≤ 4) (a b : Nat) (w : World) (ha : Holds w a L.cells) (hbb : Holds w b (bV 10 s)) :
    Calls Tryd.prog 34 #[.pointer (some ⟨a, 0, none⟩), .pointer (some ⟨b, 0, none⟩), .int .i64 n] w fun e w' => e = .returned (.agg (bV 10 (dayS (soilS L) n s))) ∧ Below w.heap.size w w' := by
  have hv := (weedB_true hw).1
  have HR := Lib.hid (accS_all hLw hLh n hw)
  have HSO := Lib.hid (fun (x y : Nat) (hx : x < 16) (hy : y < 16) (w : World) (h : Holds w a L.cells) => soilS_any L hv hL a x y hx hy w h)
  have HBE := Lib.hid (fun (x y : Nat) (hx : x < 10) (hy : y < 10) (w : World) (h : Holds w a L.cells) => beside_any L hL a x y (by omega) (by omega) (by omega) (by omega) w h)
  have HHA := Lib.hid (fun (x y : Nat) (hx : x < 10) (hy : y < 10) (w : World) (h : Holds w b (bV 10 s)) => hasS_any s b x y hx hy w h)
  have HCN := Lib.hid (fun (x y : Int) (h : isB L x y = true) => cell_nat hv h)
  obtain ⟨u, hu⟩ : ∃ u, w.heap.size = u := ⟨_, rfl⟩
  obtain ⟨W1, hW1⟩ : ∃ W1, (w.alloc (.cells (bV 10 fun _ _ => false) 33)).alloc (.cells (bV 10 s) 33) = W1 := ⟨_, rfl⟩
  have g0 : Holds W1 u (bV 10 fun _ _ => false) := by rw [← hW1]; exact (Holds.new' _ _ _ _ hu.symm).alloc _
  have g1 : Holds W1 (u + 1) (bV 10 s) := by rw [← hW1]; exact Holds.new' _ _ _ _ (by simp; omega)
  have ga : Holds W1 a L.cells := by rw [← hW1]; exact (ha.alloc _).alloc _
  have gb : Holds W1 b (bV 10 s) := by rw [← hW1]; exact (hbb.alloc _).alloc _
  have hla : a < u := by rw [← hu]; exact ha.lt
  have hlb : b < u := by rw [← hu]; exact hbb.lt
  have hB1 : Below u w W1 := by rw [← hW1]; exact ((Below.refl u w).alloc (by omega) _).alloc (by simp; omega) _
  have hz1 : u + 2 ≤ W1.heap.size := by rw [← hW1]; simp; omega
  have HU := Lib.hid hu
  obtain ⟨rb, -, -, -, lb⟩ := hbb.facts
  have HAL := Lib.hid (fun w h => l01All_any Wn Hn hW hH L hLw hLh a w h)
  clear ha hbb hL hLw hLh hw hv
  go_enter Tryd.func34, Tryd.ntmps34
  go_wp2_with fail
  try simp only [hu, Nat.add_assoc, Nat.reduceAdd]
  clear hW1 hu rb lb
  refine (HAL.out _ ga).mono ?_
  rintro e w1 ⟨vA, rfl, hoA, hb1⟩
  have hn : 0 < Hn * Wn := Nat.mul_pos (by omega) (by omega)
  have hn1 : Hn * Wn ≤ 100 := Nat.le_trans (Nat.mul_le_mul hH hW) (by omega)
  obtain ⟨g, cap, rfl, hg0, hg1⟩ := own_form hoA hn
  have q0 := g0.below hb1 g0.lt
  have q1 := g1.below hb1 g1.lt
  have qa := ga.below hb1 ga.lt
  have qb := gb.below hb1 gb.lt
  have hB2 : Below u w w1 := hB1.trans (hb1.mono (by omega))
  clear g0 g1 ga gb hB1 hb1
  obtain ⟨N, hN⟩ : ∃ N, Hn * Wn = N := ⟨_, rfl⟩
  have hall : (allC Wn Hn).length = N := by rw [allC_length, hN]
  rw [hN] at hoA hn hn1 ⊢
  have HA := Lib.hid hall
  have HOA := Lib.hid hoA
  clear hN hall hoA
  go_wp2_with fail
  go_loopw [9, 10, 11, 12] (fun x _ _ _ wr => ∃ i : Nat, i ≤ N ∧ x = .int .i64 i ∧ wr.ownsRow W1.heap.size 83 2 (.slice (some ⟨g, 0, none⟩) N cap) N (flatV (allC Wn Hn)) ∧ Holds wr u (bV 10 fun _ _ => false) ∧ Holds wr (u + 1) (bV 10 (accS (newD L n s) s ((allC Wn Hn).take i))) ∧ Holds wr a L.cells ∧ Holds wr b (bV 10 s) ∧ Below u w wr) (fun x _ _ _ _ => N - (intOf x).toNat)
  case atStart => exact ⟨0, by omega, rfl, HOA.out, q0, by rw [List.take_zero, accS_nil]; exact q1, qa, qb, hB2⟩
  case round =>
    obtain ⟨i, hi, rfl, ho, h0, h1, ha, hbb, hb⟩ := hrel
    have HO := Lib.hid ho
    clear ho HOA q0 q1 qa qb hB2
    by_cases hlt : i < N
    · have hd : decide ((i : Int) < (N : Int)) = true := by simp; omega
      obtain ⟨c, hc⟩ : ∃ c, (allC Wn Hn)[i]? = some c := ⟨_, List.getElem?_eq_getElem (by rw [HA.out]; exact hlt)⟩
      have HT := Lib.hid (show (allC Wn Hn).take (i + 1) = (allC Wn Hn).take i ++ [c] by rw [List.take_add_one, hc]; rfl)
      obtain ⟨ca, cb⟩ := flatV_get _ _ _ hc
      have CA := Lib.hid ca
      have CB := Lib.hid cb
      have ca := own_cell HO.out _ _ ca
      have cb := own_cell HO.out _ _ cb
      have hcx := c.1.isLt
      have hcy := c.2.isLt
      have HHit := Lib.hid (accS_hit (newD L n s) s ((allC Wn Hn).take i) c)
      have HMiss := Lib.hid (accS_miss (newD L n s) s ((allC Wn Hn).take i) c)
      obtain ⟨⟨x, hx⟩, ⟨y, hy⟩⟩ := c
      dsimp only at *
      obtain ⟨sb, hsb⟩ : ∃ sb, soilS L y x = sb := ⟨_, rfl⟩
      have HSOx := Lib.hid (HSO.out x y (by omega) (by omega))
      rw [hsb] at HSOx
      have HND := Lib.hid (show newD L n s y x = (sb && decide (n ≤ nearN L s x y (besideK L x y 4).length)) by rw [newD, hsb])
      clear hc hsb
      go_wp2_with fail
      refine (HSOx.out _ ha).mono ?_
      rintro e w2 ⟨rfl, hb2⟩
      have HO2 := Lib.hid (own_below HO.out hb2)
      have j0 := h0.below hb2 h0.lt
      have j1 := h1.below hb2 h1.lt
      have ja := ha.below hb2 ha.lt
      have jb := hbb.below hb2 hbb.lt
      have hb3 := hb.trans (hb2.mono (by have := h0.lt; omega))
      clear hb2 h0 h1 ha hbb hb ca cb HO HSOx
      cases sb
      · have HM := Lib.hid (HMiss.out (by rw [HND.out]; rfl))
        rw [← HT.out] at HM
        clear HHit HMiss HND
        go_wp2_with fail
        go_roundw
        case rel => exact ⟨i + 1, by omega, by go_num, HO2.out, j0, by rw [HM.out]; exact j1, ja, jb, hb3⟩
        case measure => simp [intOf]; omega
      · have ca := own_cell HO2.out _ _ CA.out
        have cb := own_cell HO2.out _ _ CB.out
        go_wp2_with fail
        refine (HBE.out x y (by omega) (by omega) _ ja).mono ?_
        rintro e w3 ⟨vN, rfl, hoN, hb4⟩
        have HO3 := Lib.hid (own_below HO2.out hb4)
        have i0 := j0.below hb4 j0.lt
        have i1 := j1.below hb4 j1.lt
        have ia := ja.below hb4 ja.lt
        have ib := jb.below hb4 jb.lt
        have hb5 := hb3.trans (hb4.mono (by have := j0.lt; omega))
        have HNO := Lib.hid hoN
        have hsz : u ≤ w2.heap.size := by have := j0.lt; omega
        clear hb4 j0 j1 ja jb hb3 ca cb HO2
        obtain ⟨av, cv, rfl⟩ := own_slice hoN
        obtain ⟨P, hP⟩ : ∃ P, besideK L x y 4 = P := ⟨_, rfl⟩
        have hPl := besideK_le L x y 4
        rw [hP] at HNO HND hPl
        have HP := Lib.hid hP
        have HIN := Lib.hid (show ∀ (j : Nat) (c : Pt), P[j]? = some c → isB L c.1 c.2 = true from fun j c hc => by
          have hm := List.mem_of_getElem? hc
          rw [← hP] at hm
          exact (List.mem_filter.1 hm).2)
        have HNS := Lib.hid (show ∀ (j : Nat) (c : Pt), P[j]? = some c → nearN L s x y (j + 1) = nearN L s x y j + (if s c.2.toNat c.1.toNat then 1 else 0) from fun j c hc => nearN_succ (by rw [hP]; exact hc))
        have HNL := Lib.hid (nearN_le L s x y)
        have HN0 := Lib.hid (show nearN L s x y 0 = 0 by simp [nearN])
        rw [hP] at hoN ⊢
        obtain ⟨m, hm⟩ : ∃ m, P.length = m := ⟨_, rfl⟩
        rw [hm] at HNO HND hPl ⊢
        have HPM := Lib.hid hm
        clear hP hoN hm
        go_wp2_with fail
        go_loopw [10, 12] (fun c k wi => ∃ j : Nat, j ≤ m ∧ k = .int .i64 j ∧ c = .int .i64 (nearN L s x y j : Nat) ∧ Below w3.heap.size w3 wi) (fun _ k _ => m - (intOf k).toNat)
        case atStart => exact ⟨0, by omega, rfl, by rw [HN0.out]; rfl, Below.refl _ _⟩
        case round =>
          obtain ⟨j, hj, rfl, rfl, hbi⟩ := hrel
          by_cases hjt : j < m
          · have hdj : decide ((j : Int) < (m : Int)) = true := by simp; omega
            obtain ⟨d, hd'⟩ : ∃ d, P[j]? = some d := ⟨_, List.getElem?_eq_getElem (by rw [HPM.out]; exact hjt)⟩
            have hin := HIN.out j d hd'
            have hns := HNS.out j d hd'
            have HNOi := Lib.hid (own_below HNO.out hbi)
            obtain ⟨fa, fb⟩ := flatP_get _ _ _ hd'
            obtain ⟨gN, capN, he, -, -⟩ := own_form HNOi.out (by omega)
            simp only [Value.slice.injEq, true_and] at he
            obtain ⟨hav, hcv⟩ := he
            have hix := fun w => index_cells av gN hav m cv j hjt w
            rw [hav] at HNOi
            have da := own_cell HNOi.out _ _ fa
            have db := own_cell HNOi.out _ _ fb
            clear hcv hav
            obtain ⟨dx, dy⟩ := d
            obtain ⟨x', y', hx', hy', ex, ey⟩ := HCN.out _ _ hin
            dsimp only at ex ey hns da db
            subst ex
            subst ey
            simp only [Int.toNat_natCast] at hns
            have ib' := ib.below hbi ib.lt
            have HH' := Lib.hid (HHA.out x' y' hx' hy')
            have hle := HNL.out j
            obtain ⟨sb, hsb⟩ : ∃ sb, s y' x' = sb := ⟨_, rfl⟩
            simp only [hsb] at HH' hns
            have HNSJ := Lib.hid hns
            clear hns fa fb hd' hin hsb
            go_wp2_with fail
            refine (HH'.out _ ib').mono ?_
            rintro e w4 ⟨rfl, hb6⟩
            have hb7 := below_onto hbi hb6
            clear hb6 da db
            cases sb
            · have HE := Lib.hid (show nearN L s x y (j + 1) = nearN L s x y j from HNSJ.out)
              clear HNSJ
              go_wp2_with fail
              go_roundw
              case rel => exact ⟨j + 1, by omega, by go_num, by rw [HE.out], hb7⟩
              case measure => simp [intOf]; omega
            · have hw1 : IntKind.i64.wrap (((nearN L s x y j : Nat) : Int) + 1) = ((nearN L s x y j + 1 : Nat) : Int) := by rw [IntWalk.i64_in _ (by omega)]; rfl
              have HE := Lib.hid (show nearN L s x y (j + 1) = nearN L s x y j + 1 from HNSJ.out)
              clear HNSJ
              go_wp2_with fail
              go_roundw
              case rel => exact ⟨j + 1, by omega, by go_num, by rw [HE.out]; rfl, hb7⟩
              case measure => simp [intOf]; omega
          · obtain rfl : j = m := by omega
            have hdj : decide ((j : Int) < (j : Int)) = false := by simp
            have HO4 := Lib.hid (own_below HO3.out hbi)
            have k0 := i0.below hbi i0.lt
            have k1 := i1.below hbi i1.lt
            have ka := ia.below hbi ia.lt
            have kb := ib.below hbi ib.lt
            have hb8 := hb5.trans (hbi.mono (by have := i0.lt; omega))
            clear hbi HO3 i0 i1 ia ib hb5
            by_cases hge : n ≤ nearN L s x y j
            · have hdg : decide ((n : Int) ≤ ((nearN L s x y j : Nat) : Int)) = true := by simp; omega
              have hdn : decide (n ≤ nearN L s x y j) = true := by simp; omega
              have HM := Lib.hid (HHit.out (by rw [HND.out]; simp; omega))
              rw [← HT.out] at HM
              have ca := own_cell HO4.out _ _ CA.out
              have cb := own_cell HO4.out _ _ CB.out
              have hset := with_set (accS (newD L n s) s ((allC Wn Hn).take i)) y x (by omega)
              have hpw := wrap_pow x (by omega)
              obtain ⟨-, -, c1, z1, l1⟩ := k1.facts
              have ck := (c1 y).trans (bV_get 10 _ y (by omega))
              have zk := z1 y
              have hy0 : (0 : Int) ≤ y := by omega
              have hy1 : (y : Int) < 10 := by omega
              have hx0 : (0 : Int) ≤ x := by omega
              have hx1 : (x : Int) < 10 := by omega
              have H1 := Lib.hid (k1.setCell y (.int .u16 ((rowN (fun j => accS (newD L n s) s ((allC Wn Hn).take i) y j || j == x) : Nat) : Int)))
              rw [hset, HM.out] at H1
              clear hge HHit HMiss HND c1 z1 hset
              go_wp2_with fail
              go_region
              go_wp2_with fail
              go_roundw
              case rel =>
                refine ⟨i + 1, by omega, by go_num, ?_, (k0.setCell_other _ _ (by dsimp only; omega)).drew, H1.out.drew, (ka.setCell_other _ _ (by dsimp only; omega)).drew, (kb.setCell_other _ _ (by dsimp only; omega)).drew, (hb8.setCell (p := ⟨u + 1, y, none⟩) (by dsimp only; omega) _).drew⟩
                exact own_setAt3 HO4.out (u + 1) y _ (by omega)
              case measure => simp [intOf]; omega
            · have hdg : decide ((n : Int) ≤ ((nearN L s x y j : Nat) : Int)) = false := by simp; omega
              have hdn : decide (n ≤ nearN L s x y j) = false := by simp; omega
              have HM := Lib.hid (HMiss.out (by rw [HND.out]; simp; omega))
              rw [← HT.out] at HM
              clear hge HHit HMiss HND
              go_wp2_with fail
              go_roundw
              case rel => exact ⟨i + 1, by omega, by go_num, HO4.out, k0, by rw [HM.out]; exact k1, ka, kb, hb8⟩
              case measure => simp [intOf]; omega
    · obtain rfl : i = N := by omega
      have hd : decide ((i : Int) < (i : Int)) = false := by simp
      rw [show (allC Wn Hn).take i = allC Wn Hn from List.take_of_length_le (by rw [HA.out]; omega), HR.out] at h1
      obtain ⟨r1, -, -, -, l1⟩ := h1.facts
      obtain ⟨r0, f0, -, z0, l0⟩ := h0.facts
      go_wp2_with fail
      exact bodyPost_ret (v := .agg (bV 10 (dayS (soilS L) n s))) (results_cell_holds rfl wideWd _ rfl (h0.setRow _) (by simp)) rfl ⟨rfl, by rw [HU.out]; exact below_setRow' hb (by omega) _⟩

theorem l07Day_any (L : Lawn) (hL : L.Fits) (s : Nat → Nat → Bool) (hw : weedB L s = true) (n : Nat) (hn4 : n ≤ 4) (a b : Nat) (w : World) (ha : Holds w a L.cells) (hbb : Holds w b (bV 10 s)) :
    Calls Tryd.prog 34 #[.pointer (some ⟨a, 0, none⟩), .pointer (some ⟨b, 0, none⟩), .int .i64 n] w fun e w' => e = .returned (.agg (bV 10 (dayS (soilS L) n s))) ∧ Below w.heap.size w w' := by
  obtain ⟨h1, h2, -⟩ := validB_true (weedB_true hw).1
  exact day_loop L.wide.toNat L.high.toNat (by omega) (by omega) (by omega) (by omega) L hL (by omega) (by omega) s hw n hn4 a b w ha hbb
theorem weedB_day {L : Lawn} {s : Nat → Nat → Bool} (hw : weedB L s = true) (n : Nat) : weedB L (dayS (soilS L) n s) = true := by
  obtain ⟨hv, hs⟩ := weedB_true hw
  refine weedB_of hv fun y x hy hx h => ?_
  simp only [dayS, Bool.or_eq_true, Bool.and_eq_true] at h
  rcases h with h | h
  · exact hs y x hy hx h
  · exact h.1
end Go.Proofs.YtemjppchnhemjaaDoor
