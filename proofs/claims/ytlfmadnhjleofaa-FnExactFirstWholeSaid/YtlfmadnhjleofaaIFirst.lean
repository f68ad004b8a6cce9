/- FirstWhole: the program. -/
import Derived.Test.YtlfmadnhjleofaaFirstP
import Derived.Test.YtlfmadnhjleofaaByAny
namespace Go.Proofs.Ytlfmadnhjleofaa
open Go.RowKit
set_option linter.unusedVariables false
attribute [local go_sem ↓] loadRow loadGrid loadLawn loadMirror storeRow storeGrid storeLawn allocRow allocGrid allocLawn buildZero buildSides

def boolV (b : Bool) : Value := .bool b
/-- All grass is mown after k cells. -/
def fullB (L : Lawn) (cs : List Pt) (k : Nat) : Bool := decide ((setM L (cs.take k)).length = (ofKind L L.wide.toNat L.high.toNat 0).length)
def firstC (L : Lawn) (x y : Int) (s : ByteArray) (n m : Nat) : Int := if alongC L x y s n = 0 then (if m ≤ s.size then 0 else 6) else alongC L x y s n
def firstN (L : Lawn) (x y : Int) (s : ByteArray) (n m : Nat) : Int := if alongC L x y s n = 0 ∧ m ≤ s.size then m else 0
theorem MapIs.len_run {κ ν : Type} {enc : κ → Value} {val : ν → Value} {P : Program} {w : World} {b : Nat} {l : List (κ × ν)} (h : MapIs w b enc val l) (t ty : TypeId) (hT : P.underlying t = some (.map (P.mapKeyOf t) (P.mapElemOf t))) : (Builtin.len_ #[t] ty #[.map (some b)]).run P w = .ok (.int .i64 (l.length : Int)) w := by
  obtain ⟨es, c, h1, h2⟩ := h
  have e : es.size = l.length := by simpa using congrArg List.length h2
  rw [run_len_map w t ty b es c hT h1, ← e]
  rfl
theorem MapIs.lens {κ ν : Type} {enc : κ → Value} {val : ν → Value} {P : Program} {w : World} {b : Nat} {l : List (κ × ν)} (h : MapIs w b enc val l) : ∃ es c, w.heap[b]? = some (.map es c) ∧ es.size = l.length := by
  obtain ⟨es, c, h1, h2⟩ := h
  exact ⟨es, c, h1, by simpa using congrArg List.length h2⟩

set_option maxRecDepth 100000 in
set_option maxHeartbeats 1000000 in
theorem implFirst_any (L : Lawn) (hL : L.Fits) (x y : Int) (s : ByteArray) (hs : s.size ≤ maxLen) (n : Nat) (hn : Goes L x y s n) (m : Nat) (hm : GoneIs (fun j => !fullB L (cellsK (x, y) s.data.toList (s.size + 1)) (j + 1)) s.size m) (w : World) :
    Calls Try.prog 53 #[.agg L.cells, .agg #[.int .i8 x, .int .i8 y], .string s] w fun e w' => e = .returned (.tuple #[.int .i64 (firstN L x y s n m), .int .i64 (firstC L x y s n m)]) ∧ Below w.heap.size w w' := by
  have HA := Lib.hid (fun w => along_any L hL x y s hs n hn w)
  have HF := Lib.hid (show firstC L x y s n m = (if alongC L x y s n = 0 then (if m ≤ s.size then 0 else 6) else alongC L x y s n) ∧ firstN L x y s n m = (if alongC L x y s n = 0 ∧ m ≤ s.size then (m : Int) else 0) from ⟨rfl, rfl⟩)
  have HC := Lib.hid (show alongC L x y s n = 0 → ∃ k : Nat, k = (ofKind L L.wide.toNat L.high.toNat 0).length ∧ ∀ w : World, Calls Try.prog 127 #[.agg L.cells, .int .i64 0] w fun e w' => (∃ v, e = .returned (.tuple #[v, .int .i64 0]) ∧ w'.ownsRow w.heap.size 35 2 v k (flatV (ofKind L L.wide.toNat L.high.toNat 0))) ∧ Below w.heap.size w w' from fun h => by
    obtain ⟨h1, h2, -⟩ := validB_true (alongC_zero h).1
    exact ⟨_, rfl, fun w => cells_loop L.wide.toNat L.high.toNat (by omega) (by omega) (by omega) (by omega) L (by omega) (by omega) hL (alongC_zero h).1 0 (by decide) w⟩)
  obtain ⟨c, hc⟩ : ∃ c, alongC L x y s n = c := ⟨_, rfl⟩
  have hsz : c = 0 → s.size ≤ 200 ∧ validB L = true := fun h => by
    have := alongC_zero (hc.trans h)
    exact ⟨wayC_le this.2.2.1, this.1⟩
  have HM := Lib.hid (show c = 0 → alongM L x y s n = s.size + 1 ∧ alongX L x y s n = flatP (cellsK (x, y) s.data.toList (s.size + 1)) from fun h => by
    unfold alongM alongX; rw [hc, if_pos h, if_pos h]; exact ⟨rfl, rfl⟩)
  rw [hc] at HA HF HC
  have HG := Lib.hid (fun hv => isGrass_any L hv hL)
  have hmk := fun w => run_makeMap (P := Try.prog) 163 w
  by_cases h0 : c = 0
  · obtain ⟨hS, hV⟩ := hsz h0
    have hM := HM.out h0
    obtain ⟨K, hK, hCe⟩ := HC.out h0
    have HCE := Lib.hid hCe
    have HK := Lib.hid hK
    subst h0
    have HG2 := Lib.hid (HG.out hV)
    have hcl : (cellsK (x, y) s.data.toList (s.size + 1)).length = s.size + 1 := by simp [cellsK]
    have HFB := Lib.hid (show ∀ k, fullB L (cellsK (x, y) s.data.toList (s.size + 1)) k = decide ((setM L ((cellsK (x, y) s.data.toList (s.size + 1)).take k)).length = K) from fun k => by unfold fullB; rw [hK])
    have hK2 : K ≤ 100 := by
      rw [hK]
      obtain ⟨h1, h2, -⟩ := validB_true hV
      refine Nat.le_trans (List.length_filter_le _ _) ?_
      rw [allC_length]
      exact Nat.le_trans (Nat.mul_le_mul (show L.high.toNat ≤ 10 by omega) (show L.wide.toNat ≤ 10 by omega)) (by omega)
    have HMM := Lib.hid hm
    simp only [true_and, if_true] at HF
    obtain ⟨cs, hcs⟩ : ∃ cs, cellsK (x, y) s.data.toList (s.size + 1) = cs := ⟨_, rfl⟩
    rw [hcs] at hM hcl HMM HFB
    have HCL := Lib.hid hcl
    clear hcs hcl hV HM HG hc hn hs hL hm hCe HC hsz hK
    go_enter Try.func53, Try.ntmps53
    obtain ⟨g0, c0, hb0⟩ := cell_new w L x y
    obtain ⟨-, -, d0, -, -⟩ := c0.facts
    go_wp2_with fail
    refine (HA.out _).mono ?_
    rintro e w1 ⟨⟨v, rfl, ho⟩, hb1⟩
    rw [hM.1, hM.2] at ho
    have hb2 := below_onto hb0 hb1
    have g1 := g0.below hb1 g0.lt
    have hs1 : w.heap.size + 1 + 1 ≤ w1.heap.size := by have := hb1.size; simpa using this
    have hbase : ((w.alloc (.cells L.cells 28)).alloc (.cells #[.int .i8 x, .int .i8 y] 35)).heap.size = w.heap.size + 1 + 1 := by simp
    rw [hbase] at ho
    obtain ⟨g, cap, rfl, hg0, hg1⟩ := own_form ho (by omega)
    have HO1 := Lib.hid ho
    clear g0 c0 d0 hb0 hb1 hbase ho hM HA
    obtain ⟨r1, -, -, -, -⟩ := g1.facts
    go_wp2_with fail
    refine (HCE.out _).mono ?_
    rintro e w2 ⟨⟨vC, rfl, hoC⟩, hb3⟩
    obtain ⟨aC, cC, rfl⟩ := own_slice hoC
    have hb4 := below_onto hb2 hb3
    have g2 := g1.below hb3 g1.lt
    have hs2 := hb3.size
    have HO := Lib.hid ((own_below HO1.out hb3).alloc (.map #[] 0))
    have jM : MapIs (w2.alloc (.map #[] 0)) w2.heap.size cellK boolV (setM L (cs.take 0)) := MapIs.made w2
    have JM := Lib.hid jM
    have g3 := g2.alloc (.map #[] 0)
    have hb5 := hb4.alloc hb4.size (.map #[] 0)
    have hlt1 : w2.heap.size < (w2.alloc (.map #[] 0)).heap.size := by simp
    clear hb2 hb3 hb4 g1 g2 r1 hoC jM HO1 HCE
    go_wp2_with fail
    obtain ⟨W0, hW0⟩ : ∃ W0, w2.alloc (.map #[] 0) = W0 := ⟨_, rfl⟩
    rw [hW0] at HO JM g3 hb5 hlt1
    rw [hW0]
    obtain ⟨b, hbb⟩ : ∃ b, w2.heap.size = b := ⟨_, rfl⟩
    rw [hbb] at JM hlt1 hs2
    rw [hbb]
    clear hW0 hbb hmk
    go_loopw [33] (fun i wr => ∃ k : Nat, k ≤ s.size + 1 ∧ k ≤ m ∧ i = .int .i64 k ∧ wr.ownsRow (w.heap.size + 1 + 1) 35 2 (.slice (some ⟨g, 0, none⟩) (s.size + 1) cap) (s.size + 1) (flatP cs) ∧ MapIs wr b cellK boolV (setM L (cs.take k)) ∧ Holds wr w.heap.size L.cells ∧ Below w.heap.size w wr) (fun i _ => 300 - (intOf i).toNat)
    case atStart => exact ⟨0, Nat.zero_le _, Nat.zero_le _, rfl, HO.out, JM.out, g3, hb5⟩
    case round =>
      obtain ⟨k, hk, hkm, rfl, ho, hM, g4, hb⟩ := hrel
      have HO1 := Lib.hid ho
      have HM1 := Lib.hid hM
      clear ho hM HO JM g3 hb5
      by_cases hlt : k < s.size + 1
      · have hd : decide ((k : Int) < (s.size : Int) + 1) = true := by simp; omega
        obtain ⟨a, ha⟩ : ∃ a, cs[k]? = some a := ⟨_, List.getElem?_eq_getElem (by rw [HCL.out]; exact hlt)⟩
        obtain ⟨fa, fb⟩ := flatP_get _ _ _ ha
        have ca := own_cell HO1.out _ _ fa
        have cb := own_cell HO1.out _ _ fb
        have HTK := Lib.hid (show cs.take (k + 1) = cs.take k ++ [a] by rw [List.take_add_one, ha]; rfl)
        obtain ⟨px, py⟩ := a
        simp only at ca cb
        have n1 := Holds.new wr #[.int .i8 px, .int .i8 py] 35
        have g5 := g4.alloc (.cells #[.int .i8 px, .int .i8 py] 35)
        have HO2 := Lib.hid (HO1.out.alloc (.cells #[.int .i8 px, .int .i8 py] 35))
        have HM2 := Lib.hid (HM1.out.alloc (.cells #[.int .i8 px, .int .i8 py] 35))
        have hb4 := hb.alloc hb.size (.cells #[.int .i8 px, .int .i8 py] 35)
        have hbl := HM1.out.lt
        have hbz := hb.size
        obtain ⟨-, -, dN, -, -⟩ := n1.facts
        obtain ⟨r4, -, -, -, -⟩ := g5.facts
        clear fa fb ha
        go_wp2_with fail
        clear dN r4 ca cb
        refine (HG2.out px py _).mono ?_
        obtain ⟨gr, hgr⟩ : ∃ gr, grassB L px py = gr := ⟨_, rfl⟩
        rw [hgr]
        rintro e w5 ⟨rfl, hb5⟩
        have HGR := Lib.hid (show grassP L (px, py) = gr from hgr)
        have n2 := n1.below hb5 n1.lt
        have g6 := g5.below hb5 g5.lt
        have HO3 := Lib.hid (own_below HO2.out hb5)
        have HM3 := Lib.hid (HM2.out.below hb5 HM2.out.lt)
        have hb6 := below_onto hb4 hb5
        clear hgr n1 g4 g5 hb4 hb5 HO2 HM2 HO1 HM1 hb
        obtain ⟨B, hB⟩ : ∃ B, wr.heap.size = B := ⟨_, rfl⟩
        rw [hB] at n2 hbl hbz ⊢
        clear hB
        cases gr
        case false =>
          have HM5 := Lib.hid (show MapIs w5 b cellK boolV (setM L (cs.take (k + 1))) by rw [HTK.out, setM_snoc, if_neg (by rw [HGR.out]; decide)]; exact HM3.out)
          have HO5 := HO3
          obtain ⟨w6, hw6⟩ : ∃ w6, w5 = w6 := ⟨_, rfl⟩
          have g7 := g6
          have hb7 := hb6
          clear n2 HM3 HO3 g6 hb6
          rw [hw6] at HM5 HO5 g7 hb7 ⊢
          clear hw6
          obtain ⟨d, hdd⟩ : ∃ d, fullB L cs (k + 1) = d := ⟨_, rfl⟩
          have HD := Lib.hid hdd
          obtain ⟨q, hq⟩ : ∃ q, (setM L (cs.take (k + 1))).length = q := ⟨_, rfl⟩
          rw [HFB.out, hq] at hdd
          have HLN := Lib.hid (show ∀ w', Below w6.heap.size w6 w' → (Builtin.len_ #[163] 3 #[.map (some b)]).run Try.prog w' = .ok (.int .i64 q) w' from fun w' hw => by
            have := (HM5.out.below hw HM5.out.lt).len_run (P := Try.prog) 163 3 (by kernel_rfl)
            rw [hq] at this
            exact this)
          clear hq
          have hln := HLN.out w6 (Below.refl _ _)
          cases d
          case false =>
            have hne : ¬ (q : Int) = (K : Int) := by
              have : ¬ q = K := by simpa using hdd
              omega
            have hkm2 : k + 1 ≤ m := by
              rcases Nat.lt_or_ge k m with h | h
              · omega
              · have e : k = m := by omega
                have := HMM.out.stop (by omega)
                rw [← e, HD.out] at this
                exact absurd this (by decide)
            clear hdd
            go_wp2_with fail
            go_roundw
            case rel => exact ⟨k + 1, by omega, hkm2, by go_num, HO5.out, HM5.out, g7, hb7⟩
            case measure => simp [intOf]; omega
          case true =>
            have heq : (q : Int) = (K : Int) := by
              have : q = K := by simpa using hdd
              omega
            have hkm2 : k = m := by
              rcases Nat.lt_or_ge k m with h | h
              · have := HMM.out.all k h
                rw [HD.out] at this
                exact absurd this (by decide)
              · omega
            clear hdd
            go_wp2_with fail
            go_ret2
            refine ⟨?_, hb7⟩
            rw [HF.out.1, HF.out.2, if_pos (show m ≤ s.size by omega), if_pos (show m ≤ s.size by omega)]
            rfl
        case true =>
          obtain ⟨o, hput, hM9⟩ := HM3.out.put cellKey Try.underlying163 (px, py) true
          have HM5 := Lib.hid (show MapIs (w5.putObj b o) b cellK boolV (setM L (cs.take (k + 1))) by rw [HTK.out, setM_snoc, if_pos HGR.out]; exact hM9)
          have hOn : Only [b] w5 (w5.putObj b o) := (Only.refl [b] w5).putT (by simp) o
          have HO5 := Lib.hid (hOn.own HO3.out (fun q hq => by simp [Value.ownBlock] at hq; simp; omega))
          have g7 := hOn.holds g6 (by simp; omega)
          have hb7 := hb6.trans (hOn.toBelow (B := w.heap.size) (by simp; omega) hb6.size)
          obtain ⟨-, -, dN, -, -⟩ := n2.facts
          simp only [cellK, cellV, boolV] at hput
          clear hOn hM9 HM3 HO3 g6 hb6
          obtain ⟨d, hdd⟩ : ∃ d, fullB L cs (k + 1) = d := ⟨_, rfl⟩
          have HD := Lib.hid hdd
          obtain ⟨q, hq⟩ : ∃ q, (setM L (cs.take (k + 1))).length = q := ⟨_, rfl⟩
          rw [HFB.out, hq] at hdd
          have HLN := Lib.hid (show ∀ w', Below (w5.putObj b o).heap.size (w5.putObj b o) w' → (Builtin.len_ #[163] 3 #[.map (some b)]).run Try.prog w' = .ok (.int .i64 q) w' from fun w' hw => by
            have := (HM5.out.below hw HM5.out.lt).len_run (P := Try.prog) 163 3 (by kernel_rfl)
            rw [hq] at this
            exact this)
          clear hq
          have hln := HLN.out (w5.putObj b o) (Below.refl _ _)
          cases d
          case false =>
            have hne : ¬ (q : Int) = (K : Int) := by
              have : ¬ q = K := by simpa using hdd
              omega
            have hkm2 : k + 1 ≤ m := by
              rcases Nat.lt_or_ge k m with h | h
              · omega
              · have e : k = m := by omega
                have := HMM.out.stop (by omega)
                rw [← e, HD.out] at this
                exact absurd this (by decide)
            clear hdd
            go_wp2_with fail
            go_roundw
            case rel => exact ⟨k + 1, by omega, hkm2, by go_num, HO5.out, HM5.out, g7, hb7⟩
            case measure => simp [intOf]; omega
          case true =>
            have heq : (q : Int) = (K : Int) := by
              have : q = K := by simpa using hdd
              omega
            have hkm2 : k = m := by
              rcases Nat.lt_or_ge k m with h | h
              · have := HMM.out.all k h
                rw [HD.out] at this
                exact absurd this (by decide)
              · omega
            clear hdd
            go_wp2_with fail
            go_ret2
            refine ⟨?_, hb7⟩
            rw [HF.out.1, HF.out.2, if_pos (show m ≤ s.size by omega), if_pos (show m ≤ s.size by omega)]
            rfl
      · have hd : decide ((k : Int) < (s.size : Int) + 1) = false := by simp; omega
        go_wp2_with fail
        go_ret2
        refine ⟨?_, hb⟩
        rw [HF.out.1, HF.out.2, if_neg (show ¬ m ≤ s.size by omega), if_neg (show ¬ m ≤ s.size by omega)]
        rfl
  · have hb1 : (c != 0) = true := by simpa [bne] using h0
    have HFN := Lib.hid (show firstC L x y s n m = c ∧ firstN L x y s n m = 0 by rw [HF.out.1, HF.out.2, if_neg h0, if_neg (fun h => h0 h.1)]; exact ⟨rfl, rfl⟩)
    clear hsz h0 hmk HG HM HC HF hm hc hn hs hL
    go_enter Try.func53, Try.ntmps53
    obtain ⟨g0, c0, hb0⟩ := cell_new w L x y
    obtain ⟨-, -, d0, -, -⟩ := c0.facts
    go_wp2_with fail
    refine (HA.out _).mono ?_
    rintro e w1 ⟨⟨v, rfl, ho⟩, hb2⟩
    have hb3 := below_onto hb0 hb2
    clear g0 c0 d0 hb0 hb2 ho
    go_wp2_with fail
    go_ret2
    refine ⟨?_, hb3⟩
    rw [HFN.out.1, HFN.out.2]
    rfl

set_option maxRecDepth 100000 in
set_option maxHeartbeats 1000000 in
theorem specFirst_any (L : Lawn) (hL : L.Fits) (x y : Int) (x0 : -128 ≤ x) (x1 : x ≤ 127) (y0 : -128 ≤ y) (y1 : y ≤ 127) (s : ByteArray) (hs : s.size ≤ maxLen) (n : Nat) (hn : Goes L x y s n) (m : Nat) (hm : GoneIs (fun j => !fullB L (cellsK (x, y) s.data.toList (s.size + 1)) (j + 1)) s.size m) (w : World) :
    Calls Try.prog 54 #[.agg L.cells, .agg #[.int .i8 x, .int .i8 y], .string s] w fun e w' => e = .returned (.tuple #[.int .i64 (firstN L x y s n m), .int .i64 (firstC L x y s n m)]) ∧ Below w.heap.size w w' := by
  have HG := Lib.hid (fun (w' : World) (h : Holds w' w.heap.size L.cells) => l02Gone_any L hL w.heap.size x y x0 x1 y0 y1 s hs n hn w' h)
  have HF := Lib.hid (show firstC L x y s n m = (if alongC L x y s n = 0 then (if m ≤ s.size then 0 else 6) else alongC L x y s n) ∧ firstN L x y s n m = (if alongC L x y s n = 0 ∧ m ≤ s.size then (m : Int) else 0) from ⟨rfl, rfl⟩)
  by_cases h0 : alongC L x y s n = 0
  · obtain ⟨hV, hI, hwz, hgo⟩ := alongC_zero h0
    have hwle := wayC_le hwz
    obtain ⟨h1, h2, -⟩ := validB_true hV
    have hall : ∀ c ∈ cellsK (x, y) s.data.toList (s.size + 1), openP L c = true := fun c hc => by
      simp only [cellsK, List.mem_map, List.mem_range] at hc
      obtain ⟨j, hj, rfl⟩ := hc
      exact hn.all j (by omega)
    have hcl : (cellsK (x, y) s.data.toList (s.size + 1)).length = s.size + 1 := by simp [cellsK]
    have HA := Lib.hid (show alongM L x y s n = s.size + 1 ∧ alongX L x y s n = flatP (cellsK (x, y) s.data.toList (s.size + 1)) by unfold alongM alongX; rw [if_pos h0, if_pos h0]; exact ⟨rfl, rfl⟩)
    rw [h0] at HG HF
    obtain ⟨cs, hcs⟩ : ∃ cs, cellsK (x, y) s.data.toList (s.size + 1) = cs := ⟨_, rfl⟩
    rw [hcs] at hm hall hcl HA
    have HMN := Lib.hid (fun (k : Nat) (hk : k ≤ cs.length) (g cap : Nat) (w' : World) (h : Holds w' w.heap.size L.cells) (B : Nat) ho => l02Mown_any L.wide.toNat L.high.toNat (by omega) (by omega) (by omega) (by omega) L hL (by omega) (by omega) hV w.heap.size g cap k (cs.take k) (by rw [List.length_take]; omega) (by omega) (fun c hc => hall c (List.mem_of_mem_take hc)) false B w' h ho)
    have HFU := Lib.hid (fun (k : Nat) (hk : k ≤ cs.length) => show ((((filtB (mownB L (cs.take k) false) (allC L.wide.toNat L.high.toNat)).length : Int) == 0) = fullB L cs k) from by
      have e := set_full (show L.wide = (L.wide.toNat : Int) by omega) (show L.high = (L.high.toNat : Int) by omega) cs k hk
      unfold fullB
      rw [Bool.eq_iff_iff, beq_iff_eq, decide_eq_true_iff, ← e]
      omega)
    have HMM := Lib.hid hm
    have HCL := Lib.hid hcl
    simp only [true_and, if_true] at HF
    clear hI hwz hgo h1 h2 hall hn hs hL hV h0 hm hcs
    obtain ⟨g0, c0, hb⟩ := cell_new w L x y
    obtain ⟨-, -, d0, -, -⟩ := c0.facts
    go_enter Try.func54, Try.ntmps54
    go_wp2_with fail
    refine (HG.out _ g0).mono ?_
    rintro e w3 ⟨⟨vc, rfl, hoc⟩, hb1⟩
    rw [HA.out.1, HA.out.2] at hoc
    have g3 := g0.below hb1 g0.lt
    have jB3 := below_onto hb hb1
    have HOC := Lib.hid (ownsRow_low hoc hb.size)
    clear g0 c0 d0 hb hb1 hoc
    obtain ⟨gc, cc, hve, -, -⟩ := own_form HOC.out (by omega)
    subst hve
    have hroom := own_room2 HOC.out
    go_wp2_with fail
    go_loopw [10] (fun i wr => ∃ k : Nat, k ≤ s.size + 1 ∧ k ≤ m ∧ i = .int .i64 ((k + 1 : Nat) : Int) ∧ wr.ownsRow w.heap.size 35 2 (.slice (some ⟨gc, 0, none⟩) (s.size + 1) cc) (s.size + 1) (flatP cs) ∧ Holds wr w.heap.size L.cells ∧ Below w.heap.size w wr) (fun i _ => 300 - (intOf i).toNat)
    case atStart => exact ⟨0, Nat.zero_le _, Nat.zero_le _, rfl, HOC.out, g3, jB3⟩
    case round =>
      obtain ⟨k, hk, hkm, rfl, ho, g4, hb⟩ := hrel
      have HO1 := Lib.hid ho
      clear ho HOC g3 jB3
      by_cases hlt : k < s.size + 1
      · have hd : decide (((k + 1 : Nat) : Int) ≤ (s.size : Int) + 1) = true := by simp; omega
        have hcut := own_cut2 HO1.out (m := k + 1) (by omega)
        rw [flatP_take] at hcut
        have HCUT := Lib.hid hcut
        clear hcut
        obtain ⟨d, hdd⟩ : ∃ d, fullB L cs (k + 1) = d := ⟨_, rfl⟩
        have HD := Lib.hid hdd
        have hfu := HFU.out (k + 1) (by rw [HCL.out]; omega)
        rw [hdd] at hfu
        obtain ⟨q, hq⟩ : ∃ q, (filtB (mownB L (cs.take (k + 1)) false) (allC L.wide.toNat L.high.toNat)).length = q := ⟨_, rfl⟩
        rw [hq] at hfu
        have HQ := Lib.hid hq
        clear hdd hq
        go_wp2_with fail
        refine (HMN.out (k + 1) (by rw [HCL.out]; omega) gc cc wr g4 _ HCUT.out).mono ?_
        rintro e w5 ⟨⟨v, rfl, hov⟩, hb5⟩
        rw [HQ.out] at hov
        obtain ⟨av, cv, rfl⟩ := own_slice hov
        have hb6 := below_onto hb hb5
        have g5 := g4.below hb5 g4.lt
        have HO5 := Lib.hid (own_below HO1.out hb5)
        clear hov hb5 hb g4 HCUT HO1
        cases d
        case false =>
          have hne : ¬ q = 0 := by
            intro h; rw [h] at hfu; exact absurd hfu (by decide)
          have hkm2 : k + 1 ≤ m := by
            rcases Nat.lt_or_ge k m with h | h
            · omega
            · have e : k = m := by omega
              have := HMM.out.stop (by omega)
              rw [← e, HD.out] at this
              exact absurd this (by decide)
          go_wp2_with fail
          go_roundw
          case rel => exact ⟨k + 1, by omega, hkm2, by go_num, HO5.out, g5, hb6⟩
          case measure => simp [intOf]; omega
        case true =>
          have heq : q = 0 := by
            have := beq_iff_eq.1 hfu
            omega
          have hkm2 : k = m := by
            rcases Nat.lt_or_ge k m with h | h
            · have := HMM.out.all k h
              rw [HD.out] at this
              exact absurd this (by decide)
            · omega
          go_wp2_with fail
          go_ret2
          refine ⟨?_, hb6⟩
          rw [HF.out.1, HF.out.2, if_pos (show m ≤ s.size by omega), if_pos (show m ≤ s.size by omega)]
          rfl
      · have hd : decide (((k + 1 : Nat) : Int) ≤ (s.size : Int) + 1) = false := by simp; omega
        go_wp2_with fail
        go_ret2
        refine ⟨?_, hb⟩
        rw [HF.out.1, HF.out.2, if_neg (show ¬ m ≤ s.size by omega), if_neg (show ¬ m ≤ s.size by omega)]
        rfl
  · obtain ⟨c, hc⟩ : ∃ c, alongC L x y s n = c := ⟨_, rfl⟩
    rw [hc] at HG h0 HF
    have HFN := Lib.hid (show firstC L x y s n m = c ∧ firstN L x y s n m = 0 by rw [HF.out.1, HF.out.2, if_neg h0, if_neg (fun h => h0 h.1)]; exact ⟨rfl, rfl⟩)
    have hb1 : (c != 0) = true := by simpa [bne] using h0
    clear hc hn hs hL h0 HF hm
    obtain ⟨g0, c0, hb0⟩ := cell_new w L x y
    obtain ⟨-, -, d0, -, -⟩ := c0.facts
    go_enter Try.func54, Try.ntmps54
    go_wp2_with fail
    refine (HG.out _ g0).mono ?_
    rintro e w1 ⟨⟨v, rfl, -⟩, hb2⟩
    have hb3 := below_onto hb0 hb2
    clear g0 c0 d0 hb0 hb2
    go_wp2_with fail
    go_ret2
    refine ⟨?_, hb3⟩
    rw [HFN.out.1, HFN.out.2]
    rfl
end Go.Proofs.Ytlfmadnhjleofaa
