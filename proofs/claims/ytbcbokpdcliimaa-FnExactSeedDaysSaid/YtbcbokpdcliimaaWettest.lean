/- WettestDays, of the program and of the model. -/
import Derived.Test.YtbcbokpdcliimaaSpans
import Derived.Sort.QuietIn
namespace Go.Proofs.Ytbcbokpdcliimaa
open Go.RowKit Go.Shelf
set_option linter.unusedVariables false
set_option linter.unusedSimpArgs false
attribute [local go_sem] Oper.semAt_some

def sumZ (zs : List Int) (k : Nat) : Nat → Int
  | 0 => 0
  | j + 1 => sumZ zs k j + rainZ zs (k + j)
theorem sumZ_range {zs : List Int} {k : Nat} : ∀ j, (∀ i, i < j → 0 ≤ rainZ zs (k + i) ∧ rainZ zs (k + i) ≤ 50) → 0 ≤ sumZ zs k j ∧ sumZ zs k j ≤ 50 * j
  | 0, _ => by simp [sumZ]
  | j + 1, h => by
    have h1 := sumZ_range j (fun i hi => h i (by omega))
    have h2 := h j (by omega)
    simp only [sumZ]
    omega
/-- The wettest span up to now, and its rain. -/
def wetG (zs : List Int) (d : Nat) (s : Int × Int) (x : Nat) : Int × Int := if s.2 < sumZ zs x d then ((x : Int), sumZ zs x d) else s
def wetF (zs : List Int) (d : Nat) (l : List Nat) : Int × Int := l.foldl (wetG zs d) (0, -1)
theorem wetF_snoc (zs : List Int) (d : Nat) (l : List Nat) (x : Nat) : wetF zs d (l ++ [x]) = wetG zs d (wetF zs d l) x := by simp [wetF, List.foldl_append]

def wetA (m a : Int) : Int := if m < 0 then 0 else a
def wetM (m : Int) : Int := if m < 0 then 0 else m
def wetC (m : Int) : Int := if m < 0 then 6 else 0
theorem isSpan_is (n : Int) (v : Bool) (h : (decide (1 ≤ n) && decide (n ≤ 30)) = v) (w : World) :
    Calls Try.prog 62 #[.int .i64 n] w fun e w' => e = .returned (.bool v) ∧ w' = w := by
  by_cases h1 : 1 ≤ n
  · have d1 : decide (1 ≤ n) = true := by simpa using h1
    obtain ⟨d, hd⟩ : ∃ d, decide (n ≤ 30) = d := ⟨_, rfl⟩
    have HV := Lib.hid (show v = d by rw [← h, d1, hd, Bool.true_and])
    clear h
    go_enter Try.func62, Try.ntmps62
    go_wp2
    go_ret
    exact ⟨by rw [HV.out, ← hd]; rfl, rfl⟩
  · have d1 : decide (1 ≤ n) = false := by simpa using h1
    have HV := Lib.hid (show v = false by rw [← h, d1, Bool.false_and])
    clear h
    go_enter Try.func62, Try.ntmps62
    go_wp2
    go_ret
    exact ⟨by rw [HV.out]; rfl, rfl⟩

theorem wet_own {M : Nat} (s : Nat) (zs : List Int) (d : Nat) : Own (fun (pre : List (Fin M)) W => Holds W s #[.int .i64 (wetF zs d (pre.map (·.val))).1] ∧ Holds W (s + 1) #[.int .i64 (wetF zs d (pre.map (·.val))).2]) :=
  fun _ _ _ _ hs hg hr => ⟨hs.1.grown hg hr, hs.2.grown hg hr⟩

set_option maxRecDepth 100000 in
set_option maxHeartbeats 2000000 in
theorem implWet_any (B N : Nat) (v : Value) (zs : List Int) (hz : zs.length = N * 2) (hzr : ∀ z ∈ zs, -128 ≤ z ∧ z ≤ 127) (hm : FirstNo (dayP zs) N N) (d : Nat) (hd1 : 1 ≤ d ∧ d ≤ 30) (a m : Int) (hr : (a, m) = wetF zs d ((List.finRange (N + 1 - d)).map (·.val))) (w : World) (ho : w.ownsRow B 40 2 v N (intsV .i8 zs)) :
    Calls Try.prog 40 #[v, .int .i64 d] w fun e w' => e = .returned (.tuple #[.int .i64 (wetA m a), .int .i64 (wetM m), .int .i64 (wetC m)]) ∧ Below w.heap.size w w' := by
  have hall := (first_all hm).1 rfl
  have HALL := Lib.hid hall.2
  have h30 := hall.1
  have hK := implValidW_any B N v (by omega) zs hz hzr N hm w ho
  rw [decide_eq_true (rfl : N = N)] at hK
  have HK := Lib.hid hK
  have HRR := Lib.hid hr
  have HO := Lib.hid ho
  have hsp : (decide ((1 : Int) ≤ d) && decide ((d : Int) ≤ 30)) = true := by simp; omega
  have HZ := Lib.hid (show ∀ i, i < N → zs[i * 2]? = some (rainZ zs i) ∧ zs[i * 2 + 1]? = some (warmZ zs i) from fun i hi => ⟨by simp [rainZ, List.getElem?_eq_getElem (show i * 2 < zs.length by omega)], by simp [warmZ, List.getElem?_eq_getElem (show i * 2 + 1 < zs.length by omega)]⟩)
  have hlow := fun k (hk : v.ownBlock = some k) => (ho.lt k hk).2
  obtain ⟨av, cv, rfl⟩ := own_slice ho
  have HLW := Lib.hid hlow
  clear ho hm hz hzr hK hall hr hlow
  refine (callsIn_wide (n := 9)).1 ?_
  refine callsIn_of_wp_marks Try.func40 rfl trivial ?_ rfl
  simp only [Try.ntmps40, List.size_toArray, List.length_cons, List.length_nil, Nat.reduceAdd, Nat.reduceSub, Array.replicate_succ, Array.replicate_zero, List.push_toArray, List.append_toArray, List.nil_append, List.cons_append]
  gi_wp2_with fail
  refine ⟨trivial, (callsIn_wide.2 HK.out).mono ?_⟩
  rintro e w1 ⟨rfl, hb1⟩
  have HO1 := Lib.hid (own_below HO.out hb1)
  clear HO HK
  gi_wp2_with (first | (refine ⟨trivial, ?_⟩; gi_at_call 62; refine (callsIn_wide.2 (isSpan_is _ _ hsp _)).mono ?_; rintro e w2 ⟨rfl, rfl⟩) | (refine ⟨trivial, ?_⟩; gi_at_call 63; refine (eachSpan_in _ _ _ _ _ _).mono ?_; rintro e w3 ⟨rfl, rfl⟩))
  clear hsp
  obtain ⟨s, hs⟩ : ∃ s, w2.heap.size = s := ⟨_, rfl⟩
  obtain ⟨W0, hW0⟩ : ∃ W0, (((w2.alloc (.cells #[.int .i64 0] 2)).alloc (.cells #[.int .i64 (-1)] 2)).alloc (.cells #[.slice av N cv] 27)).alloc (.cells #[.int .i64 d] 2) = W0 := ⟨_, rfl⟩
  have g0 : Holds W0 s #[.int .i64 0] := by rw [← hW0]; exact (((Holds.new' _ _ _ _ hs.symm).alloc _).alloc _).alloc _
  have g1 : Holds W0 (s + 1) #[.int .i64 (-1)] := by rw [← hW0]; exact ((Holds.new' _ _ _ _ (by simp; omega)).alloc _).alloc _
  have g2 : Holds W0 (s + 1 + 1) #[.slice av N cv] := by rw [← hW0]; exact (Holds.new' _ _ _ _ (by simp; omega)).alloc _
  have g3 : Holds W0 (s + 1 + 1 + 1) #[.int .i64 d] := by rw [← hW0]; exact Holds.new' _ _ _ _ (by simp; omega)
  have gO : W0.ownsRow B 40 2 (.slice av N cv) N (intsV .i8 zs) := by rw [← hW0]; exact (((HO1.out.alloc _).alloc _).alloc _).alloc _
  have hB0 : Below w.heap.size w W0 := by rw [← hW0]; exact (((hb1.alloc hb1.size _).alloc (by have := hb1.size; simp; omega) _).alloc (by have := hb1.size; simp; omega) _).alloc (by have := hb1.size; simp; omega) _
  have hz1 : W0.heap.size = s + 4 := by rw [← hW0]; simp; omega
  have hsw : w.heap.size ≤ s := by have := hb1.size; omega
  rw [hs]
  rw [hW0]
  clear hW0 hs HO1 hb1
  have HOL := Lib.hid (fun g hg => Nat.lt_of_lt_of_le (HLW.out g hg) hsw)
  refine range_ends (α := Fin (N + 1 - d)) rfl (by omega) (gf := 76) (lb := #[.pointer (some ⟨s + 1 + 1 + 1, 0, none⟩), .pointer (some ⟨s + 1 + 1, 0, none⟩)]) rfl trivial (enters_of Try.func76 (by kernel_rfl) rfl)
    (encs := fun x => spanA (.slice av N cv) d x.val) (Kp := KeepS (s + 1 + 1 + 1) (s + 1 + 1) (.slice av N cv)) (S := fun xs => xs = List.finRange (N + 1 - d)) (Sp := fun ch pre => False) (N := 30)
    (fun l J W hWW hJ hY h0 => (spans_in 8 (by omega) l (s + 1 + 1 + 1) (s + 1 + 1) B (.slice av N cv) N d h30 hd1 _ J hY W (g3.below hWW g3.lt) (g2.below hWW g2.lt) (own_below gO hWW) h0).mono (fun e W' h => .inl ⟨h.1, _, rfl, h.2⟩))
    (fun h k => h.t k) (fun W l o o' hl _ _ _ => ⟨⟨World.putObj_heap_other (by omega), World.putObj_heap_other (by omega)⟩, fun g hg => World.putObj_heap_other (by have := HOL.out g hg; omega)⟩) (fun _ => rfl)
    (fun pre W => Only [s, s + 1] W0 W ∧ Holds W s #[.int .i64 (wetF zs d (pre.map (·.val))).1] ∧ Holds W (s + 1) #[.int .i64 (wetF zs d (pre.map (·.val))).2])
    (OwnFrom.and (ownFrom_only (Nat.le_refl _)) (Own.from (wet_own s zs d) _)) ⟨Only.refl _ _, g0, g1⟩
    (fun x a' W => a' = { tmps := #[.slice av N cv, .int .i64 d, undef, undef, .int .i64 0, .int .i64 0, .int .i64 0, .pointer (some ⟨s, 0, none⟩), .pointer (some ⟨s + 1, 0, none⟩), .int .i64 (x.val : Int), spanV (.slice av N cv) d x.val, undef, undef, undef, .slice av N cv, .bool true, .bool false, .int .i64 d, .bool true, .bool false, .slice av N cv, .int .i64 d, .func (.func 76) #[] #[.pointer (some ⟨s + 1 + 1 + 1, 0, none⟩), .pointer (some ⟨s + 1 + 1, 0, none⟩)], .int .i64 (x.val : Int), spanV (.slice av N cv) d x.val, undef, undef, undef, undef, undef, undef, undef, undef, undef, undef, undef, undef, undef, undef, undef, undef, undef, undef, undef, undef, undef], defers := [] })
    (fun x a' => fun _ _ _ _ h _ _ => h) ?assign ?body ?done ?pan
  case assign =>
    intro l pre x W K' hi hK
    simp only [spanA]
    gi_wp2
    exact hK _ _ (KeepsFrom.refl _ _) ⟨⟨rfl, rfl⟩, fun _ _ => rfl⟩ hi rfl
  case body =>
    rintro l pre x a' W hl ⟨hO, i1, i2⟩ rfl hlt
    have hO2 := Lib.hid hO
    have gO2 := hO.own gO (fun k hk => by have := HOL.out k hk; simp; omega)
    have hxd : x.val + d ≤ N := by have := x.isLt; omega
    obtain ⟨g, cap, he, hBg, hg⟩ := own_form gO2 (by omega)
    simp only [Value.slice.injEq, true_and] at he
    obtain ⟨rfl, rfl⟩ := he
    have HG := Lib.hid gO2
    have hgW0 := HOL.out g rfl
    have hzW := hO.size
    have hsn := wetF_snoc zs d (pre.map (·.val)) x.val
    have hmp : (pre ++ [x]).map (·.val) = pre.map (·.val) ++ [x.val] := by simp
    obtain ⟨⟨wa, wm⟩, hst⟩ : ∃ st, wetF zs d (pre.map (·.val)) = st := ⟨_, rfl⟩
    rw [hst] at i1 i2 hsn
    have HI := Lib.hid (And.intro hsn hmp)
    obtain ⟨xv, hxlt⟩ := x
    dsimp only at *
    have hrs := sumZ_range (zs := zs) (k := xv)
    have HS := Lib.hid (fun j (hj : j ≤ d) => hrs j (fun i hi => (dayB_range (HALL.out (xv + i) (by omega))).1))
    have HI12 := Lib.hid (And.intro i1 i2)
    clear hO gO2 hsn hmp hst hrs i1 i2 g0 g1 g2 g3 gO hB0
    simp only [spanV_at]
    gi_wp2
    gi_loopw [11, 27] (fun sm i wr => ∃ j : Nat, j ≤ d ∧ i = .int .i64 j ∧ sm = .int .i64 (sumZ zs xv j) ∧ Below W.heap.size W wr) (fun _ i _ => d - (intOf i).toNat)
    case atStart => exact ⟨0, by omega, rfl, rfl, Below.refl _ _⟩
    case round =>
      obtain ⟨j, hj, rfl, rfl, hb⟩ := hrel
      by_cases hlj : j < d
      · have hd : decide ((j : Int) < (d : Int)) = true := by simp; omega
        have ho := own_below HG.out hb
        obtain ⟨z0, z1⟩ := HZ.out (xv + j) (by omega)
        have c0 := own_cell ho _ _ (intsV_get (k := .i8) z0)
        have c1 := own_cell ho _ _ (intsV_get (k := .i8) z1)
        rw [Nat.add_mul] at c0 c1
        have hq := HS.out (j + 1) (by omega)
        have hsj : sumZ zs xv (j + 1) = sumZ zs xv j + rainZ zs (xv + j) := rfl
        have hr8 := (dayB_range (HALL.out (xv + j) (by omega))).1
        have w1 : wrap64 (rainZ zs (xv + j)) = rainZ zs (xv + j) := by unfold wrap64; omega
        have w2' : wrap64 (sumZ zs xv j + rainZ zs (xv + j)) = sumZ zs xv (j + 1) := by rw [hsj] at hq ⊢; unfold wrap64; omega
        have hbj := hb.alloc hb.size (.cells #[.int .i8 (rainZ zs (xv + j)), .int .i8 (warmZ zs (xv + j))] 40)
        clear ho z0 z1 hq hsj hr8
        gi_wp2
        go_roundw
        case rel => exact ⟨j + 1, by omega, by go_num, by rw [w2'], hbj⟩
        case measure => simp [intOf]; omega
      · have hd : decide ((j : Int) < (d : Int)) = false := by simp; omega
        obtain rfl : j = d := by omega
        have j1 := HI12.out.1.below hb HI12.out.1.lt
        have j2 := HI12.out.2.below hb HI12.out.2.lt
        have qO := hO2.out.below hb hzW
        have qK : KeepsOthers W wr := ⟨hb.size, fun k o hk _ => (hb.block k (Array.getElem?_eq_some_iff.1 hk).1).trans hk⟩
        obtain ⟨-, f1, c1, z1, l1⟩ := j1.facts
        obtain ⟨-, f2, c2, z2, l2⟩ := j2.facts
        have hqb := fun k (hk : k < W.heap.size) => hb.block k hk
        by_cases hmo : wm < sumZ zs xv j
        · have hdm : decide (wm < sumZ zs xv j) = true := by simpa using hmo
          have HV := Lib.hid (show wetG zs j (wa, wm) xv = ((xv : Int), sumZ zs xv j) by rw [wetG, if_pos hmo])
          clear hmo
          gi_wp2
          have hA : ∀ k, k < W0.heap.size → k ≠ s → k ≠ s + 1 → ((wr.setCell ⟨s, 0, none⟩ (.int .i64 (xv : Int))).setCell ⟨s + 1, 0, none⟩ (.int .i64 (sumZ zs xv j))).heap[k]? = W.heap[k]? := fun k h1 h2 h3 =>
            (Below.heap_setCell _ _ _ k (by dsimp only; omega)).trans ((Below.heap_setCell _ _ _ k (by dsimp only; omega)).trans (hqb k (by omega)))
          refine ⟨((qK.trans (KeepsOthers.setCell _ _ _)).trans (KeepsOthers.setCell _ _ _)).from _, ⟨⟨hA _ (by omega) (by omega) (by omega), hA _ (by omega) (by omega) (by omega)⟩, fun g' hg' => hA _ (by have := HOL.out g' hg'; omega) (by have := HOL.out g' hg'; omega) (by have := HOL.out g' hg'; omega)⟩, (qO.setCell (a := ⟨s, 0, none⟩) (.inl (by simp)) _).setCell (a := ⟨s + 1, 0, none⟩) (.inl (by simp)) _, ?_, ?_⟩
          · rw [HI.out.2, HI.out.1, HV.out]; exact (j1.setCell 0 _).setCell_other _ _ (by simp)
          · rw [HI.out.2, HI.out.1, HV.out]; exact (j2.setCell_other _ _ (by simp)).setCell 0 _
        · have hdm : decide (wm < sumZ zs xv j) = false := by simpa using hmo
          have HV := Lib.hid (show wetG zs j (wa, wm) xv = (wa, wm) by rw [wetG, if_neg hmo])
          clear hmo
          gi_wp2
          refine ⟨qK.from _, ⟨⟨hqb _ (by omega), hqb _ (by omega)⟩, fun g' hg' => hqb _ (by have := HOL.out g' hg'; omega)⟩, qO, ?_, ?_⟩
          · rw [HI.out.2, HI.out.1, HV.out]; exact j1
          · rw [HI.out.2, HI.out.1, HV.out]; exact j2
  case done =>
    rintro D xs W hD rfl ⟨hO, i1, i2⟩ hK
    rw [← HRR.out] at i1 i2
    dsimp only at i1 i2
    have hB2 : Below w.heap.size w W := hB0.trans (hO.toBelow (by simp; omega) (by omega))
    have hlW := hO.size
    clear g0 g1 g2 g3 gO hO
    by_cases hm0 : m < 0
    · have hdm : decide (m < 0) = true := by simpa using hm0
      have HV := Lib.hid (show wetA m a = 0 ∧ wetM m = 0 ∧ wetC m = 6 from ⟨by rw [wetA, if_pos hm0], by rw [wetM, if_pos hm0], by rw [wetC, if_pos hm0]⟩)
      obtain ⟨-, f2, c2, z2, l2⟩ := i2.facts
      clear hm0
      gi_wp2
      refine ⟨by simp, .inl ⟨_, _, rfl, run_takeDeferred hK, ?_⟩⟩
      refine ⟨.tuple #[.int .i64 0, .int .i64 0, .int .i64 6], ?_, ⟨by rw [HV.out.1, HV.out.2.1, HV.out.2.2], hB2.trans (belowK_b (w := w) (Nat.le_refl _) _ D _ _ (by omega) hK rfl rfl)⟩⟩
      simp [results, Try.f40, go_sem]
    · have hdm : decide (m < 0) = false := by simpa using hm0
      have HV := Lib.hid (show wetA m a = a ∧ wetM m = m ∧ wetC m = 0 from ⟨by rw [wetA, if_neg hm0], by rw [wetM, if_neg hm0], by rw [wetC, if_neg hm0]⟩)
      have HI12 := Lib.hid (And.intro i1 i2)
      obtain ⟨-, f2, c2, z2, l2⟩ := i2.facts
      obtain ⟨-, f1, c1, z1, l1⟩ := i1.facts
      clear hm0
      gi_wp2
      gi_quiet (fail)
      gi_wp2
      refine ⟨by simp, .inl ⟨_, _, rfl, run_takeDeferred (show (W.drewN nq).heap[D]? = _ from hK), ?_⟩⟩
      refine ⟨.tuple #[.int .i64 a, .int .i64 m, .int .i64 0], ?_, ⟨by rw [HV.out.1, HV.out.2.1, HV.out.2.2], (below_drewN hB2 _).trans (belowK_b (w := w) (Nat.le_refl _) _ D _ _ (by omega) hK rfl rfl)⟩⟩
      simp [results, Try.f40, go_sem]
  case pan =>
    rintro D ch pre W hD h
    exact h.elim

theorem finRange_val (M : Nat) : (List.finRange M).map (·.val) = List.range M := by
  apply List.ext_getElem
  · simp
  · intro i h1 h2
    simp
def spanF (n : Int) : Bool := decide (1 ≤ n) && decide (n ≤ 30)

set_option maxRecDepth 100000 in
set_option maxHeartbeats 2000000 in
theorem implWet_bad (B N : Nat) (v : Value) (hN : N ≤ 2000000) (zs : List Int) (hz : zs.length = N * 2) (hzr : ∀ z ∈ zs, -128 ≤ z ∧ z ≤ 127) (m : Nat) (hm : FirstNo (dayP zs) N m) (n : Int) (hne : askB N m (spanF n) = false) (w : World) (ho : w.ownsRow B 40 2 v N (intsV .i8 zs)) :
    Calls Try.prog 40 #[v, .int .i64 n] w fun e w' => e = .returned (.tuple #[.int .i64 0, .int .i64 0, .int .i64 (askC N m (spanF n))]) ∧ Below w.heap.size w w' := by
  have hK := implValidW_any B N v hN zs hz hzr m hm w ho
  obtain ⟨av, cv, rfl⟩ := own_slice ho
  clear ho hm hz hzr
  refine (callsIn_wide (n := 9)).1 ?_
  refine callsIn_of_wp_marks Try.func40 rfl trivial ?_ rfl
  simp only [Try.ntmps40, List.size_toArray, List.length_cons, List.length_nil, Nat.reduceAdd, Nat.reduceSub, Array.replicate_succ, Array.replicate_zero, List.push_toArray, List.append_toArray, List.nil_append, List.cons_append]
  by_cases hmN : m = N
  · rw [decide_eq_true hmN] at hK
    have hf : spanF n = false := by simpa [askB, hmN] using hne
    have HC := Lib.hid (show askC N m (spanF n) = 2 by rw [askC, if_pos hmN, hf]; rfl)
    have HK := Lib.hid hK
    clear hK hne hmN
    gi_wp2_with fail
    refine ⟨trivial, (callsIn_wide.2 HK.out).mono ?_⟩
    rintro e w1 ⟨rfl, hb1⟩
    gi_wp2_with (refine ⟨trivial, ?_⟩; gi_at_call 62; refine (callsIn_wide.2 (isSpan_is _ _ hf _)).mono ?_; rintro e w2 ⟨rfl, rfl⟩)
    refine ⟨.tuple #[.int .i64 0, .int .i64 0, .int .i64 2], ?_, ⟨by rw [HC.out], hb1⟩⟩
    simp [results, Try.f40, go_sem]
  · rw [decide_eq_false hmN] at hK
    have HC := Lib.hid (show askC N m (spanF n) = 1 by rw [askC, if_neg hmN])
    have HK := Lib.hid hK
    clear hK hne hmN
    gi_wp2_with fail
    refine ⟨trivial, (callsIn_wide.2 HK.out).mono ?_⟩
    rintro e w1 ⟨rfl, hb1⟩
    gi_wp2_with fail
    refine ⟨.tuple #[.int .i64 0, .int .i64 0, .int .i64 1], ?_, ⟨by rw [HC.out], hb1⟩⟩
    simp [results, Try.f40, go_sem]

theorem l03Span_is (n : Int) (v : Bool) (h : spanF n = v) (w : World) :
    Calls Try.prog 61 #[.int .i64 n] w fun e w' => e = .returned (.bool v) ∧ w' = w := by
  have HK := Lib.hid (l00In_is n 1 30 v h)
  clear h
  go_enter Try.func61, Try.ntmps61
  go_wp2_with fail
  refine (HK.out w).mono ?_
  rintro e w1 ⟨rfl, rfl⟩
  go_wp2_with fail
  go_ret
  exact ⟨rfl, rfl⟩

set_option maxRecDepth 100000 in
set_option maxHeartbeats 2000000 in
theorem specWet_bad (B N : Nat) (v : Value) (hN : N ≤ 2000000) (zs : List Int) (hz : zs.length = N * 2) (hzr : ∀ z ∈ zs, -128 ≤ z ∧ z ≤ 127) (m : Nat) (hm : FirstNo (dayP zs) N m) (n : Int) (hne : askB N m (spanF n) = false) (w : World) (ho : w.ownsRow B 40 2 v N (intsV .i8 zs)) :
    Calls Try.prog 39 #[v, .int .i64 n] w fun e w' => e = .returned (.tuple #[.int .i64 0, .int .i64 0, .int .i64 (askC N m (spanF n))]) ∧ Below w.heap.size w w' := by
  have hK := l03Asked_any B N v hN zs hz hzr m hm (spanF n) w ho
  obtain ⟨av, cv, rfl⟩ := own_slice ho
  obtain ⟨f, hf⟩ : ∃ f, spanF n = f := ⟨_, rfl⟩
  have hc := ask_bad hne
  rw [hf] at hK hc ⊢
  clear ho hm hz hzr hne
  rcases hc with hc | hc <;> rw [hc] at hK ⊢
  all_goals
    have HK := Lib.hid hK
    clear hc hK
    go_enter Try.func39, Try.ntmps39
    go_wp2_with (go_at_call 61; refine (l03Span_is _ _ hf _).mono ?_; rintro e w2 ⟨rfl, rfl⟩)
    refine HK.out.mono ?_
    rintro e w1 ⟨rfl, hb1⟩
    go_wp2_with fail
    go_ret3
    exact ⟨rfl, hb1⟩

set_option maxRecDepth 100000 in
set_option maxHeartbeats 2000000 in
theorem specWet_any (B N : Nat) (v : Value) (zs : List Int) (hz : zs.length = N * 2) (hzr : ∀ z ∈ zs, -128 ≤ z ∧ z ≤ 127) (hm : FirstNo (dayP zs) N N) (d : Nat) (hd1 : 1 ≤ d ∧ d ≤ 30) (a m : Int) (hr : (a, m) = wetF zs d (List.range (N + 1 - d))) (w : World) (ho : w.ownsRow B 40 2 v N (intsV .i8 zs)) :
    Calls Try.prog 39 #[v, .int .i64 d] w fun e w' => e = .returned (.tuple #[.int .i64 (wetA m a), .int .i64 (wetM m), .int .i64 (wetC m)]) ∧ Below w.heap.size w w' := by
  have hall := (first_all hm).1 rfl
  have HALL := Lib.hid hall.2
  have h30 := hall.1
  have hf : spanF (d : Int) = true := by simp [spanF]; omega
  have hK := l03Asked_any B N v (by omega) zs hz hzr N hm true w ho
  rw [show askC N N true = 0 by simp [askC]] at hK
  have HK := Lib.hid hK
  have HO := Lib.hid ho
  have HZ := Lib.hid (show ∀ i, i < N → zs[i * 2]? = some (rainZ zs i) from fun i hi => by simp [rainZ, List.getElem?_eq_getElem (show i * 2 < zs.length by omega)])
  have HRR := Lib.hid hr
  obtain ⟨av, cv, rfl⟩ := own_slice ho
  clear ho hm hz hzr hK hall hr
  by_cases hdN : d ≤ N
  · have hdd : decide ((N : Int) < (d : Int)) = false := by simp; omega
    go_enter Try.func39, Try.ntmps39
    go_wp2_with (go_at_call 61; refine (l03Span_is _ _ hf _).mono ?_; rintro e w2 ⟨rfl, rfl⟩)
    refine HK.out.mono ?_
    rintro e w1 ⟨rfl, hb1⟩
    clear HK hf
    go_wp2_with fail
    go_loopw [8, 9, 10] (fun b mo i wr => ∃ k : Nat, k ≤ N + 1 - d ∧ i = .int .i64 k ∧ b = .int .i64 (wetF zs d (List.range k)).1 ∧ mo = .int .i64 (wetF zs d (List.range k)).2 ∧ Below w2.heap.size w2 wr) (fun _ _ i _ => 31 - (intOf i).toNat)
    case atStart => exact ⟨0, by omega, rfl, rfl, rfl, hb1⟩
    case round =>
      obtain ⟨k, hk, rfl, rfl, rfl, hb⟩ := hrel
      have hsn : wetF zs d (List.range (k + 1)) = wetG zs d (wetF zs d (List.range k)) k := by rw [List.range_succ, wetF_snoc]
      obtain ⟨⟨wa, wm⟩, hst⟩ : ∃ st, wetF zs d (List.range k) = st := ⟨_, rfl⟩
      by_cases hlt : k + d ≤ N
      · rw [hst] at hsn ⊢
        have HI := Lib.hid hsn
        have hd : decide ((k : Int) + (d : Int) ≤ (N : Int)) = true := by simp; omega
        have hrs := sumZ_range (zs := zs) (k := k)
        have HS := Lib.hid (fun j (hj : j ≤ d) => hrs j (fun i hi => (dayB_range (HALL.out (k + i) (by omega))).1))
        clear hsn hst hrs
        dsimp only
        go_wp2_with fail
        go_loopw [11, 12] (fun sm i wi => ∃ j : Nat, j ≤ d ∧ i = .int .i64 j ∧ sm = .int .i64 (sumZ zs k j) ∧ wi = wr) (fun _ i _ => d - (intOf i).toNat)
        case atStart => exact ⟨0, by omega, rfl, rfl, rfl⟩
        case round =>
          obtain ⟨j, hj, rfl, rfl, rfl⟩ := hrel
          by_cases hlj : j < d
          · have hd2 : decide ((j : Int) < (d : Int)) = true := by simp; omega
            have ho := own_below HO.out hb
            obtain ⟨g, cap, he, hBg, hg⟩ := own_form ho (by omega)
            simp only [Value.slice.injEq, true_and] at he
            obtain ⟨rfl, rfl⟩ := he
            have c0 := own_cell ho _ _ (intsV_get (k := .i8) (HZ.out (k + j) (by omega)))
            have hq := HS.out (j + 1) (by omega)
            have hsj : sumZ zs k (j + 1) = sumZ zs k j + rainZ zs (k + j) := rfl
            have hr8 := (dayB_range (HALL.out (k + j) (by omega))).1
            have w1 : wrap64 (rainZ zs (k + j)) = rainZ zs (k + j) := by unfold wrap64; omega
            have w2' : wrap64 (sumZ zs k j + rainZ zs (k + j)) = sumZ zs k (j + 1) := by rw [hsj] at hq ⊢; unfold wrap64; omega
            have hkj : (k : Int) + (j : Int) < (N : Int) := by omega
            clear ho hq hsj hr8
            go_wp2_with fail
            go_roundw
            case rel => exact ⟨j + 1, by omega, by go_num, by rw [w2'], trivial⟩
            case measure => simp [intOf]; omega
          · have hd2 : decide ((j : Int) < (d : Int)) = false := by simp; omega
            obtain rfl : j = d := by omega
            by_cases hmo : wm < sumZ zs k j
            · have hdm : decide (wm < sumZ zs k j) = true := by simpa using hmo
              have HV := Lib.hid (show wetG zs j (wa, wm) k = ((k : Int), sumZ zs k j) by rw [wetG, if_pos hmo])
              clear hmo
              go_wp2_with fail
              go_roundw
              case rel => exact ⟨k + 1, by omega, by go_num, by rw [HI.out, HV.out], by rw [HI.out, HV.out], hb⟩
              case measure => simp [intOf]; omega
            · have hdm : decide (wm < sumZ zs k j) = false := by simpa using hmo
              have HV := Lib.hid (show wetG zs j (wa, wm) k = (wa, wm) by rw [wetG, if_neg hmo])
              clear hmo
              go_wp2_with fail
              go_roundw
              case rel => exact ⟨k + 1, by omega, by go_num, by rw [HI.out, HV.out], by rw [HI.out, HV.out], hb⟩
              case measure => simp [intOf]; omega
      · have hd : decide ((k : Int) + (d : Int) ≤ (N : Int)) = false := by simp; omega
        obtain rfl : k = N + 1 - d := by omega
        have hm0 : ¬ m < 0 := by
          have h1 := HRR.out
          have h2 : 0 ≤ (wetF zs d (List.range (N + 1 - d))).2 := by
            rw [show N + 1 - d = (N - d) + 1 by omega, List.range_succ, wetF_snoc, wetG]
            have h3 := (sumZ_range (zs := zs) (k := N - d) d (fun i hi => (dayB_range (HALL.out (N - d + i) (by omega))).1)).1
            split
            · exact h3
            · omega
          rw [← h1] at h2
          dsimp only at h2
          omega
        have HV := Lib.hid (show wetA m a = a ∧ wetM m = m ∧ wetC m = 0 from ⟨by rw [wetA, if_neg hm0], by rw [wetM, if_neg hm0], by rw [wetC, if_neg hm0]⟩)
        rw [← HRR.out] at hst ⊢
        dsimp only
        clear hsn hst hm0
        go_wp2_with fail
        go_ret3
        exact ⟨by rw [HV.out.1, HV.out.2.1, HV.out.2.2]; rfl, hb⟩
  · have hdd : decide ((N : Int) < (d : Int)) = true := by simp; omega
    have HV := Lib.hid (show wetA m a = 0 ∧ wetM m = 0 ∧ wetC m = 6 by
      have h := HRR.out
      rw [show N + 1 - d = 0 by omega] at h
      simp only [List.range_zero, wetF, List.foldl_nil, Prod.mk.injEq] at h
      rw [h.2]
      exact ⟨rfl, rfl, rfl⟩)
    go_enter Try.func39, Try.ntmps39
    go_wp2_with (go_at_call 61; refine (l03Span_is _ _ hf _).mono ?_; rintro e w2 ⟨rfl, rfl⟩)
    refine HK.out.mono ?_
    rintro e w1 ⟨rfl, hb1⟩
    go_wp2_with fail
    go_ret3
    exact ⟨by rw [HV.out.1, HV.out.2.1, HV.out.2.2]; rfl, hb1⟩
end Go.Proofs.Ytbcbokpdcliimaa
