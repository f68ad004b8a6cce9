/- SeedDays, of the program. -/
import Derived.Test.YtbcbokpdcliimaaSeed
namespace Go.Proofs.Ytbcbokpdcliimaa
open Go.RowKit Go.Shelf
set_option linter.unusedVariables false
set_option linter.unusedSimpArgs false
attribute [local go_sem] Oper.semAt_some

set_option maxRecDepth 100000 in
set_option maxHeartbeats 4000000 in
theorem implSeed_any (B N : Nat) (v : Value) (zs : List Int) (hz : zs.length = N * 2) (hzr : ∀ z ∈ zs, -128 ≤ z ∧ z ≤ 127) (hm : FirstNo (dayP zs) N N) (d : Nat) (rain warm : Int) (hf : seedF d rain warm = true) (w : World) (ho : w.ownsRow B 40 2 v N (intsV .i8 zs)) :
    Calls Try.prog 42 #[v, .int .i64 d, .int .i64 rain, .int .i64 warm] w fun e w' => (∃ u, e = .returned (.tuple #[u, .int .i64 0]) ∧ w'.ownsRow w.heap.size 2 1 u (seedL zs rain warm d (List.range (N + 1 - d))).length (intsV .i64 (seedL zs rain warm d (List.range (N + 1 - d))))) ∧ Below w.heap.size w w' := by
  have h30 := ((first_all hm).1 rfl).1
  obtain ⟨W, hW⟩ : ∃ W, (w.alloc (.cells #[.int .i64 rain] 2)).alloc (.cells #[.int .i64 warm] 2) = W := ⟨_, rfl⟩
  have hb0 : Below w.heap.size w W := by rw [← hW]; exact ((Below.refl _ _).alloc (Nat.le_refl _) _).alloc (by simp) _
  have HB := Lib.hid (show (Holds W w.heap.size #[.int .i64 rain] ∧ Holds W (w.heap.size + 1) #[.int .i64 warm]) ∧ w.heap.size + 1 < W.heap.size by
    rw [← hW]
    exact ⟨⟨(Holds.new _ _ _).alloc _, Holds.new' _ _ _ _ (by simp)⟩, by simp⟩)
  have hK := implValidW_any B N v (by omega) zs hz hzr N hm W (own_below ho hb0)
  rw [decide_eq_true (rfl : N = N)] at hK
  have HK := Lib.hid hK
  have HO := Lib.hid (own_below ho hb0)
  have HLW := Lib.hid (fun k (hk : v.ownBlock = some k) => (ho.lt k hk).2)
  have HZ := Lib.hid (show ∀ i, i < N → (zs[i * 2]? = some (rainZ zs i) ∧ zs[i * 2 + 1]? = some (warmZ zs i)) ∧ (-128 ≤ rainZ zs i ∧ rainZ zs i ≤ 127) ∧ -128 ≤ warmZ zs i ∧ warmZ zs i ≤ 127 from fun i hi => by
    have e0 : zs[i * 2]? = some (rainZ zs i) := by simp [rainZ, List.getElem?_eq_getElem (show i * 2 < zs.length by omega)]
    have e1 : zs[i * 2 + 1]? = some (warmZ zs i) := by simp [warmZ, List.getElem?_eq_getElem (show i * 2 + 1 < zs.length by omega)]
    exact ⟨⟨e0, e1⟩, hzr _ (List.mem_of_getElem? e0), hzr _ (List.mem_of_getElem? e1)⟩)
  obtain ⟨av, cv, rfl⟩ := own_slice ho
  simp only [seedF, Bool.and_eq_true] at hf
  obtain ⟨⟨h1, h2⟩, h3⟩ := hf
  have hd1 : 1 ≤ d ∧ d ≤ 30 := by simp [spanF] at h1; omega
  clear ho hm hz hzr hK
  have hmf : ∀ (fn : Fn) (first cap : Array Value) (w : World), (Instr.makeFunc fn first cap).run Try.prog w = .ok (.func fn first cap) w := fun _ _ _ _ => rfl
  refine (callsIn_wide (n := 9)).1 ?_
  refine callsIn_of_wp_marks Try.func42 rfl trivial ?_ rfl
  simp only [Try.ntmps42, List.size_toArray, List.length_cons, List.length_nil, Nat.reduceAdd, Nat.reduceSub, Array.replicate_succ, Array.replicate_zero, List.push_toArray, List.append_toArray, List.nil_append, List.cons_append]
  gi_wp2_with fail
  refine ⟨trivial, (callsIn_wide.2 HK.out).mono ?_⟩
  rintro e w1 ⟨rfl, hb1⟩
  have c0 := (HB.out.1.1.below hb1 (by have := HB.out.2; omega)).cell 0
  have c1 := (HB.out.1.2.below hb1 HB.out.2).cell 0
  gi_wp2_with (first | (refine ⟨trivial, ?_⟩; gi_at_call 62; refine (callsIn_wide.2 (isSpan_is _ _ h1 _)).mono ?_; rintro e w2 ⟨rfl, hw⟩; rw [hw]; clear hw) | (refine ⟨trivial, ?_⟩; gi_at_call 65; (with_reducible refine (callsIn_wide.2 (upto64_is rain _ _ h2 _)).mono ?_); rintro e w2 ⟨rfl, hw⟩; rw [hw]; clear hw) | (refine ⟨trivial, ?_⟩; gi_at_call 65; (with_reducible refine (callsIn_wide.2 (upto64_is warm _ _ h3 _)).mono ?_); rintro e w2 ⟨rfl, hw⟩; rw [hw]; clear hw) | (refine ⟨trivial, ?_⟩; gi_at_call 63; refine (eachSpan_in _ _ _ _ _ _).mono ?_; rintro e w3 ⟨rfl, rfl⟩) | refine ⟨trivial, ?_⟩)
  have hb2 := below_onto hb0 hb1
  have HO1 := Lib.hid (own_below HO.out hb1)
  have HB1 := Lib.hid (And.intro (HB.out.1.1.below hb1 (by have := HB.out.2; omega)) (HB.out.1.2.below hb1 HB.out.2))
  have hsw : w.heap.size + 1 < w1.heap.size := Nat.lt_of_lt_of_le HB.out.2 hb1.size
  clear c0 c1 hb0 hb1 HO HK HB h1 h2 h3
  obtain ⟨s, hs⟩ : ∃ s, w1.heap.size = s := ⟨_, rfl⟩
  obtain ⟨W0, hW0⟩ : ∃ W0, (((w1.alloc (.cells #[.func (.func 66) #[] #[.pointer (some ⟨w.heap.size, 0, none⟩), .pointer (some ⟨w.heap.size + 1, 0, none⟩)]] 66)).alloc (.cells #[.slice none 0 0] 24)).alloc (.cells #[.slice av N cv] 27)).alloc (.cells #[.int .i64 d] 2) = W0 := ⟨_, rfl⟩
  have gr : Holds W0 w.heap.size #[.int .i64 rain] := by rw [← hW0]; exact (((HB1.out.1.alloc _).alloc _).alloc _).alloc _
  have gw : Holds W0 (w.heap.size + 1) #[.int .i64 warm] := by rw [← hW0]; exact (((HB1.out.2.alloc _).alloc _).alloc _).alloc _
  have g0 : Holds W0 s #[.func (.func 66) #[] #[.pointer (some ⟨w.heap.size, 0, none⟩), .pointer (some ⟨w.heap.size + 1, 0, none⟩)]] := by rw [← hW0]; exact (((Holds.new' _ _ _ _ hs.symm).alloc _).alloc _).alloc _
  have g1 : Holds W0 (s + 1) #[.slice none 0 0] := by rw [← hW0]; exact ((Holds.new' _ _ _ _ (by simp; omega)).alloc _).alloc _
  have g2 : Holds W0 (s + 1 + 1) #[.slice av N cv] := by rw [← hW0]; exact (Holds.new' _ _ _ _ (by simp; omega)).alloc _
  have g3 : Holds W0 (s + 1 + 1 + 1) #[.int .i64 d] := by rw [← hW0]; exact Holds.new' _ _ _ _ (by simp; omega)
  have gO : W0.ownsRow B 40 2 (.slice av N cv) N (intsV .i8 zs) := by rw [← hW0]; exact (((HO1.out.alloc _).alloc _).alloc _).alloc _
  have hB0 : Below w.heap.size w W0 := by rw [← hW0]; exact (((hb2.alloc hb2.size _).alloc (by have := hb2.size; simp; omega) _).alloc (by have := hb2.size; simp; omega) _).alloc (by have := hb2.size; simp; omega) _
  have hz1 : W0.heap.size = s + 4 := by rw [← hW0]; simp; omega
  rw [hs] at hsw ⊢
  rw [hW0]
  clear hW0 hs HO1 HB1 hb2
  have HOL := Lib.hid (fun g hg => Nat.lt_of_lt_of_le (HLW.out g hg) (by omega : w.heap.size ≤ s))
  obtain ⟨i0, hi, hq0, hq1, hq2⟩ := info_parts i64Info
  have HCI := Lib.hid (show Try.prog.info? 2 = some i0 ∧ i0.zero = some (.int .i64 0) ∧ i0.size = 1 ∧ i0.bytes = 8 from ⟨hi, hq0, hq1, hq2⟩)
  clear hi hq0 hq1 hq2
  refine range_ends (α := Fin (N + 1 - d)) rfl (by omega) (gf := 76) (lb := #[.pointer (some ⟨s + 1 + 1 + 1, 0, none⟩), .pointer (some ⟨s + 1 + 1, 0, none⟩)]) rfl trivial (enters_of Try.func76 (by kernel_rfl) rfl)
    (encs := fun x => spanA (.slice av N cv) d x.val) (Kp := KeepS (s + 1 + 1 + 1) (s + 1 + 1) (.slice av N cv)) (S := fun xs => xs = List.finRange (N + 1 - d)) (Sp := fun ch pre => False) (N := 30)
    (fun l J W hWW hJ hY h0 => (spans_in 8 (by omega) l (s + 1 + 1 + 1) (s + 1 + 1) B (.slice av N cv) N d h30 hd1 _ J hY W (g3.below hWW g3.lt) (g2.below hWW g2.lt) (own_below gO hWW) h0).mono (fun e W' h => .inl ⟨h.1, _, rfl, h.2⟩))
    (fun h k => h.t k) (fun W l o o' hl _ _ _ => ⟨⟨World.putObj_heap_other (by omega), World.putObj_heap_other (by omega)⟩, fun g hg => World.putObj_heap_other (by have := HOL.out g hg; omega)⟩) (fun _ => rfl)
    (fun pre W => Only [s + 1] W0 W ∧ ∃ u, Holds W (s + 1) #[u] ∧ W.ownsRow (s + 4) 2 1 u (seedL zs rain warm d (pre.map (·.val))).length (intsV .i64 (seedL zs rain warm d (pre.map (·.val)))))
    (OwnFrom.and (ownFrom_only (Nat.le_refl _)) (Own.from (own_ints (s + 1) (s + 4) (fun pre : List (Fin (N + 1 - d)) => (seedL zs rain warm d (pre.map (·.val))).length) (fun pre => seedL zs rain warm d (pre.map (·.val)))) _)) ⟨Only.refl _ _, _, g1, World.ownsRow_nil _ _ _ _⟩
    (fun x a' W => a' = { tmps := #[.slice av N cv, .int .i64 d, .int .i64 rain, .int .i64 warm, undef, undef, .pointer (some ⟨w.heap.size, 0, none⟩), .pointer (some ⟨w.heap.size + 1, 0, none⟩), .slice none 0 0, .int .i64 0, .pointer (some ⟨s, 0, none⟩), .pointer (some ⟨s + 1, 0, none⟩), .int .i64 (x.val : Int), spanV (.slice av N cv) d x.val, .slice av N cv, .bool true, .bool false, .int .i64 d, .bool true, .bool false, .bool false, .int .i64 rain, .bool true, .bool false, .bool false, .bool false, .int .i64 warm, .bool true, .bool false, .bool false, .func (.func 66) #[] #[.pointer (some ⟨w.heap.size, 0, none⟩), .pointer (some ⟨w.heap.size + 1, 0, none⟩)], .slice av N cv, .int .i64 d, .func (.func 76) #[] #[.pointer (some ⟨s + 1 + 1 + 1, 0, none⟩), .pointer (some ⟨s + 1 + 1, 0, none⟩)], .int .i64 (x.val : Int), spanV (.slice av N cv) d x.val, undef, undef, undef, undef, undef, undef, undef, undef, undef], defers := [] })
    (fun x a' => fun _ _ _ _ h _ _ => h) ?assign ?body ?done ?pan
  case assign =>
    intro l pre x W K' hi hK
    simp only [spanA]
    gi_wp2
    exact hK _ _ (KeepsFrom.refl _ _) ⟨⟨rfl, rfl⟩, fun _ _ => rfl⟩ hi rfl
  case body =>
    rintro l pre x a' W hl ⟨hO, u, i1, io⟩ rfl hlt
    have hO2 := Lib.hid hO
    have gO2 := hO.own gO (fun k hk => by have := HOL.out k hk; simp; omega)
    have hxd : x.val + d ≤ N := by have := x.isLt; omega
    obtain ⟨g, cap, he, hBg, hg⟩ := own_form gO2 (by omega)
    simp only [Value.slice.injEq, true_and] at he
    obtain ⟨rfl, rfl⟩ := he
    have hgW0 := HOL.out g rfl
    have hzW := hO.size
    have qr := hO.holds gr (by simp; omega)
    have qw := hO.holds gw (by simp; omega)
    have q0 := hO.holds g0 (by simp)
    have IO := Lib.hid io
    have hmp : (pre ++ [x]).map (·.val) = pre.map (·.val) ++ [x.val] := by simp
    have HMP := Lib.hid hmp
    have hle := seedL_le zs rain warm d (pre.map (·.val))
    rw [List.length_map] at hle
    obtain ⟨p, hp⟩ : ∃ p, (List.range d).any (fun j => poorB zs rain warm (x.val + j)) = p := ⟨_, rfl⟩
    have HC := Lib.hid (containsPoor_any B N g cv zs HZ.out x.val d (cv - x.val) (by omega) hxd rain warm w.heap.size (w.heap.size + 1) p hp W gO2 qr qw)
    have HRB := Lib.hid (show richB zs rain warm d x.val = !p by rw [richB, hp])
    have e0 := q0.cell 0
    simp only [spanV_at]
    clear hO gO2 hmp hp qr qw io gr gw g0 g1 g2 g3 gO hB0
    gi_wp2_with fail
    refine ⟨trivial, (CallsIn.inRound l (callsIn_wide.2 HC.out)).mono ?_⟩
    rintro e W2 ⟨rfl, hbC⟩
    have j1 := i1.below hbC i1.lt
    have JO := Lib.hid (own_below IO.out hbC)
    have jO := hO2.out.below hbC hzW
    have hqb := fun k (hk : k < W.heap.size) => hbC.block k hk
    have jK : KeepsOthers W W2 := ⟨hbC.size, fun k o hk _ => (hbC.block k (Array.getElem?_eq_some_iff.1 hk).1).trans hk⟩
    have hsz2 := hbC.size
    clear e0 HC i1 IO q0
    cases p
    · have HS := Lib.hid (show seedL zs rain warm d (pre.map (·.val) ++ [x.val]) = seedL zs rain warm d (pre.map (·.val)) ++ [(x.val : Int)] from seedL_on (by rw [HRB.out]; rfl))
      obtain ⟨-, -, d1, -, -⟩ := j1.facts
      gi_wp2_with (gi_at_builtin; refine wpListIn_append_own_at _ rfl _ _ 24 rfl (s + 4) 2 i0 (.int .i64 0) 1 8 Try.underlying24 HCI.out.1 HCI.out.2.1 HCI.out.2.2.1 HCI.out.2.2.2 rfl (by decide) _ _ _ rfl (JO.out.alloc _) ⟨W2.heap.size, 0, none⟩ 1 1 [.int .i64 (x.val : Int)] rfl rfl ?c1 ?c2 ?c3 ?c4 ?c5 ?_)
      · intro j z hj
        match j, hj with
        | 0, hj => simp at hj; subst hj; exact (Holds.new W2 #[.int .i64 (x.val : Int)] 2).cell 0
      case c2 => intro z hz; simp at hz; subst hz; rfl
      case c3 => unfold maxLen; omega
      case c4 => omega
      case c5 => simp; omega
      intro v' w4 hown' hgrow _ hat
      have p4 := held_grown (j1.alloc (.cells #[.int .i64 (x.val : Int)] 2)) (JO.out.alloc _) hgrow (by omega)
      have pO : Only [s + 1] W0 w4 := (jO.alloc _).grown hgrow (fun k hk => .inr (by have := own_far JO.out k hk; omega))
      have pK : KeepsOthers W w4 := (jK.trans (KeepsOthers.alloc _ _)).trans (own_others (JO.out.alloc _) hgrow)
      have HO3 := Lib.hid (show w4.ownsRow (s + 4) 2 1 v' (seedL zs rain warm d (pre.map (·.val)) ++ [(x.val : Int)]).length (intsV .i64 (seedL zs rain warm d (pre.map (·.val)) ++ [(x.val : Int)])) by
        simpa [intsV] using hown')
      obtain ⟨g', cap', rfl, -, -⟩ := own_form hown' (by simp)
      clear hown' hgrow hat JO j1 d1
      obtain ⟨-, -, c3, z3, l3⟩ := p4.facts
      have hf3 := own_far HO3.out g' rfl
      have hA : ∀ k, k < W0.heap.size → k ≠ s + 1 → (w4.setCell ⟨s + 1, 0, none⟩ (.slice (some ⟨g', 0, none⟩) ((seedL zs rain warm d (pre.map (·.val))).length + 1) cap')).heap[k]? = W.heap[k]? := fun k h1 h2 =>
        ((pO.setCell (a := ⟨s + 1, 0, none⟩) (.inl (by simp)) _).block k h1 (by simp [h2])).trans (hO2.out.block k h1 (by simp [h2])).symm
      gi_wp2_with fail
      refine ⟨(pK.trans (KeepsOthers.setCell _ _ _)).from _, ⟨⟨hA _ (by omega) (by omega), hA _ (by omega) (by omega)⟩, fun g hg => hA g (by have := HOL.out g hg; omega) (by have := HOL.out g hg; omega)⟩, pO.setCell (a := ⟨s + 1, 0, none⟩) (.inl (by simp)) _, _, p4.setCell 0 _, ?_⟩
      rw [HMP.out, HS.out]
      have := HO3.out.kept (grownBy_setCell' w4 (s + 1) (.slice (some ⟨g', 0, none⟩) ((seedL zs rain warm d (pre.map (·.val))).length + 1) cap')) (.inr (by simp [Value.ownBlock]; omega))
      simpa using this
    · have HS := Lib.hid (show seedL zs rain warm d (pre.map (·.val) ++ [x.val]) = seedL zs rain warm d (pre.map (·.val)) from seedL_off (by rw [HRB.out]; rfl))
      gi_wp2_with fail
      refine ⟨jK.from _, ⟨⟨hqb _ (by omega), hqb _ (by omega)⟩, fun g' hg' => hqb _ (by have := HOL.out g' hg'; omega)⟩, jO, u, j1, ?_⟩
      rw [HMP.out, HS.out]
      exact JO.out
  case done =>
    rintro D xs W hD rfl ⟨hO, u, i1, io⟩ hK
    rw [finRange_val] at io
    obtain ⟨a, c, rfl⟩ := own_slice io
    have hB2 : Below w.heap.size w W := hB0.trans (hO.toBelow (by simp; omega) (by omega))
    have IO := Lib.hid io
    clear io hO gr gw g0 g1 g2 g3 gO
    obtain ⟨-, f1, c1, z1, l1⟩ := i1.facts
    gi_wp2
    refine ⟨by simp, .inl ⟨_, _, rfl, run_takeDeferred hK, ?_⟩⟩
    refine ⟨.tuple #[.slice a (seedL zs rain warm d (List.range (N + 1 - d))).length c, .int .i64 0], ?_, ⟨⟨_, rfl, ?_⟩, hB2.trans (belowK_b (w := w) (Nat.le_refl _) _ D _ _ (by omega) hK rfl rfl)⟩⟩
    · simp [results, Try.f42, go_sem]
    · exact ownsRow_low (own_putD IO.out hK (o' := .deferred none)) (by omega)
  case pan =>
    rintro D ch pre W hD h
    exact h.elim
end Go.Proofs.Ytbcbokpdcliimaa
