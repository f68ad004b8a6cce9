/- GrowthAll, of the program. -/
import Derived.Test.YtpjninnammddlaaDays
namespace Go.Proofs.Ytpjninnammddlaa
open Go.RowKit Go.Shelf
set_option linter.unusedVariables false
attribute [local go_sem] Oper.semAt_some

theorem eachDay_in (n : Nat) (a : Option Addr) (l c : Nat) (w : World) :
    CallsIn Fence.wide n Try.prog 37 #[.slice a l c] w fun e w' => e = .returned (.func (.func 38) #[] #[.pointer (some ⟨w.heap.size, 0, none⟩)]) ∧ w' = w.alloc (.cells #[.slice a l c] 27) := by
  refine callsIn_of_wp Try.func37 rfl trivial ?_ rfl
  simp only [Try.ntmps37, List.size_toArray, List.length_cons, List.length_nil, Nat.reduceAdd, Nat.reduceSub, Array.replicate_succ, Array.replicate_zero, List.push_toArray, List.append_toArray, List.nil_append, List.cons_append]
  have hmf : ∀ (fn : Fn) (first cap : Array Value) (w : World), (Instr.makeFunc fn first cap).run Try.prog w = .ok (.func fn first cap) w := fun _ _ _ _ => rfl
  gi_wp2
  go_ret
  exact ⟨rfl, rfl⟩

def growL (zs : List Int) (n : Nat) : List Int := (List.range n).map (growZ zs)
theorem daysL_snd (zs : List Int) (n : Nat) : (daysL zs n).map (·.2) = growL zs n := by simp [daysL, growL]
def growthN (N m : Nat) : Nat := if m = N then N else 0
def growthV (zs : List Int) (N m : Nat) : List Value := if m = N then intsV .i64 (growL zs N) else []
def growthC (N m : Nat) : Int := if m = N then 0 else 1
theorem own_ints {β : Type} (s B : Nat) (n : β → Nat) (f : β → List Int) : Own (fun (b : β) w => ∃ v, Holds w s #[v] ∧ w.ownsRow B 2 1 v (n b) (intsV .i64 (f b))) := by
  rintro b W W' row ⟨v, h1, h2⟩ hg hr
  refine ⟨v, h1.grown hg hr, h2.kept hg ?_⟩
  cases hv : v.ownBlock with
  | none => exact .inl rfl
  | some g =>
    refine .inr fun e => ?_
    obtain ⟨o, ho, hc⟩ := hr g e.symm
    obtain ⟨-, h3 | ⟨g', cap, cur, rfl, -, h5, -⟩⟩ := h2
    · rw [h3.1] at hv; cases hv
    · simp only [Value.ownBlock, Option.some.injEq] at hv
      subst hv
      rw [h5] at ho
      cases ho
      simp [Obj.isCells] at hc

set_option maxRecDepth 100000 in
set_option maxHeartbeats 2000000 in
theorem implGrowth_any (B N : Nat) (v : Value) (hN : N ≤ 2000000) (zs : List Int) (hz : zs.length = N * 2) (hzr : ∀ z ∈ zs, -128 ≤ z ∧ z ≤ 127) (m : Nat) (hm : FirstNo (dayP zs) N m) (w : World) (ho : w.ownsRow B 46 2 v N (intsV .i8 zs)) :
    Calls Try.prog 33 #[v] w fun e w' => (∃ u, e = .returned (.tuple #[u, .int .i64 (growthC N m)]) ∧ w'.ownsRow w.heap.size 2 1 u (growthN N m) (growthV zs N m)) ∧ Below w.heap.size w w' := by
  have hmf : ∀ (fn : Fn) (first cap : Array Value) (w : World), (Instr.makeFunc fn first cap).run Try.prog w = .ok (.func fn first cap) w := fun _ _ _ _ => rfl
  obtain ⟨av, cv, hve⟩ := own_slice ho
  subst hve
  have HO := Lib.hid ho
  have hol := fun g (hg : (Value.slice av N cv).ownBlock = some g) => (ho.lt g hg).2
  clear ho
  refine (callsIn_wide (n := 9)).1 ?_
  refine callsIn_of_wp_marks Try.func33 rfl trivial ?_ rfl
  simp only [Try.ntmps33, List.size_toArray, List.length_cons, List.length_nil, Nat.reduceAdd, Nat.reduceSub, Array.replicate_succ, Array.replicate_zero, List.push_toArray, List.append_toArray, List.nil_append, List.cons_append]
  gi_wp2_with (refine ⟨trivial, ?_⟩; gi_at_call 37; refine (eachDay_in _ _ _ _ _).mono ?_; rintro e w2 ⟨rfl, rfl⟩)
  obtain ⟨s, hs⟩ : ∃ s, w.heap.size = s := ⟨_, rfl⟩
  obtain ⟨W0, hW0⟩ : ∃ W0, ((w.alloc (.cells #[.slice none 0 0] 24)).alloc (.cells #[.int .i64 0] 2)).alloc (.cells #[.slice av N cv] 27) = W0 := ⟨_, rfl⟩
  have g0 : Holds W0 s #[.slice none 0 0] := by rw [← hW0]; exact ((Holds.new' _ _ _ _ hs.symm).alloc _).alloc _
  have g1 : Holds W0 (s + 1) #[.int .i64 0] := by rw [← hW0]; exact (Holds.new' _ _ _ _ (by simp; omega)).alloc _
  have g2 : Holds W0 (s + 1 + 1) #[.slice av N cv] := by rw [← hW0]; exact Holds.new' _ _ _ _ (by simp; omega)
  have gO : W0.ownsRow B 46 2 (.slice av N cv) N (intsV .i8 zs) := by rw [← hW0]; exact ((HO.out.alloc _).alloc _).alloc _
  have hB0 : Below w.heap.size w W0 := by rw [← hW0]; exact (((Below.refl _ w).alloc (Nat.le_refl _) _).alloc (by simp) _).alloc (by simp; omega) _
  have hz1 : s + 3 ≤ W0.heap.size := by rw [← hW0]; simp; omega
  have hz2 : W0.heap.size ≤ s + 3 := by rw [← hW0]; simp; omega
  rw [hs] at hol ⊢
  rw [hW0]
  have HOL := Lib.hid hol
  have hsz := hs
  clear hW0 hs HO hol
  obtain ⟨i0, hi, hq0, hq1, hq2⟩ := info_parts i64Info
  have HCI := Lib.hid (show Try.prog.info? 2 = some i0 ∧ i0.zero = some (.int .i64 0) ∧ i0.size = 1 ∧ i0.bytes = 8 from ⟨hi, hq0, hq1, hq2⟩)
  clear hi hq0 hq1 hq2
  refine range_ends (α := Int × Int) rfl (by omega) (gf := 38) (lb := #[.pointer (some ⟨s + 1 + 1, 0, none⟩)]) rfl trivial (enters_of Try.func38 (by kernel_rfl) rfl)
    (encs := dayA) (Kp := KeepL (s + 1 + 1) (.slice av N cv)) (S := fun xs => xs = daysL zs N ∧ m = N) (Sp := fun ch pre => ch = wrongV m ∧ m < N) (N := 30)
    (fun l J W hWW hJ hY h0 => days_in 8 (by omega) l (s + 1 + 1) B (.slice av N cv) N hN zs hz hzr m hm J _ hJ hY W (g2.below hWW g2.lt) (own_below gO hWW) h0)
    (fun h k => h.t k) (fun W l o o' hl _ _ _ => ⟨World.putObj_heap_other (by omega), fun g hg => World.putObj_heap_other (by have := HOL.out g hg; omega)⟩) (fun _ => rfl)
    (fun pre W => Only [s] W0 W ∧ ∃ u, Holds W s #[u] ∧ W.ownsRow (s + 3) 2 1 u pre.length (intsV .i64 (pre.map (·.2))))
    (OwnFrom.and (ownFrom_only (Nat.le_refl _)) (Own.from (own_ints s (s + 3) (fun pre : List (Int × Int) => pre.length) (fun pre => pre.map (·.2))) _)) ⟨Only.refl _ _, _, g0, World.ownsRow_nil _ _ _ _⟩
    (fun x a' W => a' = { tmps := #[.slice av N cv, undef, .pointer (some ⟨s, 0, none⟩), .pointer (some ⟨s + 1, 0, none⟩), undef, .int .i64 x.2, .func (.func 36) #[] #[.pointer (some ⟨s, 0, none⟩), .pointer (some ⟨s + 1, 0, none⟩)], .slice av N cv, .func (.func 38) #[] #[.pointer (some ⟨s + 1 + 1, 0, none⟩)], .int .i64 x.1, .int .i64 x.2, undef, undef, undef, undef, undef], defers := [] })
    (fun x a' => fun _ _ _ _ h _ _ => h) ?assign ?body ?done ?pan
  case assign =>
    intro l pre x W K' hi hK
    simp only [dayA]
    gi_wp2
    exact hK _ _ (KeepsFrom.refl _ _) ⟨rfl, fun _ _ => rfl⟩ hi rfl
  case body =>
    rintro l pre x a' W hl ⟨hO, u, i1, io⟩ rfl hlt
    have IO := Lib.hid io
    have hO2 := Lib.hid hO
    obtain ⟨-, -, d1, -, -⟩ := i1.facts
    have hsW := hO.size
    clear io hO
    gi_wp2_with (gi_at_builtin; refine wpListIn_append_own_at _ rfl _ _ 24 rfl (s + 3) 2 i0 (.int .i64 0) 1 8 Try.underlying24 HCI.out.1 HCI.out.2.1 HCI.out.2.2.1 HCI.out.2.2.2 rfl (by decide) _ _ _ rfl (IO.out.alloc _) ⟨W.heap.size, 0, none⟩ 1 1 [.int .i64 x.2] rfl rfl ?c1 ?c2 ?c3 ?c4 ?c5 ?_)
    · intro j z hj
      match j, hj with
      | 0, hj => simp at hj; subst hj; exact (Holds.new W #[.int .i64 x.2] 2).cell 0
    case c2 => intro z hz; simp at hz; subst hz; rfl
    case c3 => unfold maxLen; omega
    case c4 => omega
    case c5 => simp; omega
    intro v' w4 hown' hgrow _ hat
    have p4 := held_grown (i1.alloc (.cells #[.int .i64 x.2] 2)) (IO.out.alloc _) hgrow (by omega)
    have pO : Only [s] W0 w4 := (hO2.out.alloc _).grown hgrow (fun k hk => .inr (by have := own_far IO.out k hk; omega))
    have pK : KeepsOthers W w4 := (KeepsOthers.alloc _ _).trans (own_others (IO.out.alloc _) hgrow)
    have HO3 := Lib.hid (show w4.ownsRow (s + 3) 2 1 v' (pre ++ [x]).length (intsV .i64 ((pre ++ [x]).map (·.2))) by
      have e : intsV .i64 ((pre ++ [x]).map (·.2)) = intsV .i64 (pre.map (·.2)) ++ [.int .i64 x.2] := by simp [intsV]
      rw [e, List.length_append]
      exact hown')
    obtain ⟨g', cap', rfl, -, -⟩ := own_form hown' (by simp)
    clear hown' hgrow hat IO i1 d1
    obtain ⟨-, -, c3, z3, l3⟩ := p4.facts
    have hf3 := own_far HO3.out g' rfl
    have hA : ∀ k, k < W0.heap.size → k ≠ s → (w4.setCell ⟨s, 0, none⟩ (.slice (some ⟨g', 0, none⟩) (pre.length + 1) cap')).heap[k]? = W.heap[k]? := fun k h1 h2 =>
      ((pO.setCell (a := ⟨s, 0, none⟩) (.inl (by simp)) _).block k h1 (by simp [h2])).trans (hO2.out.block k h1 (by simp [h2])).symm
    gi_wp2_with fail
    refine ⟨(pK.trans (KeepsOthers.setCell _ _ _)).from _, ⟨hA _ (by omega) (by omega), fun g hg => hA g (by have := HOL.out g hg; omega) (by have := HOL.out g hg; omega)⟩, pO.setCell (a := ⟨s, 0, none⟩) (.inl (by simp)) _, _, p4.setCell 0 _, ?_⟩
    have := HO3.out.kept (grownBy_setCell' w4 s (.slice (some ⟨g', 0, none⟩) (pre.length + 1) cap')) (.inr (by simp [Value.ownBlock]; omega))
    simpa using this
  case done =>
    rintro D xs W hD ⟨rfl, hmN⟩ ⟨hO, u, i1, io⟩ hK
    subst hmN
    obtain ⟨a, c, rfl⟩ := own_slice io
    have i2 := hO.holds g1 (by simp)
    have hB2 : Below w.heap.size w W := hB0.trans (hO.toBelow (by simp; omega) (by omega))
    have IO := Lib.hid io
    clear io hO g0 g1 g2 gO
    obtain ⟨-, f1, c1, z1, l1⟩ := i1.facts
    obtain ⟨-, f2, c2, z2, l2⟩ := i2.facts
    have hne : s + 1 ≠ s := by omega
    gi_wp2
    obtain ⟨W3, hW3⟩ : ∃ W3, (W.setCell ⟨s, 0, none⟩ (.slice a (daysL zs m).length c)).setCell ⟨s + 1, 0, none⟩ (.int .i64 0) = W3 := ⟨_, rfl⟩
    have j1 : Holds W3 s #[.slice a (daysL zs m).length c] := by rw [← hW3]; exact (i1.setCell 0 _).setCell_other _ _ (by simp)
    have j2 : Holds W3 (s + 1) #[.int .i64 0] := by rw [← hW3]; exact (i2.setCell_other _ _ (by simp)).setCell 0 _
    have hK3 : W3.heap[D]? = some (.deferred (some [])) := by rw [← hW3, Below.heap_setCell _ _ _ D (by simp; omega), Below.heap_setCell _ _ _ D (by simp; omega)]; exact hK
    have HO3 := Lib.hid (show W3.ownsRow (s + 3) 2 1 (.slice a (daysL zs m).length c) (daysL zs m).length (intsV .i64 ((daysL zs m).map (·.2))) by
      rw [← hW3]
      have hf := fun k (h : (Value.slice a (daysL zs m).length c).ownBlock = some k) => own_far IO.out k h
      have e1 := IO.out.kept (grownBy_setCell' W s (.slice a (daysL zs m).length c)) (by
        cases hv : (Value.slice a (daysL zs m).length c).ownBlock with
        | none => exact .inl rfl
        | some k => exact .inr (by have := hf k hv; simp; omega))
      exact e1.kept (grownBy_setCell' _ (s + 1) (.int .i64 0)) (by
        cases hv : (Value.slice a (daysL zs m).length c).ownBlock with
        | none => exact .inl rfl
        | some k => exact .inr (by have := hf k hv; simp; omega)))
    have hB3 : Below w.heap.size w W3 := by rw [← hW3]; exact (hB2.setCell (p := ⟨s, 0, none⟩) (by simp; omega) _).setCell (p := ⟨s + 1, 0, none⟩) (by simp; omega) _
    rw [hW3]
    clear hW3 hB2 i1 i2 c1 c2 f1 f2 z1 z2 hK IO
    refine ⟨by simp, .inl ⟨D, _, rfl, run_takeDeferred hK3, ?_⟩⟩
    have k1 : Holds (W3.putObj D (.deferred none)) s #[.slice a (daysL zs m).length c] := by obtain ⟨t, ht⟩ := j1; exact ⟨t, (World.putObj_heap_other (by omega)).trans ht⟩
    have k2 : Holds (W3.putObj D (.deferred none)) (s + 1) #[.int .i64 0] := by obtain ⟨t, ht⟩ := j2; exact ⟨t, (World.putObj_heap_other (by omega)).trans ht⟩
    have HO4 := Lib.hid (own_putD HO3.out hK3 (o' := .deferred none))
    have hB4 := hB3.trans (belowK_b (w := w) (Nat.le_refl _) _ D _ (.deferred none) (by omega) hK3 rfl rfl)
    obtain ⟨-, -, d1, -, -⟩ := k1.facts
    obtain ⟨-, -, d2, -, -⟩ := k2.facts
    refine ⟨by simp, .inr ⟨fun _ => by omega, _, _, 36, #[.pointer (some ⟨s, 0, none⟩), .pointer (some ⟨s + 1, 0, none⟩)], rfl, by simp [invoke, go_sem], fun _ _ => trivial, ?_⟩⟩
    refine (catch_idle s (s + 1) _).mono ?_
    rintro e u' w'' ⟨rfl, rfl, rfl⟩
    refine ⟨.tuple #[.slice a (daysL zs m).length c, .int .i64 0], by simp [results, Try.f33, go_sem, d1, d2], ⟨.slice a (daysL zs m).length c, ?_, ?_⟩, hB4⟩
    · rw [growthC, if_pos rfl]
    · rw [growthN, growthV, if_pos rfl, if_pos rfl, ← daysL_snd]
      have e : (daysL zs m).length = m := by simp [daysL]
      have := ownsRow_low HO4.out (show w.heap.size ≤ s + 3 by omega)
      rw [e] at this ⊢
      exact this
  case pan =>
    rintro D ch pre W hD ⟨rfl, hmN⟩ ⟨hO, u, i1, io⟩ hK
    have i2 := hO.holds g1 (by simp)
    have hB2 : Below w.heap.size w W := hB0.trans (hO.toBelow (by simp; omega) (by omega))
    have hne : s ≠ s + 1 := by omega
    clear io hO g0 g1 g2 gO
    refine ⟨by simp, .inl ⟨D, _, rfl, run_takeDeferred hK, ?_⟩⟩
    have k1 : Holds (W.putObj D (.deferred none)) s #[u] := by obtain ⟨t, ht⟩ := i1; exact ⟨t, (World.putObj_heap_other (by omega)).trans ht⟩
    have k2 : Holds (W.putObj D (.deferred none)) (s + 1) #[.int .i64 0] := by obtain ⟨t, ht⟩ := i2; exact ⟨t, (World.putObj_heap_other (by omega)).trans ht⟩
    have hB4 := hB2.trans (belowK_b (w := w) (Nat.le_refl _) _ D _ (.deferred none) (by omega) hK rfl rfl)
    refine ⟨by simp [wrongV], .inr ⟨fun _ => by omega, _, _, 36, #[.pointer (some ⟨s, 0, none⟩), .pointer (some ⟨s + 1, 0, none⟩)], rfl, by simp [invoke, go_sem], fun _ _ => trivial, ?_⟩⟩
    refine (catch_panicking s (s + 1) _ _ m [] _ k1 k2 hne).mono ?_
    rintro e u' w'' ⟨rfl, rfl, rfl⟩
    have j1 := (k1.setCell 0 (.slice none 0 0)).setCell_other ⟨s + 1, 0, none⟩ (.int .i64 1) (by simp)
    have j2 := (k2.setCell_other ⟨s, 0, none⟩ (.slice none 0 0) (by simp)).setCell 0 (.int .i64 1)
    have hB5 := (hB4.setCell (p := ⟨s, 0, none⟩) (by simp; omega) (.slice none 0 0)).setCell (p := ⟨s + 1, 0, none⟩) (by simp; omega) (.int .i64 1)
    obtain ⟨-, -, d1, -, -⟩ := j1.facts
    obtain ⟨-, -, d2, -, -⟩ := j2.facts
    simp only [settle, List.dropWhile]
    refine ⟨.tuple #[.slice none 0 0, .int .i64 1], by simp [results, Try.f33, go_sem, d1, d2], ⟨.slice none 0 0, ?_, ?_⟩, hB5⟩
    · rw [growthC, if_neg (by omega)]
    · rw [growthN, growthV, if_neg (by omega), if_neg (by omega)]
      exact World.ownsRow_nil _ _ _ _
end Go.Proofs.Ytpjninnammddlaa
