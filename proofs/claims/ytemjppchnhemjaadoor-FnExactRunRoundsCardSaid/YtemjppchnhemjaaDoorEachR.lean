/- Rounds as the program takes them: each, roundOf; checkRounds over a row. -/
import Derived.Test.YtemjppchnhemjaaDoorRnd
import Derived.Test.YtemjppchnhemjaaDoorCheckR
import Derived.Test.YtemjppchnhemjaaDoorZC
namespace Go.Proofs.YtemjppchnhemjaaDoor
open Go.RowKit Go.Shelf
set_option linter.unusedVariables false
set_option linter.unusedSimpArgs false
attribute [local go_sem ↓] loadRow loadGrid loadLawn loadMirror storeRow storeGrid storeLawn allocRow allocGrid allocLawn buildZero buildSides

/-- What is done on days, as a row of cells. -/
def dayV (rs : List (Int × Bool)) : List Value := rs.flatMap fun r => [.int .i64 r.1, .bool r.2]
theorem dayV_length : ∀ (rs : List (Int × Bool)), (dayV rs).length = rs.length * 2
  | [] => rfl
  | r :: rs => by
    have ih := dayV_length rs
    simp only [dayV, List.flatMap_cons, List.length_append, List.length_cons, List.length_nil] at ih ⊢
    omega
theorem dayV_get : ∀ (rs : List (Int × Bool)) (i : Nat) (r : Int × Bool), rs[i]? = some r → (dayV rs)[i * 2]? = some (.int .i64 r.1) ∧ (dayV rs)[i * 2 + 1]? = some (.bool r.2)
  | [], i, r, h => by simp at h
  | q :: rs, 0, r, h => by
    simp at h
    subst h
    exact ⟨rfl, rfl⟩
  | q :: rs, i + 1, r, h => by
    have ih := dayV_get rs i r (by simpa using h)
    have e : dayV (q :: rs) = .int .i64 q.1 :: .bool q.2 :: dayV rs := rfl
    rw [e, show (i + 1) * 2 = i * 2 + 1 + 1 by omega]
    exact ⟨by simpa using ih.1, by simpa using ih.2⟩
theorem dayV_snoc {rs : List (Int × Bool)} {k : Nat} {r : Int × Bool} (h : rs[k]? = some r) : dayV (rs.take (k + 1)) = dayV (rs.take k) ++ [.int .i64 r.1, .bool r.2] := by
  rw [List.take_add_one, h, Option.toList_some]
  simp [dayV]

theorem roundOf_any (x : Int) (y : Bool) (h0 : -128 ≤ x) (h1 : x ≤ 127) (w : World) :
    Calls Tryd.prog 54 #[.agg #[.int .i8 x, .bool y]] w fun e w' => e = .returned (.agg #[.int .i64 x, .bool y]) ∧ Below w.heap.size w w' := by
  have e1 : IntKind.i64.wrap x = x := IntWalk.i64_in _ (by omega)
  go_enter Tryd.func54, Tryd.ntmps54
  go_wp2
  exact bodyPost_ret (v := .agg #[.int .i64 x, .bool y]) (results_cell_holds (n := 2) rfl (by kernel_rfl) _ rfl (Holds.new' _ _ _ (w.heap.size + 1) (by simp)) rfl) rfl ⟨rfl, ((Below.refl _ _).alloc (Nat.le_refl _) _).alloc (by simp) _⟩

theorem dayInfo : (Tryd.prog.info? 102).map (fun i => (i.zero, i.size, i.bytes)) = some (some (.agg #[.int .i64 0, .bool false]), 2, 16) := by kernel_rfl

set_option maxRecDepth 100000 in
set_option maxHeartbeats 2000000 in
theorem each_any (n : Nat) (v : Value) (rs : List (Int × Bool)) (hl : rs.length = n) (hn : n ≤ 1048576) (hr : ∀ r ∈ rs, -128 ≤ r.1 ∧ r.1 ≤ 127) (B : Nat) (w : World) (h : w.ownsRow B 94 2 v n (rndV rs)) :
    Calls Tryd.prog 53 #[v, .func (.func 54) #[] #[]] w fun e w' => (∃ v', e = .returned v' ∧ w'.ownsRow w.heap.size 102 2 v' n (dayV rs)) ∧ Below w.heap.size w w' := by
  obtain ⟨i0, hi, hz0, hz1, hz2⟩ := info_parts dayInfo
  have HI := Lib.hid (show Tryd.prog.info? 102 = some i0 ∧ i0.zero = some (.agg #[.int .i64 0, .bool false]) ∧ i0.size = 2 ∧ i0.bytes = 16 from ⟨hi, hz0, hz1, hz2⟩)
  have hE : ∀ args w, (callFunc 54 args).run Tryd.prog w = .ok (.enter 54 args) w := fun args w => by kernel_rfl
  have hm : w.ownsRow w.heap.size 102 2 (.slice none 0 0) 0 [] := World.ownsRow_nil _ _ _ _
  obtain ⟨av, cv, rfl⟩ := own_slice h
  have H := Lib.hid h
  have HL := Lib.hid hl
  have HR := Lib.hid hr
  have HM := Lib.hid hm
  clear hi hz0 hz1 hz2 h hl hr hm
  obtain ⟨u, hu⟩ : ∃ u, w.heap.size = u := ⟨_, rfl⟩
  rw [hu] at HM ⊢
  have HU := Lib.hid hu
  go_enter Tryd.func53, Tryd.ntmps53
  go_wp2_with fail
  go_loopw [5, 7, 10] (fun y _ i wr => ∃ k : Nat, k ≤ n ∧ i = .int .i64 k ∧ wr.ownsRow u 102 2 y k (dayV (rs.take k)) ∧ Below u w wr) (fun _ _ i _ => n - (intOf i).toNat)
  case atStart => exact ⟨0, by omega, rfl, HM.out, by rw [← HU.out]; exact Below.refl _ _⟩
  case round =>
    obtain ⟨k, hk, rfl, ho, hb⟩ := hrel
    have HO := Lib.hid ho
    clear ho
    have hus : u ≤ wr.heap.size := by have := hb.size; have := HU.out; omega
    by_cases hlt : k < n
    · have hd : decide ((k : Int) < (n : Int)) = true := by simp; omega
      obtain ⟨⟨x, y⟩, hz⟩ : ∃ r, rs[k]? = some r := ⟨_, List.getElem?_eq_getElem (by rw [HL.out]; omega)⟩
      obtain ⟨hz0, hz1⟩ := rndV_get rs k _ hz
      have HS := Lib.hid (dayV_snoc hz)
      obtain ⟨hx0, hx1⟩ := HR.out _ (List.mem_of_getElem? hz)
      have HI1 := Lib.hid (own_below H.out (by rw [HU.out]; exact hb : Below w.heap.size w wr))
      obtain ⟨g, cap, he, -, -⟩ := own_form HI1.out (by omega)
      simp only [Value.slice.injEq, true_and] at he
      obtain ⟨rfl, rfl⟩ := he
      have c0 := own_cell HI1.out _ _ hz0
      have c1 := own_cell HI1.out _ _ hz1
      dsimp only at hz0 hz1 hx0 hx1 c0 c1 HS
      clear hz hz0 hz1 HI1
      obtain ⟨z, hzz⟩ : ∃ z, wr.heap.size = z := ⟨_, rfl⟩
      have HO1 := Lib.hid (HO.out.alloc (.cells #[.int .i8 x, .bool y] 94))
      have hb1 : Below u w (wr.alloc (.cells #[.int .i8 x, .bool y] 94)) := hb.alloc hus _
      have mp := Holds.new' wr #[.int .i8 x, .bool y] 94 z hzz.symm
      obtain ⟨W1, hW1⟩ : ∃ W1, wr.alloc (.cells #[.int .i8 x, .bool y] 94) = W1 := ⟨_, rfl⟩
      rw [hW1] at HO1 hb1 mp
      have ROF := Lib.hid (roundOf_any x y hx0 hx1)
      have hus2 : u ≤ W1.heap.size := by have := mp.lt; omega
      obtain ⟨-, -, d0, -, -⟩ := mp.facts
      go_wp2_with fail
      try simp only [hzz]
      try rw [hW1]
      clear hW1 hzz c0 c1 hb HO
      refine (ROF.out _).mono ?_
      rintro e w2 ⟨rfl, hb2⟩
      have HO2 := Lib.hid (own_below HO1.out hb2)
      have hb3 := hb1.trans (hb2.mono hus2)
      have hus3 : u ≤ w2.heap.size := Nat.le_trans hus2 hb2.size
      clear hb2 hb1 mp d0 HO1
      go_wp2_with (at_builtin; refine wpList_append_own_at _ rfl _ _ 98 rfl u 102 i0 (.agg #[.int .i64 0, .bool false]) 2 16 Tryd.underlying98 HI.out.1 HI.out.2.1 HI.out.2.2.1 HI.out.2.2.2 rfl (by decide) _ _ _ rfl (HO2.out.alloc _) ⟨w2.heap.size, 0, none⟩ 1 1 [.int .i64 x, .bool y] rfl rfl ?c1 ?c2 ?c3 ?c4 ?c5 ?_)
      case c1 =>
        intro m t ht
        match m, ht with
        | 0, ht => simp at ht; subst ht; exact (Holds.new w2 #[.int .i64 x, .bool y] 102).cell 0
        | 1, ht => simp at ht; subst ht; exact (Holds.new w2 #[.int .i64 x, .bool y] 102).cell 1
      case c2 => intro t ht; simp at ht; rcases ht with rfl | rfl <;> rfl
      case c3 => unfold maxLen; omega
      case c4 => omega
      case c5 => simp; omega
      intro v' w3 hown' hgrow _ hat
      have hb5 : Below u w w3 := (hb3.alloc hus3 _).grown hgrow (by simp; omega) (fun k hk => by have := own_far HO2.out k hk; omega)
      have HO3 := Lib.hid (show w3.ownsRow u 102 2 v' (k + 1) (dayV (rs.take (k + 1))) by rw [HS.out]; exact hown')
      clear hown' hgrow hat hb3
      go_wp2_with fail
      go_roundw
      case rel => exact ⟨k + 1, by omega, by go_num, HO3.out, hb5⟩
      case measure => simp [intOf]; omega
    · obtain rfl : k = n := by omega
      have hd : decide ((k : Int) < (k : Int)) = false := by simp
      have HO3 := Lib.hid (show wr.ownsRow u 102 2 u5 k (dayV rs) by
        have := HO.out
        rwa [List.take_of_length_le (by rw [HL.out]; omega)] at this)
      go_wp2_with fail
      go_ret
      exact ⟨⟨_, rfl, HO3.out⟩, hb⟩

set_option maxRecDepth 100000 in
set_option maxHeartbeats 2000000 in
theorem checkRounds_none (L : Lawn) (a : Option Addr) (c : Nat) (w : World) :
    Calls Tryd.prog 55 #[.agg L.cells, .slice a 0 c] w fun e w' => (∃ v, e = .returned v ∧ RefP v 0) ∧ Below w.heap.size w w' := by
  obtain ⟨u, hu⟩ : ∃ u, w.heap.size = u := ⟨_, rfl⟩
  obtain ⟨W1, hW1⟩ : ∃ W1, (w.alloc (.cells L.cells 31)).alloc (.cells #[.nilIface] 67) = W1 := ⟨_, rfl⟩
  have g1 : Holds W1 (u + 1) #[.nilIface] := by rw [← hW1]; exact Holds.new' _ _ _ _ (by simp; omega)
  have hB1 : Below u w W1 := by rw [← hW1]; exact ((Below.refl u w).alloc (by omega) _).alloc (by simp; omega) _
  have HU := Lib.hid hu
  refine (callsIn_wide (n := 9)).1 ?_
  refine callsIn_of_wp_marks Tryd.func55 rfl trivial ?_ rfl
  simp only [Tryd.ntmps55, List.size_toArray, List.length_cons, List.length_nil, Nat.reduceAdd, Nat.reduceSub, Array.replicate_succ, Array.replicate_zero, List.push_toArray, List.append_toArray, List.nil_append, List.cons_append]
  gi_wp2_with fail
  try simp only [hu, Nat.add_assoc, Nat.reduceAdd]
  try rw [hW1]
  clear hW1 hu
  gi_loopw [6, 10] (fun _ x wr => x = .int .i64 0 ∧ wr = W1) (fun _ x _ => 0)
  case atStart => exact ⟨rfl, rfl⟩
  case round =>
    obtain ⟨rfl, rfl⟩ := hrel
    obtain ⟨-, f1, c1, z1, l1⟩ := g1.facts
    have j1 := g1.setCell 0 .nilIface
    have hB3 := hB1.setCell (p := ⟨u + 1, 0, none⟩) (by simp) .nilIface
    gi_wp2_with fail
    refine ⟨by simp, .inr ⟨fun _ => by omega, _, _, 73, #[.pointer (some ⟨u + 1, 0, none⟩)], rfl, by simp [invoke, go_sem], fun _ _ => trivial, ?_⟩⟩
    refine (catchR_idle (u + 1) _).mono ?_
    rintro e u' w'' ⟨rfl, rfl, rfl⟩
    obtain ⟨-, -, d1, -, -⟩ := j1.facts
    exact ⟨.nilIface, by simp [results, Tryd.f55, go_sem, d1], ⟨_, rfl, RefP.none⟩, by rw [HU.out]; exact hB3⟩

/-- Rounds in a row. -/
theorem checkRounds_own (L : Lawn) (hL : L.Fits) (rs : List (Int × Bool)) (n : Nat) (hl : rs.length = n) (hn : n ≤ 1048576) (v : Value) (B : Nat) (w : World) (h : w.ownsRow B 102 2 v n (dayV rs)) :
    Calls Tryd.prog 55 #[.agg L.cells, v] w fun e w' => (∃ v, e = .returned v ∧ RefP v (roundsC L rs)) ∧ Below w.heap.size w w' := by
  by_cases h0 : n = 0
  · obtain ⟨a, c, rfl⟩ := own_slice h
    subst h0
    obtain rfl : rs = [] := List.eq_nil_of_length_eq_zero hl
    exact checkRounds_none L a c w
  · obtain ⟨g, cap, rfl, hg, hgl⟩ := own_form h (by omega)
    subst hl
    exact checkRounds_any L hL rs (by unfold maxLen; omega) g cap w hgl fun W hW k r hr =>
      ⟨own_cell (own_below h hW) _ _ (dayV_get rs k r hr).1, own_cell (own_below h hW) _ _ (dayV_get rs k r hr).2⟩
end Go.Proofs.YtemjppchnhemjaaDoor
