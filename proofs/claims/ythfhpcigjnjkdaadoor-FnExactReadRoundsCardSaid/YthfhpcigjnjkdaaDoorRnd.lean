/- Rounds that come in: how a law's rounds are read, copied and compared. -/
import Derived.Test.YthfhpcigjnjkdaaDoorOpenL
import Derived.Test.YthfhpcigjnjkdaaDoorSizeL
import Derived.Test.YthfhpcigjnjkdaaDoorZC
import Derived.Test.YthfhpcigjnjkdaaDoorZB
namespace Go.Proofs.YthfhpcigjnjkdaaDoor
open Go.RowKit Go.ChangeShapes Go.WideShapes Go.ChangeAt
set_option linter.unusedVariables false
attribute [local go_sem ↓] loadRow loadGrid loadLawn loadMirror storeRow storeGrid storeLawn allocRow allocGrid allocLawn buildZero buildSides

/-- Rounds as a row of cells. -/
def rndV (rs : List (Int × Bool)) : List Value := rs.flatMap fun r => [.int .i8 r.1, .bool r.2]
theorem rndV_length : ∀ (rs : List (Int × Bool)), (rndV rs).length = rs.length * 2
  | [] => rfl
  | r :: rs => by
    have ih := rndV_length rs
    simp only [rndV, List.flatMap_cons, List.length_append, List.length_cons, List.length_nil] at ih ⊢
    omega
theorem rndV_get : ∀ (rs : List (Int × Bool)) (i : Nat) (r : Int × Bool), rs[i]? = some r → (rndV rs)[i * 2]? = some (.int .i8 r.1) ∧ (rndV rs)[i * 2 + 1]? = some (.bool r.2)
  | [], i, r, h => by simp at h
  | q :: rs, 0, r, h => by
    simp at h
    subst h
    exact ⟨rfl, rfl⟩
  | q :: rs, i + 1, r, h => by
    have ih := rndV_get rs i r (by simpa using h)
    have e : rndV (q :: rs) = .int .i8 q.1 :: .bool q.2 :: rndV rs := rfl
    rw [e, show (i + 1) * 2 = i * 2 + 1 + 1 by omega]
    exact ⟨by simpa using ih.1, by simpa using ih.2⟩
/-- Rounds that came in. -/
def ArgRnd (w : World) (v : Value) (n : Nat) (rs : List (Int × Bool)) : Prop :=
  rs.length = n ∧ ((v = .slice none 0 0 ∧ n = 0) ∨ ∃ a cap, v = .slice (some a) n cap ∧ n ≤ cap ∧ cap ≤ maxLen ∧ ∀ i z, (rndV rs)[i]? = some z → w.cell? (a.add i) = some z)
theorem ArgRnd.below {w w' : World} {v : Value} {n : Nat} {rs : List (Int × Bool)} {B : Nat} (h : ArgRnd w v n rs) (hb : Below B w w') (hB : w.heap.size ≤ B) : ArgRnd w' v n rs := by
  obtain ⟨h1, h2 | ⟨a, cap, h3, h4, h5, h7⟩⟩ := h
  · exact ⟨h1, .inl h2⟩
  · refine ⟨h1, .inr ⟨a, cap, h3, h4, h5, fun i z hz => ?_⟩⟩
    have hl := cell_block (h7 i z hz)
    rw [← h7 i z hz]
    exact World.cell?_of_block (hb.block _ (by omega))
theorem ArgRnd.slice {w : World} {v : Value} {n : Nat} {rs : List (Int × Bool)} (h : ArgRnd w v n rs) : ∃ a c, v = .slice a n c := by
  obtain ⟨h1, ⟨h2, h3⟩ | ⟨a, cap, h3, h4, h5, h7⟩⟩ := h
  · exact ⟨none, 0, by rw [h2, h3]⟩
  · exact ⟨some a, cap, h3⟩

theorem field_bool {H : Type} {enc : TypeId × Value → H} {P : Program} {W : World} {base : Nat} {sp : Nat → Bool} {held : Bool} {fuel : Nat} {cs : List Value} {x : DataW H × List MemPlace} {t : TypeId} {fs : Array Field}
    (ht : P.underlying t = some (.struct fs)) (h8 : P.underlying 4 = some .bool) (c8 : P.cellsOf 4 = 1) (h : DataW.trod enc P W base sp held fuel t cs = some x) (i o : Nat) (hi : (fs[i]?).map (fun f => (f.type, f.offset)) = some (4, o)) :
    ∃ z, cs[o]? = some (.bool z) := by
  obtain ⟨xs, m, rfl, -, -, hn, hx⟩ := DataW.trod_struct ht h
  cases hf : fs[i]? with
  | none => simp [hf] at hi
  | some f =>
    simp only [hf, Option.map_some, Option.some.injEq, Prod.mk.injEq] at hi
    have hlt : i < xs.length := by rw [hn]; exact (Array.getElem?_eq_some_iff.1 hf).1
    have := hx i f hf
    rw [hi.1, hi.2, c8, List.getElem?_eq_getElem hlt] at this
    obtain ⟨z, hz, -⟩ := DataW.trod_bool h8 this
    refine ⟨z, ?_⟩
    have h0 : ((cs.drop o).take 1)[0]? = some (.bool z) := by rw [hz]; rfl
    simpa using h0
/-- The bool that a cell holds. -/
def cellBool (w : World) (a : Addr) : Bool := match w.cell? a with | some (.bool z) => z | _ => false

set_option maxRecDepth 100000 in
theorem open_rounds {H : Type} {enc : TypeId × Value → H} {W : World} {sp : Nat → Bool} {held : Bool} {v : Value} {d : DataW H} {p : List MemPlace} {r : Reach} {b : Nat}
    (hv : Value.okWide Tryd.prog W r b 71 v) (h : DataW.Trod enc Tryd.prog W 0 sp held 71 v d p) : ∃ (n : Nat) (rs : List (Int × Bool)), ArgRnd W v n rs ∧ n ≤ maxLen ∧ ∀ r ∈ rs, -128 ≤ r.1 ∧ r.1 ≤ 127 := by
  obtain ⟨a, len, cap, rfl⟩ := okWide_slice Tryd.underlying71 hv
  obtain ⟨fuel, hf⟩ := h
  rcases Go.Deep.open_slice Tryd.underlying71 hf with ⟨h1, -⟩ | ⟨a', len', cap', m, n, D, Pl, h1, hb, hl, hm, hmm, -, hc⟩
  · simp [Value.cells] at h1
    obtain ⟨rfl, rfl, rfl⟩ := h1
    exact ⟨0, [], ⟨rfl, .inl ⟨rfl, rfl⟩⟩, by simp [maxLen], by simp⟩
  · simp [Value.cells] at h1
    obtain ⟨rfl, rfl, rfl⟩ := h1
    have hle : len ≤ m := by rw [hmm]; split <;> omega
    have hce : Tryd.prog.cellsOf 145 = 2 := by kernel_rfl
    have cB : Tryd.prog.cellsOf 4 = 1 := by kernel_rfl
    have key : ∀ i, i < len → ∃ z b, W.cell? (a'.add (i * 2)) = some (.int .i8 z) ∧ W.cell? (a'.add (i * 2 + 1)) = some (.bool b) ∧ (Lit.int .i8 z).wf = true := fun i hi => by
      obtain ⟨cs', hcs, ht⟩ := hc i (by omega)
      rw [hce] at hcs
      have h20 := (World.cells?_some hcs).2.2 0 (by omega)
      have h21 := (World.cells?_some hcs).2.2 1 (by omega)
      rw [Addr.add_add] at h20 h21
      obtain ⟨z, hz, hw⟩ := field_i8 Tryd.underlying145 Tryd.underlying22 cellsI8 ht 0 0 rfl
      obtain ⟨z', hz'⟩ := field_bool Tryd.underlying145 Tryd.underlying4 cB ht 1 1 rfl
      exact ⟨z, z', by rw [show i * 2 = i * 2 + 0 by omega, h20, hz], by rw [h21, hz'], hw⟩
    refine ⟨len, (List.range len).map fun i => (cellNum W (a'.add (i * 2)), cellBool W (a'.add (i * 2 + 1))), ⟨by simp, .inr ⟨a', cap, rfl, hl, hm, fun i z hz => ?_⟩⟩, by omega, fun r hr => ?_⟩
    · have hi : i < len * 2 := by have := (List.getElem?_eq_some_iff.1 hz).1; rw [rndV_length] at this; simpa using this
      have hi2 : i / 2 < len := by omega
      obtain ⟨y, q, hy, hq, -⟩ := key (i / 2) hi2
      have hg := rndV_get ((List.range len).map fun i => (cellNum W (a'.add (i * 2)), cellBool W (a'.add (i * 2 + 1)))) (i / 2) (y, q) (by
        simp only [List.getElem?_map, List.getElem?_range hi2, Option.map_some, cellNum, cellBool, hy, hq])
      rcases Nat.mod_two_eq_zero_or_one i with h0 | h0
      · rw [show i / 2 * 2 = i by omega] at hg hy
        rw [hg.1] at hz
        rw [hy]; exact hz
      · rw [show i / 2 * 2 + 1 = i by omega] at hg hq
        rw [hg.2] at hz
        rw [hq]; exact hz
    · simp only [List.mem_map, List.mem_range] at hr
      obtain ⟨i, hi, rfl⟩ := hr
      obtain ⟨y, q, hy, hq, hw⟩ := key i hi
      simp only [cellNum, hy]
      exact wf_i8 hw

theorem rndInfo : (Tryd.prog.info? 143).map (fun i => (i.zero, i.size, i.bytes)) = some (some (.agg #[.int .i8 0, .bool false]), 2, 2) := by kernel_rfl
theorem made_round (n : Nat) (h : n ≤ 2000000) : ∃ C : Array Value, C.size = n * 2 ∧ ∀ w : World, (Instr.makeSlice 74 (.int .i64 (n : Int)) (.int .i64 (n : Int))).run Tryd.prog w = .ok (.slice (some ⟨w.heap.size, 0, none⟩) n n) (w.alloc (.cells C 143)) := by
  obtain ⟨i0, hi, hz0, hz1, hz2⟩ := info_parts rndInfo
  refine ⟨madeCells (Value.agg #[.int .i8 0, .bool false]).cells (n * 2), by rw [size_madeCells], fun w => ?_⟩
  have := run_make (P := Tryd.prog) w 74 143 i0 _ Tryd.underlying74 hi hz0 .i64 .i64 (n : Int) (n : Int) (by omega) (by omega) (by rw [hz2]; omega) (by omega)
  rw [hz1] at this
  simpa using this

set_option maxRecDepth 100000 in
theorem toRound_any (x : Int) (y : Bool) (w : World) :
    Calls Tryd.prog 102 #[.agg #[.int .i8 x, .bool y]] w fun e w' => e = .returned (.agg #[.int .i8 x, .bool y]) ∧ Below w.heap.size w w' := by
  go_enter Tryd.func102, Tryd.ntmps102
  go_wp2
  have h1 := (Holds.new' (w.alloc (.cells #[.int .i8 x, .bool y] 145)) #[.int .i8 x, .bool y] 143 (w.heap.size + 1) (by simp)).alloc (.cells #[.int .i8 x, .bool y] 143)
  exact bodyPost_ret (v := .agg #[.int .i8 x, .bool y]) (results_cell_holds (n := 2) rfl (by kernel_rfl) _ rfl h1 rfl) rfl ⟨rfl, (((Below.refl _ _).alloc (Nat.le_refl _) _).alloc (by simp) _).alloc (by simp; omega) _⟩

set_option maxRecDepth 100000 in
set_option maxHeartbeats 1000000 in
theorem toRoundS_any (n : Nat) (v : Value) (rs : List (Int × Bool)) (hn : n ≤ 2000000) (w : World) (h : ArgRnd w v n rs) :
    Calls Tryd.prog 50 #[v] w fun e w' => (e = .returned (.slice (some ⟨w.heap.size, 0, none⟩) n n) ∧ w'.ownsRow w.heap.size 143 2 (.slice (some ⟨w.heap.size, 0, none⟩) n n) n (rndV rs)) ∧ Below w.heap.size w w' := by
  obtain ⟨C, hC, hmk⟩ := made_round n hn
  obtain ⟨av, cv, rfl⟩ := h.slice
  have hl := h.1
  have H := Lib.hid h
  have HL := Lib.hid hl
  have hmk0 := hmk w
  have hm : (w.alloc (.cells C 143)).ownsRow w.heap.size 143 2 (.slice (some ⟨w.heap.size, 0, none⟩) n n) n C.toList := ⟨by simp [hC], .inr ⟨w.heap.size, n, C, rfl, Nat.le_refl _, heap_alloc_new w _, Nat.le_refl _, by unfold maxLen; omega, by omega, List.take_of_length_le (by simp [hC])⟩⟩
  have HM := Lib.hid hm
  have hb0 := (Below.refl w.heap.size w).alloc (Nat.le_refl _) (.cells C 143)
  have HCL := Lib.hid (show (rndV rs).length = C.toList.length by rw [rndV_length]; simp [hl, hC])
  clear hmk h hm hC hl
  go_enter Tryd.func50, Tryd.ntmps50
  go_wp2_with fail
  clear hmk0
  go_loopw [4] (fun i wr => ∃ j : Nat, j ≤ n ∧ i = .int .i64 j ∧ wr.ownsRow w.heap.size 143 2 (.slice (some ⟨w.heap.size, 0, none⟩) n n) n (marked (rndV rs) C.toList (j * 2)) ∧ Below w.heap.size w wr) (fun i _ => n - (intOf i).toNat)
  case atStart => exact ⟨0, by omega, rfl, by rw [Nat.zero_mul, marked_none]; exact HM.out, hb0⟩
  case round =>
    obtain ⟨j, hj, rfl, ho, hb⟩ := hrel
    by_cases hlt : j < n
    · have hd : decide ((j : Int) < (n : Int)) = true := by simp; omega
      have HO := Lib.hid ho
      obtain ⟨⟨z0, z1⟩, hz⟩ : ∃ r, rs[j]? = some r := ⟨_, List.getElem?_eq_getElem (by rw [HL.out]; omega)⟩
      obtain ⟨hz0, hz1⟩ := rndV_get rs j _ hz
      dsimp only at hz0 hz1
      obtain ⟨-, ⟨-, h0⟩ | ⟨a, cap, he, h4, h5, h7⟩⟩ := H.out.below hb (Nat.le_refl _)
      · omega
      · simp only [Value.slice.injEq, true_and] at he
        obtain ⟨rfl, rfl⟩ := he
        have hc0 := h7 _ _ hz0
        have hc1 : wr.cell? ⟨(a.add (j * 2)).block, (a.add (j * 2)).off + 1, none⟩ = some (.bool z1) := by rw [← addr_one, Addr.add_add]; exact h7 _ _ hz1
        clear ho h7 hz
        go_wp2_with fail
        refine (toRound_any _ _ _).mono ?_
        rintro e w5 ⟨rfl, hb5⟩
        have HO5 := Lib.hid (own_below HO.out hb5)
        have ho := HO5.out
        have hb6 := hb.trans (hb5.mono hb.size)
        have hml : (marked (rndV rs) C.toList (j * 2)).length = C.toList.length := marked_length _ _ _ HCL.out
        have hf0 := own_free ho (j * 2)
        have hf1 := own_free ho (j * 2 + 1)
        have hd0 := own_cell ho (j * 2) _ (List.getElem?_eq_getElem (by rw [hml, ← HCL.out, rndV_length, HL.out]; omega))
        have hd1 := own_cell ho (j * 2 + 1) _ (List.getElem?_eq_getElem (by rw [hml, ← HCL.out, rndV_length, HL.out]; omega))
        clear ho hc0 hc1 hb hb5 HO
        go_wp2_with fail
        go_roundw
        case rel =>
          refine ⟨j + 1, by omega, by go_num, ?_, (hb6.setCell (p := ⟨w.heap.size, j * 2, none⟩) (Nat.le_refl _) _).setCell (p := ⟨w.heap.size, j * 2 + 1, none⟩) (Nat.le_refl _) _⟩
          rw [show (j + 1) * 2 = j * 2 + 1 + 1 by omega]
          exact own_mark (own_mark HO5.out HCL.out hz0) HCL.out hz1
        case measure => simp [intOf]; omega
    · have hd : decide ((j : Int) < (n : Int)) = false := by simp; omega
      obtain rfl : j = n := by omega
      have e : marked (rndV rs) C.toList (j * 2) = rndV rs := by
        have := marked_all (rndV rs) C.toList HCL.out
        rwa [show (rndV rs).length = j * 2 by rw [rndV_length, HL.out]] at this
      rw [e] at ho
      have HO := Lib.hid ho
      clear ho e
      go_wp2_with fail
      go_ret
      exact ⟨⟨rfl, HO.out⟩, hb⟩

theorem szRoundS_any (n : Nat) (a : Option Addr) (c left : Nat) (h : n ≤ left ∧ left ≤ 2000000) (w : World) :
    Calls Tryd.prog 48 #[.slice a n c, .int .i64 (left : Int)] w fun e w' => e = .returned (.int .i64 ((left - n : Nat) : Int)) ∧ w = w' := by
  have h1 := h.1
  have h2 := h.2
  go_enter Tryd.func48, Tryd.ntmps48
  go_wp2_with fail
  go_ret
  exact ⟨congrArg (fun x => Ending.returned (.int .i64 x)) (by omega), rfl⟩
theorem szRoundS_big (n : Nat) (a : Option Addr) (c left : Nat) (h : left < n) (h2 : left ≤ 2000000) (hn : n ≤ 9223372036854775807) (w : World) :
    Calls Tryd.prog 48 #[.slice a n c, .int .i64 (left : Int)] w fun e w' => e = .returned (.int .i64 (-1)) ∧ w = w' := by
  go_enter Tryd.func48, Tryd.ntmps48
  go_wp2_with fail
  go_ret
  exact ⟨rfl, rfl⟩

set_option maxRecDepth 100000 in
theorem eqRound_same (x : Int) (y : Bool) (w : World) :
    Calls Tryd.prog 103 #[.agg #[.int .i8 x, .bool y], .agg #[.int .i8 x, .bool y]] w fun e w' => e = .returned (.bool true) ∧ Below w.heap.size w w' := by
  go_enter Tryd.func103, Tryd.ntmps103
  go_wp2
  all_goals
    go_ret
    exact ⟨rfl, ((Below.refl _ _).alloc (Nat.le_refl _) _).alloc (by simp) _⟩

set_option maxRecDepth 100000 in
set_option maxHeartbeats 1000000 in
theorem eqRoundS_same (n : Nat) (rs : List (Int × Bool)) (hn : n ≤ 10000000) (hl : rs.length = n) (v v' : Value) (B B' : Nat) (w : World) (h : w.ownsRow B 143 2 v n (rndV rs)) (h' : w.ownsRow B' 143 2 v' n (rndV rs)) :
    Calls Tryd.prog 52 #[v, v'] w fun e w' => e = .returned (.bool true) ∧ Below w.heap.size w w' := by
  by_cases hz : n = 0
  · obtain ⟨a, c, rfl⟩ := own_slice h
    obtain ⟨a', c', rfl⟩ := own_slice h'
    subst hz
    clear h h' hl
    go_enter Tryd.func52, Tryd.ntmps52
    go_wp2_with fail
    go_loopw [5] (fun i wr => i = .int .i64 0 ∧ wr = w) (fun _ _ => 0)
    case atStart => exact ⟨rfl, rfl⟩
    case round =>
      obtain ⟨rfl, rfl⟩ := hrel
      go_wp2_with fail
      go_ret
      exact ⟨rfl, Below.refl _ _⟩
  · obtain ⟨g, cap, rfl, -, -⟩ := own_form h (by omega)
    obtain ⟨g', cap', rfl, -, -⟩ := own_form h' (by omega)
    have H := Lib.hid h
    have H' := Lib.hid h'
    have HL := Lib.hid hl
    clear h h' hl
    go_enter Tryd.func52, Tryd.ntmps52
    go_wp2_with fail
    go_loopw [5] (fun i wr => ∃ k : Nat, k ≤ n ∧ i = .int .i64 k ∧ Below w.heap.size w wr) (fun i _ => n - (intOf i).toNat)
    case atStart => exact ⟨0, by omega, rfl, Below.refl _ _⟩
    case round =>
      obtain ⟨k, hk, rfl, hb⟩ := hrel
      by_cases hlt : k < n
      · have hd : decide ((k : Int) < (n : Int)) = true := by simp; omega
        obtain ⟨⟨z0, z1⟩, hz⟩ : ∃ r, rs[k]? = some r := ⟨_, List.getElem?_eq_getElem (by rw [HL.out]; omega)⟩
        obtain ⟨hz0, hz1⟩ := rndV_get rs k _ hz
        dsimp only at hz0 hz1
        have c0 := fun w' hw' => own_cell (own_below (own_below H.out hb) (W' := w') hw') _ _ hz0
        have d0 := fun w' hw' => own_cell (own_below (own_below H'.out hb) (W' := w') hw') _ _ hz0
        have c1 := fun w' hw' => own_cell (own_below (own_below H.out hb) (W' := w') hw') _ _ hz1
        have d1 := fun w' hw' => own_cell (own_below (own_below H'.out hb) (W' := w') hw') _ _ hz1
        clear hz0 hz1 hz
        go_wp2_with fail
        refine wp_region_grow 9 (by kernel_rfl) (by kernel_rfl) ?_
        simp only [List.take_succ_cons, List.take_zero, List.drop_succ_cons, List.drop_zero]
        iterate 9
          apply wpGrow_plain rfl
          · intro w' hw' K hK
            have e0 := c0 _ hw'
            have g0 := d0 _ hw'
            have e1 := c1 _ hw'
            have g1 := d1 _ hw'
            go_wp2_with (go_at_call 103; refine (eqRound_same _ _ _).mono ?_; rintro e w2 ⟨rfl, hb2⟩)
            first | exact hK _ _ rfl hw' | exact hK _ _ rfl (below_onto hw' hb2)
          simp only [Act.put, List.setIfInBounds_toArray, List.set_cons_succ, List.set_cons_zero]
        refine wpGrow_nil ?_
        intro W2 hW2
        have hb2 := below_onto hb hW2
        clear c0 d0 c1 d1 hW2 hb
        go_wp2_with fail
        go_roundw
        case rel => exact ⟨k + 1, by omega, by go_num, hb2⟩
        case measure => simp [intOf]; omega
      · have hd : decide ((k : Int) < (n : Int)) = false := by simp; omega
        go_wp2_with fail
        go_ret
        exact ⟨rfl, hb⟩
end Go.Proofs.YthfhpcigjnjkdaaDoor
