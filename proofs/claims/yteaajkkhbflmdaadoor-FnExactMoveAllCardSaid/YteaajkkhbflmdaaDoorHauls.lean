/- Hauls in a row that come in: how a law's hauls are read, copied and compared. -/
import Derived.Test.YteaajkkhbflmdaaDoorHaul
import Derived.Test.YteaajkkhbflmdaaDoorSizeL
import Derived.Test.YteaajkkhbflmdaaDoorEqCellS
namespace Go.Proofs.YteaajkkhbflmdaaDoor
open Go.RowKit Go.ChangeShapes Go.WideShapes Go.ChangeAt
set_option linter.unusedVariables false
set_option linter.unusedSimpArgs false
attribute [local go_sem ↓] loadRow loadGrid loadLawn loadMirror storeRow storeGrid storeLawn allocRow allocGrid allocLawn buildZero buildSides

/-- Hauls that came in. -/
def ArgHl (w : World) (v : Value) (n : Nat) (rs : List Hl) : Prop :=
  rs.length = n ∧ ((v = .slice none 0 0 ∧ n = 0) ∨ ∃ a cap, v = .slice (some a) n cap ∧ n ≤ cap ∧ cap ≤ maxLen ∧ ∀ i z, (hlV rs)[i]? = some z → w.cell? (a.add i) = some z)
theorem ArgHl.below {w w' : World} {v : Value} {n : Nat} {rs : List Hl} {B : Nat} (h : ArgHl w v n rs) (hb : Below B w w') (hB : w.heap.size ≤ B) : ArgHl w' v n rs := by
  obtain ⟨h1, h2 | ⟨a, cap, h3, h4, h5, h7⟩⟩ := h
  · exact ⟨h1, .inl h2⟩
  · refine ⟨h1, .inr ⟨a, cap, h3, h4, h5, fun i z hz => ?_⟩⟩
    have hl := cell_block (h7 i z hz)
    rw [← h7 i z hz]
    exact World.cell?_of_block (hb.block _ (by omega))
theorem ArgHl.slice {w : World} {v : Value} {n : Nat} {rs : List Hl} (h : ArgHl w v n rs) : ∃ a c, v = .slice a n c := by
  obtain ⟨h1, ⟨h2, h3⟩ | ⟨a, cap, h3, h4, h5, h7⟩⟩ := h
  · exact ⟨none, 0, by rw [h2, h3]⟩
  · exact ⟨some a, cap, h3⟩

/-- The haul that lies at a place. -/
def haulAt (w : World) (a : Addr) : Hl := (cellNum w a, cellNum w (a.add 1), cellNum w (a.add 2), cellNum w (a.add 3), cellNum w (a.add 4))

set_option maxRecDepth 100000 in
theorem open_hauls {H : Type} {enc : TypeId × Value → H} {W : World} {sp : Nat → Bool} {held : Bool} {v : Value} {d : DataW H} {p : List MemPlace} {r : Reach} {b : Nat}
    (hv : Value.okWide Tryd.prog W r b 45 v) (h : DataW.Trod enc Tryd.prog W 0 sp held 45 v d p) : ∃ (n : Nat) (rs : List Hl), ArgHl W v n rs ∧ n ≤ maxLen ∧ ∀ r ∈ rs, HlIn r := by
  obtain ⟨a, len, cap, rfl⟩ := okWide_slice Tryd.underlying45 hv
  obtain ⟨fuel, hf⟩ := h
  rcases Go.Deep.open_slice Tryd.underlying45 hf with ⟨h1, -⟩ | ⟨a', len', cap', m, n, D, Pl, h1, hb, hl, hm, hmm, -, hc⟩
  · simp [Value.cells] at h1
    obtain ⟨rfl, rfl, rfl⟩ := h1
    exact ⟨0, [], ⟨rfl, .inl ⟨rfl, rfl⟩⟩, by simp [maxLen], by simp⟩
  · simp [Value.cells] at h1
    obtain ⟨rfl, rfl, rfl⟩ := h1
    have hle : len ≤ m := by rw [hmm]; split <;> omega
    have key : ∀ i, i < len → ∃ q : Hl, HlIn q ∧ W.cell? (a'.add (i * 5)) = some (.int .i8 q.1) ∧ W.cell? (a'.add (i * 5 + 1)) = some (.int .i8 q.2.1) ∧ W.cell? (a'.add (i * 5 + 2)) = some (.int .i8 q.2.2.1) ∧ W.cell? (a'.add (i * 5 + 3)) = some (.int .i8 q.2.2.2.1) ∧ W.cell? (a'.add (i * 5 + 4)) = some (.int .i8 q.2.2.2.2) := fun i hi => by
      obtain ⟨cs', hcs, ht⟩ := hc i (by omega)
      rw [cellsHaulL] at hcs
      obtain ⟨q, hq, e0, e1, e2, e3, e4⟩ := haul_fields ht
      have c0 := (World.cells?_some hcs).2.2 0 (by omega)
      have c1 := (World.cells?_some hcs).2.2 1 (by omega)
      have c2 := (World.cells?_some hcs).2.2 2 (by omega)
      have c3 := (World.cells?_some hcs).2.2 3 (by omega)
      have c4 := (World.cells?_some hcs).2.2 4 (by omega)
      rw [Addr.add_add] at c0 c1 c2 c3 c4
      exact ⟨q, hq, by rw [show i * 5 = i * 5 + 0 by omega, c0, e0], by rw [c1, e1], by rw [c2, e2], by rw [c3, e3], by rw [c4, e4]⟩
    have keq : ∀ i, i < len → ∀ q : Hl, W.cell? (a'.add (i * 5)) = some (.int .i8 q.1) → W.cell? (a'.add (i * 5 + 1)) = some (.int .i8 q.2.1) → W.cell? (a'.add (i * 5 + 2)) = some (.int .i8 q.2.2.1) → W.cell? (a'.add (i * 5 + 3)) = some (.int .i8 q.2.2.2.1) → W.cell? (a'.add (i * 5 + 4)) = some (.int .i8 q.2.2.2.2) → haulAt W (a'.add (i * 5)) = q := fun i hi q h0 h1 h2 h3 h4 => by
      simp only [haulAt, Addr.add_add, cellNum, h0, h1, h2, h3, h4]
    refine ⟨len, (List.range len).map fun i => haulAt W (a'.add (i * 5)), ⟨by simp, .inr ⟨a', cap, rfl, hl, hm, fun i z hz => ?_⟩⟩, by omega, fun r hr => ?_⟩
    · have hi : i < len * 5 := by have := (List.getElem?_eq_some_iff.1 hz).1; rw [hlV_length] at this; simpa using this
      have hi2 : i / 5 < len := by omega
      obtain ⟨q, -, h0, h1, h2, h3, h4⟩ := key (i / 5) hi2
      have hg := hlV_get ((List.range len).map fun i => haulAt W (a'.add (i * 5))) (i / 5) q (by
        simp only [List.getElem?_map, List.getElem?_range hi2, Option.map_some]
        rw [keq (i / 5) hi2 q h0 h1 h2 h3 h4])
      obtain ⟨g0, g1, g2, g3, g4⟩ := hg
      have : i % 5 = 0 ∨ i % 5 = 1 ∨ i % 5 = 2 ∨ i % 5 = 3 ∨ i % 5 = 4 := by omega
      rcases this with e | e | e | e | e
      · rw [show i / 5 * 5 = i by omega] at g0 h0
        rw [g0] at hz; rw [h0]; exact hz
      · rw [show i / 5 * 5 + 1 = i by omega] at g1 h1
        rw [g1] at hz; rw [h1]; exact hz
      · rw [show i / 5 * 5 + 2 = i by omega] at g2 h2
        rw [g2] at hz; rw [h2]; exact hz
      · rw [show i / 5 * 5 + 3 = i by omega] at g3 h3
        rw [g3] at hz; rw [h3]; exact hz
      · rw [show i / 5 * 5 + 4 = i by omega] at g4 h4
        rw [g4] at hz; rw [h4]; exact hz
    · simp only [List.mem_map, List.mem_range] at hr
      obtain ⟨i, hi, rfl⟩ := hr
      obtain ⟨q, hq, h0, h1, h2, h3, h4⟩ := key i hi
      rw [keq i hi q h0 h1 h2 h3 h4]
      exact hq

theorem haulInfo : (Tryd.prog.info? 41).map (fun i => (i.zero, i.size, i.bytes)) = some (some (.agg #[.int .i8 0, .int .i8 0, .int .i8 0, .int .i8 0, .int .i8 0]), 5, 5) := by kernel_rfl
theorem made_haul (n : Nat) (h : n ≤ 2000000) : ∃ C : Array Value, C.size = n * 5 ∧ ∀ w : World, (Instr.makeSlice 48 (.int .i64 (n : Int)) (.int .i64 (n : Int))).run Tryd.prog w = .ok (.slice (some ⟨w.heap.size, 0, none⟩) n n) (w.alloc (.cells C 41)) := by
  obtain ⟨i0, hi, hz0, hz1, hz2⟩ := info_parts haulInfo
  refine ⟨madeCells (Value.agg #[.int .i8 0, .int .i8 0, .int .i8 0, .int .i8 0, .int .i8 0]).cells (n * 5), by rw [size_madeCells], fun w => ?_⟩
  have := run_make (P := Tryd.prog) w 48 41 i0 _ Tryd.underlying48 hi hz0 .i64 .i64 (n : Int) (n : Int) (by omega) (by omega) (by rw [hz2]; omega) (by omega)
  rw [hz1] at this
  simpa using this

set_option maxRecDepth 100000 in
set_option maxHeartbeats 1000000 in
theorem toHaulS_any (n : Nat) (v : Value) (rs : List Hl) (hn : n ≤ 2000000) (w : World) (h : ArgHl w v n rs) :
    Calls Tryd.prog 16 #[v] w fun e w' => (e = .returned (.slice (some ⟨w.heap.size, 0, none⟩) n n) ∧ w'.ownsRow w.heap.size 41 5 (.slice (some ⟨w.heap.size, 0, none⟩) n n) n (hlV rs)) ∧ Below w.heap.size w w' := by
  obtain ⟨C, hC, hmk⟩ := made_haul n hn
  obtain ⟨av, cv, rfl⟩ := h.slice
  have hl := h.1
  have H := Lib.hid h
  have HL := Lib.hid hl
  have hmk0 := hmk w
  have hm : (w.alloc (.cells C 41)).ownsRow w.heap.size 41 5 (.slice (some ⟨w.heap.size, 0, none⟩) n n) n C.toList := ⟨by simp [hC], .inr ⟨w.heap.size, n, C, rfl, Nat.le_refl _, heap_alloc_new w _, Nat.le_refl _, by unfold maxLen; omega, by omega, List.take_of_length_le (by simp [hC])⟩⟩
  have HM := Lib.hid hm
  have hb0 := (Below.refl w.heap.size w).alloc (Nat.le_refl _) (.cells C 41)
  have HCL := Lib.hid (show (hlV rs).length = C.toList.length by rw [hlV_length]; simp [hl, hC])
  clear hmk h hm hC hl
  go_enter Tryd.func16, Tryd.ntmps16
  go_wp2_with fail
  clear hmk0
  go_loopw [4] (fun i wr => ∃ j : Nat, j ≤ n ∧ i = .int .i64 j ∧ wr.ownsRow w.heap.size 41 5 (.slice (some ⟨w.heap.size, 0, none⟩) n n) n (marked (hlV rs) C.toList (j * 5)) ∧ Below w.heap.size w wr) (fun i _ => n - (intOf i).toNat)
  case atStart => exact ⟨0, by omega, rfl, by rw [Nat.zero_mul, marked_none]; exact HM.out, hb0⟩
  case round =>
    obtain ⟨j, hj, rfl, ho, hb⟩ := hrel
    by_cases hlt : j < n
    · have hd : decide ((j : Int) < (n : Int)) = true := by simp; omega
      have HO := Lib.hid ho
      obtain ⟨⟨z0, z1, z2, z3, z4⟩, hz⟩ : ∃ r, rs[j]? = some r := ⟨_, List.getElem?_eq_getElem (by rw [HL.out]; omega)⟩
      obtain ⟨hz0, hz1, hz2, hz3, hz4⟩ := hlV_get rs j _ hz
      dsimp only at hz0 hz1 hz2 hz3 hz4
      obtain ⟨-, ⟨-, h0⟩ | ⟨a, cap, he, h4, h5, h7⟩⟩ := H.out.below hb (Nat.le_refl _)
      · omega
      · simp only [Value.slice.injEq, true_and] at he
        obtain ⟨rfl, rfl⟩ := he
        have ae : ∀ i, 0 < i → (⟨(a.add (j * 5)).block, (a.add (j * 5)).off + i, none⟩ : Addr) = a.add (j * 5 + i) := fun i hi => by
          rw [← Addr.add_add]
          have : i ≠ 0 := by omega
          simp [Addr.add, this]
        have hc0 := h7 _ _ hz0
        have hc1 := (congrArg wr.cell? (ae 1 (by omega))).trans (h7 _ _ hz1)
        have hc2 := (congrArg wr.cell? (ae 2 (by omega))).trans (h7 _ _ hz2)
        have hc3 := (congrArg wr.cell? (ae 3 (by omega))).trans (h7 _ _ hz3)
        have hc4 := (congrArg wr.cell? (ae 4 (by omega))).trans (h7 _ _ hz4)
        clear ho h7 hz ae
        go_wp2_with fail
        refine (toHaul_any _ _ _ _ _ _).mono ?_
        rintro e w5 ⟨rfl, hb5⟩
        have HO5 := Lib.hid (own_below HO.out hb5)
        have ho := HO5.out
        have hb6 := hb.trans (hb5.mono hb.size)
        have hml : (marked (hlV rs) C.toList (j * 5)).length = C.toList.length := marked_length _ _ _ HCL.out
        have hx : ∀ i, i < 5 → ∃ z, (marked (hlV rs) C.toList (j * 5))[j * 5 + i]? = some z := fun i hi => ⟨_, List.getElem?_eq_getElem (by rw [hml, ← HCL.out, hlV_length, HL.out]; omega)⟩
        obtain ⟨q0, e0⟩ := hx 0 (by omega)
        obtain ⟨q1, e1⟩ := hx 1 (by omega)
        obtain ⟨q2, e2⟩ := hx 2 (by omega)
        obtain ⟨q3, e3⟩ := hx 3 (by omega)
        obtain ⟨q4, e4⟩ := hx 4 (by omega)
        have hd0 := own_cell ho (j * 5) _ e0
        have hd1 := own_cell ho (j * 5 + 1) _ e1
        have hd2 := own_cell ho (j * 5 + 2) _ e2
        have hd3 := own_cell ho (j * 5 + 3) _ e3
        have hd4 := own_cell ho (j * 5 + 4) _ e4
        have hf0 := own_free ho (j * 5)
        have hf1 := own_free ho (j * 5 + 1)
        have hf2 := own_free ho (j * 5 + 2)
        have hf3 := own_free ho (j * 5 + 3)
        have hf4 := own_free ho (j * 5 + 4)
        clear ho hc0 hc1 hc2 hc3 hc4 hb hb5 HO hx e0 e1 e2 e3 e4 hml
        go_wp2_with fail
        go_roundw
        case rel =>
          refine ⟨j + 1, by omega, by go_num, ?_, ((((hb6.setCell (p := ⟨w.heap.size, j * 5, none⟩) (Nat.le_refl _) _).setCell (p := ⟨w.heap.size, j * 5 + 1, none⟩) (Nat.le_refl _) _).setCell (p := ⟨w.heap.size, j * 5 + 2, none⟩) (Nat.le_refl _) _).setCell (p := ⟨w.heap.size, j * 5 + 3, none⟩) (Nat.le_refl _) _).setCell (p := ⟨w.heap.size, j * 5 + 4, none⟩) (Nat.le_refl _) _⟩
          rw [show (j + 1) * 5 = j * 5 + 1 + 1 + 1 + 1 + 1 by omega]
          exact own_mark (own_mark (own_mark (own_mark (own_mark HO5.out HCL.out hz0) HCL.out hz1) HCL.out hz2) HCL.out hz3) HCL.out hz4
        case measure => simp [intOf]; omega
    · have hd : decide ((j : Int) < (n : Int)) = false := by simp; omega
      obtain rfl : j = n := by omega
      have e : marked (hlV rs) C.toList (j * 5) = hlV rs := by
        have := marked_all (hlV rs) C.toList HCL.out
        rwa [show (hlV rs).length = j * 5 by rw [hlV_length, HL.out]] at this
      rw [e] at ho
      have HO := Lib.hid ho
      clear ho e
      go_wp2_with fail
      go_ret
      exact ⟨⟨rfl, HO.out⟩, hb⟩

theorem szHaulS_any (n : Nat) (a : Option Addr) (c left : Nat) (h : n ≤ left ∧ left ≤ 2000000) (w : World) :
    Calls Tryd.prog 14 #[.slice a n c, .int .i64 (left : Int)] w fun e w' => e = .returned (.int .i64 ((left - n : Nat) : Int)) ∧ w = w' := by
  have h1 := h.1
  have h2 := h.2
  go_enter Tryd.func14, Tryd.ntmps14
  go_wp2_with fail
  go_ret
  exact ⟨congrArg (fun x => Ending.returned (.int .i64 x)) (by omega), rfl⟩
theorem szHaulS_big (n : Nat) (a : Option Addr) (c left : Nat) (h : left < n) (h2 : left ≤ 2000000) (hn : n ≤ 9223372036854775807) (w : World) :
    Calls Tryd.prog 14 #[.slice a n c, .int .i64 (left : Int)] w fun e w' => e = .returned (.int .i64 (-1)) ∧ w = w' := by
  go_enter Tryd.func14, Tryd.ntmps14
  go_wp2_with fail
  go_ret
  exact ⟨rfl, rfl⟩


set_option maxRecDepth 100000 in
set_option maxHeartbeats 1000000 in
theorem eqHaul_same (x0 x1 x2 x3 x4 : Int) (w : World) :
    Calls Tryd.prog 38 #[.agg #[.int .i8 x0, .int .i8 x1, .int .i8 x2, .int .i8 x3, .int .i8 x4], .agg #[.int .i8 x0, .int .i8 x1, .int .i8 x2, .int .i8 x3, .int .i8 x4]] w fun e w' => e = .returned (.bool true) ∧ Below w.heap.size w w' := by
  obtain ⟨s, hs⟩ : ∃ s, w.heap.size = s := ⟨_, rfl⟩
  obtain ⟨W0, hW0⟩ : ∃ W0, (w.alloc (.cells #[.int .i8 x0, .int .i8 x1, .int .i8 x2, .int .i8 x3, .int .i8 x4] 41)).alloc (.cells #[.int .i8 x0, .int .i8 x1, .int .i8 x2, .int .i8 x3, .int .i8 x4] 41) = W0 := ⟨_, rfl⟩
  have g0 : Holds W0 s #[.int .i8 x0, .int .i8 x1, .int .i8 x2, .int .i8 x3, .int .i8 x4] := by rw [← hW0]; exact (Holds.new' _ _ _ _ hs.symm).alloc _
  have g1 : Holds W0 (s + 1) #[.int .i8 x0, .int .i8 x1, .int .i8 x2, .int .i8 x3, .int .i8 x4] := by rw [← hW0]; exact Holds.new' _ _ _ _ (by simp; omega)
  have hb : Below s w W0 := by rw [← hW0]; exact ((Below.refl s w).alloc (by omega) _).alloc (by simp; omega) _
  have HC := Lib.hid (show ∀ w', Below W0.heap.size W0 w' → (w'.cell? ⟨s, 0, none⟩ = some (.int .i8 x0) ∧ w'.cell? ⟨s, 1, none⟩ = some (.int .i8 x1) ∧ w'.cell? ⟨s, 2, none⟩ = some (.int .i8 x2) ∧ w'.cell? ⟨s, 3, none⟩ = some (.int .i8 x3) ∧ w'.cell? ⟨s, 4, none⟩ = some (.int .i8 x4)) ∧ (w'.cell? ⟨s + 1, 0, none⟩ = some (.int .i8 x0) ∧ w'.cell? ⟨s + 1, 1, none⟩ = some (.int .i8 x1) ∧ w'.cell? ⟨s + 1, 2, none⟩ = some (.int .i8 x2) ∧ w'.cell? ⟨s + 1, 3, none⟩ = some (.int .i8 x3) ∧ w'.cell? ⟨s + 1, 4, none⟩ = some (.int .i8 x4)) from fun w' h => by
    have k0 := g0.below h g0.lt
    have k1 := g1.below h g1.lt
    exact ⟨⟨k0.cell 0, k0.cell 1, k0.cell 2, k0.cell 3, k0.cell 4⟩, k1.cell 0, k1.cell 1, k1.cell 2, k1.cell 3, k1.cell 4⟩)
  have HB := Lib.hid hb
  have hl := g1.lt
  rw [hs]
  clear g0 g1 hb
  go_enter Tryd.func38, Tryd.ntmps38
  obtain ⟨⟨c0, c1, c2, c3, c4⟩, d0, d1, d2, d3, d4⟩ := HC.out W0 (Below.refl _ _)
  go_wp2_with fail
  refine (eqCell_same _ _ _).mono ?_
  rintro e w2 ⟨rfl, hb2⟩
  clear c0 c1 c2 c3 c4 d0 d1 d2 d3 d4 hW0
  obtain ⟨⟨c0, c1, c2, c3, c4⟩, d0, d1, d2, d3, d4⟩ := HC.out w2 hb2
  have HB2 := Lib.hid hb2
  have hl2 : s + 1 < w2.heap.size := Nat.lt_of_lt_of_le hl hb2.size
  clear hb2
  go_wp2_with fail
  refine (eqCell_same _ _ _).mono ?_
  rintro e w3 ⟨rfl, hb3⟩
  clear c0 c1 c2 c3 c4 d0 d1 d2 d3 d4
  have hb4 := below_onto HB2.out hb3
  obtain ⟨⟨c0, c1, c2, c3, c4⟩, d0, d1, d2, d3, d4⟩ := HC.out w3 hb4
  have hb5 : Below s w w3 := HB.out.trans (hb4.mono (by omega))
  have hl3 : s + 1 < w3.heap.size := Nat.lt_of_lt_of_le hl hb4.size
  clear hb3 hb4
  go_wp2_with fail
  go_ret
  exact ⟨rfl, hb5⟩

set_option maxRecDepth 100000 in
set_option maxHeartbeats 1000000 in
theorem eqHaulS_same (n : Nat) (rs : List Hl) (hn : n ≤ 10000000) (hl : rs.length = n) (v v' : Value) (B B' : Nat) (w : World) (h : w.ownsRow B 41 5 v n (hlV rs)) (h' : w.ownsRow B' 41 5 v' n (hlV rs)) :
    Calls Tryd.prog 18 #[v, v'] w fun e w' => e = .returned (.bool true) ∧ Below w.heap.size w w' := by
  by_cases hz : n = 0
  · obtain ⟨a, c, rfl⟩ := own_slice h
    obtain ⟨a', c', rfl⟩ := own_slice h'
    subst hz
    clear h h' hl
    go_enter Tryd.func18, Tryd.ntmps18
    go_wp2_with fail
    go_loopw [5] (fun i wr => i = .int .i64 0 ∧ wr = w) (fun _ _ => 0)
    case atStart => exact ⟨rfl, rfl⟩
    case round =>
      obtain ⟨rfl, rfl⟩ := hrel
      go_wp2_with fail
      go_ret
      exact ⟨rfl, Below.refl _ _⟩
  · obtain ⟨g, cap, rfl, -, -⟩ := own_form h (by omega)
    obtain ⟨g', cap', rfl, -, -⟩ := own_form h' (by omega)
    have H := Lib.hid h
    have H' := Lib.hid h'
    have HL := Lib.hid hl
    clear h h' hl
    go_enter Tryd.func18, Tryd.ntmps18
    go_wp2_with fail
    go_loopw [5] (fun i wr => ∃ k : Nat, k ≤ n ∧ i = .int .i64 k ∧ Below w.heap.size w wr) (fun i _ => n - (intOf i).toNat)
    case atStart => exact ⟨0, by omega, rfl, Below.refl _ _⟩
    case round =>
      obtain ⟨k, hk, rfl, hb⟩ := hrel
      by_cases hlt : k < n
      · have hd : decide ((k : Int) < (n : Int)) = true := by simp; omega
        obtain ⟨⟨z0, z1, z2, z3, z4⟩, hz⟩ : ∃ r, rs[k]? = some r := ⟨_, List.getElem?_eq_getElem (by rw [HL.out]; omega)⟩
        obtain ⟨hz0, hz1, hz2, hz3, hz4⟩ := hlV_get rs k _ hz
        dsimp only at hz0 hz1 hz2 hz3 hz4
        have c0 := fun w' hw' => own_cell (own_below (own_below H.out hb) (W' := w') hw') _ _ hz0
        have d0 := fun w' hw' => own_cell (own_below (own_below H'.out hb) (W' := w') hw') _ _ hz0
        have c1 := fun w' hw' => own_cell (own_below (own_below H.out hb) (W' := w') hw') _ _ hz1
        have d1 := fun w' hw' => own_cell (own_below (own_below H'.out hb) (W' := w') hw') _ _ hz1
        have c2 := fun w' hw' => own_cell (own_below (own_below H.out hb) (W' := w') hw') _ _ hz2
        have d2 := fun w' hw' => own_cell (own_below (own_below H'.out hb) (W' := w') hw') _ _ hz2
        have c3 := fun w' hw' => own_cell (own_below (own_below H.out hb) (W' := w') hw') _ _ hz3
        have d3 := fun w' hw' => own_cell (own_below (own_below H'.out hb) (W' := w') hw') _ _ hz3
        have c4 := fun w' hw' => own_cell (own_below (own_below H.out hb) (W' := w') hw') _ _ hz4
        have d4 := fun w' hw' => own_cell (own_below (own_below H'.out hb) (W' := w') hw') _ _ hz4
        clear hz0 hz1 hz2 hz3 hz4 hz
        go_wp2_with fail
        refine wp_region_grow 9 (by kernel_rfl) (by kernel_rfl) ?_
        simp only [List.take_succ_cons, List.take_zero, List.drop_succ_cons, List.drop_zero]
        iterate 9
          apply wpGrow_plain rfl
          · intro w' hw' K hK
            have e0 := c0 _ hw'
            have g0 := d0 _ hw'
            have e1 := c1 _ hw'
            have g1 := d1 _ hw'
            have e2 := c2 _ hw'
            have g2 := d2 _ hw'
            have e3 := c3 _ hw'
            have g3 := d3 _ hw'
            have e4 := c4 _ hw'
            have g4 := d4 _ hw'
            go_wp2_with (go_at_call 38; refine (eqHaul_same _ _ _ _ _ _).mono ?_; rintro e w2 ⟨rfl, hb2⟩)
            first | exact hK _ _ rfl hw' | exact hK _ _ rfl (below_onto hw' hb2)
          simp only [Act.put, List.setIfInBounds_toArray, List.set_cons_succ, List.set_cons_zero]
        refine wpGrow_nil ?_
        intro W2 hW2
        have hb2 := below_onto hb hW2
        clear c0 d0 c1 d1 c2 d2 c3 d3 c4 d4 hW2 hb
        go_wp2_with fail
        go_roundw
        case rel => exact ⟨k + 1, by omega, by go_num, hb2⟩
        case measure => simp [intOf]; omega
      · have hd : decide ((k : Int) < (n : Int)) = false := by simp; omega
        go_wp2_with fail
        go_ret
        exact ⟨rfl, hb⟩
end Go.Proofs.YteaajkkhbflmdaaDoor
