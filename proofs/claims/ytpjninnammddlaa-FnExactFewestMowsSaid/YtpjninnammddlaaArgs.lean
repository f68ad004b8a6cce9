/- Lists that came in: what they read, and the copies that a law makes of them. -/
import Derived.Test.YtpjninnammddlaaZC
import Derived.Test.YtpjninnammddlaaZD
import Derived.Laws.MakeOwn
import Derived.DataElems
namespace Go.Proofs.Ytpjninnammddlaa
open Go.RowKit
set_option linter.unusedVariables false

/-- A list of n elements of so many numbers each that came in. -/
def ArgRow (k : IntKind) (s : Nat) (w : World) (v : Value) (n : Nat) (zs : List Int) : Prop :=
  zs.length = n * s ∧ ((v = .slice none 0 0 ∧ n = 0) ∨ ∃ a cap, v = .slice (some a) n cap ∧ n ≤ cap ∧ cap ≤ maxLen ∧ ∀ i z, zs[i]? = some z → w.cell? (a.add i) = some (.int k z))
theorem cell_block {w : World} {a : Addr} {v : Value} (h : w.cell? a = some v) : a.block < w.heap.size := by
  rcases Nat.lt_or_ge a.block w.heap.size with hl | hl
  · exact hl
  · simp [World.cell?, Array.getElem?_eq_none hl] at h
theorem ArgRow.below {k : IntKind} {s : Nat} {w w' : World} {v : Value} {n : Nat} {zs : List Int} {B : Nat} (h : ArgRow k s w v n zs) (hb : Below B w w') (hB : w.heap.size ≤ B) : ArgRow k s w' v n zs := by
  obtain ⟨h1, h2 | ⟨a, cap, h3, h4, h5, h7⟩⟩ := h
  · exact ⟨h1, .inl h2⟩
  · refine ⟨h1, .inr ⟨a, cap, h3, h4, h5, fun i z hz => ?_⟩⟩
    have hl := cell_block (h7 i z hz)
    rw [← h7 i z hz]
    exact World.cell?_of_block (hb.block _ (by omega))
theorem ArgRow.slice {k : IntKind} {s : Nat} {w : World} {v : Value} {n : Nat} {zs : List Int} (h : ArgRow k s w v n zs) : ∃ a c, v = .slice a n c := by
  obtain ⟨h1, ⟨h2, h3⟩ | ⟨a, cap, h3, h4, h5, h7⟩⟩ := h
  · exact ⟨none, 0, by rw [h2, h3]⟩
  · exact ⟨some a, cap, h3⟩
/-- Numbers as a row of cells. -/
def intsV (k : IntKind) (zs : List Int) : List Value := zs.map (.int k)
theorem intsV_get {k : IntKind} {zs : List Int} {i : Nat} {z : Int} (h : zs[i]? = some z) : (intsV k zs)[i]? = some (.int k z) := by simp [intsV, h]
theorem intsV_ints {k : IntKind} {zs : List Int} {n : Nat} (h : zs.length = n) : ∀ j, j < n → ∃ z, (intsV k zs)[j]? = some (.int k z) := fun j hj => ⟨zs[j], intsV_get (List.getElem?_eq_getElem (by omega))⟩

theorem i64Info : (Try.prog.info? 2).map (fun i => (i.zero, i.size, i.bytes)) = some (some (.int .i64 0), 1, 8) := by kernel_rfl
theorem made_int64 (n : Nat) (h : n ≤ 2000000) : ∃ C : Array Value, C.size = n * 1 ∧ ∀ w : World, (Instr.makeSlice 24 (.int .i64 (n : Int)) (.int .i64 (n : Int))).run Try.prog w = .ok (.slice (some ⟨w.heap.size, 0, none⟩) n n) (w.alloc (.cells C 2)) := by
  obtain ⟨i0, hi, hz0, hz1, hz2⟩ := info_parts i64Info
  refine ⟨madeCells (Value.int .i64 0).cells (n * 1), by rw [size_madeCells], fun w => ?_⟩
  have := run_make (P := Try.prog) w 24 2 i0 _ Try.underlying24 hi hz0 .i64 .i64 (n : Int) (n : Int) (by omega) (by omega) (by rw [hz2]; omega) (by omega)
  rw [hz1] at this
  simpa using this


theorem addr_one (x : Addr) : x.add 1 = ⟨x.block, x.off + 1, none⟩ := by simp [Addr.add]
/-- Days as numbers. -/
theorem wInfo : (Try.prog.info? 46).map (fun i => (i.zero, i.size, i.bytes)) = some (some (.agg #[.int .i8 0, .int .i8 0]), 2, 2) := by kernel_rfl
theorem made_weather (n : Nat) (h : n ≤ 2000000) : ∃ C : Array Value, C.size = n * 2 ∧ ∀ w : World, (Instr.makeSlice 27 (.int .i64 (n : Int)) (.int .i64 (n : Int))).run Try.prog w = .ok (.slice (some ⟨w.heap.size, 0, none⟩) n n) (w.alloc (.cells C 46)) := by
  obtain ⟨i0, hi, hz0, hz1, hz2⟩ := info_parts wInfo
  refine ⟨madeCells (Value.agg #[.int .i8 0, .int .i8 0]).cells (n * 2), by rw [size_madeCells], fun w => ?_⟩
  have := run_make (P := Try.prog) w 27 46 i0 _ Try.underlying27 hi hz0 .i64 .i64 (n : Int) (n : Int) (by omega) (by omega) (by rw [hz2]; omega) (by omega)
  rw [hz1] at this
  simpa using this

set_option maxRecDepth 100000 in
theorem toWeather_any (x y : Int) (w : World) :
    Calls Try.prog 23 #[.agg #[.int .i8 x, .int .i8 y]] w fun e w' => e = .returned (.agg #[.int .i8 x, .int .i8 y]) ∧ Below w.heap.size w w' := by
  go_enter Try.func23, Try.ntmps23
  go_wp2
  have h1 := (Holds.new' (w.alloc (.cells #[.int .i8 x, .int .i8 y] 48)) #[.int .i8 x, .int .i8 y] 46 (w.heap.size + 1) (by simp)).alloc (.cells #[.int .i8 x, .int .i8 y] 46)
  exact bodyPost_ret (v := .agg #[.int .i8 x, .int .i8 y]) (results_cell_holds (n := 2) rfl (by kernel_rfl) _ rfl h1 rfl) rfl ⟨rfl, (((Below.refl _ _).alloc (Nat.le_refl _) _).alloc (by simp) _).alloc (by simp; omega) _⟩

set_option maxRecDepth 100000 in
set_option maxHeartbeats 1000000 in
theorem toWeatherS_any (n : Nat) (v : Value) (zs : List Int) (hn : n ≤ 2000000) (w : World) (h : ArgRow .i8 2 w v n zs) :
    Calls Try.prog 8 #[v] w fun e w' => (∃ v', e = .returned v' ∧ w'.ownsRow w.heap.size 46 2 v' n (intsV .i8 zs)) ∧ Below w.heap.size w w' := by
  obtain ⟨C, hC, hmk⟩ := made_weather n hn
  obtain ⟨av, cv, rfl⟩ := h.slice
  have hl := h.1
  have H := Lib.hid h
  have HL := Lib.hid hl
  have hmk0 := hmk w
  have hm : (w.alloc (.cells C 46)).ownsRow w.heap.size 46 2 (.slice (some ⟨w.heap.size, 0, none⟩) n n) n C.toList := ⟨by simp [hC], .inr ⟨w.heap.size, n, C, rfl, Nat.le_refl _, heap_alloc_new w _, Nat.le_refl _, by unfold maxLen; omega, by omega, List.take_of_length_le (by simp [hC])⟩⟩
  have HM := Lib.hid hm
  have hb0 := (Below.refl w.heap.size w).alloc (Nat.le_refl _) (.cells C 46)
  have HCL := Lib.hid (show (intsV .i8 zs).length = C.toList.length by simp [intsV, hl, hC])
  clear hmk h hm hC hl
  go_enter Try.func8, Try.ntmps8
  go_wp2_with fail
  clear hmk0
  go_loopw [4] (fun i wr => ∃ j : Nat, j ≤ n ∧ i = .int .i64 j ∧ wr.ownsRow w.heap.size 46 2 (.slice (some ⟨w.heap.size, 0, none⟩) n n) n (marked (intsV .i8 zs) C.toList (j * 2)) ∧ Below w.heap.size w wr) (fun i _ => n - (intOf i).toNat)
  case atStart => exact ⟨0, by omega, rfl, by rw [Nat.zero_mul, marked_none]; exact HM.out, hb0⟩
  case round =>
    obtain ⟨j, hj, rfl, ho, hb⟩ := hrel
    by_cases hlt : j < n
    · have hd : decide ((j : Int) < (n : Int)) = true := by simp; omega
      have HO := Lib.hid ho
      obtain ⟨z0, hz0⟩ : ∃ z, zs[j * 2]? = some z := ⟨_, List.getElem?_eq_getElem (by rw [HL.out]; omega)⟩
      obtain ⟨z1, hz1⟩ : ∃ z, zs[j * 2 + 1]? = some z := ⟨_, List.getElem?_eq_getElem (by rw [HL.out]; omega)⟩
      obtain ⟨-, ⟨-, h0⟩ | ⟨a, cap, he, h4, h5, h7⟩⟩ := H.out.below hb (Nat.le_refl _)
      · omega
      · simp only [Value.slice.injEq, true_and] at he
        obtain ⟨rfl, rfl⟩ := he
        have hc0 := h7 _ _ hz0
        have hc1 : wr.cell? ⟨(a.add (j * 2)).block, (a.add (j * 2)).off + 1, none⟩ = some (.int .i8 z1) := by rw [← addr_one, Addr.add_add]; exact h7 _ _ hz1
        clear ho h7
        go_wp2_with fail
        refine (toWeather_any _ _ _).mono ?_
        rintro e w5 ⟨rfl, hb5⟩
        have HO5 := Lib.hid (own_below HO.out hb5)
        have ho := HO5.out
        have hb6 := hb.trans (hb5.mono hb.size)
        have hml : (marked (intsV .i8 zs) C.toList (j * 2)).length = C.toList.length := marked_length _ _ _ HCL.out
        have hf0 := own_free ho (j * 2)
        have hf1 := own_free ho (j * 2 + 1)
        have hd0 := own_cell ho (j * 2) _ (List.getElem?_eq_getElem (by rw [hml, ← HCL.out]; simp [intsV, HL.out]; omega))
        have hd1 := own_cell ho (j * 2 + 1) _ (List.getElem?_eq_getElem (by rw [hml, ← HCL.out]; simp [intsV, HL.out]; omega))
        clear ho hc0 hc1 hb hb5 HO
        go_wp2_with fail
        go_roundw
        case rel =>
          refine ⟨j + 1, by omega, by go_num, ?_, (hb6.setCell (p := ⟨w.heap.size, j * 2, none⟩) (Nat.le_refl _) _).setCell (p := ⟨w.heap.size, j * 2 + 1, none⟩) (Nat.le_refl _) _⟩
          rw [show (j + 1) * 2 = j * 2 + 1 + 1 by omega]
          exact own_mark (own_mark HO5.out HCL.out (intsV_get hz0)) HCL.out (intsV_get hz1)
        case measure => simp [intOf]; omega
    · have hd : decide ((j : Int) < (n : Int)) = false := by simp; omega
      obtain rfl : j = n := by omega
      have e : marked (intsV .i8 zs) C.toList (j * 2) = intsV .i8 zs := by
        have := marked_all (intsV .i8 zs) C.toList HCL.out
        rwa [show (intsV .i8 zs).length = j * 2 by simp [intsV, HL.out]] at this
      rw [e] at ho
      have HO := Lib.hid ho
      clear ho e
      go_wp2_with fail
      go_ret
      exact ⟨⟨_, rfl, HO.out⟩, hb⟩
end Go.Proofs.Ytpjninnammddlaa
