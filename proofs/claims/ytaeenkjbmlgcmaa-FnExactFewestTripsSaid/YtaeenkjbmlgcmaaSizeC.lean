/- Lists of cells that came in: sizes and copies. -/
import Derived.Test.YtaeenkjbmlgcmaaSizeL
import Derived.Test.YtaeenkjbmlgcmaaZC
namespace Go.Proofs.Ytaeenkjbmlgcmaa
open Go.RowKit
set_option linter.unusedVariables false

theorem cInfoA : (Try.prog.info? 37).map (fun i => (i.zero, i.size, i.bytes)) = some (some (.agg #[.int .i8 0, .int .i8 0]), 2, 2) := by kernel_rfl
theorem made_cellA (n : Nat) (h : n ≤ 2000000) : ∃ C : Array Value, C.size = n * 2 ∧ ∀ w : World, (Instr.makeSlice 45 (.int .i64 (n : Int)) (.int .i64 (n : Int))).run Try.prog w = .ok (.slice (some ⟨w.heap.size, 0, none⟩) n n) (w.alloc (.cells C 37)) := by
  obtain ⟨i0, hi, hz0, hz1, hz2⟩ := info_parts cInfoA
  refine ⟨madeCells (Value.agg #[.int .i8 0, .int .i8 0]).cells (n * 2), by rw [size_madeCells], fun w => ?_⟩
  have := run_make (P := Try.prog) w 45 37 i0 _ Try.underlying45 hi hz0 .i64 .i64 (n : Int) (n : Int) (by omega) (by omega) (by rw [hz2]; omega) (by omega)
  rw [hz1] at this
  simpa using this

set_option maxRecDepth 100000 in
set_option maxHeartbeats 1000000 in
theorem toCellS_any (n : Nat) (v : Value) (zs : List Int) (hn : n ≤ 2000000) (w : World) (h : ArgRow .i8 2 w v n zs) :
    Calls Try.prog 33 #[v] w fun e w' => (∃ v', e = .returned v' ∧ w'.ownsRow w.heap.size 37 2 v' n (intsV .i8 zs)) ∧ Below w.heap.size w w' := by
  obtain ⟨C, hC, hmk⟩ := made_cellA n hn
  obtain ⟨av, cv, rfl⟩ := h.slice
  have hl := h.1
  have H := Lib.hid h
  have HL := Lib.hid hl
  have hmk0 := hmk w
  have hm : (w.alloc (.cells C 37)).ownsRow w.heap.size 37 2 (.slice (some ⟨w.heap.size, 0, none⟩) n n) n C.toList := ⟨by simp [hC], .inr ⟨w.heap.size, n, C, rfl, Nat.le_refl _, heap_alloc_new w _, Nat.le_refl _, by unfold maxLen; omega, by omega, List.take_of_length_le (by simp [hC])⟩⟩
  have HM := Lib.hid hm
  have hb0 := (Below.refl w.heap.size w).alloc (Nat.le_refl _) (.cells C 37)
  have HCL := Lib.hid (show (intsV .i8 zs).length = C.toList.length by simp [intsV, hl, hC])
  clear hmk h hm hC hl
  go_enter Try.func33, Try.ntmps33
  go_wp2_with fail
  clear hmk0
  go_loopw [4] (fun i wr => ∃ j : Nat, j ≤ n ∧ i = .int .i64 j ∧ wr.ownsRow w.heap.size 37 2 (.slice (some ⟨w.heap.size, 0, none⟩) n n) n (marked (intsV .i8 zs) C.toList (j * 2)) ∧ Below w.heap.size w wr) (fun i _ => n - (intOf i).toNat)
  case atStart => exact ⟨0, by omega, rfl, by rw [Nat.zero_mul, marked_none]; exact HM.out, hb0⟩
  case round =>
    obtain ⟨j, hj, rfl, ho, hb⟩ := hrel
    by_cases hlt : j < n
    · have hd : decide ((j : Int) < (n : Int)) = true := by simp; omega
      have HO := Lib.hid ho
      obtain ⟨z0, hz0⟩ : ∃ z, zs[j * 2]? = some z := ⟨_, List.getElem?_eq_getElem (by rw [HL.out]; omega)⟩
      obtain ⟨z1, hz1⟩ : ∃ z, zs[j * 2 + 1]? = some z := ⟨_, List.getElem?_eq_getElem (by rw [HL.out]; omega)⟩
      obtain ⟨-, ⟨-, h0⟩ | ⟨a, cap, he, h4, h5, h7⟩⟩ := H.out.below hb (Nat.le_refl _)
      · omega
      · simp only [Value.slice.injEq, true_and] at he
        obtain ⟨rfl, rfl⟩ := he
        have hc0 := h7 _ _ hz0
        have hc1 : wr.cell? ⟨(a.add (j * 2)).block, (a.add (j * 2)).off + 1, none⟩ = some (.int .i8 z1) := by rw [← addr_one, Addr.add_add]; exact h7 _ _ hz1
        clear ho h7
        go_wp2_with fail
        refine (toCell_any _ _ _).mono ?_
        rintro e w5 ⟨rfl, hb5⟩
        have HO5 := Lib.hid (own_below HO.out hb5)
        have ho := HO5.out
        have hb6 := hb.trans (hb5.mono hb.size)
        have hml : (marked (intsV .i8 zs) C.toList (j * 2)).length = C.toList.length := marked_length _ _ _ HCL.out
        have hf0 := own_free ho (j * 2)
        have hf1 := own_free ho (j * 2 + 1)
        have hd0 := own_cell ho (j * 2) _ (List.getElem?_eq_getElem (by rw [hml, ← HCL.out]; simp [intsV, HL.out]; omega))
        have hd1 := own_cell ho (j * 2 + 1) _ (List.getElem?_eq_getElem (by rw [hml, ← HCL.out]; simp [intsV, HL.out]; omega))
        clear ho hc0 hc1 hb hb5 HO
        go_wp2_with fail
        go_roundw
        case rel =>
          refine ⟨j + 1, by omega, by go_num, ?_, (hb6.setCell (p := ⟨w.heap.size, j * 2, none⟩) (Nat.le_refl _) _).setCell (p := ⟨w.heap.size, j * 2 + 1, none⟩) (Nat.le_refl _) _⟩
          rw [show (j + 1) * 2 = j * 2 + 1 + 1 by omega]
          exact own_mark (own_mark HO5.out HCL.out (intsV_get hz0)) HCL.out (intsV_get hz1)
        case measure => simp [intOf]; omega
    · have hd : decide ((j : Int) < (n : Int)) = false := by simp; omega
      obtain rfl : j = n := by omega
      have e : marked (intsV .i8 zs) C.toList (j * 2) = intsV .i8 zs := by
        have := marked_all (intsV .i8 zs) C.toList HCL.out
        rwa [show (intsV .i8 zs).length = j * 2 by simp [intsV, HL.out]] at this
      rw [e] at ho
      have HO := Lib.hid ho
      clear ho e
      go_wp2_with fail
      go_ret
      exact ⟨⟨_, rfl, HO.out⟩, hb⟩
theorem szCellS_any (n : Nat) (a : Option Addr) (c left : Nat) (h : n ≤ left ∧ left ≤ 2000000) (w : World) :
    Calls Try.prog 31 #[.slice a n c, .int .i64 (left : Int)] w fun e w' => e = .returned (.int .i64 ((left - n : Nat) : Int)) ∧ w = w' := by
  have h1 := h.1
  have h2 := h.2
  go_enter Try.func31, Try.ntmps31
  go_wp2_with fail
  go_ret
  exact ⟨congrArg (fun x => Ending.returned (.int .i64 x)) (by omega), rfl⟩
theorem szCellS_big (n : Nat) (a : Option Addr) (c left : Nat) (h : left < n) (h2 : left ≤ 2000000) (hn : n ≤ 9223372036854775807) (w : World) :
    Calls Try.prog 31 #[.slice a n c, .int .i64 (left : Int)] w fun e w' => e = .returned (.int .i64 (-1)) ∧ w = w' := by
  go_enter Try.func31, Try.ntmps31
  go_wp2_with fail
  go_ret
  exact ⟨rfl, rfl⟩
end Go.Proofs.Ytaeenkjbmlgcmaa
