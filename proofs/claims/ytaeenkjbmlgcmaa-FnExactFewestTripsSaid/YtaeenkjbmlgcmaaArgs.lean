/- Lists that came in: what they read, and the copies that a law makes of them. -/
import Derived.Test.YtaeenkjbmlgcmaaZC
import Derived.Test.YtaeenkjbmlgcmaaZD
import Derived.Laws.MakeOwn
import Derived.DataElems
namespace Go.Proofs.Ytaeenkjbmlgcmaa
open Go.RowKit
set_option linter.unusedVariables false

/-- A list of n elements of so many numbers each that came in. -/
def ArgRow (k : IntKind) (s : Nat) (w : World) (v : Value) (n : Nat) (zs : List Int) : Prop :=
  zs.length = n * s ∧ ((v = .slice none 0 0 ∧ n = 0) ∨ ∃ a cap, v = .slice (some a) n cap ∧ n ≤ cap ∧ cap ≤ maxLen ∧ ∀ i z, zs[i]? = some z → w.cell? (a.add i) = some (.int k z))
theorem cell_block {w : World} {a : Addr} {v : Value} (h : w.cell? a = some v) : a.block < w.heap.size := by
  rcases Nat.lt_or_ge a.block w.heap.size with hl | hl
  · exact hl
  · simp [World.cell?, Array.getElem?_eq_none hl] at h
theorem ArgRow.below {k : IntKind} {s : Nat} {w w' : World} {v : Value} {n : Nat} {zs : List Int} {B : Nat} (h : ArgRow k s w v n zs) (hb : Below B w w') (hB : w.heap.size ≤ B) : ArgRow k s w' v n zs := by
  obtain ⟨h1, h2 | ⟨a, cap, h3, h4, h5, h7⟩⟩ := h
  · exact ⟨h1, .inl h2⟩
  · refine ⟨h1, .inr ⟨a, cap, h3, h4, h5, fun i z hz => ?_⟩⟩
    have hl := cell_block (h7 i z hz)
    rw [← h7 i z hz]
    exact World.cell?_of_block (hb.block _ (by omega))
theorem ArgRow.slice {k : IntKind} {s : Nat} {w : World} {v : Value} {n : Nat} {zs : List Int} (h : ArgRow k s w v n zs) : ∃ a c, v = .slice a n c := by
  obtain ⟨h1, ⟨h2, h3⟩ | ⟨a, cap, h3, h4, h5, h7⟩⟩ := h
  · exact ⟨none, 0, by rw [h2, h3]⟩
  · exact ⟨some a, cap, h3⟩
/-- Numbers as a row of cells. -/
def intsV (k : IntKind) (zs : List Int) : List Value := zs.map (.int k)
theorem intsV_get {k : IntKind} {zs : List Int} {i : Nat} {z : Int} (h : zs[i]? = some z) : (intsV k zs)[i]? = some (.int k z) := by simp [intsV, h]
theorem intsV_ints {k : IntKind} {zs : List Int} {n : Nat} (h : zs.length = n) : ∀ j, j < n → ∃ z, (intsV k zs)[j]? = some (.int k z) := fun j hj => ⟨zs[j], intsV_get (List.getElem?_eq_getElem (by omega))⟩

theorem i64Info : (Try.prog.info? 2).map (fun i => (i.zero, i.size, i.bytes)) = some (some (.int .i64 0), 1, 8) := by kernel_rfl
theorem made_int64 (n : Nat) (h : n ≤ 2000000) : ∃ C : Array Value, C.size = n * 1 ∧ ∀ w : World, (Instr.makeSlice 56 (.int .i64 (n : Int)) (.int .i64 (n : Int))).run Try.prog w = .ok (.slice (some ⟨w.heap.size, 0, none⟩) n n) (w.alloc (.cells C 2)) := by
  obtain ⟨i0, hi, hz0, hz1, hz2⟩ := info_parts i64Info
  refine ⟨madeCells (Value.int .i64 0).cells (n * 1), by rw [size_madeCells], fun w => ?_⟩
  have := run_make (P := Try.prog) w 56 2 i0 _ Try.underlying56 hi hz0 .i64 .i64 (n : Int) (n : Int) (by omega) (by omega) (by rw [hz2]; omega) (by omega)
  rw [hz1] at this
  simpa using this

set_option maxRecDepth 100000 in
set_option maxHeartbeats 1000000 in
theorem toInt64S_any (n : Nat) (v : Value) (zs : List Int) (hn : n ≤ 2000000) (w : World) (h : ArgRow .i64 1 w v n zs) :
    Calls Try.prog 43 #[v] w fun e w' => (∃ v', e = .returned v' ∧ w'.ownsRow w.heap.size 2 1 v' n (intsV .i64 zs)) ∧ Below w.heap.size w w' := by
  obtain ⟨C, hC, hmk⟩ := made_int64 n hn
  obtain ⟨av, cv, rfl⟩ := h.slice
  have hl := h.1
  simp only [Nat.mul_one] at hl hC
  have H := Lib.hid h
  have HL := Lib.hid hl
  have hmk0 := hmk w
  have hm : (w.alloc (.cells C 2)).ownsRow w.heap.size 2 1 (.slice (some ⟨w.heap.size, 0, none⟩) n n) n C.toList := ⟨by simp [hC], .inr ⟨w.heap.size, n, C, rfl, Nat.le_refl _, heap_alloc_new w _, Nat.le_refl _, by unfold maxLen; omega, by omega, List.take_of_length_le (by simp [hC])⟩⟩
  have HM := Lib.hid hm
  have hb0 := (Below.refl w.heap.size w).alloc (Nat.le_refl _) (.cells C 2)
  have HCL := Lib.hid (show (intsV .i64 zs).length = C.toList.length by simp [intsV, hl, hC])
  clear hmk h hm hC hl
  go_enter Try.func43, Try.ntmps43
  go_wp2_with fail
  clear hmk0
  go_loopw [4] (fun i wr => ∃ j : Nat, j ≤ n ∧ i = .int .i64 j ∧ wr.ownsRow w.heap.size 2 1 (.slice (some ⟨w.heap.size, 0, none⟩) n n) n (marked (intsV .i64 zs) C.toList j) ∧ Below w.heap.size w wr) (fun i _ => n - (intOf i).toNat)
  case atStart => exact ⟨0, by omega, rfl, by rw [marked_none]; exact HM.out, hb0⟩
  case round =>
    obtain ⟨j, hj, rfl, ho, hb⟩ := hrel
    by_cases hlt : j < n
    · have hd : decide ((j : Int) < (n : Int)) = true := by simp; omega
      have HO := Lib.hid ho
      obtain ⟨z, hz⟩ : ∃ z, zs[j]? = some z := ⟨_, List.getElem?_eq_getElem (by rw [HL.out]; exact hlt)⟩
      obtain ⟨-, ⟨-, h0⟩ | ⟨a, cap, he, h4, h5, h7⟩⟩ := H.out.below hb (Nat.le_refl _)
      · omega
      · simp only [Value.slice.injEq, true_and] at he
        obtain ⟨rfl, rfl⟩ := he
        have hc := h7 j z hz
        have hf := own_free ho j
        have hml : (marked (intsV .i64 zs) C.toList j).length = C.toList.length := marked_length _ _ _ HCL.out
        have hc2 := own_cell ho j _ (List.getElem?_eq_getElem (by rw [hml, ← HCL.out]; simp [intsV, HL.out]; omega))
        clear ho h7
        go_wp2_with fail
        go_roundw
        case rel => exact ⟨j + 1, by omega, by go_num, own_mark HO.out HCL.out (intsV_get hz), hb.setCell (p := ⟨w.heap.size, j, none⟩) (Nat.le_refl _) _⟩
        case measure => simp [intOf]; omega
    · have hd : decide ((j : Int) < (n : Int)) = false := by simp; omega
      obtain rfl : j = n := by omega
      have e : marked (intsV .i64 zs) C.toList j = intsV .i64 zs := by
        have := marked_all (intsV .i64 zs) C.toList HCL.out
        rwa [show (intsV .i64 zs).length = j by simp [intsV, HL.out]] at this
      rw [e] at ho
      have HO := Lib.hid ho
      clear ho e
      go_wp2_with fail
      go_ret
      exact ⟨⟨_, rfl, HO.out⟩, hb⟩

theorem addr_one (x : Addr) : x.add 1 = ⟨x.block, x.off + 1, none⟩ := by simp [Addr.add]


end Go.Proofs.Ytaeenkjbmlgcmaa
