/- GrowthOf, of the program and of the model; the law. -/
import Derived.Test.YtbcbokpdcliimaaSGrowth
namespace Go.Proofs.Ytbcbokpdcliimaa
open Go.RowKit
set_option linter.unusedVariables false

def dayG (r t : Int) : Int := if upB r 50 && upB t 40 then (r / 10 + 1) * (t / 10) else 0
def dayC (r t : Int) : Int := if upB r 50 && upB t 40 then 0 else 1

set_option maxRecDepth 100000 in
set_option maxHeartbeats 1000000 in
theorem implGrowthOf_any (r t : Int) (hr : -128 ≤ r ∧ r ≤ 127) (ht : -128 ≤ t ∧ t ≤ 127) (w : World) :
    Calls Try.prog 27 #[.agg #[.int .i8 r, .int .i8 t]] w fun e w' => e = .returned (.tuple #[.int .i64 (dayG r t), .int .i64 (dayC r t)]) ∧ Below w.heap.size w w' := by
  obtain ⟨m, hm⟩ := firstNo_ex (dayP [r, t]) 1
  have HG := Lib.hid (fun (W : World) (B : Nat) (v : Value) (ho : W.ownsRow B 40 2 v 1 (intsV .i8 [r, t])) => implGrowth_any B 1 v (by omega) [r, t] rfl (by simp; omega) m hm W ho)
  have hb : dayB [r, t] 0 = (upB r 50 && upB t 40) := by simp [dayB, rainZ, warmZ]
  have hm1 : (m = 1) ↔ (upB r 50 && upB t 40) = true := by
    rw [first_all hm, ← hb]
    exact ⟨fun h => h.2 0 (by omega), fun h => ⟨by omega, fun i hi => by rw [show i = 0 by omega]; exact h⟩⟩
  obtain ⟨W, hW⟩ : ∃ W, (w.alloc (.cells #[.int .i8 r, .int .i8 t] 40)).alloc (.cells #[.int .i8 r, .int .i8 t] 40) = W := ⟨_, rfl⟩
  have ho : W.ownsRow (w.heap.size + 1) 40 2 (.slice (some ⟨w.heap.size + 1, 0, none⟩) 1 1) 1 (intsV .i8 [r, t]) := by
    rw [← hW]
    exact ⟨rfl, .inr ⟨w.heap.size + 1, 1, #[.int .i8 r, .int .i8 t], rfl, Nat.le_refl _, by have := heap_alloc_new (w.alloc (.cells #[.int .i8 r, .int .i8 t] 40)) (.cells #[.int .i8 r, .int .i8 t] 40); simpa using this, Nat.le_refl _, by simp [maxLen], rfl, rfl⟩⟩
  have hG := HG.out W _ _ ho
  have HG2 := Lib.hid hG
  have hb0 : Below w.heap.size w W := by rw [← hW]; exact ((Below.refl w.heap.size w).alloc (Nat.le_refl _) _).alloc (by simp) _
  clear hm hb ho hG HG hr ht
  cases hd : (upB r 50 && upB t 40)
  · have hm2 : ¬ m = 1 := by rw [hm1, hd]; decide
    rw [growthC, growthN, growthV, if_neg hm2, if_neg hm2, if_neg hm2] at HG2
    rw [dayG, dayC, hd]
    clear hm1 hm2 hd
    go_enter Try.func27, Try.ntmps27
    go_wp2_with fail
    refine HG2.out.mono ?_
    rintro e w1 ⟨⟨u, rfl, hu⟩, hb1⟩
    have hb2 := below_onto hb0 hb1
    clear hb1 hu HG2 hW hb0
    go_wp2_with fail
    go_ret2
    exact ⟨rfl, hb2⟩
  · have hm2 : m = 1 := hm1.2 hd
    rw [growthC, growthN, growthV, if_pos hm2, if_pos hm2, if_pos hm2] at HG2
    rw [dayG, dayC, hd]
    clear hm1 hm2 hd
    go_enter Try.func27, Try.ntmps27
    go_wp2_with fail
    refine HG2.out.mono ?_
    rintro e w1 ⟨⟨u, rfl, hu⟩, hb1⟩
    have hb2 := below_onto hb0 hb1
    obtain ⟨g, cap, rfl, hBg, hg⟩ := own_form hu (by omega)
    have c0 := own_cell hu 0 _ (intsV_get (k := .i64) (show (growL [r, t] 1)[0]? = some ((r / 10 + 1) * (t / 10)) by simp [growL, growZ, rainZ, warmZ]))
    clear hb1 hu HG2 hW hb0
    go_wp2_with fail
    go_ret2
    exact ⟨rfl, hb2⟩

set_option maxRecDepth 100000 in
theorem specGrowthOf_any (r t : Int) (hr : -128 ≤ r ∧ r ≤ 127) (ht : -128 ≤ t ∧ t ≤ 127) (w : World) :
    Calls Try.prog 25 #[.agg #[.int .i8 r, .int .i8 t]] w fun e w' => e = .returned (.tuple #[.int .i64 (dayG r t), .int .i64 (dayC r t)]) ∧ Below w.heap.size w w' := by
  obtain ⟨d, hd⟩ : ∃ d, (upB r 50 && upB t 40) = d := ⟨_, rfl⟩
  have HK := Lib.hid (fun w => l03Day_is r t hr ht d hd w)
  have hb0 := (Below.refl w.heap.size w).alloc (Nat.le_refl _) (.cells #[.int .i8 r, .int .i8 t] 40)
  rw [dayG, dayC, hd]
  cases d
  · clear hd hr ht
    go_enter Try.func25, Try.ntmps25
    go_wp2_with fail
    refine (HK.out _).mono ?_
    rintro e w1 ⟨rfl, hb1⟩
    have hb2 := below_onto hb0 hb1
    clear hb1 hb0
    go_wp2_with fail
    go_ret2
    exact ⟨rfl, hb2⟩
  · simp only [upB, Bool.and_eq_true, decide_eq_true_eq] at hd
    have HL := Lib.hid (fun w => l03Growth_is r t hd.1 hd.2 w)
    clear hd hr ht
    go_enter Try.func25, Try.ntmps25
    go_wp2_with fail
    refine (HK.out _).mono ?_
    rintro e w1 ⟨rfl, hb1⟩
    have hb2 := below_onto hb0 hb1
    have c0 := ((Holds.new w #[.int .i8 r, .int .i8 t] 40).below hb1 (by simp)).cell 0
    have c1 := ((Holds.new w #[.int .i8 r, .int .i8 t] 40).below hb1 (by simp)).cell 1
    clear hb1 hb0
    go_wp2_with fail
    refine (HL.out _).mono ?_
    rintro e w2 ⟨rfl, hb1⟩
    have hb3 := below_onto hb2 hb1
    clear hb1 hb2 c0 c1
    go_wp2_with fail
    go_ret2
    exact ⟨rfl, hb3⟩
end Go.Proofs.Ytbcbokpdcliimaa
