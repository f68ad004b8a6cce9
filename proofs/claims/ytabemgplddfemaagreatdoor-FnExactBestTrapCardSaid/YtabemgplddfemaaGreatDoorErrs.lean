/- codeOf: the code of each error. -/
import Derived.Test.YtabemgplddfemaaGreatDoorIs
import Derived.Test.YtabemgplddfemaaGreatDoorZA
namespace Go.Proofs.YtabemgplddfemaaGreatDoor
open Go.RowKit
set_option linter.unusedVariables false

/-- The five errors lie in memory, each at its own place. -/
structure ErrsIn (w : World) (a0 a1 a2 a3 a4 : Addr) : Prop where
  v0 : w.cell? ⟨1, 0, none⟩ = some (.iface 159 (.pointer (some a0)))
  v1 : w.cell? ⟨2, 0, none⟩ = some (.iface 159 (.pointer (some a1)))
  v2 : w.cell? ⟨3, 0, none⟩ = some (.iface 159 (.pointer (some a2)))
  v3 : w.cell? ⟨4, 0, none⟩ = some (.iface 159 (.pointer (some a3)))
  v4 : w.cell? ⟨0, 0, none⟩ = some (.iface 159 (.pointer (some a4)))
  r0 : ∃ c t, w.heap[a0.block]? = some (.cells c t (0, 0))
  r1 : ∃ c t, w.heap[a1.block]? = some (.cells c t (0, 0))
  r2 : ∃ c t, w.heap[a2.block]? = some (.cells c t (0, 0))
  r3 : ∃ c t, w.heap[a3.block]? = some (.cells c t (0, 0))
  r4 : ∃ c t, w.heap[a4.block]? = some (.cells c t (0, 0))
  n01 : a0 ≠ a1
  n02 : a0 ≠ a2
  n03 : a0 ≠ a3
  n04 : a0 ≠ a4
  n10 : a1 ≠ a0
  n12 : a1 ≠ a2
  n13 : a1 ≠ a3
  n14 : a1 ≠ a4
  n20 : a2 ≠ a0
  n21 : a2 ≠ a1
  n23 : a2 ≠ a3
  n24 : a2 ≠ a4
  n30 : a3 ≠ a0
  n31 : a3 ≠ a1
  n32 : a3 ≠ a2
  n34 : a3 ≠ a4
  n40 : a4 ≠ a0
  n41 : a4 ≠ a1
  n42 : a4 ≠ a2
  n43 : a4 ≠ a3
  low : 5 ≤ w.heap.size
theorem ErrsIn.below {w w' : World} {a0 a1 a2 a3 a4 : Addr} (h : ErrsIn w a0 a1 a2 a3 a4) (hb : Below w.heap.size w w') : ErrsIn w' a0 a1 a2 a3 a4 := by
  have V : ∀ g, g < 5 → w'.cell? ⟨g, 0, none⟩ = w.cell? ⟨g, 0, none⟩ := fun g hg => by
    rw [World.cell?, World.cell?, hb.block g (Nat.lt_of_lt_of_le hg h.low)]
  have R : ∀ a : Addr, (∃ c t, w.heap[a.block]? = some (.cells c t (0, 0))) → ∃ c t, w'.heap[a.block]? = some (.cells c t (0, 0)) := fun a ⟨c, t, hc⟩ => by
    have hl : a.block < w.heap.size := by
      rcases Nat.lt_or_ge a.block w.heap.size with h | h
      · exact h
      · rw [Array.getElem?_eq_none h] at hc; cases hc
    exact ⟨c, t, by rw [hb.block a.block hl]; exact hc⟩
  exact { v0 := (V 1 (by decide)).trans h.v0, v1 := (V 2 (by decide)).trans h.v1, v2 := (V 3 (by decide)).trans h.v2, v3 := (V 4 (by decide)).trans h.v3, v4 := (V 0 (by decide)).trans h.v4, r0 := R _ h.r0, r1 := R _ h.r1, r2 := R _ h.r2, r3 := R _ h.r3, r4 := R _ h.r4, n01 := h.n01, n02 := h.n02, n03 := h.n03, n04 := h.n04, n10 := h.n10, n12 := h.n12, n13 := h.n13, n14 := h.n14, n20 := h.n20, n21 := h.n21, n23 := h.n23, n24 := h.n24, n30 := h.n30, n31 := h.n31, n32 := h.n32, n34 := h.n34, n40 := h.n40, n41 := h.n41, n42 := h.n42, n43 := h.n43, low := Nat.le_trans h.low hb.size }

set_option maxRecDepth 100000 in
set_option maxHeartbeats 1000000 in
theorem codeOf_0 {a0 a1 a2 a3 a4 : Addr} (w : World) (h : ErrsIn w a0 a1 a2 a3 a4) :
    Calls Tryz.prog 20 #[.iface 159 (.pointer (some a0))] w fun e w' => e = .returned (.int .i64 2) ∧ w' = w := by
  have HS := Lib.hid (errIs_same a0)
  obtain ⟨ci1, ti1, hi1⟩ := h.r0
  obtain ⟨cj1, tj1, hj1⟩ := h.r1
  have HO1 := Lib.hid (errIs_other a0 a1 ci1 cj1 ti1 tj1 w h.n01 hi1 hj1)
  clear hi1 hj1
  obtain ⟨ci2, ti2, hi2⟩ := h.r0
  obtain ⟨cj2, tj2, hj2⟩ := h.r2
  have HO2 := Lib.hid (errIs_other a0 a2 ci2 cj2 ti2 tj2 w h.n02 hi2 hj2)
  clear hi2 hj2
  obtain ⟨ci3, ti3, hi3⟩ := h.r0
  obtain ⟨cj3, tj3, hj3⟩ := h.r3
  have HO3 := Lib.hid (errIs_other a0 a3 ci3 cj3 ti3 tj3 w h.n03 hi3 hj3)
  clear hi3 hj3
  obtain ⟨ci4, ti4, hi4⟩ := h.r0
  obtain ⟨cj4, tj4, hj4⟩ := h.r4
  have HO4 := Lib.hid (errIs_other a0 a4 ci4 cj4 ti4 tj4 w h.n04 hi4 hj4)
  clear hi4 hj4
  have v4 := h.v4
  have v0 := h.v0
  clear h
  go_enter Tryz.func20, Tryz.ntmps20
  go_wp2_with (go_at_call 41; with_reducible first | (refine (HS.out _).mono ?_; rintro e w2 ⟨rfl, hw2⟩; rw [hw2]; clear hw2) | (refine (HO1.out).mono ?_; rintro e w2 ⟨rfl, hw2⟩; rw [hw2]; clear hw2) | (refine (HO2.out).mono ?_; rintro e w2 ⟨rfl, hw2⟩; rw [hw2]; clear hw2) | (refine (HO3.out).mono ?_; rintro e w2 ⟨rfl, hw2⟩; rw [hw2]; clear hw2) | (refine (HO4.out).mono ?_; rintro e w2 ⟨rfl, hw2⟩; rw [hw2]; clear hw2))
  go_ret
  exact ⟨rfl, rfl⟩
set_option maxRecDepth 100000 in
set_option maxHeartbeats 1000000 in
theorem codeOf_1 {a0 a1 a2 a3 a4 : Addr} (w : World) (h : ErrsIn w a0 a1 a2 a3 a4) :
    Calls Tryz.prog 20 #[.iface 159 (.pointer (some a1))] w fun e w' => e = .returned (.int .i64 4) ∧ w' = w := by
  have HS := Lib.hid (errIs_same a1)
  obtain ⟨ci0, ti0, hi0⟩ := h.r1
  obtain ⟨cj0, tj0, hj0⟩ := h.r0
  have HO0 := Lib.hid (errIs_other a1 a0 ci0 cj0 ti0 tj0 w h.n10 hi0 hj0)
  clear hi0 hj0
  obtain ⟨ci2, ti2, hi2⟩ := h.r1
  obtain ⟨cj2, tj2, hj2⟩ := h.r2
  have HO2 := Lib.hid (errIs_other a1 a2 ci2 cj2 ti2 tj2 w h.n12 hi2 hj2)
  clear hi2 hj2
  obtain ⟨ci3, ti3, hi3⟩ := h.r1
  obtain ⟨cj3, tj3, hj3⟩ := h.r3
  have HO3 := Lib.hid (errIs_other a1 a3 ci3 cj3 ti3 tj3 w h.n13 hi3 hj3)
  clear hi3 hj3
  obtain ⟨ci4, ti4, hi4⟩ := h.r1
  obtain ⟨cj4, tj4, hj4⟩ := h.r4
  have HO4 := Lib.hid (errIs_other a1 a4 ci4 cj4 ti4 tj4 w h.n14 hi4 hj4)
  clear hi4 hj4
  have v4 := h.v4
  have v0 := h.v0
  have v1 := h.v1
  clear h
  go_enter Tryz.func20, Tryz.ntmps20
  go_wp2_with (go_at_call 41; with_reducible first | (refine (HS.out _).mono ?_; rintro e w2 ⟨rfl, hw2⟩; rw [hw2]; clear hw2) | (refine (HO0.out).mono ?_; rintro e w2 ⟨rfl, hw2⟩; rw [hw2]; clear hw2) | (refine (HO2.out).mono ?_; rintro e w2 ⟨rfl, hw2⟩; rw [hw2]; clear hw2) | (refine (HO3.out).mono ?_; rintro e w2 ⟨rfl, hw2⟩; rw [hw2]; clear hw2) | (refine (HO4.out).mono ?_; rintro e w2 ⟨rfl, hw2⟩; rw [hw2]; clear hw2))
  go_ret
  exact ⟨rfl, rfl⟩
set_option maxRecDepth 100000 in
set_option maxHeartbeats 1000000 in
theorem codeOf_2 {a0 a1 a2 a3 a4 : Addr} (w : World) (h : ErrsIn w a0 a1 a2 a3 a4) :
    Calls Tryz.prog 20 #[.iface 159 (.pointer (some a2))] w fun e w' => e = .returned (.int .i64 4) ∧ w' = w := by
  have HS := Lib.hid (errIs_same a2)
  obtain ⟨ci0, ti0, hi0⟩ := h.r2
  obtain ⟨cj0, tj0, hj0⟩ := h.r0
  have HO0 := Lib.hid (errIs_other a2 a0 ci0 cj0 ti0 tj0 w h.n20 hi0 hj0)
  clear hi0 hj0
  obtain ⟨ci1, ti1, hi1⟩ := h.r2
  obtain ⟨cj1, tj1, hj1⟩ := h.r1
  have HO1 := Lib.hid (errIs_other a2 a1 ci1 cj1 ti1 tj1 w h.n21 hi1 hj1)
  clear hi1 hj1
  obtain ⟨ci3, ti3, hi3⟩ := h.r2
  obtain ⟨cj3, tj3, hj3⟩ := h.r3
  have HO3 := Lib.hid (errIs_other a2 a3 ci3 cj3 ti3 tj3 w h.n23 hi3 hj3)
  clear hi3 hj3
  obtain ⟨ci4, ti4, hi4⟩ := h.r2
  obtain ⟨cj4, tj4, hj4⟩ := h.r4
  have HO4 := Lib.hid (errIs_other a2 a4 ci4 cj4 ti4 tj4 w h.n24 hi4 hj4)
  clear hi4 hj4
  have v4 := h.v4
  have v0 := h.v0
  have v1 := h.v1
  have v2 := h.v2
  clear h
  go_enter Tryz.func20, Tryz.ntmps20
  go_wp2_with (go_at_call 41; with_reducible first | (refine (HS.out _).mono ?_; rintro e w2 ⟨rfl, hw2⟩; rw [hw2]; clear hw2) | (refine (HO0.out).mono ?_; rintro e w2 ⟨rfl, hw2⟩; rw [hw2]; clear hw2) | (refine (HO1.out).mono ?_; rintro e w2 ⟨rfl, hw2⟩; rw [hw2]; clear hw2) | (refine (HO3.out).mono ?_; rintro e w2 ⟨rfl, hw2⟩; rw [hw2]; clear hw2) | (refine (HO4.out).mono ?_; rintro e w2 ⟨rfl, hw2⟩; rw [hw2]; clear hw2))
  go_ret
  exact ⟨rfl, rfl⟩
set_option maxRecDepth 100000 in
set_option maxHeartbeats 1000000 in
theorem codeOf_3 {a0 a1 a2 a3 a4 : Addr} (w : World) (h : ErrsIn w a0 a1 a2 a3 a4) :
    Calls Tryz.prog 20 #[.iface 159 (.pointer (some a3))] w fun e w' => e = .returned (.int .i64 4) ∧ w' = w := by
  have HS := Lib.hid (errIs_same a3)
  obtain ⟨ci0, ti0, hi0⟩ := h.r3
  obtain ⟨cj0, tj0, hj0⟩ := h.r0
  have HO0 := Lib.hid (errIs_other a3 a0 ci0 cj0 ti0 tj0 w h.n30 hi0 hj0)
  clear hi0 hj0
  obtain ⟨ci1, ti1, hi1⟩ := h.r3
  obtain ⟨cj1, tj1, hj1⟩ := h.r1
  have HO1 := Lib.hid (errIs_other a3 a1 ci1 cj1 ti1 tj1 w h.n31 hi1 hj1)
  clear hi1 hj1
  obtain ⟨ci2, ti2, hi2⟩ := h.r3
  obtain ⟨cj2, tj2, hj2⟩ := h.r2
  have HO2 := Lib.hid (errIs_other a3 a2 ci2 cj2 ti2 tj2 w h.n32 hi2 hj2)
  clear hi2 hj2
  obtain ⟨ci4, ti4, hi4⟩ := h.r3
  obtain ⟨cj4, tj4, hj4⟩ := h.r4
  have HO4 := Lib.hid (errIs_other a3 a4 ci4 cj4 ti4 tj4 w h.n34 hi4 hj4)
  clear hi4 hj4
  have v4 := h.v4
  have v0 := h.v0
  have v1 := h.v1
  have v2 := h.v2
  have v3 := h.v3
  clear h
  go_enter Tryz.func20, Tryz.ntmps20
  go_wp2_with (go_at_call 41; with_reducible first | (refine (HS.out _).mono ?_; rintro e w2 ⟨rfl, hw2⟩; rw [hw2]; clear hw2) | (refine (HO0.out).mono ?_; rintro e w2 ⟨rfl, hw2⟩; rw [hw2]; clear hw2) | (refine (HO1.out).mono ?_; rintro e w2 ⟨rfl, hw2⟩; rw [hw2]; clear hw2) | (refine (HO2.out).mono ?_; rintro e w2 ⟨rfl, hw2⟩; rw [hw2]; clear hw2) | (refine (HO4.out).mono ?_; rintro e w2 ⟨rfl, hw2⟩; rw [hw2]; clear hw2))
  go_ret
  exact ⟨rfl, rfl⟩
set_option maxRecDepth 100000 in
set_option maxHeartbeats 1000000 in
theorem codeOf_4 {a0 a1 a2 a3 a4 : Addr} (w : World) (h : ErrsIn w a0 a1 a2 a3 a4) :
    Calls Tryz.prog 20 #[.iface 159 (.pointer (some a4))] w fun e w' => e = .returned (.int .i64 1) ∧ w' = w := by
  have HS := Lib.hid (errIs_same a4)
  obtain ⟨ci0, ti0, hi0⟩ := h.r4
  obtain ⟨cj0, tj0, hj0⟩ := h.r0
  have HO0 := Lib.hid (errIs_other a4 a0 ci0 cj0 ti0 tj0 w h.n40 hi0 hj0)
  clear hi0 hj0
  obtain ⟨ci1, ti1, hi1⟩ := h.r4
  obtain ⟨cj1, tj1, hj1⟩ := h.r1
  have HO1 := Lib.hid (errIs_other a4 a1 ci1 cj1 ti1 tj1 w h.n41 hi1 hj1)
  clear hi1 hj1
  obtain ⟨ci2, ti2, hi2⟩ := h.r4
  obtain ⟨cj2, tj2, hj2⟩ := h.r2
  have HO2 := Lib.hid (errIs_other a4 a2 ci2 cj2 ti2 tj2 w h.n42 hi2 hj2)
  clear hi2 hj2
  obtain ⟨ci3, ti3, hi3⟩ := h.r4
  obtain ⟨cj3, tj3, hj3⟩ := h.r3
  have HO3 := Lib.hid (errIs_other a4 a3 ci3 cj3 ti3 tj3 w h.n43 hi3 hj3)
  clear hi3 hj3
  have v4 := h.v4
  clear h
  go_enter Tryz.func20, Tryz.ntmps20
  go_wp2_with (go_at_call 41; with_reducible first | (refine (HS.out _).mono ?_; rintro e w2 ⟨rfl, hw2⟩; rw [hw2]; clear hw2) | (refine (HO0.out).mono ?_; rintro e w2 ⟨rfl, hw2⟩; rw [hw2]; clear hw2) | (refine (HO1.out).mono ?_; rintro e w2 ⟨rfl, hw2⟩; rw [hw2]; clear hw2) | (refine (HO2.out).mono ?_; rintro e w2 ⟨rfl, hw2⟩; rw [hw2]; clear hw2) | (refine (HO3.out).mono ?_; rintro e w2 ⟨rfl, hw2⟩; rw [hw2]; clear hw2))
  go_ret
  exact ⟨rfl, rfl⟩
end Go.Proofs.YtabemgplddfemaaGreatDoor
