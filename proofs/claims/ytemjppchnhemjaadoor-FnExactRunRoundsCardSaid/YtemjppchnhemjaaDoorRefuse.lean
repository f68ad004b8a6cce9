/- refusedBy: the code of each of the program's refusals. -/
import Derived.Test.YtemjppchnhemjaaDoorAs
import Derived.Test.YtemjppchnhemjaaDoorWd
namespace Go.Proofs.YtemjppchnhemjaaDoor
open Go.RowKit Go.Extern.Stop Go.Stop Go.Extern
set_option linter.unusedVariables false
set_option linter.unusedSimpArgs false

set_option maxRecDepth 100000 in
set_option maxHeartbeats 1000000 in
theorem refused_nil (w : World) :
    Calls Tryd.prog 38 #[.nilIface] w fun e w' => e = .returned (.int .i64 0) ∧ Below w.heap.size w w' := by
  have HA := fun t w => as_nil t w
  go_enter Tryd.func38, Tryd.ntmps38
  go_wp2_with fail
  refine (HA _ _).mono ?_
  rintro e w2 ⟨rfl, rfl⟩
  go_wp2_with fail
  go_ret
  exact ⟨rfl, (Below.refl _ _).alloc (Nat.le_refl _) _⟩

theorem asLoadW (s : Nat → Nat → Bool) (w : World) : (loadVar 118 ⟨w.heap.size, 0, none⟩).run Tryd.prog (w.alloc (.cells (bV 10 s) 118)) = .ok (.agg (bV 10 s)) (w.alloc (.cells (bV 10 s) 118)) := by
  obtain ⟨⟨i, hi, hs⟩, ha⟩ := wide_of (show wideB Tryd.prog 118 10 = true by kernel_rfl)
  have hr := (Holds.new w (bV 10 s) 118).row
  have := run_loadVar_part (P := Tryd.prog) (w.alloc (.cells (bV 10 s) 118)) w.heap.size 0 118 i hi ha (by rw [hr, hs]; simp)
  rw [hr, hs] at this
  simpa [bV_all] using this
theorem asLoadN (n : Int) (w : World) : (loadVar 119 ⟨w.heap.size, 0, none⟩).run Tryd.prog (w.alloc (.cells #[.int .i64 n] 119)) = .ok (.int .i64 n) (w.alloc (.cells #[.int .i64 n] 119)) := by
  have hc : (w.alloc (.cells #[.int .i64 n] 119)).cell? ⟨w.heap.size, 0, none⟩ = some (.int .i64 n) := ((Holds.new w #[.int .i64 n] 119).cell 0).trans rfl
  simp [loadVar, isAgg, underlying, Tryd.underlying119, Result.andThen, hc]
theorem asLoadR (n : Int) (w : World) : (loadVar 156 ⟨w.heap.size, 0, none⟩).run Tryd.prog (w.alloc (.cells #[.int .i64 n] 156)) = .ok (.int .i64 n) (w.alloc (.cells #[.int .i64 n] 156)) := by
  have hc : (w.alloc (.cells #[.int .i64 n] 156)).cell? ⟨w.heap.size, 0, none⟩ = some (.int .i64 n) := ((Holds.new w #[.int .i64 n] 156).cell 0).trans rfl
  simp [loadVar, isAgg, underlying, Tryd.underlying156, Result.andThen, hc]
theorem asLoadT (n : Int) (w : World) : (loadVar 133 ⟨w.heap.size, 0, none⟩).run Tryd.prog (w.alloc (.cells #[.int .i64 n] 133)) = .ok (.int .i64 n) (w.alloc (.cells #[.int .i64 n] 133)) := by
  have hc : (w.alloc (.cells #[.int .i64 n] 133)).cell? ⟨w.heap.size, 0, none⟩ = some (.int .i64 n) := ((Holds.new w #[.int .i64 n] 133).cell 0).trans rfl
  simp [loadVar, isAgg, underlying, Tryd.underlying133, Result.andThen, hc]

theorem hitW (s : Nat → Nat → Bool) (t : Addr) (old : Value) (w : World) (ht0 : w.cell? t = some old) (hf0 : w.frozen? t = false) :
    Calls Tryd.prog 65 #[.iface 118 (.agg (bV 10 s)), .iface 123 (.pointer (some t))] w fun ev w' => ev = .returned (.bool true) ∧ ∃ W, w' = W.setCell t (.iface 118 (.agg (bV 10 s))) ∧ Below w.heap.size w W :=
  (as_hit (D := 118) (fl := 145) (k := 17) (bV 10 s) (.agg (bV 10 s)) t old w (fun w => by kernel_rfl) (fun w => by kernel_rfl) (fun w => by kernel_rfl) (fun b w => by kernel_rfl) (fun w => by kernel_rfl) (fun w => by kernel_rfl) (fun w => by kernel_rfl) (by decide)
    (fun w => asLoadW s w) ht0 hf0).mono fun e w' h => ⟨h.1, _, h.2, (((((Below.refl w.heap.size w).alloc (Nat.le_refl _) _).alloc (by simp) _).alloc (by simp; omega) _).alloc (by simp; omega) _)⟩

set_option maxRecDepth 100000 in
set_option maxHeartbeats 1000000 in
theorem refusedW (s : Nat → Nat → Bool) (w : World) :
    Calls Tryd.prog 38 #[.iface 118 (.agg (bV 10 s))] w fun e w' => e = .returned (.int .i64 1) ∧ Below w.heap.size w w' := by
  have HA := hitW s
  go_enter Tryd.func38, Tryd.ntmps38
  go_wp2_with fail
  have h0 : Holds (w.alloc (.cells #[.nilIface] 121)) w.heap.size #[.nilIface] := Holds.new _ _ _
  obtain ⟨-, -, c0, z0, l0⟩ := h0.facts
  have hb0 := (Below.refl w.heap.size w).alloc (Nat.le_refl _) (.cells #[.nilIface] 121)
  refine (HA _ _ _ (c0 0) (z0 0)).mono ?_
  rintro e w2 ⟨rfl, W, rfl, hb2⟩
  have h1 := (h0.below hb2 h0.lt).setCell 0 (.iface 118 (.agg (bV 10 s)))
  have hb3 := (below_onto hb0 hb2).setCell (p := ⟨w.heap.size, 0, none⟩) (by simp) (.iface 118 (.agg (bV 10 s)))
  obtain ⟨W2, hW2⟩ : ∃ W2, W.setCell ⟨w.heap.size, 0, none⟩ (.iface 118 (.agg (bV 10 s))) = W2 := ⟨_, rfl⟩
  rw [hW2] at h1 hb3 ⊢
  obtain ⟨-, -, c1, -, l1⟩ := h1.facts
  have c10 : W2.cell? ⟨w.heap.size, 0, none⟩ = some (.iface 118 (.agg (bV 10 s))) := (c1 0).trans rfl
  clear hb0 hb2 c0 z0 l0 h0 h1 c1 hW2
  go_wp2
  go_ret
  first | exact ⟨rfl, hb3⟩ | exact ⟨rfl, hb3.alloc hb3.size _⟩

theorem hitN (n : Int) (t : Addr) (old : Value) (w : World) (ht0 : w.cell? t = some old) (hf0 : w.frozen? t = false) :
    Calls Tryd.prog 65 #[.iface 119 (.int .i64 n), .iface 123 (.pointer (some t))] w fun ev w' => ev = .returned (.bool true) ∧ ∃ W, w' = W.setCell t (.iface 119 (.int .i64 n)) ∧ Below w.heap.size w W :=
  (as_hit (D := 119) (fl := 134) (k := 6) (#[.int .i64 n]) (.int .i64 n) t old w (fun w => by kernel_rfl) (fun w => by kernel_rfl) (fun w => by kernel_rfl) (fun b w => by kernel_rfl) (fun w => by kernel_rfl) (fun w => by kernel_rfl) (fun w => by kernel_rfl) (by decide)
    (fun w => asLoadN n w) ht0 hf0).mono fun e w' h => ⟨h.1, _, h.2, (((((Below.refl w.heap.size w).alloc (Nat.le_refl _) _).alloc (by simp) _).alloc (by simp; omega) _).alloc (by simp; omega) _)⟩

set_option maxRecDepth 100000 in
set_option maxHeartbeats 1000000 in
theorem refusedN (n : Int) (w : World) :
    Calls Tryd.prog 38 #[.iface 119 (.int .i64 n)] w fun e w' => e = .returned (.int .i64 2) ∧ Below w.heap.size w w' := by
  have HA := hitN n
  go_enter Tryd.func38, Tryd.ntmps38
  go_wp2_with fail
  have h0 : Holds (w.alloc (.cells #[.nilIface] 121)) w.heap.size #[.nilIface] := Holds.new _ _ _
  obtain ⟨-, -, c0, z0, l0⟩ := h0.facts
  have hb0 := (Below.refl w.heap.size w).alloc (Nat.le_refl _) (.cells #[.nilIface] 121)
  refine (HA _ _ _ (c0 0) (z0 0)).mono ?_
  rintro e w2 ⟨rfl, W, rfl, hb2⟩
  have h1 := (h0.below hb2 h0.lt).setCell 0 (.iface 119 (.int .i64 n))
  have hb3 := (below_onto hb0 hb2).setCell (p := ⟨w.heap.size, 0, none⟩) (by simp) (.iface 119 (.int .i64 n))
  obtain ⟨W2, hW2⟩ : ∃ W2, W.setCell ⟨w.heap.size, 0, none⟩ (.iface 119 (.int .i64 n)) = W2 := ⟨_, rfl⟩
  rw [hW2] at h1 hb3 ⊢
  obtain ⟨-, -, c1, -, l1⟩ := h1.facts
  have c10 : W2.cell? ⟨w.heap.size, 0, none⟩ = some (.iface 119 (.int .i64 n)) := (c1 0).trans rfl
  clear hb0 hb2 c0 z0 l0 h0 h1 c1 hW2
  go_wp2
  go_ret
  first | exact ⟨rfl, hb3⟩ | exact ⟨rfl, hb3.alloc hb3.size _⟩

theorem hitR (n : Int) (t : Addr) (old : Value) (w : World) (ht0 : w.cell? t = some old) (hf0 : w.frozen? t = false) :
    Calls Tryd.prog 65 #[.iface 156 (.int .i64 n), .iface 123 (.pointer (some t))] w fun ev w' => ev = .returned (.bool true) ∧ ∃ W, w' = W.setCell t (.iface 156 (.int .i64 n)) ∧ Below w.heap.size w W :=
  (as_hit (D := 156) (fl := 134) (k := 6) (#[.int .i64 n]) (.int .i64 n) t old w (fun w => by kernel_rfl) (fun w => by kernel_rfl) (fun w => by kernel_rfl) (fun b w => by kernel_rfl) (fun w => by kernel_rfl) (fun w => by kernel_rfl) (fun w => by kernel_rfl) (by decide)
    (fun w => asLoadR n w) ht0 hf0).mono fun e w' h => ⟨h.1, _, h.2, (((((Below.refl w.heap.size w).alloc (Nat.le_refl _) _).alloc (by simp) _).alloc (by simp; omega) _).alloc (by simp; omega) _)⟩

set_option maxRecDepth 100000 in
set_option maxHeartbeats 1000000 in
theorem refusedR (n : Int) (w : World) :
    Calls Tryd.prog 38 #[.iface 156 (.int .i64 n)] w fun e w' => e = .returned (.int .i64 2) ∧ Below w.heap.size w w' := by
  have HA := hitR n
  go_enter Tryd.func38, Tryd.ntmps38
  go_wp2_with fail
  have h0 : Holds (w.alloc (.cells #[.nilIface] 121)) w.heap.size #[.nilIface] := Holds.new _ _ _
  obtain ⟨-, -, c0, z0, l0⟩ := h0.facts
  have hb0 := (Below.refl w.heap.size w).alloc (Nat.le_refl _) (.cells #[.nilIface] 121)
  refine (HA _ _ _ (c0 0) (z0 0)).mono ?_
  rintro e w2 ⟨rfl, W, rfl, hb2⟩
  have h1 := (h0.below hb2 h0.lt).setCell 0 (.iface 156 (.int .i64 n))
  have hb3 := (below_onto hb0 hb2).setCell (p := ⟨w.heap.size, 0, none⟩) (by simp) (.iface 156 (.int .i64 n))
  obtain ⟨W2, hW2⟩ : ∃ W2, W.setCell ⟨w.heap.size, 0, none⟩ (.iface 156 (.int .i64 n)) = W2 := ⟨_, rfl⟩
  rw [hW2] at h1 hb3 ⊢
  obtain ⟨-, -, c1, -, l1⟩ := h1.facts
  have c10 : W2.cell? ⟨w.heap.size, 0, none⟩ = some (.iface 156 (.int .i64 n)) := (c1 0).trans rfl
  clear hb0 hb2 c0 z0 l0 h0 h1 c1 hW2
  go_wp2
  go_ret
  first | exact ⟨rfl, hb3⟩ | exact ⟨rfl, hb3.alloc hb3.size _⟩

theorem hitT (n : Int) (t : Addr) (old : Value) (w : World) (ht0 : w.cell? t = some old) (hf0 : w.frozen? t = false) :
    Calls Tryd.prog 65 #[.iface 133 (.int .i64 n), .iface 123 (.pointer (some t))] w fun ev w' => ev = .returned (.bool true) ∧ ∃ W, w' = W.setCell t (.iface 133 (.int .i64 n)) ∧ Below w.heap.size w W :=
  (as_hit (D := 133) (fl := 130) (k := 2) (#[.int .i64 n]) (.int .i64 n) t old w (fun w => by kernel_rfl) (fun w => by kernel_rfl) (fun w => by kernel_rfl) (fun b w => by kernel_rfl) (fun w => by kernel_rfl) (fun w => by kernel_rfl) (fun w => by kernel_rfl) (by decide)
    (fun w => asLoadT n w) ht0 hf0).mono fun e w' h => ⟨h.1, _, h.2, (((((Below.refl w.heap.size w).alloc (Nat.le_refl _) _).alloc (by simp) _).alloc (by simp; omega) _).alloc (by simp; omega) _)⟩

set_option maxRecDepth 100000 in
set_option maxHeartbeats 1000000 in
theorem refusedT (n : Int) (w : World) :
    Calls Tryd.prog 38 #[.iface 133 (.int .i64 n)] w fun e w' => e = .returned (.int .i64 3) ∧ Below w.heap.size w w' := by
  have HA := hitT n
  go_enter Tryd.func38, Tryd.ntmps38
  go_wp2_with fail
  have h0 : Holds (w.alloc (.cells #[.nilIface] 121)) w.heap.size #[.nilIface] := Holds.new _ _ _
  obtain ⟨-, -, c0, z0, l0⟩ := h0.facts
  have hb0 := (Below.refl w.heap.size w).alloc (Nat.le_refl _) (.cells #[.nilIface] 121)
  refine (HA _ _ _ (c0 0) (z0 0)).mono ?_
  rintro e w2 ⟨rfl, W, rfl, hb2⟩
  have h1 := (h0.below hb2 h0.lt).setCell 0 (.iface 133 (.int .i64 n))
  have hb3 := (below_onto hb0 hb2).setCell (p := ⟨w.heap.size, 0, none⟩) (by simp) (.iface 133 (.int .i64 n))
  obtain ⟨W2, hW2⟩ : ∃ W2, W.setCell ⟨w.heap.size, 0, none⟩ (.iface 133 (.int .i64 n)) = W2 := ⟨_, rfl⟩
  rw [hW2] at h1 hb3 ⊢
  obtain ⟨-, -, c1, -, l1⟩ := h1.facts
  have c10 : W2.cell? ⟨w.heap.size, 0, none⟩ = some (.iface 133 (.int .i64 n)) := (c1 0).trans rfl
  clear hb0 hb2 c0 z0 l0 h0 h1 c1 hW2
  go_wp2
  go_ret
  first | exact ⟨rfl, hb3⟩ | exact ⟨rfl, hb3.alloc hb3.size _⟩
end Go.Proofs.YtemjppchnhemjaaDoor
