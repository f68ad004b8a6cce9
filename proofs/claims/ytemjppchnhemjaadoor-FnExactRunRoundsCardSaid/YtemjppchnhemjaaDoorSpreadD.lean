/- SpreadDays and SpreadOnce, of the program and of the model. -/
import Derived.Test.YtemjppchnhemjaaDoorCheckW
import Derived.Test.YtemjppchnhemjaaDoorSDay
import Derived.Test.YtemjppchnhemjaaDoorGrowMP
namespace Go.Proofs.YtemjppchnhemjaaDoor
open Go.RowKit
set_option linter.unusedVariables false
set_option linter.unusedSimpArgs false
attribute [local go_sem ↓] loadRow loadGrid loadLawn loadMirror storeRow storeGrid storeLawn allocRow allocGrid allocLawn buildZero buildSides loadWd storeWd allocWd buildZWd eqlWd

theorem spreading_any (s : Nat → Nat → Bool) (n : Int) (w : World) :
    Calls Tryd.prog 48 #[.agg (bV 10 s), .int .i64 n] w fun e w' => e = .returned (.func (.func 71) #[] #[.pointer (some ⟨w.heap.size, 0, none⟩), .pointer (some ⟨w.heap.size + 1, 0, none⟩)]) ∧ w' = (w.alloc (.cells (bV 10 s) 33)).alloc (.cells #[.int .i64 n] 2) := by
  go_enter Tryd.func48, Tryd.ntmps48
  go_wp2
  go_ret
  exact ⟨rfl, rfl⟩

/-- A function value that spreads weeds, where its boxes lie. -/
def LaterIs (W : World) (B : Nat) (L : Lawn) (n : Int) (f : Value) : Prop := ∃ k, B ≤ k ∧ f = .func (.func 71) #[] #[.pointer (some ⟨k, 0, none⟩), .pointer (some ⟨k + 1, 0, none⟩)] ∧ Holds W k (bV 10 (soilS L)) ∧ Holds W (k + 1) #[.int .i64 n]

set_option maxRecDepth 100000 in
set_option maxHeartbeats 1000000 in
theorem spreadingOn_any (L : Lawn) (hV : validB L = true) (hL : L.Fits) (n : Int) (w : World) :
    Calls Tryd.prog 40 #[.agg L.cells, .int .i64 n] w fun e w' => (∃ f, e = .returned f ∧ LaterIs w' w.heap.size L n f) ∧ Below w.heap.size w w' := by
  have HW := Lib.hid (fun ga w hk => weedsIn_any L hV hL [0, 1] (by decide) ga w hk)
  have g1 := Holds.new' (w.alloc (.cells L.cells 31)) (kV [0, 1]) 5 (w.heap.size + 1) (by simp)
  have hb0 := ((Below.refl w.heap.size w).alloc (Nat.le_refl _) (.cells L.cells 31)).alloc (by simp) (.cells (kV [0, 1]) 5)
  clear hV hL
  go_enter Tryd.func40, Tryd.ntmps40
  go_wp2_with fail
  refine (HW.out _ _ g1).mono ?_
  rintro e w1 ⟨rfl, hb1⟩
  have hb2 := below_onto hb0 hb1
  clear hb0 hb1 g1 HW
  go_wp2_with fail
  refine (spreading_any _ _ _).mono ?_
  rintro e w2 ⟨rfl, hw2⟩
  rw [hw2]
  clear hw2
  go_wp2_with fail
  go_ret
  exact ⟨⟨_, rfl, w1.heap.size, hb2.size, rfl, (Holds.new _ _ _).alloc _, Holds.new' _ _ _ _ (by simp)⟩, (hb2.alloc hb2.size _).alloc (by have := hb2.size; simp; omega) _⟩

theorem needed_any (n : Int) (w : World) :
    Calls Tryd.prog 37 #[.int .i64 n] w fun e w' => e = .returned (.agg #[.int .i64 n, .int .i64 1, .int .i64 4]) ∧ Below w.heap.size w w' := by
  go_enter Tryd.func37, Tryd.ntmps37
  go_wp2
  exact bodyPost_ret (v := .agg #[.int .i64 n, .int .i64 1, .int .i64 4]) (results_cell_holds (n := 3) rfl (by kernel_rfl) _ rfl (Holds.new' _ _ _ _ (by simp)) rfl) rfl ⟨rfl, (Below.refl _ _).alloc (Nat.le_refl _) _⟩

/-- Weeds some days later. -/
def daysS (L : Lawn) (n : Nat) (s : Nat → Nat → Bool) : Nat → Nat → Nat → Bool
  | 0 => s
  | k + 1 => dayS (soilS L) n (daysS L n s k)
theorem weedB_days {L : Lawn} {s : Nat → Nat → Bool} (hw : weedB L s = true) (n : Nat) : ∀ k, weedB L (daysS L n s k) = true
  | 0 => hw
  | k + 1 => weedB_day (weedB_days hw n k) n
/-- What SpreadDays answers. -/
def spreadR (L : Lawn) (s : Nat → Nat → Bool) (need days : Int) : Nat → Nat → Bool := if weedB L s && (inB need 1 4 && inB days 0 60) then daysS L need.toNat s days.toNat else fun _ _ => false
def spreadC (L : Lawn) (s : Nat → Nat → Bool) (need days : Int) : Int := told (weedB L s) (inB need 1 4 && inB days 0 60)


theorem l07Need_is (n : Int) (v : Bool) (h : inB n 1 4 = v) (w : World) :
    Calls Tryd.prog 31 #[.int .i64 n] w fun e w' => e = .returned (.bool v) ∧ w' = w := by
  have H := Lib.hid h
  clear h
  go_enter Tryd.func31, Tryd.ntmps31
  go_wp2_with fail
  refine (in_q _ _ _ _).mono ?_
  rintro e w1 ⟨rfl, rfl⟩
  rw [H.out]
  go_wp2_with fail
  go_ret
  exact ⟨rfl, rfl⟩


/-- What SpreadOnce answers. -/
def onceR (L : Lawn) (s : Nat → Nat → Bool) (need : Int) : Nat → Nat → Bool := spreadR L s need 1
def onceC (L : Lawn) (s : Nat → Nat → Bool) (need : Int) : Int := spreadC L s need 1


end Go.Proofs.YtemjppchnhemjaaDoor
