/- Results: a cell that lies in memory, and two slots. A cell that is stored, in one step. The comparison of two rows of CellS: equal ones are found equal. -/
import Derived.Test.YtaeenkjbmlgcmaaZB
import Derived.Test.YtaeenkjbmlgcmaaZA
import Derived.Test.YtaeenkjbmlgcmaaZC
namespace Go.Proofs.Ytaeenkjbmlgcmaa
open Go.RowKit
theorem results_cell_nn {P : Program} {fn : Func} {p u v : Tmp} {ty : TypeId} {n : Nat} {x y : Value} (h : fn.results = #[.cell p ty, .tmp u, .tmp v]) (hw : wideB P ty n = true) (tmps : Array Value) {w : World} {g : Nat} {cs : Array Value}
    (hp : tmps.getD p undef = .pointer (some ⟨g, 0, none⟩)) (hx : tmps.getD u undef = x) (hy : tmps.getD v undef = y) (hg : Holds w g cs) (hn : cs.size = n) : (results fn tmps).run P w = .ok (.tuple #[.agg cs, x, y]) w := by
  have hp' : tmps[p]?.getD undef = .pointer (some ⟨g, 0, none⟩) := by simpa using hp
  subst hx hy
  simp [results, h, hp', asAddr, (wide_of hw).loadVar hg hn]
end Go.Proofs.Ytaeenkjbmlgcmaa

namespace Go.Proofs.Ytaeenkjbmlgcmaa
open Go.RowKit
set_option linter.unusedVariables false

@[go_sem] theorem wideCl : wideB Try.prog 37 2 = true := by kernel_rfl
section
variable (ρ : Operand → Value) (dst : Option Tmp) (x y : Operand) (t : TypeId) (pos : String) (aft : Array Edge) (g : Option (Nat × Bool)) (w : World)
theorem storeCl : (execOp ρ ⟨dst, .store 37 x y, t, pos, aft, g⟩).run Try.prog w = opStore Try.prog 37 2 (ρ x) (ρ y) w := rfl
end
@[go_sem] theorem opStoreCl_at (g : Nat) (a b : Value) (x y : Int) (w : World) : opStoreRow Try.prog 37 2 g 0 #[a, b] true #[.int .i8 x, .int .i8 y] w = .ok .skip (w.setRow g #[.int .i8 x, .int .i8 y]) := by
  rw [opStoreRow_at _ _ _ _ _ _ _ _ wideCl rfl (by simp [Ones, Value.oneCell']) (by simp)]
  rfl
end Go.Proofs.Ytaeenkjbmlgcmaa

namespace Go.Proofs.Ytaeenkjbmlgcmaa
open Go.RowKit
set_option linter.unusedVariables false
attribute [local go_sem ↓] loadRow loadGrid loadLawn loadMirror storeRow storeGrid storeLawn allocRow allocGrid allocLawn buildZero buildSides

set_option maxRecDepth 100000 in
theorem eqCell_same (x y : Int) (w : World) :
    Calls Try.prog 30 #[.agg #[.int .i8 x, .int .i8 y], .agg #[.int .i8 x, .int .i8 y]] w fun e w' => e = .returned (.bool true) ∧ Below w.heap.size w w' := by
  go_enter Try.func30, Try.ntmps30
  go_wp2
  all_goals
    go_ret
    exact ⟨rfl, ((Below.refl _ _).alloc (Nat.le_refl _) _).alloc (by simp) _⟩

set_option maxRecDepth 100000 in
set_option maxHeartbeats 1000000 in
theorem eqCellS_rows (n : Nat) (xs : List Value) (hn : n ≤ 10000000) (hx : ∀ j, j < n * 2 → ∃ z, xs[j]? = some (.int .i8 z)) (v v' : Value) (B B' : Nat) (w : World) (h : w.ownsRow B 37 2 v n xs) (h' : w.ownsRow B' 37 2 v' n xs) :
    Calls Try.prog 25 #[v, v'] w fun e w' => e = .returned (.bool true) ∧ ∃ q, Below w.heap.size w w' ∧ q = 0 := by
  by_cases hz : n = 0
  · obtain ⟨a, c, rfl⟩ := own_slice h
    obtain ⟨a', c', rfl⟩ := own_slice h'
    subst hz
    clear h h' hx
    go_enter Try.func25, Try.ntmps25
    go_wp2_with fail
    go_loopw [5] (fun i wr => i = .int .i64 0 ∧ wr = w) (fun _ _ => 0)
    case atStart => exact ⟨rfl, rfl⟩
    case round =>
      obtain ⟨rfl, rfl⟩ := hrel
      go_wp2_with fail
      go_ret
      exact ⟨rfl, 0, Below.refl _ _, rfl⟩
  · obtain ⟨g, cap, rfl, -, -⟩ := own_form h (by omega)
    obtain ⟨g', cap', rfl, -, -⟩ := own_form h' (by omega)
    have H := Lib.hid h
    have H' := Lib.hid h'
    clear h h'
    go_enter Try.func25, Try.ntmps25
    go_wp2_with fail
    go_loopw [5] (fun i wr => ∃ k : Nat, k ≤ n ∧ i = .int .i64 k ∧ Below w.heap.size w wr) (fun i _ => n - (intOf i).toNat)
    case atStart => exact ⟨0, by omega, rfl, Below.refl _ _⟩
    case round =>
      obtain ⟨k, hk, rfl, hb⟩ := hrel
      by_cases hlt : k < n
      · have hd : decide ((k : Int) < (n : Int)) = true := by simp; omega
        obtain ⟨z0, hz0⟩ := hx (k * 2) (by omega)
        obtain ⟨z1, hz1⟩ := hx (k * 2 + 1) (by omega)
        have c0 := fun w' hw' => own_cell (own_below (own_below H.out hb) (W' := w') hw') _ _ hz0
        have d0 := fun w' hw' => own_cell (own_below (own_below H'.out hb) (W' := w') hw') _ _ hz0
        have c1 := fun w' hw' => own_cell (own_below (own_below H.out hb) (W' := w') hw') _ _ hz1
        have d1 := fun w' hw' => own_cell (own_below (own_below H'.out hb) (W' := w') hw') _ _ hz1
        clear hz0 hz1 hx
        go_wp2_with fail
        refine wp_region_grow 9 (by kernel_rfl) (by kernel_rfl) ?_
        simp only [List.take_succ_cons, List.take_zero, List.drop_succ_cons, List.drop_zero]
        iterate 9
          apply wpGrow_plain rfl
          · intro w' hw' K hK
            have e0 := c0 _ hw'
            have g0 := d0 _ hw'
            have e1 := c1 _ hw'
            have g1 := d1 _ hw'
            go_wp2_with (go_at_call 30; refine (eqCell_same _ _ _).mono ?_; rintro e w2 ⟨rfl, hb2⟩)
            first | exact hK _ _ rfl hw' | exact hK _ _ rfl (below_onto hw' hb2)
          simp only [Act.put, List.setIfInBounds_toArray, List.set_cons_succ, List.set_cons_zero]
        refine wpGrow_nil ?_
        intro W2 hW2
        have hb2 := below_onto hb hW2
        clear c0 d0 c1 d1 hW2 hb
        go_wp2_with fail
        go_roundw
        case rel => exact ⟨k + 1, by omega, by go_num, hb2⟩
        case measure => simp [intOf]; omega
      · have hd : decide ((k : Int) < (n : Int)) = false := by simp; omega
        go_wp2_with fail
        go_ret
        exact ⟨rfl, 0, hb, rfl⟩
theorem eqCellS_same (n : Nat) (xs : List Value) (hn : n ≤ 10000000) (hx : ∀ j, j < n * 2 → ∃ z, xs[j]? = some (.int .i8 z)) (v v' : Value) (B B' : Nat) (w : World) (h : w.ownsRow B 37 2 v n xs) (h' : w.ownsRow B' 37 2 v' n xs) :
    Calls Try.prog 25 #[v, v'] w fun e w' => e = .returned (.bool true) ∧ Below w.heap.size w w' :=
  (eqCellS_rows n xs hn hx v v' B B' w h h').mono fun _ _ ⟨h1, _, h2, _⟩ => ⟨h1, h2⟩
end Go.Proofs.Ytaeenkjbmlgcmaa
