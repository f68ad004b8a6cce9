/- A lawn's cells: whether there is one, its kind, and the codes of a lawn with a cell. -/
import Derived.Test.YtgmahakpmjfhhaaRRValid
import Derived.Test.YtgmahakpmjfhhaaRROk
import Derived.Test.YtgmahakpmjfhhaaRREq
import Derived.Test.YtgmahakpmjfhhaaRRGrow
namespace Go.Proofs.YtgmahakpmjfhhaaRR
open Go.RowKit
attribute [local go_sem ↓] loadRow loadGrid loadLawn loadMirror storeRow storeGrid storeLawn allocRow allocGrid allocLawn buildZero buildSides

/-- The code of a lawn with a cell. -/
def told (v f : Bool) : Int := if v then (if f then 0 else 2) else 1

theorem toCell_any (x y : Int) (w : World) :
    Calls Try.prog 71 #[.agg #[.int .i8 x, .int .i8 y]] w fun e w' => e = .returned (.agg #[.int .i8 x, .int .i8 y]) ∧ Below w.heap.size w w' := by
  go_enter Try.func71, Try.ntmps71
  go_wp2
  have h1 := (Holds.new' (w.alloc (.cells #[.int .i8 x, .int .i8 y] 83)) #[.int .i8 x, .int .i8 y] 35 (w.heap.size + 1) (by simp)).alloc (.cells #[.int .i8 x, .int .i8 y] 35)
  exact bodyPost_ret (v := .agg #[.int .i8 x, .int .i8 y]) (results_cell_holds (n := 2) rfl (by kernel_rfl) _ rfl h1 rfl) rfl ⟨rfl, (((Below.refl _ _).alloc (Nat.le_refl _) _).alloc (by simp) _).alloc (by simp; omega) _⟩

theorem has_any (L : Lawn) (x y : Int) (w : World) :
    Calls Try.prog 168 #[.agg L.cells, .agg #[.int .i8 x, .int .i8 y]] w fun e w' => e = .returned (.bool (isB L x y)) ∧ Below w.heap.size w w' := by
  go_enter Try.func168, Try.ntmps168
  go_wp2
  all_goals
    go_ret
    exact ⟨ret_bool (by simp only [isB, inB]; rw [Bool.eq_iff_iff]; simp; omega), ((Below.refl _ _).alloc (Nat.le_refl _) _).alloc (by simp) _⟩
theorem has_is (L : Lawn) (x y : Int) (w : World) (v : Bool) (h : isB L x y = v) :
    Calls Try.prog 168 #[.agg L.cells, .agg #[.int .i8 x, .int .i8 y]] w fun e w' => e = .returned (.bool v) ∧ Below w.heap.size w w' := h ▸ has_any L x y w
theorem at_any (L : Lawn) (hL : L.Fits) (b x y : Nat) (hx : x < 10) (hy : y < 10) (w : World) (h : Holds w b L.cells) :
    Calls Try.prog 125 #[.pointer (some ⟨b, 0, none⟩), .agg #[.int .i8 x, .int .i8 y]] w fun e w' => e = .returned (.int .i64 (L.kind y x)) ∧ Below w.heap.size w w' := by
  have hx0 : (0 : Int) ≤ x := by omega
  have hx1 : (x : Int) < 10 := by omega
  have hy0 : (0 : Int) ≤ y := by omega
  have hy1 : (y : Int) < 10 := by omega
  obtain ⟨-, -, c, -, l⟩ := h.facts
  have ck : w.cell? ⟨b, 2 + y * 10 + x, none⟩ = some (.int .u8 (L.kind y x)) := (c _).trans (Lawn.cells_get L y x hy hx)
  have k0 := hL.k0 y x hy hx
  have k1 := hL.k1 y x hy hx
  have hwr : IntKind.i64.wrap (L.kind y x) = L.kind y x := IntWalk.i64_in _ (by omega)
  clear c hL
  go_enter Try.func125, Try.ntmps125
  go_wp2
  go_quiet (fail)
  go_wp2
  go_ret
  exact ⟨rfl, below_drewN ((Below.refl _ _).alloc (Nat.le_refl _) _) _⟩
theorem told_any (L : Lawn) (hL : L.Fits) (b : Nat) (w : World) (h : Holds w b L.cells) (f : Bool) :
    Calls Try.prog 105 #[.pointer (some ⟨b, 0, none⟩), .bool f] w fun e w' => e = .returned (.int .i64 (told (validB L) f)) ∧ Below w.heap.size w w' := by
  have HO := l01Ok_any L hL b w h
  generalize validB L = v at HO ⊢
  go_enter Try.func105, Try.ntmps105
  cases v <;> cases f
  all_goals
    go_wp2_with (go_at_call 101; refine HO.mono ?_; rintro e w1 ⟨rfl, hb1⟩)
    go_ret
    exact ⟨rfl, hb1⟩

set_option maxRecDepth 100000 in
set_option maxHeartbeats 1000000 in
theorem check_any (L : Lawn) (hL : L.Fits) (x y : Int) (b : Nat) (w : World) (h : Holds w b #[.int .i8 x, .int .i8 y]) :
    Calls Try.prog 108 #[.agg L.cells, .slice (some ⟨b, 0, none⟩) 1 1] w fun e w' => e = .returned (.int .i64 (told (validB L) (isB L x y))) ∧ Below w.heap.size w w' := by
  have HI' : ∀ w : World, Calls Try.prog 96 #[.agg L.cells] w fun e w' => e = .returned (.bool (validB L)) ∧ Below w.heap.size w w' := fun w => implValid_any L hL w
  have HB' : ∀ w : World, Calls Try.prog 168 #[.agg L.cells, .agg #[.int .i8 x, .int .i8 y]] w fun e w' => e = .returned (.bool (isB L x y)) ∧ Below w.heap.size w w' := fun w => has_any L x y w
  generalize validB L = v at HI' ⊢
  generalize isB L x y = f at HB' ⊢
  have HI := Lib.hid HI'
  have HB := Lib.hid HB'
  clear HI' HB'
  go_enter Try.func108, Try.ntmps108
  go_wp2_with fail
  refine (HI.out _).mono ?_
  rintro e w1 ⟨rfl, hb1⟩
  have hb := ((Below.refl w.heap.size w).alloc (Nat.le_refl _) (.cells L.cells 28)).trans (hb1.mono (by simp))
  have h1 := (Holds.new w L.cells 28).below hb1 (by simp)
  have h2 := h.below hb h.lt
  obtain ⟨r1, -⟩ := h1.facts
  obtain ⟨-, -, c2, -⟩ := h2.facts
  clear hb1
  cases v
  · go_wp2_with fail
    go_ret
    exact ⟨rfl, hb⟩
  · go_wp2_with fail
    have r1' := h1.later.1
    have c2' := h2.later.2
    clear r1 c2
    go_loopw [12] (fun i wr => (i = .int .i64 0 ∨ i = .int .i64 1 ∧ f = true) ∧ Below w1.heap.size w1 wr) (fun i _ => 1 - (intOf i).toNat)
    case atStart => exact ⟨.inl rfl, Below.refl _ _⟩
    case round =>
      obtain ⟨hi, hbi⟩ := hrel
      have r1 := r1' _ hbi
      have c2 := c2' _ hbi
      rcases hi with rfl | ⟨rfl, rfl⟩
      · have l1 : w.heap.size < wr.heap.size := Nat.lt_of_lt_of_le h1.lt hbi.size
        have l2 : b < wr.heap.size := Nat.lt_of_lt_of_le h2.lt hbi.size
        obtain ⟨-, f1, -, -, -⟩ := (h1.below hbi h1.lt).facts
        go_wp2_with fail
        refine (HB.out _).mono ?_
        rintro e w2 ⟨rfl, hb2⟩
        have hb3 := (hbi.alloc hbi.size _).trans (hb2.mono (by simp; have := hbi.size; omega))
        clear hbi hb2
        cases f
        · go_wp2_with fail
          go_ret
          exact ⟨rfl, below_onto hb hb3⟩
        · go_wp2_with fail
          go_roundw
          case rel => exact ⟨.inr ⟨by go_num, trivial⟩, hb3⟩
          case measure => simp [intOf]
      · go_wp2_with fail
        go_ret
        exact ⟨rfl, below_onto hb hbi⟩
end Go.Proofs.YtgmahakpmjfhhaaRR
