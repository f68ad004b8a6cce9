/- When the model takes a lawn for a valid one, and where it has cells. -/
import Derived.Test.YtgmahakpmjfhhaaRRNum
namespace Go.Proofs.YtgmahakpmjfhhaaRR
open Go.RowKit
attribute [local go_sem ↓] loadRow loadGrid loadLawn loadMirror storeRow storeGrid storeLawn allocRow allocGrid allocLawn buildZero buildSides

/-- A cell's value. -/
def cellV (x y : Int) : Value := .agg #[.int .i8 x, .int .i8 y]
/-- Whether there is a cell. -/
def isB (L : Lawn) (x y : Int) : Bool := inB x 0 (L.wide - 1) && inB y 0 (L.high - 1)
/-- Whether a place has what it may have. -/
def okAt (L : Lawn) (y x : Nat) : Bool := inB (L.kind y x) 0 3 && (L.kind y x == 0 || isB L x y)
def validB (L : Lawn) : Bool := inB L.wide 1 10 && inB L.high 1 10 && (List.range 10).all fun y => (List.range 10).all fun x => okAt L y x
/-- All places ahead of a row's place are fine. -/
def okTo (L : Lawn) (k j : Nat) : Prop := ∀ y x, y < 10 → x < 10 → (y < k ∨ y = k ∧ x < j) → okAt L y x = true
theorem okTo_zero (L : Lawn) : okTo L 0 0 := fun y x _ _ h => by omega
theorem okTo_snoc {L : Lawn} {k j : Nat} (h : okTo L k j) (hn : okAt L k j = true) : okTo L k (j + 1) := fun y x hy hx hl => by
  by_cases e : y = k ∧ x = j
  · obtain ⟨rfl, rfl⟩ := e; exact hn
  · exact h y x hy hx (by omega)
theorem okTo_row {L : Lawn} {k : Nat} (h : okTo L k 10) : okTo L (k + 1) 0 := fun y x hy hx hl => h y x hy hx (by omega)
theorem validB_true {L : Lawn} (h : validB L = true) : (1 ≤ L.wide ∧ L.wide ≤ 10) ∧ (1 ≤ L.high ∧ L.high ≤ 10) ∧ ∀ y x, y < 10 → x < 10 → okAt L y x = true := by
  simp only [validB, Bool.and_eq_true, List.all_eq_true, List.mem_range] at h
  exact ⟨inB_true h.1.1, inB_true h.1.2, fun y x hy hx => h.2 y hy x hx⟩
theorem validB_of {L : Lawn} (hw : inB L.wide 1 10 = true) (hh : inB L.high 1 10 = true) (h : okTo L 10 0) : validB L = true := by
  simp only [validB, Bool.and_eq_true, List.all_eq_true, List.mem_range]
  exact ⟨⟨hw, hh⟩, fun y hy x hx => h y x hy hx (by omega)⟩
theorem validB_not {L : Lawn} {y x : Nat} (hy : y < 10) (hx : x < 10) (h : okAt L y x = false) : validB L = false := by
  cases hv : validB L with
  | false => rfl
  | true => have := (validB_true hv).2.2 y x hy hx; rw [h] at this; cases this
theorem validB_wide {L : Lawn} (h : inB L.wide 1 10 = false) : validB L = false := by simp [validB, h]
theorem validB_high {L : Lawn} (h : inB L.high 1 10 = false) : validB L = false := by simp [validB, h]

set_option maxRecDepth 100000 in
set_option maxHeartbeats 1000000 in
theorem l01Is_any (L : Lawn) (hL : L.Fits) (b : Nat) (x y : Int) (w : World) (h : Holds w b L.cells) (x0 : -128 ≤ x) (x1 : x ≤ 127) (y0 : -128 ≤ y) (y1 : y ≤ 127) :
    Calls Try.prog 137 #[.pointer (some ⟨b, 0, none⟩), .agg #[.int .i8 x, .int .i8 y]] w fun e w' => e = .returned (.bool (isB L x y)) ∧ Below w.heap.size w w' := by
  obtain ⟨-, -, c, -, l⟩ := h.facts
  obtain ⟨lw0, lw1, lh0, lh1, -, -⟩ := hL
  have e1 : IntKind.i64.wrap x = x := IntWalk.i64_in _ (by omega)
  have e2 : IntKind.i64.wrap y = y := IntWalk.i64_in _ (by omega)
  have e3 : IntKind.i64.wrap L.wide = L.wide := IntWalk.i64_in _ (by omega)
  have e4 : IntKind.i64.wrap L.high = L.high := IntWalk.i64_in _ (by omega)
  have e5 : IntKind.i64.wrap (L.wide - 1) = L.wide - 1 := IntWalk.i64_in _ (by omega)
  have e6 : IntKind.i64.wrap (L.high - 1) = L.high - 1 := IntWalk.i64_in _ (by omega)
  cases hx : inB x 0 (L.wide - 1)
  case false =>
    go_enter Try.func137, Try.ntmps137
    go_wp2
    go_quiet ((go_at_call 172; exact Calls.quiet_of_same (in_no _ _ _ _ hx)))
    go_wp2
    go_ret
    exact ⟨ret_bool (by simp [isB, hx]), below_drewN ((Below.refl _ _).alloc (Nat.le_refl _) _) _⟩
  case true =>
    go_enter Try.func137, Try.ntmps137
    go_wp2
    go_quiet ((go_at_call 172; first | exact Calls.quiet_of_same (in_yes _ _ _ _ hx) | exact Calls.quiet_of_same (in_q _ _ _ _)))
    go_wp2
    go_ret
    exact ⟨ret_bool (by simp [isB, hx]), below_drewN ((Below.refl _ _).alloc (Nat.le_refl _) _) _⟩

theorem l01Is_is (L : Lawn) (hL : L.Fits) (b : Nat) (x y : Int) (w : World) (h : Holds w b L.cells) (x0 : -128 ≤ x) (x1 : x ≤ 127) (y0 : -128 ≤ y) (y1 : y ≤ 127) (v : Bool) (hv : isB L x y = v) :
    Calls Try.prog 137 #[.pointer (some ⟨b, 0, none⟩), .agg #[.int .i8 x, .int .i8 y]] w fun e w' => e = .returned (.bool v) ∧ Below w.heap.size w w' := hv ▸ l01Is_any L hL b x y w h x0 x1 y0 y1

set_option maxRecDepth 100000 in
set_option maxHeartbeats 2000000 in
theorem l01Ok_any (L : Lawn) (hL : L.Fits) (b : Nat) (w : World) (h : Holds w b L.cells) :
    Calls Try.prog 101 #[.pointer (some ⟨b, 0, none⟩)] w fun e w' => e = .returned (.bool (validB L)) ∧ Below w.heap.size w w' := by
  obtain ⟨-, -, c, -, l⟩ := h.facts
  have HL := Lib.hid hL
  obtain ⟨lw0, lw1, lh0, lh1, -, -⟩ := hL
  cases hw : inB L.wide 1 10
  · have HV := Lib.hid (validB_wide hw)
    go_enter Try.func101, Try.ntmps101
    go_wp2_with (go_at_call 169; refine (l01Side_is _ _ hw _).mono ?_; rintro e w1 ⟨rfl, rfl⟩)
    go_ret
    exact ⟨by rw [HV.out]; rfl, Below.refl _ _⟩
  cases hh : inB L.high 1 10
  · have HV := Lib.hid (validB_high hh)
    go_enter Try.func101, Try.ntmps101
    go_wp2_with (first | (go_at_call 169; ((with_reducible refine (l01Side_is _ _ hw _).mono ?_); rintro e w1 ⟨rfl, rfl⟩)) | (go_at_call 169; ((with_reducible refine (l01Side_is _ _ hh _).mono ?_); rintro e w1 ⟨rfl, rfl⟩)))
    go_ret
    exact ⟨by rw [HV.out]; rfl, Below.refl _ _⟩
  go_enter Try.func101, Try.ntmps101
  go_wp2_with (first | (go_at_call 169; ((with_reducible refine (l01Side_is _ _ hw _).mono ?_); rintro e w1 ⟨rfl, rfl⟩)) | (go_at_call 169; ((with_reducible refine (l01Side_is _ _ hh _).mono ?_); rintro e w1 ⟨rfl, rfl⟩)))
  have HW := Lib.hid hw
  have HH := Lib.hid hh
  clear hw hh
  go_loopw [3, 2, 4, 5] (fun y _ _ _ wr => ∃ k : Nat, k ≤ 10 ∧ y = .int .i8 k ∧ Below w.heap.size w wr ∧ okTo L k 0) (fun y _ _ _ _ => 10 - (intOf y).toNat)
  case atStart => exact ⟨0, by omega, rfl, Below.refl _ _, okTo_zero L⟩
  case round =>
    obtain ⟨k, hk, rfl, hb, hok⟩ := hrel
    have HOK := Lib.hid hok
    clear hok
    by_cases hlt : k < 10
    · have hd : decide ((k : Int) < 10) = true := by simp; omega
      go_wp2
      go_loopw [4, 5, 2] (fun x _ _ wi => ∃ j : Nat, j ≤ 10 ∧ x = .int .i8 j ∧ Below w.heap.size w wi ∧ okTo L k j) (fun x _ _ _ => 10 - (intOf x).toNat)
      case atStart => exact ⟨0, by omega, rfl, hb, HOK.out⟩
      case round =>
        obtain ⟨j, hj, rfl, hbi, hoki⟩ := hrel
        have HOI := Lib.hid hoki
        clear hoki
        by_cases hjt : j < 10
        · have hi := h.below hbi l
          have hc := Lawn.cells_get L k j hlt hjt
          obtain ⟨-, -, ci, -, li⟩ := hi.facts
          have ck : wr.cell? ⟨b, 2 + k * 10 + j, none⟩ = some (.int .u8 (L.kind k j)) := (ci _).trans hc
          obtain ⟨k0, k1⟩ := And.intro (HL.out.k0 k j hlt hjt) (HL.out.k1 k j hlt hjt)
          clear hc ci
          cases hkd : inB (L.kind k j) 0 3
          · have HV := Lib.hid (validB_not hlt hjt (show okAt L k j = false by simp [okAt, hkd]))
            go_wp2_with (go_at_call 106; refine (l01Kind_is _ _ hkd _).mono ?_; rintro e w1 ⟨rfl, rfl⟩)
            go_ret
            exact ⟨by rw [HV.out]; rfl, hbi⟩
          · by_cases hz : L.kind k j = 0
            · have hz' : ((L.kind k j : Int) != 0) = false := by simp [hz]
              have hok' : okAt L k j = true := by simp [okAt, hz, inB]
              have HOK' := Lib.hid hok'
              have HZ := Lib.hid hz
              clear hz hok'
              go_wp2_with (go_at_call 106; refine (l01Kind_is _ _ hkd _).mono ?_; rintro e w1 ⟨rfl, rfl⟩)
              go_roundw
              case rel => exact ⟨j + 1, by omega, by go_num, hbi, okTo_snoc HOI.out HOK'.out⟩
              case measure => simp [intOf]; omega
            · have hz' : ((L.kind k j : Int) != 0) = true := by simp [hz]
              have hz0 : ((L.kind k j : Int) == 0) = false := by simp [hz]
              cases hs : isB L j k
              · have HV := Lib.hid (validB_not hlt hjt (show okAt L k j = false by simp [okAt, hz, hs]))
                clear hz hz0
                go_wp2_with (first | (go_at_call 106; refine (l01Kind_is _ _ hkd _).mono ?_; rintro e w1 ⟨rfl, rfl⟩) | (go_at_call 137; refine (l01Is_is L HL.out b _ _ _ hi (by omega) (by omega) (by omega) (by omega) false hs).mono ?_; rintro e w1 ⟨rfl, hb1⟩))
                go_ret
                exact ⟨by rw [HV.out]; rfl, hbi.trans (hb1.mono hbi.size)⟩
              · have HOK' := Lib.hid (show okAt L k j = true by simp [okAt, hkd, hs])
                clear hz hz0
                go_wp2_with (first | (go_at_call 106; refine (l01Kind_is _ _ hkd _).mono ?_; rintro e w1 ⟨rfl, rfl⟩) | (go_at_call 137; refine (l01Is_is L HL.out b _ _ _ hi (by omega) (by omega) (by omega) (by omega) true hs).mono ?_; rintro e w1 ⟨rfl, hb1⟩))
                go_roundw
                case rel => exact ⟨j + 1, by omega, by go_num, hbi.trans (hb1.mono hbi.size), okTo_snoc HOI.out HOK'.out⟩
                case measure => simp [intOf]; omega
        · obtain rfl : j = 10 := by omega
          go_wp2
          go_roundw
          case rel => exact ⟨k + 1, by omega, by go_num, hbi, okTo_row HOI.out⟩
          case measure => simp [intOf]; omega
    · obtain rfl : k = 10 := by omega
      go_wp2
      go_ret
      exact ⟨by rw [validB_of HW.out HH.out HOK.out]; rfl, hb⟩

end Go.Proofs.YtgmahakpmjfhhaaRR
