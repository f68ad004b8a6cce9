/- The law on GrowthOf. -/
import Derived.Test.YtbcbokpdcliimaaGrowthOf
import Derived.Test.YtbcbokpdcliimaaOpen
namespace Go.Proofs.Ytbcbokpdcliimaa
open Go.ChangeShapes Go.WideShapes Go.ChangeAt Go.RowKit
set_option linter.unusedVariables false

set_option maxRecDepth 100000 in
theorem exactGrowthOf (r t : Int) (hr : -128 ≤ r ∧ r ≤ 127) (ht : -128 ≤ t ∧ t ≤ 127) (w : World) :
    Calls Try.prog 5 #[.agg #[.int .i8 r, .int .i8 t]] w fun e w' => e = .returned (.bool true) ∧ Below w.heap.size w w' := by
  have HI := Lib.hid (fun w => implGrowthOf_any r t hr ht w)
  have HS := Lib.hid (fun w => specGrowthOf_any r t hr ht w)
  obtain ⟨a, ha⟩ : ∃ a, dayG r t = a := ⟨_, rfl⟩
  obtain ⟨c, hc⟩ : ∃ c, dayC r t = c := ⟨_, rfl⟩
  rw [ha, hc] at HI HS
  clear ha hc hr ht
  have HB0 := Lib.hid ((Below.refl w.heap.size w).alloc (Nat.le_refl _) (.cells #[.int .i8 r, .int .i8 t] 37))
  have HB := Lib.hid (Holds.new w #[.int .i8 r, .int .i8 t] 37)
  go_enter Try.func5, Try.ntmps5
  go_wp2_with fail
  refine (toWeather_any _ _ _).mono ?_
  rintro e w1 ⟨rfl, hb1⟩
  go_wp2_with fail
  refine (HS.out _).mono ?_
  rintro e w2 ⟨rfl, hb2⟩
  have hb3 := below_onto hb1 hb2
  have hk := HB.out.below hb3 (by simp)
  have c0 := hk.cell 0
  have c1 := hk.cell 1
  have hb4 := below_onto HB0.out hb3
  clear hb1 hb2 hb3 HB0 hk
  go_wp2_with fail
  refine (toWeather_any _ _ _).mono ?_
  rintro e w3 ⟨rfl, hb1⟩
  have hb5 := below_onto hb4 hb1
  clear c0 c1 hb4 hb1
  go_wp2_with fail
  refine (HI.out _).mono ?_
  rintro e w4 ⟨rfl, hb1⟩
  have hb6 := below_onto hb5 hb1
  clear hb5 hb1
  go_wp2_with fail
  go_ret
  exact ⟨rfl, hb6⟩

set_option maxRecDepth 100000 in
theorem open_weather {H : Type} {enc : TypeId × Value → H} {W : World} {sp : Nat → Bool} {held : Bool} {v : Value} {d : DataW H} {p : List MemPlace} {r : Reach} {b : Nat}
    (hv : Value.okWide Try.prog W r b 37 v) (h : DataW.Trod enc Try.prog W 0 sp held 37 v d p) : ∃ c : Int × Int, v = .agg #[.int .i8 c.1, .int .i8 c.2] ∧ (-128 ≤ c.1 ∧ c.1 ≤ 127) ∧ -128 ≤ c.2 ∧ c.2 ≤ 127 :=
  open_cell_of Try.underlying37 (by kernel_rfl) rfl rfl Try.underlying35 (by kernel_rfl) hv h
end Go.Proofs.Ytbcbokpdcliimaa
