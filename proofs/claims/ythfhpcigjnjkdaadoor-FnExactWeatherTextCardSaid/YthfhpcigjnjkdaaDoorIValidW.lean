/- ValidWeather, of the program and of the model. -/
import Derived.Test.YthfhpcigjnjkdaaDoorSGrowth
namespace Go.Proofs.YthfhpcigjnjkdaaDoor
open Go.RowKit
set_option linter.unusedVariables false

set_option maxRecDepth 100000 in
theorem implValidW_any (B N : Nat) (v : Value) (hN : N ≤ 2000000) (zs : List Int) (hz : zs.length = N * 2) (hzr : ∀ z ∈ zs, -128 ≤ z ∧ z ≤ 127) (m : Nat) (hm : FirstNo (dayP zs) N m) (w : World) (ho : w.ownsRow B 93 2 v N (intsV .i8 zs)) :
    Calls Tryd.prog 68 #[v] w fun e w' => e = .returned (.bool (decide (m = N))) ∧ Below w.heap.size w w' := by
  have HG := Lib.hid (implGrowth_any B N v hN zs hz hzr m hm w ho)
  obtain ⟨av, cv, rfl⟩ := own_slice ho
  obtain ⟨c, hc⟩ : ∃ c, growthC N m = c := ⟨_, rfl⟩
  have HV := Lib.hid (show (c == 0) = decide (m = N) by
    rw [← hc, growthC]
    by_cases e : m = N <;> simp [e])
  rw [hc] at HG
  clear hc ho hz hzr hm
  go_enter Tryd.func68, Tryd.ntmps68
  go_wp2_with fail
  refine HG.out.mono ?_
  rintro e w1 ⟨⟨u, rfl, -⟩, hb1⟩
  go_wp2_with fail
  go_ret
  exact ⟨congrArg (fun x => Ending.returned (.bool x)) HV.out, hb1⟩

end Go.Proofs.YthfhpcigjnjkdaaDoor
