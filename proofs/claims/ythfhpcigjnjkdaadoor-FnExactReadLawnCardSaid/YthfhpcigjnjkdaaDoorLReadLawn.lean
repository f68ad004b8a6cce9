/- The law on ReadLawn. -/
import Derived.Test.YthfhpcigjnjkdaaDoorSRdLn
import Derived.Test.YthfhpcigjnjkdaaDoorIRdLn
namespace Go.Proofs.YthfhpcigjnjkdaaDoor
open Go.RowKit
set_option linter.unusedVariables false
attribute [local go_sem ↓] loadRow loadGrid loadLawn loadMirror storeRow storeGrid storeLawn allocRow allocGrid allocLawn buildZero buildSides

set_option maxRecDepth 100000 in
set_option maxHeartbeats 2000000 in
theorem exactReadLawn (s : ByteArray) (w : World) :
    Calls Tryd.prog 3 #[.string s] w fun e w' => e = .returned (.bool true) ∧ Below w.heap.size w w' := by
  by_cases hl : 1048576 < s.size
  · have hd : decide ((1048576 : Int) < (s.size : Int)) = true := by simp; omega
    go_enter Tryd.func3, Tryd.ntmps3
    go_wp2_with fail
    go_ret
    exact ⟨rfl, Below.refl _ _⟩
  have hd : decide ((1048576 : Int) < (s.size : Int)) = false := by simp; omega
  have HI := Lib.hid (fun w => ireadLn_any s (by omega) w)
  have HS := Lib.hid (fun w => sreadLn_any s (by omega) w)
  obtain ⟨z, hz⟩ : ∃ z, rnC s.data.toList = z := ⟨_, rfl⟩
  obtain ⟨f, hf⟩ : ∃ f, rnL s.data.toList = f := ⟨_, rfl⟩
  rw [hz, hf] at HI HS
  clear hl hz hf
  obtain ⟨u, hu⟩ : ∃ u, w.heap.size = u := ⟨_, rfl⟩
  have HU := Lib.hid hu
  rw [hu]
  go_enter Tryd.func3, Tryd.ntmps3
  go_wp2_with fail
  refine (HS.out _).mono ?_
  rintro e w2 ⟨rfl, hb2⟩
  have hB2 : Below u w w2 := hb2.mono (by omega)
  go_wp2_with fail
  obtain ⟨p, hp⟩ : ∃ p, w2.heap.size = p := ⟨_, rfl⟩
  have hup : u ≤ p := by have := hB2.size; omega
  have ip := Holds.new' w2 f.cells 26 p hp.symm
  have hB3 : Below u w (w2.alloc (.cells f.cells 26)) := hB2.alloc (by omega) _
  obtain ⟨W3, hW3⟩ : ∃ W3, w2.alloc (.cells f.cells 26) = W3 := ⟨_, rfl⟩
  rw [hW3] at ip hB3
  try simp only [hp]
  try rw [hW3]
  clear hW3 hp hb2 hB2
  refine (HI.out _).mono ?_
  rintro e w4 ⟨rfl, hb4⟩
  have jp := ip.below hb4 ip.lt
  have hB4 : Below u w w4 := hB3.trans (hb4.mono (by have := ip.lt; omega))
  obtain ⟨rp, -, -, -, lp⟩ := jp.facts
  have hB5 : Below u w (w4.alloc (.cells f.cells 26)) := hB4.alloc (by have := hB4.size; omega) _
  clear hb4 ip hB3
  have hs5 : w4.heap.size ≤ (w4.alloc (.cells f.cells 26)).heap.size := by simp
  have hs4 := hB4.size
  go_wp2_with fail
  refine (eqLawn_same _ _).mono ?_
  rintro e w6 ⟨rfl, hb6⟩
  have hB6 : Below u w w6 := hB5.trans (hb6.mono (by omega))
  clear hb6 hB5 rp lp hs5 hs4 hB4 jp
  go_wp2_with fail
  go_ret
  exact ⟨rfl, hB6⟩
end Go.Proofs.YthfhpcigjnjkdaaDoor
