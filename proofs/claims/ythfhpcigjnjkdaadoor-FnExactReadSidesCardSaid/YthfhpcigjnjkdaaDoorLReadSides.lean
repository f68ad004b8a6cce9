/- The law on ReadSides. -/
import Derived.Test.YthfhpcigjnjkdaaDoorSRdSd
import Derived.Test.YthfhpcigjnjkdaaDoorIRdSd
import Derived.Test.YthfhpcigjnjkdaaDoorEqSdR
namespace Go.Proofs.YthfhpcigjnjkdaaDoor
open Go.RowKit
set_option linter.unusedVariables false
attribute [local go_sem ↓] loadSd storeSd allocSd buildSd

set_option maxRecDepth 100000 in
set_option maxHeartbeats 2000000 in
theorem exactReadSides (s : ByteArray) (w : World) (hE : ErrsUp w) (hT : TabUp w) :
    Calls Tryd.prog 9 #[.string s] w fun e w' => e = .returned (.bool true) ∧ Below w.heap.size w w' := by
  have HEE := Lib.hid hE
  have HTT := Lib.hid hT
  clear hE hT
  by_cases hl : 1048576 < s.size
  · have hd : decide ((1048576 : Int) < (s.size : Int)) = true := by simp; omega
    go_enter Tryd.func9, Tryd.ntmps9
    go_wp2_with fail
    go_ret
    exact ⟨rfl, Below.refl _ _⟩
  have hd : decide ((1048576 : Int) < (s.size : Int)) = false := by simp; omega
  have HI := Lib.hid (fun w h1 h2 => ireadSd_any s (by omega) w h1 h2)
  have HS := Lib.hid (fun w => sreadSd_any s (by omega) w)
  obtain ⟨z, hz⟩ : ∃ z, rsC s.data.toList = z := ⟨_, rfl⟩
  obtain ⟨f, hf⟩ : ∃ f, rsF s.data.toList = f := ⟨_, rfl⟩
  rw [hz, hf] at HI HS
  clear hl hz hf
  obtain ⟨u, hu⟩ : ∃ u, w.heap.size = u := ⟨_, rfl⟩
  have HU := Lib.hid hu
  rw [hu]
  go_enter Tryd.func9, Tryd.ntmps9
  go_wp2_with fail
  refine (HS.out _).mono ?_
  rintro e w2 ⟨rfl, hb2⟩
  have hB2 : Below u w w2 := hb2.mono (by omega)
  go_wp2_with fail
  obtain ⟨p, hp⟩ : ∃ p, w2.heap.size = p := ⟨_, rfl⟩
  have hup : u ≤ p := by have := hB2.size; omega
  have ip := Holds.new' w2 (sdV f) 53 p hp.symm
  have hB3 : Below u w (w2.alloc (.cells (sdV f) 53)) := hB2.alloc (by omega) _
  obtain ⟨W3, hW3⟩ : ∃ W3, w2.alloc (.cells (sdV f) 53) = W3 := ⟨_, rfl⟩
  rw [hW3] at ip hB3
  try simp only [hp]
  try rw [hW3]
  clear hW3 hp hb2 hB2
  have HE3 := Lib.hid (HEE.out.below hB3 (by omega))
  have HT3 := Lib.hid (HTT.out.below hB3 (by omega))
  refine (HI.out _ HE3.out HT3.out).mono ?_
  rintro e w4 ⟨rfl, hb4⟩
  have jp := ip.below hb4 ip.lt
  have hB4 : Below u w w4 := hB3.trans (hb4.mono (by have := ip.lt; omega))
  obtain ⟨rp, -, -, -, lp⟩ := jp.facts
  have hB5 : Below u w (w4.alloc (.cells (sdV f) 53)) := hB4.alloc (by have := hB4.size; omega) _
  clear hb4 ip hB3
  have hs5 : w4.heap.size ≤ (w4.alloc (.cells (sdV f) 53)).heap.size := by simp
  have hs4 := hB4.size
  go_wp2_with fail
  refine (eqSides_sameR _ _).mono ?_
  rintro e w6 ⟨rfl, hb6⟩
  have hB6 : Below u w w6 := hB5.trans (hb6.mono (by omega))
  clear hb6 hB5 rp lp hs5 hs4 hB4 jp
  go_wp2_with fail
  go_ret
  exact ⟨rfl, hB6⟩
end Go.Proofs.YthfhpcigjnjkdaaDoor
