/- The law on ReadLevels. -/
import Derived.Test.YthfhpcigjnjkdaaDoorIRdLv
namespace Go.Proofs.YthfhpcigjnjkdaaDoor
open Go.RowKit
set_option linter.unusedVariables false
attribute [local go_sem ↓] loadRow loadGrid loadLawn loadMirror storeRow storeGrid storeLawn allocRow allocGrid allocLawn buildZero buildSides loadR8 loadL8 loadLv storeR8 storeLv allocR8 allocLv buildZLv

set_option maxRecDepth 100000 in
set_option maxHeartbeats 2000000 in
theorem exactReadLevels_walk (A : Lawn) (s : ByteArray) (G : Nat → Nat → Int) (z0 : Int)
    (HI : s.size ≤ 1048576 → ∀ w : World, ErrsUp w → TabUp w → Calls Tryd.prog 46 #[.agg A.cells, .string s] w fun e w' => e = .returned (.tuple #[.agg (levV G), .int .i64 z0]) ∧ Below w.heap.size w w')
    (HS : s.size ≤ 1048576 → ∀ w : World, Calls Tryd.prog 45 #[.agg A.cells, .string s] w fun e w' => e = .returned (.tuple #[.agg (levV G), .int .i64 z0]) ∧ Below w.heap.size w w') (w : World) (hE : ErrsUp w) (hT : TabUp w) :
    Calls Tryd.prog 11 #[.agg A.cells, .string s] w fun e w' => e = .returned (.bool true) ∧ Below w.heap.size w w' := by
  have HEE := Lib.hid hE
  have HTT := Lib.hid hT
  clear hE hT
  obtain ⟨u, hu⟩ : ∃ u, w.heap.size = u := ⟨_, rfl⟩
  obtain ⟨W1, hW1⟩ : ∃ W1, w.alloc (.cells A.cells 59) = W1 := ⟨_, rfl⟩
  have g0 : Holds W1 u A.cells := by rw [← hW1]; exact Holds.new' _ _ _ _ hu.symm
  have hB1 : Below u w W1 := by rw [← hW1]; exact (Below.refl u w).alloc (by omega) _
  have HU := Lib.hid hu
  by_cases hl : 1048576 < s.size
  · have hd : decide ((1048576 : Int) < (s.size : Int)) = true := by simp; omega
    clear HI HS g0
    go_enter Tryd.func11, Tryd.ntmps11
    go_wp2_with fail
    go_ret
    exact ⟨rfl, by rw [HU.out]; exact hB1⟩
  have hd : decide ((1048576 : Int) < (s.size : Int)) = false := by simp; omega
  have HI' := Lib.hid (HI (by omega))
  have HS' := Lib.hid (HS (by omega))
  clear HI HS hl
  obtain ⟨r0, -, -, -, l0⟩ := g0.facts
  go_enter Tryd.func11, Tryd.ntmps11
  go_wp2_with fail
  try simp only [hu, Nat.add_assoc, Nat.reduceAdd]
  try rw [hW1]
  clear hW1 hu r0 l0
  refine (toLawn_any _ _).mono ?_
  rintro e W2 ⟨rfl, hb2⟩
  have j0 := g0.below hb2 g0.lt
  have hB2 : Below u w W2 := hB1.trans (hb2.mono (by have := g0.lt; omega))
  clear hb2 g0 hB1
  go_wp2_with fail
  refine (HS'.out _).mono ?_
  rintro e W3 ⟨rfl, hb3⟩
  have k0 := j0.below hb3 j0.lt
  have hB3 : Below u w W3 := hB2.trans (hb3.mono (by have := j0.lt; omega))
  clear hb3 j0 hB2
  obtain ⟨p, hp⟩ : ∃ p, W3.heap.size = p := ⟨_, rfl⟩
  have hpu : u < p := by have := k0.lt; omega
  have i0 := k0.alloc (.cells (levV G) 64)
  have ip := Holds.new' W3 (levV G) 64 p hp.symm
  have hB4 : Below u w (W3.alloc (.cells (levV G) 64)) := hB3.alloc (by omega) _
  obtain ⟨W4, hW4⟩ : ∃ W4, W3.alloc (.cells (levV G) 64) = W4 := ⟨_, rfl⟩
  rw [hW4] at i0 ip hB4
  obtain ⟨r0, -, -, -, l0⟩ := i0.facts
  go_wp2_with fail
  try simp only [hp]
  try rw [hW4]
  clear hW4 hp k0 hB3 r0 l0
  refine (toLawn_any _ _).mono ?_
  rintro e W5 ⟨rfl, hb5⟩
  have j0 := i0.below hb5 i0.lt
  have jp := ip.below hb5 ip.lt
  have hB5 : Below u w W5 := hB4.trans (hb5.mono (by have := i0.lt; omega))
  clear hb5 i0 ip hB4
  go_wp2_with fail
  refine (HI'.out _ (HEE.out.below hB5 (by have := HU.out; omega)) (HTT.out.below hB5 (by have := HU.out; omega))).mono ?_
  rintro e W6 ⟨rfl, hb6⟩
  have k0 := j0.below hb6 j0.lt
  have kp := jp.below hb6 jp.lt
  have hB6 : Below u w W6 := hB5.trans (hb6.mono (by have := j0.lt; omega))
  clear hb6 j0 jp hB5
  obtain ⟨q, hq⟩ : ∃ q, W6.heap.size = q := ⟨_, rfl⟩
  have hqp : p < q := by have := kp.lt; omega
  have ip := kp.alloc (.cells (levV G) 64)
  have iq := Holds.new' W6 (levV G) 64 q hq.symm
  have hB7 : Below u w (W6.alloc (.cells (levV G) 64)) := hB6.alloc (by omega) _
  obtain ⟨W7, hW7⟩ : ∃ W7, W6.alloc (.cells (levV G) 64) = W7 := ⟨_, rfl⟩
  rw [hW7] at ip iq hB7
  obtain ⟨rp, -, -, -, lp⟩ := ip.facts
  obtain ⟨rq, -, -, -, lq⟩ := iq.facts
  go_wp2_with fail
  try simp only [hq]
  try rw [hW7]
  clear hW7 hq k0 kp hB6 rp lp rq lq
  refine (eqLev_same _ _).mono ?_
  rintro e W8 ⟨rfl, hb8⟩
  have hB8 : Below u w W8 := hB7.trans (hb8.mono (by have := ip.lt; omega))
  clear hb8 ip iq hB7
  go_wp2_with fail
  go_ret
  exact ⟨rfl, by rw [HU.out]; exact hB8⟩

theorem exactReadLevels (A : Lawn) (hA : A.Fits) (s : ByteArray) (w : World) (hE : ErrsUp w) (hT : TabUp w) :
    Calls Tryd.prog 11 #[.agg A.cells, .string s] w fun e w' => e = .returned (.bool true) ∧ Below w.heap.size w w' :=
  exactReadLevels_walk A s (rvG A s.data.toList) (rvC A s.data.toList) (fun h w h1 h2 => ireadLv_any A hA s h w h1 h2) (fun h w => sreadLv_any A hA s h w) w hE hT
end Go.Proofs.YthfhpcigjnjkdaaDoor
