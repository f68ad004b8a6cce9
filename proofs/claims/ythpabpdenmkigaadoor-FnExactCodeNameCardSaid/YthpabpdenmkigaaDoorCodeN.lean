/- CodeName: the program, whose table is a package-level variable, the model, and the law. -/
import Derived.Test.YthpabpdenmkigaaDoorZA
namespace Go.Proofs.YthpabpdenmkigaaDoor
open Go.RowKit
set_option linter.unusedVariables false
set_option linter.unusedSimpArgs false

/-- The name of each code. -/
def codeNm : Nat → ByteArray
  | 0 => ⟨#[111, 107]⟩
  | 1 => ⟨#[105, 110, 118, 97, 108, 105, 100]⟩
  | 2 => ⟨#[114, 97, 110, 103, 101]⟩
  | 3 => ⟨#[108, 105, 109, 105, 116]⟩
  | 4 => ⟨#[115, 116, 97, 116, 101]⟩
  | 5 => ⟨#[115, 121, 110, 116, 97, 120]⟩
  | 6 => ⟨#[110, 111, 116, 102, 111, 117, 110, 100]⟩
  | 7 => ⟨#[98, 117, 100, 103, 101, 116]⟩
  | 8 => ⟨#[112, 114, 111, 111, 102]⟩
  | _ => ⟨#[]⟩
/-- The table of names lies in memory. -/
def NamesIn (w : World) : Prop := ∀ k, k < 9 → w.cell? ⟨0, k, none⟩ = some (.string (codeNm k))
theorem NamesIn.below {w w' : World} (h : NamesIn w) (hb : Below w.heap.size w w') (h0 : 0 < w.heap.size) : NamesIn w' := fun k hk => by
  rw [World.cell?, hb.block 0 h0]
  exact h k hk
/-- What is answered. -/
def codeName (n : Int) : ByteArray := if inB n 0 8 = true then codeNm n.toNat else ⟨#[]⟩

set_option maxRecDepth 100000 in
set_option maxHeartbeats 1000000 in
theorem implName_any (n : Int) (w : World) (h : NamesIn w) :
    Calls Tryd.prog 5 #[.int .i64 n] w fun e w' => e = .returned (.string (codeName n)) ∧ w' = w := by
  by_cases h0 : n < 0
  · have hd : decide (n < 0) = true := by simpa using h0
    have HC : codeName n = ⟨#[]⟩ := by unfold codeName; rw [if_neg (by unfold inB; simp; omega)]
    rw [HC]
    clear h
    go_enter Tryd.func5, Tryd.ntmps5
    go_wp2
    go_ret
    exact ⟨rfl, rfl⟩
  by_cases h9 : 9 ≤ n
  · have hd : decide (n < 0) = false := by simpa using h0
    have hd9 : decide (9 ≤ n) = true := by simpa using h9
    have HC : codeName n = ⟨#[]⟩ := by unfold codeName; rw [if_neg (by unfold inB; simp; omega)]
    rw [HC]
    clear h
    go_enter Tryd.func5, Tryd.ntmps5
    go_wp2
    go_ret
    exact ⟨rfl, rfl⟩
  have hn : n = 0 ∨ n = 1 ∨ n = 2 ∨ n = 3 ∨ n = 4 ∨ n = 5 ∨ n = 6 ∨ n = 7 ∨ n = 8 := by omega
  rcases hn with rfl | rfl | rfl | rfl | rfl | rfl | rfl | rfl | rfl
  · have hc := h 0 (by decide)
    clear h h0 h9
    rw [show codeName 0 = codeNm 0 from rfl]
    go_enter Tryd.func5, Tryd.ntmps5
    go_wp2
    go_ret
    exact ⟨rfl, rfl⟩
  · have hc := h 1 (by decide)
    clear h h0 h9
    rw [show codeName 1 = codeNm 1 from rfl]
    go_enter Tryd.func5, Tryd.ntmps5
    go_wp2
    go_ret
    exact ⟨rfl, rfl⟩
  · have hc := h 2 (by decide)
    clear h h0 h9
    rw [show codeName 2 = codeNm 2 from rfl]
    go_enter Tryd.func5, Tryd.ntmps5
    go_wp2
    go_ret
    exact ⟨rfl, rfl⟩
  · have hc := h 3 (by decide)
    clear h h0 h9
    rw [show codeName 3 = codeNm 3 from rfl]
    go_enter Tryd.func5, Tryd.ntmps5
    go_wp2
    go_ret
    exact ⟨rfl, rfl⟩
  · have hc := h 4 (by decide)
    clear h h0 h9
    rw [show codeName 4 = codeNm 4 from rfl]
    go_enter Tryd.func5, Tryd.ntmps5
    go_wp2
    go_ret
    exact ⟨rfl, rfl⟩
  · have hc := h 5 (by decide)
    clear h h0 h9
    rw [show codeName 5 = codeNm 5 from rfl]
    go_enter Tryd.func5, Tryd.ntmps5
    go_wp2
    go_ret
    exact ⟨rfl, rfl⟩
  · have hc := h 6 (by decide)
    clear h h0 h9
    rw [show codeName 6 = codeNm 6 from rfl]
    go_enter Tryd.func5, Tryd.ntmps5
    go_wp2
    go_ret
    exact ⟨rfl, rfl⟩
  · have hc := h 7 (by decide)
    clear h h0 h9
    rw [show codeName 7 = codeNm 7 from rfl]
    go_enter Tryd.func5, Tryd.ntmps5
    go_wp2
    go_ret
    exact ⟨rfl, rfl⟩
  · have hc := h 8 (by decide)
    clear h h0 h9
    rw [show codeName 8 = codeNm 8 from rfl]
    go_enter Tryd.func5, Tryd.ntmps5
    go_wp2
    go_ret
    exact ⟨rfl, rfl⟩

set_option maxRecDepth 100000 in
set_option maxHeartbeats 1000000 in
theorem specName_any (n : Int) (w : World) :
    Calls Tryd.prog 4 #[.int .i64 n] w fun e w' => e = .returned (.string (codeName n)) ∧ Below w.heap.size w w' := by
  by_cases hi : inB n 0 8 = true
  · have HI := Lib.hid (fun w => in_yes n 0 8 w hi)
    have hn : n = 0 ∨ n = 1 ∨ n = 2 ∨ n = 3 ∨ n = 4 ∨ n = 5 ∨ n = 6 ∨ n = 7 ∨ n = 8 := by
      have := inB_true hi
      omega
    clear hi
    rcases hn with rfl | rfl | rfl | rfl | rfl | rfl | rfl | rfl | rfl
    all_goals
      go_enter Tryd.func4, Tryd.ntmps4
      go_wp2_with (go_at_call 6; refine (HI.out _).mono ?_; rintro e w2 ⟨rfl, hw2⟩; rw [hw2]; clear hw2)
      go_ret
      exact ⟨rfl, (Below.refl _ _).alloc (Nat.le_refl _) _⟩
  · have hf : inB n 0 8 = false := by simpa using hi
    have HI := Lib.hid (fun w => in_q n 0 8 w)
    rw [hf] at HI
    have HC : codeName n = ⟨#[]⟩ := by unfold codeName; rw [if_neg hi]
    rw [HC]
    clear hi hf HC
    go_enter Tryd.func4, Tryd.ntmps4
    go_wp2_with (go_at_call 6; refine (HI.out _).mono ?_; rintro e w2 ⟨rfl, hw2⟩; rw [hw2]; clear hw2)
    go_ret
    exact ⟨rfl, (Below.refl _ _).alloc (Nat.le_refl _) _⟩

set_option maxRecDepth 100000 in
set_option maxHeartbeats 1000000 in
theorem exactCodeName (n : Int) (w : World) (h : NamesIn w) (h0 : 0 < w.heap.size) :
    Calls Tryd.prog 3 #[.int .i64 n] w fun e w' => e = .returned (.bool true) ∧ Below w.heap.size w w' := by
  have HS := Lib.hid (specName_any n)
  have HI := Lib.hid (fun w h => implName_any n w h)
  obtain ⟨s, hs⟩ : ∃ s, codeName n = s := ⟨_, rfl⟩
  rw [hs] at HS HI
  clear hs
  go_enter Tryd.func3, Tryd.ntmps3
  go_wp2_with fail
  refine (HS.out _).mono ?_
  rintro e w1 ⟨rfl, hb⟩
  have h1 := h.below hb h0
  clear h h0
  go_wp2_with fail
  refine (HI.out _ h1).mono ?_
  rintro e w2 ⟨rfl, hw2⟩
  rw [hw2]
  clear hw2 h1
  go_wp2_with fail
  go_ret
  exact ⟨rfl, hb⟩
end Go.Proofs.YthpabpdenmkigaaDoor
