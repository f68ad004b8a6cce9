/- A way on a lawn: its code and its cells, of the program; CheckWay and EndOf. -/
import Derived.Test.YtgmahakpmjfhhaaRRGone
namespace Go.Proofs.YtgmahakpmjfhhaaRR
open Go.RowKit
set_option linter.unusedVariables false
attribute [local go_sem ↓] loadRow loadGrid loadLawn loadMirror storeRow storeGrid storeLawn allocRow allocGrid allocLawn buildZero buildSides

/-- The cells to which a way comes, n of them; the code of a way on a lawn. -/
abbrev Goes (L : Lawn) (x y : Int) (s : ByteArray) (n : Nat) : Prop := GoneIs (fun j => openP L (posK (x, y) s.data.toList j)) s.size n
def alongC (L : Lawn) (x y : Int) (s : ByteArray) (n : Nat) : Int := if validB L then (if isB L x y then (if wayC s = 0 then (if n ≤ s.size then 4 else 0) else wayC s) else 2) else 1
def alongM (L : Lawn) (x y : Int) (s : ByteArray) (n : Nat) : Nat := if alongC L x y s n = 0 then s.size + 1 else 0
def alongX (L : Lawn) (x y : Int) (s : ByteArray) (n : Nat) : List Value := if alongC L x y s n = 0 then flatP (cellsK (x, y) s.data.toList (s.size + 1)) else []
theorem alongC_range (L : Lawn) (x y : Int) (s : ByteArray) (n : Nat) : 0 ≤ alongC L x y s n ∧ alongC L x y s n ≤ 5 := by
  have := wayC_range s
  unfold alongC
  split
  · split
    · split
      · split <;> omega
      · omega
    · omega
  · omega
theorem alongC_zero {L : Lawn} {x y : Int} {s : ByteArray} {n : Nat} (h : alongC L x y s n = 0) : validB L = true ∧ isB L x y = true ∧ wayC s = 0 ∧ s.size < n := by
  unfold alongC at h
  split at h
  · rename_i h1
    split at h
    · rename_i h2
      split at h
      · rename_i h3
        split at h
        · cases h
        · exact ⟨h1, h2, h3, by omega⟩
      · rename_i h3; exact absurd h h3
    · cases h
  · cases h

set_option maxRecDepth 100000 in
set_option maxHeartbeats 2000000 in
theorem along_any (L : Lawn) (hL : L.Fits) (x y : Int) (s : ByteArray) (hs : s.size ≤ maxLen) (n : Nat) (hn : Goes L x y s n) (w : World) :
    Calls Try.prog 118 #[.agg L.cells, .agg #[.int .i8 x, .int .i8 y], .string s] w fun e w' => (∃ v, e = .returned (.tuple #[v, .int .i64 (alongC L x y s n)]) ∧ w'.ownsRow w.heap.size 35 2 v (alongM L x y s n) (alongX L x y s n)) ∧ Below w.heap.size w w' := by
  obtain ⟨v, hv⟩ : ∃ v, validB L = v := ⟨_, rfl⟩
  obtain ⟨f, hf⟩ : ∃ f, isB L x y = f := ⟨_, rfl⟩
  obtain ⟨cw, hcw⟩ : ∃ c, wayC s = c := ⟨_, rfl⟩
  obtain ⟨c, hc⟩ : ∃ c, alongC L x y s n = c := ⟨_, rfl⟩
  have h0 : c ≠ 0 → alongM L x y s n = 0 ∧ alongX L x y s n = [] := fun h => by
    constructor
    · unfold alongM; rw [hc, if_neg h]
    · unfold alongX; rw [hc, if_neg h]
  have H0 := Lib.hid h0
  have h1 : c = 0 → alongM L x y s n = s.size + 1 ∧ alongX L x y s n = flatP (cellsK (x, y) s.data.toList (s.size + 1)) := fun h => by
    constructor
    · unfold alongM; rw [hc, if_pos h]
    · unfold alongX; rw [hc, if_pos h]
  have H1 := Lib.hid h1
  have HC := Lib.hid (show c = if v then (if f then (if cw = 0 then (if n ≤ s.size then 4 else 0) else cw) else 2) else 1 by rw [← hc]; unfold alongC; rw [hv, hf, hcw])
  have HCK := Lib.hid (show ∀ (g : Nat) (w : World), Holds w g #[.int .i8 x, .int .i8 y] → Calls Try.prog 108 #[.agg L.cells, .slice (some ⟨g, 0, none⟩) 1 1] w fun e w' => e = .returned (.int .i64 (told v f)) ∧ Below w.heap.size w w' from fun g w h => by
    have := check_any L hL x y g w h
    rwa [hv, hf] at this)
  have HWY := Lib.hid (show ∀ w, Calls Try.prog 174 #[.string s] w fun e w' => e = .returned (.int .i64 cw) ∧ w = w' from fun w => hcw ▸ check_way s hs w)
  have HCE := Lib.hid (show v = true → cw = 0 → ∀ w, Calls Try.prog 175 #[.string s, .agg #[.int .i8 x, .int .i8 y], .func (.func 144) #[.agg L.cells] #[]] w fun e w' => (∃ v, e = .returned v ∧ w'.ownsRow w.heap.size 35 2 v n (flatP (cellsK (x, y) s.data.toList n))) ∧ Below w.heap.size w w' from
    fun h1 h2 w => cells_any L hL (hv.trans h1) s (hcw.trans h2) x y n hn w)
  have hle := hn.le
  have hsz : cw = 0 → s.size ≤ 200 := fun h => wayC_le (hcw.trans h)
  have HSZ := Lib.hid hsz
  rw [hc]
  clear hv hf hcw hc h0 h1 hn hL hs hsz
  go_enter Try.func118, Try.ntmps118
  go_wp2_with fail
  have g0 : Holds (((w.alloc (.cells L.cells 28)).alloc (.cells #[.int .i8 x, .int .i8 y] 35)).alloc (.cells #[.int .i8 x, .int .i8 y] 35)) w.heap.size L.cells := ((Holds.new _ _ _).alloc _).alloc _
  have c0 : Holds (((w.alloc (.cells L.cells 28)).alloc (.cells #[.int .i8 x, .int .i8 y] 35)).alloc (.cells #[.int .i8 x, .int .i8 y] 35)) (w.heap.size + 1) #[.int .i8 x, .int .i8 y] := (Holds.new' _ _ _ _ (by simp)).alloc _
  have s0 : Holds (((w.alloc (.cells L.cells 28)).alloc (.cells #[.int .i8 x, .int .i8 y] 35)).alloc (.cells #[.int .i8 x, .int .i8 y] 35)) (w.heap.size + 1 + 1) #[.int .i8 x, .int .i8 y] := Holds.new' _ _ _ _ (by simp)
  have hb : Below w.heap.size w (((w.alloc (.cells L.cells 28)).alloc (.cells #[.int .i8 x, .int .i8 y] 35)).alloc (.cells #[.int .i8 x, .int .i8 y] 35)) := (((Below.refl w.heap.size w).alloc (Nat.le_refl _) _).alloc (by simp) _).alloc (by simp; omega) _
  refine (HCK.out _ _ s0).mono ?_
  rintro e w1 ⟨rfl, hb1⟩
  have g1 := g0.below hb1 g0.lt
  have c1 := c0.below hb1 c0.lt
  have jB := below_onto hb hb1
  clear g0 c0 s0 hb hb1
  cases v
  case false =>
    have HE := Lib.hid (show c = 1 by have := HC.out; simpa using this)
    simp only [told, Bool.false_eq_true, if_false]
    go_wp2_with fail
    go_ret2
    obtain ⟨e1, e2⟩ := H0.out (by rw [HE.out]; decide)
    exact ⟨⟨_, by rw [HE.out]; rfl, by rw [e1, e2]; exact World.ownsRow_nil _ _ _ _⟩, jB⟩
  case true =>
    cases f
    case false =>
      have HE := Lib.hid (show c = 2 by have := HC.out; simpa using this)
      simp only [told, if_true, Bool.false_eq_true, if_false]
      go_wp2_with fail
      go_ret2
      obtain ⟨e1, e2⟩ := H0.out (by rw [HE.out]; decide)
      exact ⟨⟨_, by rw [HE.out]; rfl, by rw [e1, e2]; exact World.ownsRow_nil _ _ _ _⟩, jB⟩
    case true =>
      simp only [told, if_true]
      go_wp2_with fail
      refine (HWY.out _).mono ?_
      rintro e w2 ⟨rfl, rfl⟩
      by_cases hw : cw = 0
      · have HCE2 := Lib.hid (HCE.out trivial hw)
        have hs200 := HSZ.out hw
        have HE := Lib.hid (show c = if n ≤ s.size then 4 else 0 by have := HC.out; simpa [hw] using this)
        subst hw
        obtain ⟨r1, -, -, -, l1⟩ := g1.facts
        obtain ⟨-, -, d1, -, -⟩ := c1.facts
        go_wp2_with fail
        refine (HCE2.out _).mono ?_
        rintro e w3 ⟨⟨v, rfl, ho⟩, hb1⟩
        have jB3 := below_onto jB hb1
        have ho3 := ownsRow_low ho (Nat.le_of_lt g1.lt)
        have HO := Lib.hid ho3
        obtain ⟨av, cv, rfl⟩ := own_slice ho
        clear ho ho3 hb1 g1 c1 r1 d1 jB
        by_cases hns : n ≤ s.size
        · have HE4 := Lib.hid (show c = 4 by rw [HE.out, if_pos hns])
          have hd : decide ((n : Int) ≤ (s.size : Int)) = true := by simp; omega
          go_wp2_with fail
          go_ret2
          obtain ⟨e1, e2⟩ := H0.out (by rw [HE4.out]; decide)
          exact ⟨⟨_, by rw [HE4.out]; rfl, by rw [e1, e2]; exact World.ownsRow_nil _ _ _ _⟩, jB3⟩
        · have HE4 := Lib.hid (show c = 0 by rw [HE.out, if_neg hns])
          have hd : decide ((n : Int) ≤ (s.size : Int)) = false := by simp; omega
          have hne : n = s.size + 1 := by omega
          have HNE := Lib.hid hne
          clear hne
          go_wp2_with fail
          go_ret2
          obtain ⟨e1, e2⟩ := H1.out HE4.out
          refine ⟨⟨_, by rw [HE4.out]; rfl, ?_⟩, jB3⟩
          rw [e1, e2, ← HNE.out]
          exact HO.out
      · have HE := Lib.hid (show c = cw by have := HC.out; simpa [hw] using this)
        have hb1 : (cw != 0) = true := by simpa [bne] using hw
        go_wp2_with fail
        go_ret2
        obtain ⟨e1, e2⟩ := H0.out (by rw [HE.out]; exact hw)
        exact ⟨⟨_, by rw [HE.out]; rfl, by rw [e1, e2]; exact World.ownsRow_nil _ _ _ _⟩, jB⟩

/-- What CheckWay answers. -/
def checkR (L : Lawn) (x y : Int) (s : ByteArray) (n : Nat) : Bool := alongC L x y s n == 0
def checkC (L : Lawn) (x y : Int) (s : ByteArray) (n : Nat) : Int := if alongC L x y s n = 4 then 0 else alongC L x y s n
set_option maxRecDepth 100000 in
set_option maxHeartbeats 1000000 in
theorem implCheck_any (L : Lawn) (hL : L.Fits) (x y : Int) (s : ByteArray) (hs : s.size ≤ maxLen) (n : Nat) (hn : Goes L x y s n) (w : World) :
    Calls Try.prog 38 #[.agg L.cells, .agg #[.int .i8 x, .int .i8 y], .string s] w fun e w' => e = .returned (.tuple #[.bool (checkR L x y s n), .int .i64 (checkC L x y s n)]) ∧ Below w.heap.size w w' := by
  have HA := Lib.hid (fun w => along_any L hL x y s hs n hn w)
  obtain ⟨c, hc⟩ : ∃ c, alongC L x y s n = c := ⟨_, rfl⟩
  have HR := Lib.hid (show checkR L x y s n = (c == 0) by unfold checkR; rw [hc])
  have HC := Lib.hid (show checkC L x y s n = if c = 4 then 0 else c by unfold checkC; rw [hc])
  rw [hc] at HA
  clear hc hn hs hL
  go_enter Try.func38, Try.ntmps38
  obtain ⟨g0, c0, hb0⟩ := cell_new w L x y
  go_wp2_with fail
  refine (HA.out _).mono ?_
  rintro e w1 ⟨⟨v, rfl, -⟩, hb1⟩
  have hb2 := below_onto hb0 hb1
  clear g0 c0 hb0 hb1
  by_cases h4 : c = 4
  · have HE := Lib.hid (show checkC L x y s n = 0 by rw [HC.out, if_pos h4])
    subst h4
    go_wp2_with fail
    go_ret2
    exact ⟨by rw [HR.out, HE.out]; rfl, hb2⟩
  · have HE := Lib.hid (show checkC L x y s n = c by rw [HC.out, if_neg h4])
    have hb4 : (c == 4) = false := by simpa using h4
    clear h4
    go_wp2_with fail
    go_ret2
    exact ⟨by rw [HR.out, HE.out]; rfl, hb2⟩
end Go.Proofs.YtgmahakpmjfhhaaRR
