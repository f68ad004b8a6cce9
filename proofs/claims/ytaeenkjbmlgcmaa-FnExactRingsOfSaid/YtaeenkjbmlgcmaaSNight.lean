/- A night of the model. -/
import Derived.Test.YtaeenkjbmlgcmaaZN
import Derived.Test.YtaeenkjbmlgcmaaZG
import Derived.Test.YtaeenkjbmlgcmaaZD
import Derived.Test.YtaeenkjbmlgcmaaZR
import Derived.BigQuiet
namespace Go.Proofs.Ytaeenkjbmlgcmaa
open Go.RowKit Go.Shelf
set_option linter.unusedVariables false
set_option linter.unusedSimpArgs false
attribute [local go_sem ↓] loadRow loadGrid loadLawn loadMirror storeRow storeGrid storeLawn allocRow allocGrid allocLawn buildZero buildSides

/-- The model's state ahead of a round. -/
def stR (L : Lawn) (g : Nat → Nat → Int) (q bf : Q10) (r : Nat) (b : Q10) : Prop := (r = 0 ∧ b = q) ∨ (r = 1 ∧ b = roundQ L g q bf true q) ∨ (r = 2 ∧ roundQ L g q bf true q = q ∧ b = roundQ L g q bf false q)
theorem stR_case {L : Lawn} (hv : validB L = true) {g : Nat → Nat → Int} {q bf : Q10} {r : Nat} {b : Q10} (h : stR L g q bf r b) :
    (r < 2 ∧ b = q ∧ ∃ ex, ((r : Int) == 0) = ex ∧ stR L g q bf (r + 1) (roundQ L g q bf ex q)) ∨ (b = nextQ L g q bf ∧ ((r = 1 ∧ b ≠ q) ∨ r = 2)) := by
  have hn := rounds_next hv g q bf
  rcases h with ⟨rfl, rfl⟩ | ⟨rfl, rfl⟩ | ⟨rfl, h1, rfl⟩
  · exact .inl ⟨by omega, rfl, true, rfl, .inr (.inl ⟨rfl, rfl⟩)⟩
  · by_cases e : roundQ L g q bf true q = q
    · exact .inl ⟨by omega, e, false, rfl, .inr (.inr ⟨rfl, e, rfl⟩)⟩
    · rw [if_neg e] at hn
      exact .inr ⟨hn, .inl ⟨rfl, e⟩⟩
  · rw [if_pos h1] at hn
    exact .inr ⟨hn, .inr rfl⟩
def clQ (q : Q10) : Array Value := #[.int .i8 q.1.val, .int .i8 q.2.val]
theorem Q10_ne {a b : Q10} (h : a ≠ b) : decide ((a.1.val : Int) = b.1.val) = false ∨ (decide ((a.1.val : Int) = b.1.val) = true ∧ decide ((a.2.val : Int) = b.2.val) = false) := by
  obtain ⟨⟨x, hx⟩, ⟨y, hy⟩⟩ := a
  obtain ⟨⟨x', hx'⟩, ⟨y', hy'⟩⟩ := b
  simp only [ne_eq, Prod.mk.injEq, Fin.mk.injEq] at h
  by_cases e : x = x'
  · exact .inr ⟨by simp [e], by simp; omega⟩
  · exact .inl (by simp; omega)

theorem Q10_neq {a b : Q10} (h : ¬ a = b) : (¬ (a.1.val : Int) = b.1.val) ∨ ((a.1.val : Int) = b.1.val ∧ ¬ (a.2.val : Int) = b.2.val) := by
  rcases Q10_ne h with h | ⟨h1, h2⟩
  · exact .inl (by simpa using h)
  · exact .inr ⟨by simpa using h1, by simpa using h2⟩
theorem onlyDrewN {T : List Nat} {w0 w : World} (h : Only T w0 w) (n : Nat) : Only T w0 (w.drewN n) := ⟨h.os, h.tape, h.output, h.size, h.block⟩
theorem onlyNew {T : List Nat} {p : Nat} {w a b : World} (h1 : Only T w a) (h2 : Only [p] a b) (hp : w.heap.size ≤ p) : Only T w b :=
  ⟨h2.os.trans h1.os, h2.tape.trans h1.tape, h2.output.trans h1.output, Nat.le_trans h1.size h2.size, fun k hk ht => (h2.block k (Nat.lt_of_lt_of_le hk h1.size) (by simp; omega)).trans (h1.block k hk ht)⟩
theorem own_near {w : World} {B : Nat} {e : TypeId} {size n : Nat} {v : Value} {xs : List Value} (h : w.ownsRow B e size v n xs) (k : Nat) (hk : v.ownBlock = some k) : k < w.heap.size := by
  rcases h.2 with ⟨rfl, -⟩ | ⟨g, cap, cur, rfl, hb, hg, -⟩
  · simp [Value.ownBlock] at hk
  · simp only [Value.ownBlock, Option.some.injEq] at hk
    exact hk ▸ (Array.getElem?_eq_some_iff.1 hg).1

end Go.Proofs.Ytaeenkjbmlgcmaa
