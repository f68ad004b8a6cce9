/- A night of a mole, of the program. A night, of the program: levels and mole. passNights, of the program. -/
import Derived.Test.YtaeenkjbmlgcmaaMoleP
import Derived.Test.YtaeenkjbmlgcmaaVLev
import Derived.Test.YtaeenkjbmlgcmaaZH
namespace Go.Proofs.Ytaeenkjbmlgcmaa
open Go.RowKit Go.Shelf
set_option linter.unusedVariables false
set_option linter.unusedSimpArgs false
attribute [local go_sem ↓] loadRow loadGrid loadLawn loadMirror storeRow storeGrid storeLawn allocRow allocGrid allocLawn buildZero buildSides

def moleV (q bf : Q10) : Array Value := #[.int .i8 q.1.val, .int .i8 q.2.val, .int .i8 bf.1.val, .int .i8 bf.2.val]



end Go.Proofs.Ytaeenkjbmlgcmaa

namespace Go.Proofs.Ytaeenkjbmlgcmaa
open Go.RowKit Go.Shelf
set_option linter.unusedVariables false
set_option linter.unusedSimpArgs false
attribute [local go_sem ↓] loadRow loadGrid loadLawn loadMirror storeRow storeGrid storeLawn allocRow allocGrid allocLawn buildZero buildSides

theorem results_cells2 {P : Program} {fn : Func} {p u : Tmp} {t1 t2 : TypeId} {n m : Nat} (h : fn.results = #[.cell p t1, .cell u t2]) (hw1 : wideB P t1 n = true) (hw2 : wideB P t2 m = true) (tmps : Array Value) {w : World} {g k : Nat} {cs ds : Array Value}
    (hp : tmps.getD p undef = .pointer (some ⟨g, 0, none⟩)) (hu : tmps.getD u undef = .pointer (some ⟨k, 0, none⟩)) (hg : Holds w g cs) (hn : cs.size = n) (hk : Holds w k ds) (hm : ds.size = m) : (results fn tmps).run P w = .ok (.tuple #[.agg cs, .agg ds]) w := by
  have hp' : tmps[p]?.getD undef = .pointer (some ⟨g, 0, none⟩) := by simpa using hp
  have hu' : tmps[u]?.getD undef = .pointer (some ⟨k, 0, none⟩) := by simpa using hu
  simp [results, h, hp', hu', asAddr, (wide_of hw1).loadVar hg hn, (wide_of hw2).loadVar hk hm]
theorem moleV_size (q bf : Q10) : (moleV q bf).size = 4 := rfl

end Go.Proofs.Ytaeenkjbmlgcmaa

namespace Go.Proofs.Ytaeenkjbmlgcmaa
open Go.RowKit Go.Shelf
set_option linter.unusedVariables false
set_option linter.unusedSimpArgs false
attribute [local go_sem ↓] loadRow loadGrid loadLawn loadMirror storeRow storeGrid storeLawn allocRow allocGrid allocLawn buildZero buildSides

/-- Levels, the mole's cell and the one before, behind k nights. -/
def stQ (L : Lawn) (g : Nat → Nat → Int) (q : Q10) : Nat → (Nat → Nat → Int) × Q10 × Q10
  | 0 => (g, q, q)
  | k + 1 => (nightG (stQ L g q k).1 (nextQ L (stQ L g q k).1 (stQ L g q k).2.1 (stQ L g q k).2.2), nextQ L (stQ L g q k).1 (stQ L g q k).2.1 (stQ L g q k).2.2, (stQ L g q k).2.1)
theorem stQ_fine {L : Lawn} {g : Nat → Nat → Int} (hv : levB L g = true) {q : Q10} (hq : grassP L (ptQ q) = true) : ∀ k, levB L (stQ L g q k).1 = true ∧ grassP L (ptQ (stQ L g q k).2.1) = true
  | 0 => ⟨hv, hq⟩
  | k + 1 => by
    obtain ⟨h1, h2⟩ := stQ_fine hv hq k
    have h3 := nextQ_grass (levB_true hv).1 (stQ L g q k).1 (stQ L g q k).2.1 (stQ L g q k).2.2 h2
    exact ⟨night_fine h1 h3, h3⟩
/-- The cells at which it is. -/
def pathQ (L : Lawn) (g : Nat → Nat → Int) (q : Q10) (k : Nat) : List Q10 := (List.range (k + 1)).map fun i => (stQ L g q i).2.1
theorem pathQ_zero (L : Lawn) (g : Nat → Nat → Int) (q : Q10) : pathQ L g q 0 = [q] := rfl
theorem pathQ_succ (L : Lawn) (g : Nat → Nat → Int) (q : Q10) (k : Nat) : pathQ L g q (k + 1) = pathQ L g q k ++ [(stQ L g q (k + 1)).2.1] := by
  unfold pathQ
  rw [List.range_succ, List.map_append]
  rfl
theorem pathQ_length (L : Lawn) (g : Nat → Nat → Int) (q : Q10) (k : Nat) : (pathQ L g q k).length = k + 1 := by simp [pathQ]
theorem results_cell_own {P : Program} {fn : Func} {p u : Tmp} {ty : TypeId} {n : Nat} (h : fn.results = #[.cell p ty, .tmp u]) (hw : wideB P ty n = true) (tmps : Array Value) {w : World} {g : Nat} {cs : Array Value}
    (hp : tmps.getD p undef = .pointer (some ⟨g, 0, none⟩)) (hg : Holds w g cs) (hn : cs.size = n) {v : Value} (hv : tmps.getD u undef = v) : (results fn tmps).run P w = .ok (.tuple #[.agg cs, v]) w := hv ▸ results_cell_tmp_holds h hw tmps hp hg hn

end Go.Proofs.Ytaeenkjbmlgcmaa
