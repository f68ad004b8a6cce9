/- A lawn's cells: whether there is one, its kind, and the codes of a lawn with a cell. KindAt, of the program and of the model. Runs of grass: one of them, by the program and by the model. All cells of a lawn, as the model lists them. CountKind and CellsOf of the model. The marks that a law writes into an answer, and the look whether they still stand there. DifferIn, of the program and of the model. -/
import Derived.Test.YtpjninnammddlaaZB
import Derived.Test.YtpjninnammddlaaZA
import Derived.Maps.AppendAt
import Derived.Maps.OwnIn
namespace Go.Proofs.Ytpjninnammddlaa
open Go.RowKit


/-- The code of a lawn with a cell. -/
def told (v f : Bool) : Int := if v then (if f then 0 else 2) else 1



end Go.Proofs.Ytpjninnammddlaa

namespace Go.Proofs.Ytpjninnammddlaa
open Go.RowKit


/-- What KindAt answers. -/
def kindAtV (L : Lawn) (x y : Int) : Value := if told (validB L) (isB L x y) = 0 then .tuple #[.int .i64 (L.kind y.toNat x.toNat), .int .i64 0] else .tuple #[.int .i64 0, .int .i64 (told (validB L) (isB L x y))]
/-- A cell of a valid lawn. -/
theorem cell_nat {L : Lawn} {x y : Int} (hv : validB L = true) (hf : isB L x y = true) : ∃ i j : Nat, i < 10 ∧ j < 10 ∧ x = i ∧ y = j := by
  obtain ⟨h1, h2, -⟩ := validB_true hv
  simp only [isB, Bool.and_eq_true] at hf
  have a := inB_true hf.1
  have b := inB_true hf.2
  exact ⟨x.toNat, y.toNat, by omega, by omega, by omega, by omega⟩



end Go.Proofs.Ytpjninnammddlaa

namespace Go.Proofs.Ytpjninnammddlaa
open Go.RowKit
set_option linter.unusedVariables false


/-- There is grass. -/
def grassB (L : Lawn) (x y : Int) : Bool := isB L x y && L.kind y.toNat x.toNat == 0
theorem grassB_in {L : Lawn} {x y : Int} (h : grassB L x y = true) : isB L x y = true := by simp only [grassB, Bool.and_eq_true] at h; exact h.1
theorem isB_in {L : Lawn} {x y : Int} (h : isB L x y = true) : 0 ≤ x ∧ x < L.wide ∧ 0 ≤ y ∧ y < L.high := by
  simp only [isB, inB, Bool.and_eq_true, decide_eq_true_eq] at h; omega
/-- The place of the i-th cell of a run. -/
def posX (across : Bool) (x : Int) (i : Nat) : Int := if across then x + i else x
def posY (across : Bool) (y : Int) (i : Nat) : Int := if across then y else y + i
/-- The step of a way. -/
def stepX (across : Bool) : Int := if across then 1 else 0
def stepY (across : Bool) : Int := if across then 0 else 1
theorem posX_zero (across : Bool) (x : Int) : posX across x 0 = x := by cases across <;> simp [posX]
theorem posY_zero (across : Bool) (x : Int) : posY across x 0 = x := by cases across <;> simp [posY]
theorem posX_succ (across : Bool) (x : Int) (i : Nat) : posX across x i + stepX across = posX across x (i + 1) := by cases across <;> simp [posX, stepX]; omega
theorem posY_succ (across : Bool) (x : Int) (i : Nat) : posY across x i + stepY across = posY across x (i + 1) := by cases across <;> simp [posY, stepY]; omega
/-- From a cell on there are n cells of grass. -/
def RunIs (L : Lawn) (across : Bool) (x y : Int) (n : Nat) : Prop := (∀ i : Nat, i < n → grassB L (posX across x i) (posY across y i) = true) ∧ grassB L (posX across x n) (posY across y n) = false
def runN (L : Lawn) (across : Bool) (x y : Int) : Nat → Nat → Nat
  | 0, i => i
  | f + 1, i => if grassB L (posX across x i) (posY across y i) then runN L across x y f (i + 1) else i
theorem runN_of (L : Lawn) (across : Bool) (x y : Int) (n : Nat) (h : RunIs L across x y n) : ∀ (f i : Nat), i ≤ n → n < i + f → runN L across x y f i = n
  | 0, i, h1, h2 => by omega
  | f + 1, i, h1, h2 => by
    by_cases e : i = n
    · subst e
      simp [runN, h.2]
    · simp only [runN, h.1 i (by omega), if_true]
      exact runN_of L across x y n h f (i + 1) (by omega) (by omega)
/-- How long the run from a cell on is. -/
def runLen (L : Lawn) (across : Bool) (x y : Int) : Nat := runN L across x y 12 0
theorem runLen_of {L : Lawn} {across : Bool} {x y : Int} {n : Nat} (h : RunIs L across x y n) (hn : n ≤ 10) : runLen L across x y = n := runN_of L across x y n h 12 0 (by omega) (by omega)
theorem grass_pos {L : Lawn} (hv : validB L = true) {across : Bool} {x y : Int} {j : Nat} (hx : 0 ≤ x) (hy : 0 ≤ y) (h : grassB L (posX across x j) (posY across y j) = true) :
    j ≤ 9 ∧ 0 ≤ posX across x j ∧ posX across x j ≤ 9 ∧ 0 ≤ posY across y j ∧ posY across y j ≤ 9 := by
  obtain ⟨h1, h2, -⟩ := validB_true hv
  have := isB_in (grassB_in h)
  cases across <;> simp [posX, posY] at this ⊢ <;> omega





/-- The value of a run. -/
def runV (x y l : Int) : Value := .agg #[.int .i8 x, .int .i8 y, .int .i8 l]

end Go.Proofs.Ytpjninnammddlaa

namespace Go.Proofs.Ytpjninnammddlaa
open Go.RowKit


/-- The cells of a list of cells, behind each other. -/
def flatV {W H : Nat} (l : List (Fin W × Fin H)) : List Value := l.flatMap fun c => [.int .i8 c.1.val, .int .i8 c.2.val]
theorem flatV_length {W H : Nat} (l : List (Fin W × Fin H)) : (flatV l).length = l.length * 2 := by
  induction l with
  | nil => rfl
  | cons a l ih => simp [flatV] at ih ⊢; omega
theorem flatV_append {W H : Nat} (l l' : List (Fin W × Fin H)) : flatV (l ++ l') = flatV l ++ flatV l' := by simp [flatV]
theorem flatV_get {W H : Nat} : ∀ (l : List (Fin W × Fin H)) (i : Nat) (c : Fin W × Fin H), l[i]? = some c → (flatV l)[i * 2]? = some (.int .i8 c.1.val) ∧ (flatV l)[i * 2 + 1]? = some (.int .i8 c.2.val)
  | [], i, c, h => by simp at h
  | a :: l, 0, c, h => by simp at h; subst h; exact ⟨rfl, rfl⟩
  | a :: l, i + 1, c, h => by
    have ih := flatV_get l i c (by simpa using h)
    simp only [flatV, List.flatMap_cons] at ih ⊢
    rw [show (i + 1) * 2 = i * 2 + 2 by omega, show i * 2 + 2 + 1 = i * 2 + 1 + 2 by omega]
    simpa using ih

theorem flatV_ints {W H : Nat} (l : List (Fin W × Fin H)) (n : Nat) (hn : l.length = n) : ∀ j, j < n * 2 → ∃ z, (flatV l)[j]? = some (.int .i8 z) := by
  intro j hj
  obtain ⟨c, hc⟩ : ∃ c, l[j / 2]? = some c := ⟨_, List.getElem?_eq_getElem (by omega)⟩
  obtain ⟨h1, h2⟩ := flatV_get _ _ _ hc
  rcases Nat.mod_two_eq_zero_or_one j with h | h
  · exact ⟨_, by rw [show j = j / 2 * 2 by omega]; exact h1⟩
  · exact ⟨_, by rw [show j = j / 2 * 2 + 1 by omega]; exact h2⟩

theorem below_own {B : Nat} {w W W' : World} {e : TypeId} {size n : Nat} {v : Value} {xs : List Value} (h : Below B w W) (ho : W.ownsRow B e size v n xs) (hg : W.grownBy W' v.ownBlock) (hB : B ≤ W.heap.size) : Below B w W' := by
  refine h.grown hg hB fun k hk => ?_
  rcases ho.2 with ⟨rfl, -⟩ | ⟨g, cap, cur, rfl, hb, -⟩
  · simp [Value.ownBlock] at hk
  · simp only [Value.ownBlock, Option.some.injEq] at hk
    exact hk ▸ hb


theorem own_cell {w : World} {B : Nat} {e : TypeId} {size n g cap : Nat} {xs : List Value} (h : w.ownsRow B e size (.slice (some ⟨g, 0, none⟩) n cap) n xs) (i : Nat) (u : Value) (hu : xs[i]? = some u) : w.cell? ⟨g, i, none⟩ = some u := by
  rcases h.2 with ⟨h0, -⟩ | ⟨g', cap', cur, he, hb, hg, hn, hm, hs, ht⟩
  · simp at h0
  · simp only [Value.slice.injEq, Option.some.injEq, Addr.mk.injEq] at he
    obtain ⟨⟨rfl, -⟩, -, rfl⟩ := he
    have hlt : i < xs.length := (List.getElem?_eq_some_iff.1 hu).1
    rw [← ht] at hu
    simp only [World.cell?, hg]
    rw [List.getElem?_take] at hu
    split at hu
    · simpa using hu
    · cases hu
theorem own_form {w : World} {B : Nat} {e : TypeId} {size n : Nat} {v : Value} {xs : List Value} (h : w.ownsRow B e size v n xs) (hn : 0 < n) : ∃ g cap, v = .slice (some ⟨g, 0, none⟩) n cap ∧ B ≤ g ∧ g < w.heap.size := by
  rcases h.2 with ⟨-, h0⟩ | ⟨g, cap, cur, he, hb, hg, -⟩
  · omega
  · exact ⟨g, cap, he, hb, (Array.getElem?_eq_some_iff.1 hg).1⟩

/-- The cells of a kind. -/
def ofKind (L : Lawn) (W H : Nat) (K : Int) : List (Fin W × Fin H) := (allC W H).filter fun c => L.kind c.2 c.1 == K
def ofKindTo (L : Lawn) (W H : Nat) (K : Int) (i : Nat) : List (Fin W × Fin H) := ((allC W H).take i).filter fun c => L.kind c.2 c.1 == K

theorem ofKindTo_hit {L : Lawn} {W H : Nat} {K : Int} {i : Nat} {c : Fin W × Fin H} (hc : (allC W H)[i]? = some c) (hk : L.kind c.2 c.1 = K) : ofKindTo L W H K (i + 1) = ofKindTo L W H K i ++ [c] := by
  unfold ofKindTo
  rw [List.take_add_one, hc]
  simp [hk]
theorem ofKindTo_miss {L : Lawn} {W H : Nat} {K : Int} {i : Nat} {c : Fin W × Fin H} (hc : (allC W H)[i]? = some c) (hk : ¬ L.kind c.2 c.1 = K) : ofKindTo L W H K (i + 1) = ofKindTo L W H K i := by
  unfold ofKindTo
  rw [List.take_add_one, hc]
  simp [hk]
theorem ofKindTo_le (L : Lawn) (W H : Nat) (K : Int) (i : Nat) : (ofKindTo L W H K i).length ≤ i := by
  unfold ofKindTo
  refine Nat.le_trans (List.length_filter_le _ _) ?_
  simp; omega

end Go.Proofs.Ytpjninnammddlaa

namespace Go.Proofs.Ytpjninnammddlaa
open Go.RowKit


/-- What CountKind answers. -/
def countV (L : Lawn) (K : Int) : Value :=
  if told (validB L) (inB K 0 3) = 0 then .tuple #[.int .i64 (ofKind L L.wide.toNat L.high.toNat K).length, .int .i64 0] else .tuple #[.int .i64 0, .int .i64 (told (validB L) (inB K 0 3))]
theorem valid_sides {L : Lawn} (h : validB L = true) : ∃ W H : Nat, (W ≤ 10 ∧ H ≤ 10) ∧ (1 ≤ W ∧ 1 ≤ H) ∧ L.wide = W ∧ L.high = H := by
  obtain ⟨h1, h2, -⟩ := validB_true h
  exact ⟨L.wide.toNat, L.high.toNat, by omega, by omega, by omega, by omega⟩

end Go.Proofs.Ytpjninnammddlaa

namespace Go.Proofs.Ytpjninnammddlaa
open Go.RowKit
set_option linter.unusedVariables false

theorem own_set {w : World} {B : Nat} {e : TypeId} {size n g cap : Nat} {xs : List Value} (h : w.ownsRow B e size (.slice (some ⟨g, 0, none⟩) n cap) n xs) (i : Nat) (u : Value) (hi : i < xs.length) :
    (w.setCell ⟨g, i, none⟩ u).ownsRow B e size (.slice (some ⟨g, 0, none⟩) n cap) n (xs.set i u) := by
  obtain ⟨hl, h2⟩ := h
  refine ⟨by simpa using hl, ?_⟩
  rcases h2 with ⟨h0, -⟩ | ⟨g', cap', cur, he, hb, hg, hn, hm, hs, ht⟩
  · simp at h0
  · simp only [Value.slice.injEq, Option.some.injEq, Addr.mk.injEq] at he
    obtain ⟨⟨rfl, -⟩, -, rfl⟩ := he
    refine .inr ⟨g, cap, cur.setIfInBounds i u, rfl, hb, heap_setCell_same w g i cur e u hg, hn, hm, by simpa using hs, ?_⟩
    rw [← ht, Array.toList_setIfInBounds, List.take_set]
theorem own_free {w : World} {B : Nat} {e : TypeId} {size n g cap : Nat} {xs : List Value} (h : w.ownsRow B e size (.slice (some ⟨g, 0, none⟩) n cap) n xs) (j : Nat) : w.frozen? ⟨g, j, none⟩ = false := by
  rcases h.2 with ⟨h0, -⟩ | ⟨g', cap', cur, he, hb, hg, -⟩
  · simp at h0
  · simp only [Value.slice.injEq, Option.some.injEq, Addr.mk.injEq] at he
    obtain ⟨⟨rfl, -⟩, -, rfl⟩ := he
    simp [World.frozen?, hg]
theorem own_lt {w : World} {B : Nat} {e : TypeId} {size n g cap : Nat} {xs : List Value} (h : w.ownsRow B e size (.slice (some ⟨g, 0, none⟩) n cap) n xs) : B ≤ g ∧ g < w.heap.size := by
  rcases h.2 with ⟨h0, -⟩ | ⟨g', cap', cur, he, hb, hg, -⟩
  · simp at h0
  · simp only [Value.slice.injEq, Option.some.injEq, Addr.mk.injEq] at he
    obtain ⟨⟨rfl, -⟩, -, rfl⟩ := he
    exact ⟨hb, (Array.getElem?_eq_some_iff.1 hg).1⟩

/-- Numbers from k on, as int8. -/
def marks8 (k m : Nat) : List Value := (List.range m).map fun j : Nat => .int .i8 (IntKind.i8.wrap ((k : Int) + j))
def marks64 (k m : Nat) : List Value := (List.range m).map fun j : Nat => .int .i64 ((k : Int) + j)
@[simp] theorem marks8_length (k m : Nat) : (marks8 k m).length = m := by simp [marks8]
@[simp] theorem marks64_length (k m : Nat) : (marks64 k m).length = m := by simp [marks64]
theorem marks8_get (k m j : Nat) (h : j < m) : (marks8 k m)[j]? = some (.int .i8 (IntKind.i8.wrap ((k : Int) + j))) := by simp [marks8, h]
theorem marks64_get (k m j : Nat) (h : j < m) : (marks64 k m)[j]? = some (.int .i64 ((k : Int) + j)) := by simp [marks64, h]
/-- A list whose first i members are marks. -/
def marked (ms xs : List Value) (i : Nat) : List Value := ms.take i ++ xs.drop i
theorem marked_length (ms xs : List Value) (i : Nat) (h : ms.length = xs.length) : (marked ms xs i).length = xs.length := by simp [marked]; omega
theorem marked_set (ms xs : List Value) (i : Nat) (u : Value) (h : ms.length = xs.length) (hi : ms[i]? = some u) : (marked ms xs i).set i u = marked ms xs (i + 1) := by
  have hlt := (List.getElem?_eq_some_iff.1 hi).1
  unfold marked
  rw [List.set_append_right _ _ (by simp; omega)]
  rw [List.take_add_one, hi]
  simp only [List.length_take, Option.toList_some, List.append_assoc]
  congr 1
  rw [show i - min i ms.length = 0 by omega, List.drop_eq_getElem_cons (by omega : i < xs.length)]
  rfl
theorem marked_all (ms xs : List Value) (h : ms.length = xs.length) : marked ms xs ms.length = ms := by simp [marked, List.drop_eq_nil_of_le (Nat.le_of_eq h.symm)]
theorem marked_none (ms xs : List Value) : marked ms xs 0 = xs := by simp [marked]

theorem own_mark {w : World} {B : Nat} {e : TypeId} {size n g cap : Nat} {ms xs : List Value} {i : Nat} {u : Value} (h : w.ownsRow B e size (.slice (some ⟨g, 0, none⟩) n cap) n (marked ms xs i)) (hl : ms.length = xs.length) (hu : ms[i]? = some u) :
    (w.setCell ⟨g, i, none⟩ u).ownsRow B e size (.slice (some ⟨g, 0, none⟩) n cap) n (marked ms xs (i + 1)) := by
  have hlt := (List.getElem?_eq_some_iff.1 hu).1
  rw [← marked_set ms xs i u hl hu]
  exact own_set h i u (by rw [marked_length _ _ _ hl]; omega)
theorem grown_set {w w' : World} {g : Nat} (h : w.grownBy w' (some g)) (i : Nat) (u : Value) : w.grownBy (w'.setCell ⟨g, i, none⟩ u) (some g) :=
  ⟨h.os, h.tape, h.output, by have := h.size; simpa using this, fun k hk hr => (Below.heap_setCell w' ⟨g, i, none⟩ u k (fun e => hr (by rw [e]))).trans (h.block k hk hr)⟩
theorem grown_refl (w : World) (row : Option Nat) : w.grownBy w row := ⟨rfl, rfl, rfl, Nat.le_refl _, fun _ _ _ => rfl⟩
theorem own_apart {w w' : World} {B B' : Nat} {e e' : TypeId} {size size' n n' : Nat} {v v' : Value} {xs xs' : List Value} (h : w.ownsRow B e size v n xs) (hs : w.heap.size ≤ B') (h' : w'.ownsRow B' e' size' v' n' xs') : v.ownBlock = none ∨ v.ownBlock ≠ v'.ownBlock := by
  cases hv : v.ownBlock with
  | none => exact .inl rfl
  | some k =>
    refine .inr fun he => ?_
    have h1 := (h.lt k hv).2
    have h2 := own_far h' k he.symm
    omega
theorem held_grown {W W' : World} {b B : Nat} {cs : Array Value} {e : TypeId} {size n : Nat} {v : Value} {xs : List Value} (h : Holds W b cs) (ho : W.ownsRow B e size v n xs) (hg : W.grownBy W' v.ownBlock) (hb : b < B) : Holds W' b cs := by
  have hl := h.lt
  obtain ⟨t, ht⟩ := h
  refine ⟨t, (hg.block b hl fun hk => ?_).trans ht⟩
  have := own_far ho b hk.symm
  omega
theorem below_marked {W W' : World} {A B : Nat} {w : World} {e : TypeId} {size n : Nat} {v : Value} {xs : List Value} (h : Below A w W) (ho : W.ownsRow B e size v n xs) (hg : W.grownBy W' v.ownBlock) (hb : A ≤ B) (hA : A ≤ W.heap.size) : Below A w W' :=
  h.grown hg hA fun k hk => Nat.le_trans hb (own_far ho k hk)
/-- The turn of a block of deferred calls leaves what is owned. -/
theorem own_putD {W : World} {D B : Nat} {o o' : Obj} {e : TypeId} {size n : Nat} {v : Value} {xs : List Value} (h : W.ownsRow B e size v n xs) (hK : W.heap[D]? = some o) (ho : o.isCells = false := by rfl) : (W.putObj D o').ownsRow B e size v n xs := by
  refine World.ownsRow.kept h (grownBy_putObj' W D o') ?_
  rcases h.2 with ⟨he, -⟩ | ⟨g, cap, cur, he, hb, hgg, -⟩
  · rw [he]; exact .inl rfl
  · rw [he]
    refine .inr fun hgD => ?_
    simp only [Value.ownBlock, Option.some.injEq] at hgD
    subst hgD
    rw [hgg] at hK
    cases hK
    cases ho
end Go.Proofs.Ytpjninnammddlaa

namespace Go.Proofs.Ytpjninnammddlaa
open Go.RowKit Go.Shelf
set_option linter.unusedVariables false
attribute [local go_sem] Oper.semAt_some


/-- Those of some cells of which p is so. -/
def filtB {W H : Nat} (p : Nat → Nat → Bool) (pre : List (Fin W × Fin H)) : List (Fin W × Fin H) := pre.filter fun c => p c.2 c.1
theorem filtB_hit {W H : Nat} {p : Nat → Nat → Bool} {pre : List (Fin W × Fin H)} {c : Fin W × Fin H} (h : p c.2 c.1 = true) : filtB p (pre ++ [c]) = filtB p pre ++ [c] := by simp [filtB, h]
theorem filtB_miss {W H : Nat} {p : Nat → Nat → Bool} {pre : List (Fin W × Fin H)} {c : Fin W × Fin H} (h : p c.2 c.1 = false) : filtB p (pre ++ [c]) = filtB p pre := by simp [filtB, h]
theorem filtB_le {W H : Nat} (p : Nat → Nat → Bool) (pre : List (Fin W × Fin H)) : (filtB p pre).length ≤ pre.length := List.length_filter_le _ _

def sideB (A B : Lawn) : Bool := A.wide == B.wide && A.high == B.high
/-- The code of DifferIn. -/
def differC (A B : Lawn) : Int := if validB A && validB B then (if sideB A B then 0 else 4) else 1
def differP (A B : Lawn) (y x : Nat) : Bool := A.kind y x != B.kind y x
def differL (A B : Lawn) : List (Fin A.wide.toNat × Fin A.high.toNat) := if differC A B = 0 then filtB (differP A B) (allC A.wide.toNat A.high.toNat) else []



theorem side_nats {L : Lawn} (hv : validB L = true) : ∃ W H : Nat, (W ≤ 10 ∧ H ≤ 10) ∧ (1 ≤ W ∧ 1 ≤ H) ∧ L.wide.toNat = W ∧ L.high.toNat = H ∧ L.wide = W ∧ L.high = H := by
  obtain ⟨h1, h2, -⟩ := validB_true hv
  exact ⟨L.wide.toNat, L.high.toNat, by omega, by omega, rfl, rfl, by omega, by omega⟩

end Go.Proofs.Ytpjninnammddlaa
