/- A slice that is cut at its head and appended to at its end: where its elements lie, and what an append does. DifferIn of the model. Open cells: the program's and the model's test. The cells beside a cell, of the model. The search, of the program. StepsFrom, of the program. -/
import Derived.Test.YtaeenkjbmlgcmaaZC
import Derived.ArgAppend
import Derived.Deep.Onto
import Derived.Test.YtaeenkjbmlgcmaaZE
import Derived.Test.YtaeenkjbmlgcmaaZF
import Derived.Laws.EntriesVeiled
import Derived.Outline
namespace Go.Proofs.Ytaeenkjbmlgcmaa
open Go.RowKit
set_option linter.unusedVariables false

/-- The value v is a slice of n elements, of size cells each, that lie at some place of a block from B on that may be written. -/
def QIs (w : World) (B : Nat) (e : TypeId) (size : Nat) (v : Value) (n : Nat) (xs : List Value) : Prop :=
  ∃ g off cap cur, v = .slice (some ⟨g, off, none⟩) n cap ∧ B ≤ g ∧ w.heap[g]? = some (.cells cur e (0, 0)) ∧ n ≤ cap ∧ cap ≤ maxLen ∧ off + cap * size ≤ cur.size ∧ xs.length = n * size ∧ ∀ j u, xs[j]? = some u → cur[off + j]? = some u

section
variable {w w' : World} {B : Nat} {e : TypeId} {size n : Nat} {v : Value} {xs : List Value}
theorem QIs.of_own (h : w.ownsRow B e size v n xs) (hn : 0 < n) : QIs w B e size v n xs := by
  obtain ⟨hl, h0 | ⟨g, cap, cur, rfl, hb, hg, h1, h2, h3, h4⟩⟩ := h
  · omega
  · refine ⟨g, 0, cap, cur, rfl, hb, hg, h1, h2, by omega, hl, fun j u hu => ?_⟩
    rw [← h4, List.getElem?_take] at hu
    split at hu
    · simpa using hu
    · cases hu
theorem QIs.form (h : QIs w B e size v n xs) : ∃ g off cap, v = .slice (some ⟨g, off, none⟩) n cap ∧ n ≤ cap ∧ cap ≤ maxLen ∧ B ≤ g ∧ g < w.heap.size := by
  obtain ⟨g, off, cap, cur, rfl, hb, hg, h1, h2, -⟩ := h
  exact ⟨g, off, cap, rfl, h1, h2, hb, (Array.getElem?_eq_some_iff.1 hg).1⟩
theorem QIs.far (h : QIs w B e size v n xs) (k : Nat) (hk : v.ownBlock = some k) : B ≤ k ∧ k < w.heap.size := by
  obtain ⟨g, off, cap, rfl, -, -, h1, h2⟩ := h.form
  simp only [Value.ownBlock, Option.some.injEq] at hk
  omega
theorem QIs.keep {row : Option Nat} (h : QIs w B e size v n xs) (hg : w.grownBy w' row) (hne : v.ownBlock ≠ row) : QIs w' B e size v n xs := by
  obtain ⟨g, off, cap, cur, rfl, hb, hc, r⟩ := h
  exact ⟨g, off, cap, cur, rfl, hb, (hg.block g (Array.getElem?_eq_some_iff.1 hc).1 hne).trans hc, r⟩
theorem QIs.below (h : QIs w B e size v n xs) (hb : Below w.heap.size w w') : QIs w' B e size v n xs := by
  obtain ⟨g, off, cap, cur, rfl, hB, hc, r⟩ := h
  exact ⟨g, off, cap, cur, rfl, hB, (hb.block g (Array.getElem?_eq_some_iff.1 hc).1).trans hc, r⟩
theorem QIs.other (h : QIs w B e size v n xs) (hb : ∀ k, k < w.heap.size → B ≤ k → w'.heap[k]? = w.heap[k]?) : QIs w' B e size v n xs := by
  obtain ⟨g, off, cap, cur, rfl, hB, hc, r⟩ := h
  exact ⟨g, off, cap, cur, rfl, hB, (hb g (Array.getElem?_eq_some_iff.1 hc).1 hB).trans hc, r⟩
theorem QIs.cell {g off cap : Nat} (h : QIs w B e size (.slice (some ⟨g, off, none⟩) n cap) n xs) (j : Nat) (u : Value) (hu : xs[j]? = some u) : w.cell? ⟨g, off + j, none⟩ = some u := by
  obtain ⟨g', off', cap', cur, he, hB, hc, -, -, -, -, hx⟩ := h
  simp only [Value.slice.injEq, Option.some.injEq, Addr.mk.injEq] at he
  obtain ⟨⟨rfl, rfl, -⟩, -, rfl⟩ := he
  simp [World.cell?, hc, hx j u hu]
/-- The first element is cut off. -/
theorem QIs.cut {g off cap : Nat} (h : QIs w B e size (.slice (some ⟨g, off, none⟩) (n + 1) cap) (n + 1) xs) (h1 : 1 < cap) : QIs w B e size (.slice (some ⟨g, off + size, none⟩) n (cap - 1)) n (xs.drop size) := by
  obtain ⟨g', off', cap', cur, he, hB, hc, a1, a2, a3, a4, hx⟩ := h
  simp only [Value.slice.injEq, Option.some.injEq, Addr.mk.injEq] at he
  obtain ⟨⟨rfl, rfl, -⟩, -, rfl⟩ := he
  refine ⟨g, off + size, cap - 1, cur, rfl, hB, hc, by omega, by omega, ?_, ?_, fun j u hu => ?_⟩
  · obtain ⟨c, rfl⟩ : ∃ c, cap = c + 1 := ⟨cap - 1, by omega⟩
    rw [Nat.add_mul] at a3
    simp; omega
  · rw [List.length_drop, a4, Nat.add_mul]; omega
  · rw [List.getElem?_drop] at hu
    rw [Nat.add_assoc]
    exact hx _ _ hu
theorem QIs.cutLast {g off cap : Nat} (h : QIs w B e size (.slice (some ⟨g, off, none⟩) (n + 1) cap) (n + 1) xs) (h1 : cap = 1) : n = 0 ∧ QIs w B e size (.slice (some ⟨g, off, none⟩) 0 0) 0 [] := by
  obtain ⟨g', off', cap', cur, he, hB, hc, a1, a2, a3, a4, hx⟩ := h
  simp only [Value.slice.injEq, Option.some.injEq, Addr.mk.injEq] at he
  obtain ⟨⟨rfl, rfl, -⟩, -, rfl⟩ := he
  exact ⟨by omega, g, off, 0, cur, rfl, hB, hc, by omega, by omega, by omega, by simp, fun j u hu => by simp at hu⟩
end

theorem heap_setCells_same (g : Nat) (t : TypeId) : ∀ (news : List Value) (i : Nat) (cur : Array Value) (w : World), w.heap[g]? = some (.cells cur t (0, 0)) →
    ∃ cur', (w.setCells g i news).heap[g]? = some (.cells cur' t (0, 0)) ∧ cur'.size = cur.size ∧ (∀ j, j < news.length → i + j < cur.size → cur'[i + j]? = news[j]?) ∧ ∀ j, j < i → cur'[j]? = cur[j]?
  | [], i, cur, w, h => ⟨cur, h, rfl, fun j hj => by simp at hj, fun _ _ => rfl⟩
  | u :: news, i, cur, w, h => by
    obtain ⟨cur', h1, h2, h3, h4⟩ := heap_setCells_same g t news (i + 1) _ _ (heap_setCell_same w g i cur t u h)
    refine ⟨cur', h1, by rw [h2]; simp, fun j hj hc => ?_, fun j hj => ?_⟩
    · cases j with
      | zero =>
        rw [Nat.add_zero] at hc ⊢
        rw [h4 i (by omega)]
        simp [hc]
      | succ j =>
        have := h3 j (by simpa using hj) (by simp; omega)
        rw [show i + (j + 1) = i + 1 + j by omega, this]
        simp
    · rw [h4 j (by omega), Array.getElem?_setIfInBounds, if_neg (by omega)]
theorem grown_setCells {w : World} {g : Nat} : ∀ (news : List Value) (i : Nat) (w' : World), w.grownBy w' (some g) → w.grownBy (w'.setCells g i news) (some g)
  | [], _, _, h => h
  | u :: news, i, w', h => grown_setCells news (i + 1) _ (grown_set h i u)

section
variable {P : Program}
theorem run_append_q {w : World} {B : Nat} {e : TypeId} {size n : Nat} {v : Value} {xs : List Value} (h : QIs w B e size v n xs) (hB : B ≤ w.heap.size)
    (t ty : TypeId) (i : TypeInfo) (z : Value) (bytes : Nat) (ht : P.underlying t = some (.slice e)) (hi : P.info? e = some i) (hz : i.zero = some z) (hsize : i.size = size) (hby : i.bytes = bytes) (hzs : z.cells.size = size) (hsz : 0 < size)
    (ad : Addr) (c : Nat) (news : List Value) (hl : news.length = 1 * size) (hnews : ∀ j u, news[j]? = some u → w.cell? (ad.add j) = some u) (h1 : ∀ u ∈ news, u.oneCell' = true)
    (h63 : n + 1 ≤ maxLen) (hbytes : (n + 1) * bytes ≤ 140737488355328) :
    ∃ v' w', (Builtin.append_ #[t, t] ty #[v, .slice (some ad) 1 c]).run P w = .ok v' w' ∧ QIs w' B e size v' (n + 1) (xs ++ news) ∧ w.grownBy w' v.ownBlock ∧ (v'.ownBlock = v.ownBlock ∨ ∀ k, v'.ownBlock = some k → w.heap.size ≤ k) := by
  subst hsize
  obtain ⟨g, off, cap, cur, rfl, hg, hc, a1, a2, a3, a4, hx⟩ := h
  have hcell : ∀ j, w.cell? ⟨g, j, none⟩ = cur[j]? := fun j => by simp [World.cell?, hc]
  by_cases hr : n + 1 ≤ cap
  · have hm : (n + 1) * i.size ≤ cap * i.size := Nat.mul_le_mul_right _ hr
    rw [Nat.add_mul, Nat.one_mul] at hm
    have hrun := run_append_room_cells (P := P) w t ty e i ht hi g off n cap ad 1 c news hl hnews h1 hr
      (fun j hj => by rw [hcell]; have : off + n * i.size + j < cur.size := by omega
                      simp [this])
      (fun j hj => by simp [World.frozen?, hc])
    obtain ⟨cur', b1, b2, b3, b4⟩ := heap_setCells_same g e news (off + n * i.size) cur w hc
    refine ⟨_, _, hrun, ⟨g, off, cap, cur', rfl, hg, b1, hr, a2, by omega, by rw [List.length_append, a4, hl, Nat.add_mul], fun j u hu => ?_⟩, grown_setCells news _ w (grown_refl w _), .inl rfl⟩
    by_cases hj : j < xs.length
    · rw [List.getElem?_append_left hj] at hu
      rw [b4 _ (by omega)]
      exact hx j u hu
    · rw [List.getElem?_append_right (by omega)] at hu
      have hjn := (List.getElem?_eq_some_iff.1 hu).1
      have := b3 (j - xs.length) hjn (by omega)
      rw [show off + n * i.size + (j - xs.length) = off + j by omega] at this
      rw [this, hu]
  · obtain ⟨v', w', hrun, r1, r2⟩ := run_append_arg_grows (P := P) w t ty e i z i.size bytes ht hi hz rfl hby hzs hsz ⟨g, off, none⟩ n cap xs a4
      (fun j u hu => by rw [Addr.add_lit, hcell]; exact hx j u hu) ad 1 c news hl hnews (by omega) h63 hbytes
    refine ⟨v', w', hrun, QIs.of_own (r1.mono hB) (by omega), ⟨r2.os, r2.tape, r2.output, r2.size, fun k hk _ => r2.block k hk (by simp)⟩, .inr fun k hk => (r1.lt k hk).1⟩

theorem wpList_append_q (w : World) {ops : Array Oper} {rest : List Oper} {o : Oper} {a : Act} {Q : Exit → Act → World → Prop} (hgd : o.guard = none) (s x : Operand) (t : TypeId)
    (ho : o.op = .call { callee := .builtin .append, args := #[s, x], argTypes := #[t, t] })
    {B : Nat} {e : TypeId} {size n : Nat} {v : Value} {xs : List Value} (hs : a.eval s = v) (h : QIs w B e size v n xs) (hB : B ≤ w.heap.size)
    (i : TypeInfo) (z : Value) (bytes : Nat) (ht : P.underlying t = some (.slice e)) (hi : P.info? e = some i) (hz : i.zero = some z) (hsize : i.size = size) (hby : i.bytes = bytes) (hzs : z.cells.size = size) (hsz : 0 < size)
    (ad : Addr) (c : Nat) (news : List Value) (hx : a.eval x = .slice (some ad) 1 c) (hl : news.length = 1 * size) (hnews : ∀ j u, news[j]? = some u → w.cell? (ad.add j) = some u) (h1 : ∀ u ∈ news, u.oneCell' = true)
    (h63 : n + 1 ≤ maxLen) (hbytes : (n + 1) * bytes ≤ 140737488355328)
    (hK : ∀ v' w', QIs w' B e size v' (n + 1) (xs ++ news) → w.grownBy w' v.ownBlock → (v'.ownBlock = v.ownBlock ∨ ∀ k, v'.ownBlock = some k → w.heap.size ≤ k) → wpList P ops Q rest (a.put o.dst v') w') : wpList P ops Q (o :: rest) a w := by
  refine wpList_plain hgd fun K hK' => ?_
  obtain ⟨v', w', hrun, r1, r2, r3⟩ := run_append_q (P := P) h hB t o.type i z bytes ht hi hz hsize hby hzs hsz ad c news hl hnews h1 h63 hbytes
  unfold Oper.wp
  simp [execOp, ho, resolve, invoke, builtin, hs, hx, hrun, Result.andThen]
  exact hK' _ _ (hK v' w' r1 r2 r3)
end
end Go.Proofs.Ytaeenkjbmlgcmaa

namespace Go.Proofs.Ytaeenkjbmlgcmaa
open Go.RowKit
set_option linter.unusedVariables false
attribute [local go_sem ↓] loadRow loadGrid loadLawn loadMirror storeRow storeGrid storeLawn allocRow allocGrid allocLawn buildZero buildSides


end Go.Proofs.Ytaeenkjbmlgcmaa

namespace Go.Proofs.Ytaeenkjbmlgcmaa
open Go.RowKit
set_option linter.unusedVariables false
attribute [local go_sem ↓] loadRow loadGrid loadLawn loadMirror storeRow storeGrid storeLawn allocRow allocGrid allocLawn buildZero buildSides

/-- Whether a cell is one of grass or of path. -/
def openB (L : Lawn) (x y : Int) : Bool := isB L x y && (L.kind y.toNat x.toNat == 0 || L.kind y.toNat x.toNat == 3)

set_option maxRecDepth 100000 in
set_option maxHeartbeats 1000000 in
theorem isOpen_any (L : Lawn) (hv : validB L = true) (hL : L.Fits) (x y : Int) (w : World) :
    Calls Try.prog 78 #[.agg L.cells, .agg #[.int .i8 x, .int .i8 y]] w fun e w' => e = .returned (.bool (openB L x y)) ∧ Below w.heap.size w w' := by
  cases hg : grassB L x y
  case true =>
    have e : openB L x y = true := by
      simp only [grassB, Bool.and_eq_true] at hg
      simp only [openB, hg.1, hg.2, Bool.true_or, Bool.and_self]
    rw [e]
    have HG := Lib.hid (isGrass_is L hv hL x y true hg)
    clear e hg hv hL
    go_enter Try.func78, Try.ntmps78
    obtain ⟨g0, c0, hb0⟩ := cell_new w L x y
    go_wp2_with fail
    refine (HG.out _).mono ?_
    rintro e w1 ⟨rfl, hb1⟩
    have hb2 := below_onto hb0 hb1
    clear hb0 hb1 g0 c0
    go_wp2_with fail
    go_ret
    exact ⟨rfl, hb2⟩
  case false =>
    have HG := Lib.hid (isGrass_is L hv hL x y false hg)
    cases hi : isB L x y
    case false =>
      have e : openB L x y = false := by simp [openB, hi]
      rw [e]
      have HB := Lib.hid (has_is L x y · false hi)
      clear e hg hi hv hL
      go_enter Try.func78, Try.ntmps78
      obtain ⟨g0, c0, hb0⟩ := cell_new w L x y
      go_wp2_with fail
      refine (HG.out _).mono ?_
      rintro e w1 ⟨rfl, hb1⟩
      have hb2 := below_onto hb0 hb1
      have g1 := g0.below hb1 g0.lt
      have c1 := c0.below hb1 c0.lt
      clear hb0 hb1 g0 c0
      obtain ⟨r1, -⟩ := g1.facts
      obtain ⟨-, -, d1, -⟩ := c1.facts
      go_wp2_with fail
      refine (HB.out _).mono ?_
      rintro e w2 ⟨rfl, hb1⟩
      have hb3 := below_onto hb2 hb1
      clear hb2 hb1 g1 c1 r1 d1
      go_wp2_with fail
      go_ret
      exact ⟨rfl, hb3⟩
    case true =>
      have HB := Lib.hid (has_is L x y · true hi)
      obtain ⟨i, j, hi10, hj10, rfl, rfl⟩ := cell_nat hv hi
      have e : openB L i j = (L.kind j i == 3) := by
        simp only [grassB, hi, Bool.true_and, Int.toNat_natCast] at hg
        simp only [openB, hi, hg, Bool.true_and, Bool.false_or, Int.toNat_natCast]
      rw [e]
      have HK := Lib.hid (kind_any L i j hi10 hj10)
      clear e hg hi hv hL
      go_enter Try.func78, Try.ntmps78
      obtain ⟨g0, c0, hb0⟩ := cell_new w L i j
      go_wp2_with fail
      refine (HG.out _).mono ?_
      rintro e w1 ⟨rfl, hb1⟩
      have hb2 := below_onto hb0 hb1
      have g1 := g0.below hb1 g0.lt
      have c1 := c0.below hb1 c0.lt
      clear hb0 hb1 g0 c0
      obtain ⟨r1, -⟩ := g1.facts
      obtain ⟨-, -, d1, -⟩ := c1.facts
      go_wp2_with fail
      refine (HB.out _).mono ?_
      rintro e w2 ⟨rfl, hb1⟩
      have hb3 := below_onto hb2 hb1
      have g2 := g1.below hb1 g1.lt
      have c2 := c1.below hb1 c1.lt
      clear hb2 hb1 g1 c1 r1 d1
      obtain ⟨r1, -⟩ := g2.facts
      obtain ⟨-, -, d1, -⟩ := c2.facts
      go_wp2_with fail
      refine (HK.out _).mono ?_
      rintro e w3 ⟨rfl, hb1⟩
      have hb4 := below_onto hb3 hb1
      clear hb3 hb1 g2 c2 r1 d1
      go_wp2_with fail
      go_ret
      exact ⟨rfl, hb4⟩

set_option maxRecDepth 100000 in
set_option maxHeartbeats 1000000 in
theorem open_any (L : Lawn) (hL : L.Fits) (b : Nat) (x y : Nat) (hx : x < 10) (hy : y < 10) (w : World) (h : Holds w b L.cells) :
    Calls Try.prog 59 #[.pointer (some ⟨b, 0, none⟩), .agg #[.int .i8 x, .int .i8 y]] w fun e w' => e = .returned (.bool (L.kind y x == 0 || L.kind y x == 3)) ∧ Below w.heap.size w w' := by
  have h1 := h.alloc (.cells #[.int .i8 x, .int .i8 y] 37)
  have HA := Lib.hid (fun w h => at_any L hL b x y hx hy w h)
  have hb0 := (Below.refl w.heap.size w).alloc (Nat.le_refl _) (.cells #[.int .i8 x, .int .i8 y] 37)
  have c0 := Holds.new w #[.int .i8 x, .int .i8 y] 37
  clear h hx hy hL
  cases hk : (L.kind y x == 0)
  case true =>
    rw [Bool.true_or]
    go_enter Try.func59, Try.ntmps59
    go_wp2_with fail
    refine (HA.out _ h1).mono ?_
    rintro e w1 ⟨rfl, hb1⟩
    have hb2 := below_onto hb0 hb1
    have h2 := h1.below hb1 h1.lt
    have c1 := c0.below hb1 c0.lt
    clear hb0 hb1 h1 c0
    go_wp2_with fail
    go_ret
    exact ⟨rfl, hb2⟩
  case false =>
    rw [Bool.false_or]
    go_enter Try.func59, Try.ntmps59
    go_wp2_with fail
    refine (HA.out _ h1).mono ?_
    rintro e w1 ⟨rfl, hb1⟩
    have hb2 := below_onto hb0 hb1
    have h2 := h1.below hb1 h1.lt
    have c1 := c0.below hb1 c0.lt
    clear hb0 hb1 h1 c0
    obtain ⟨-, -, d1, -⟩ := c1.facts
    go_wp2_with fail
    refine (HA.out _ h2).mono ?_
    rintro e w2 ⟨rfl, hb1⟩
    have hb3 := below_onto hb2 hb1
    clear hb2 hb1 h2 c1 d1
    go_wp2_with fail
    go_ret
    exact ⟨rfl, hb3⟩
end Go.Proofs.Ytaeenkjbmlgcmaa

namespace Go.Proofs.Ytaeenkjbmlgcmaa
open Go.RowKit
set_option linter.unusedVariables false
attribute [local go_sem ↓] loadRow loadGrid loadLawn loadMirror storeRow storeGrid storeLawn allocRow allocGrid allocLawn buildZero buildSides

def flatP (l : List Pt) : List Value := l.flatMap fun c => [.int .i8 c.1, .int .i8 c.2]
theorem flatP_length (l : List Pt) : (flatP l).length = l.length * 2 := by
  induction l with
  | nil => rfl
  | cons a l ih => simp [flatP] at ih ⊢; omega
theorem flatP_append (l l' : List Pt) : flatP (l ++ l') = flatP l ++ flatP l' := by simp [flatP]
theorem flatP_get : ∀ (l : List Pt) (i : Nat) (c : Pt), l[i]? = some c → (flatP l)[i * 2]? = some (.int .i8 c.1) ∧ (flatP l)[i * 2 + 1]? = some (.int .i8 c.2)
  | [], i, c, h => by simp at h
  | a :: l, 0, c, h => by simp at h; subst h; exact ⟨rfl, rfl⟩
  | a :: l, i + 1, c, h => by
    have ih := flatP_get l i c (by simpa using h)
    simp only [flatP, List.flatMap_cons] at ih ⊢
    rw [show (i + 1) * 2 = i * 2 + 2 by omega, show i * 2 + 2 + 1 = i * 2 + 1 + 2 by omega]
    simpa using ih
/-- The first k cells beside one, those that the lawn has. -/
def besideK (L : Lawn) (x y : Int) (k : Nat) : List Pt := ((beside (x, y)).take k).filter fun c => isB L c.1 c.2
theorem besideK_le (L : Lawn) (x y : Int) (k : Nat) : (besideK L x y k).length ≤ 4 := by
  unfold besideK
  refine Nat.le_trans (List.length_filter_le _ _) ?_
  simp [beside]; omega
theorem besideK_hit {L : Lawn} {x y : Int} {k : Nat} {c : Pt} (h : (beside (x, y))[k]? = some c) (hi : isB L c.1 c.2 = true) : besideK L x y (k + 1) = besideK L x y k ++ [c] := by
  unfold besideK
  rw [List.take_add_one, h, Option.toList_some, List.filter_append]
  simp [hi]
theorem besideK_miss {L : Lawn} {x y : Int} {k : Nat} {c : Pt} (h : (beside (x, y))[k]? = some c) (hi : isB L c.1 c.2 = false) : besideK L x y (k + 1) = besideK L x y k := by
  unfold besideK
  rw [List.take_add_one, h, Option.toList_some, List.filter_append]
  simp [hi]
theorem beside_in {x y : Int} (x0 : 0 ≤ x) (x1 : x ≤ 9) (y0 : 0 ≤ y) (y1 : y ≤ 9) {c : Pt} (h : c ∈ beside (x, y)) : (-1 ≤ c.1 ∧ c.1 ≤ 10) ∧ -1 ≤ c.2 ∧ c.2 ≤ 10 := by
  simp only [beside, List.mem_cons, List.not_mem_nil, or_false] at h
  rcases h with rfl | rfl | rfl | rfl <;> simp only <;> omega

set_option maxRecDepth 100000 in
set_option maxHeartbeats 2000000 in
theorem beside_any (L : Lawn) (hL : L.Fits) (b : Nat) (x y : Int) (x0 : 0 ≤ x) (x1 : x ≤ 9) (y0 : 0 ≤ y) (y1 : y ≤ 9) (w : World) (h : Holds w b L.cells) :
    Calls Try.prog 84 #[.pointer (some ⟨b, 0, none⟩), .agg #[.int .i8 x, .int .i8 y]] w fun e w' => ∃ v, e = .returned v ∧ w'.ownsRow w.heap.size 37 2 v (besideK L x y 4).length (flatP (besideK L x y 4)) ∧ Below w.heap.size w w' := by
  obtain ⟨i0, hi, hz0, hz1, hz2⟩ := info_parts cellInfo
  have HI := Lib.hid (show Try.prog.info? 37 = some i0 ∧ i0.zero = some (.agg #[.int .i8 0, .int .i8 0]) ∧ i0.size = 2 ∧ i0.bytes = 2 from ⟨hi, hz0, hz1, hz2⟩)
  have HIS := Lib.hid (fun (c : Pt) (h0 : (-1 ≤ c.1 ∧ c.1 ≤ 10) ∧ -1 ≤ c.2 ∧ c.2 ≤ 10) (v : Bool) (hv : isB L c.1 c.2 = v) (w : World) (h : Holds w b L.cells) => l01Is_is L hL b c.1 c.2 w h (by omega) (by omega) (by omega) (by omega) v hv)
  have HBI := Lib.hid (fun (c : Pt) (h : c ∈ beside (x, y)) => beside_in x0 x1 y0 y1 h)
  have hbw := h.lt
  have H0 := Lib.hid h
  clear hi hz0 hz1 hz2 h
  go_enter Try.func84, Try.ntmps84
  go_wp2_with fail
  have hm : (((w.alloc (.cells #[.int .i8 x, .int .i8 y] 37)).alloc (.cells (flatP (beside (x, y))).toArray 37)).alloc (.cells #[] 37)).ownsRow (w.heap.size + 1 + 1) 37 2 (.slice (some ⟨w.heap.size + 1 + 1, 0, none⟩) 0 0) 0 [] := by
    have := World.ownsRow_made (e := 37) (size := 2) ((w.alloc (.cells #[.int .i8 x, .int .i8 y] 37)).alloc (.cells (flatP (beside (x, y))).toArray 37)) #[] 0 (Nat.le_refl _) (by simp [maxLen]) rfl
    simpa using this
  have h1 : Holds (((w.alloc (.cells #[.int .i8 x, .int .i8 y] 37)).alloc (.cells (flatP (beside (x, y))).toArray 37)).alloc (.cells #[] 37)) (w.heap.size + 1) (flatP (beside (x, y))).toArray := (Holds.new' _ _ _ _ (by simp)).alloc _
  have h0 : Holds (((w.alloc (.cells #[.int .i8 x, .int .i8 y] 37)).alloc (.cells (flatP (beside (x, y))).toArray 37)).alloc (.cells #[] 37)) b L.cells := ((H0.out.alloc _).alloc _).alloc _
  have hb0 : Below w.heap.size w (((w.alloc (.cells #[.int .i8 x, .int .i8 y] 37)).alloc (.cells (flatP (beside (x, y))).toArray 37)).alloc (.cells #[] 37)) := (((Below.refl w.heap.size w).alloc (Nat.le_refl _) _).alloc (by simp) _).alloc (by simp; omega) _
  simp only [flatP, beside, List.flatMap_cons, List.flatMap_nil, List.cons_append, List.nil_append, List.append_nil] at hm h1 h0 hb0
  obtain ⟨s, hs⟩ : ∃ s, w.heap.size = s := ⟨_, rfl⟩
  generalize (((w.alloc (.cells #[.int .i8 x, .int .i8 y] 37)).alloc (.cells _ 37)).alloc (.cells #[] 37)) = W0 at hm h1 h0 hb0 ⊢
  rw [hs] at hm h1 hb0 hbw ⊢
  have h1 : Holds W0 (s + 1) (flatP (beside (x, y))).toArray := h1
  have HS := Lib.hid hs
  clear hs H0
  go_loopw [6, 7] (fun v q wr => ∃ k : Nat, k ≤ 4 ∧ q = .int .i64 k ∧ wr.ownsRow (s + 1 + 1) 37 2 v (besideK L x y k).length (flatP (besideK L x y k)) ∧ Holds wr b L.cells ∧ Holds wr (s + 1) (flatP (beside (x, y))).toArray ∧ Below s w wr) (fun _ q _ => 4 - (intOf q).toNat)
  case atStart => exact ⟨0, by omega, rfl, hm, h0, h1, hb0⟩
  case round =>
    obtain ⟨k, hk, rfl, ho, k0, k1, hb⟩ := hrel
    have HO := Lib.hid ho
    clear ho hm h0 h1 hb0
    have hsz := k1.lt
    by_cases hlt : k < 4
    · have hd : decide ((k : Int) < (4 : Int)) = true := by simp; omega
      obtain ⟨c, hc⟩ : ∃ c, (beside (x, y))[k]? = some c := ⟨_, List.getElem?_eq_getElem (by simpa [beside] using hlt)⟩
      have HC := Lib.hid hc
      have hcb := HBI.out c (List.mem_of_getElem? hc)
      obtain ⟨fa, fb⟩ := flatP_get _ _ _ hc
      have FF := Lib.hid (show ∀ w', Holds w' (s + 1) (flatP (beside (x, y))).toArray → w'.cell? ⟨s + 1, k * 2, none⟩ = some (.int .i8 c.1) ∧ w'.cell? ⟨s + 1, k * 2 + 1, none⟩ = some (.int .i8 c.2) from fun w' h =>
        ⟨by rw [h.cell, List.getElem?_toArray, fa], by rw [h.cell, List.getElem?_toArray, fb]⟩)
      obtain ⟨ca, cb⟩ := FF.out _ k1
      have HCB := Lib.hid hcb
      clear hc fa fb hcb
      go_wp2_with fail
      cases hin : isB L c.1 c.2
      case true =>
        refine (HIS.out c HCB.out true hin _ k0).mono ?_
        rintro e w2 ⟨rfl, hb1⟩
        have p0 := k0.below hb1 k0.lt
        have p1 := k1.below hb1 k1.lt
        have hb4 : Below s w w2 := hb.trans (hb1.mono (by omega))
        have HO2 := Lib.hid (own_below HO.out hb1)
        have hs2 := p1.lt
        clear ca cb k0 k1 hb hb1 HO
        obtain ⟨ca, cb⟩ := FF.out _ p1
        have HIN := Lib.hid hin
        have hle := besideK_le L x y k
        clear hin
        go_wp2_with (at_builtin; refine wpList_append_own_at _ rfl _ _ 45 rfl (s + 1 + 1) 37 i0 (.agg #[.int .i8 0, .int .i8 0]) 2 2 Try.underlying45 HI.out.1 HI.out.2.1 HI.out.2.2.1 HI.out.2.2.2 rfl (by decide) _ _ _ rfl (HO2.out.alloc _) ⟨w2.heap.size, 0, none⟩ 1 1 [.int .i8 c.1, .int .i8 c.2] rfl rfl ?c1 ?c2 ?c3 ?c4 ?c5 ?_)
        case c1 =>
          intro m u hu
          match m, hu with
          | 0, hu => simp at hu; subst hu; exact (Holds.new w2 #[.int .i8 c.1, .int .i8 c.2] 37).cell 0
          | 1, hu => simp at hu; subst hu; exact (Holds.new w2 #[.int .i8 c.1, .int .i8 c.2] 37).cell 1
        case c2 => intro u hu; simp at hu; rcases hu with rfl | rfl <;> rfl
        case c3 => unfold maxLen; omega
        case c4 => omega
        case c5 => simp; omega
        intro v' w3 hown' hgrow _ hat
        have hb5 : Below s w w3 := (hb4.alloc (by omega) _).grown hgrow (by simp; omega) (fun k hk => by have := own_far HO2.out k hk; omega)
        have ho3 : w3.ownsRow (s + 1 + 1) 37 2 v' (besideK L x y (k + 1)).length (flatP (besideK L x y (k + 1))) := by
          rw [besideK_hit HC.out HIN.out, flatP_append, List.length_append]
          exact hown'
        have r0 := held_grown (p0.alloc (.cells #[.int .i8 c.1, .int .i8 c.2] 37)) (HO2.out.alloc _) hgrow (by omega)
        have r1 := held_grown (p1.alloc (.cells #[.int .i8 c.1, .int .i8 c.2] 37)) (HO2.out.alloc _) hgrow (by omega)
        have HO3 := Lib.hid ho3
        clear hown' hgrow ho3 hat ca cb hb4 p0 p1
        go_wp2_with fail
        go_roundw
        case rel => exact ⟨k + 1, by omega, by go_num, HO3.out, r0, r1, hb5⟩
        case measure => simp [intOf]; omega
      case false =>
        refine (HIS.out c HCB.out false hin _ k0).mono ?_
        rintro e w2 ⟨rfl, hb1⟩
        have p0 := k0.below hb1 k0.lt
        have p1 := k1.below hb1 k1.lt
        have hb4 : Below s w w2 := hb.trans (hb1.mono (by omega))
        have HO2 := Lib.hid (own_below HO.out hb1)
        rw [← besideK_miss HC.out hin] at HO2
        clear ca cb k0 k1 hb hb1 HO hin
        go_wp2_with fail
        go_roundw
        case rel => exact ⟨k + 1, by omega, by go_num, HO2.out, p0, p1, hb4⟩
        case measure => simp [intOf]; omega
    · obtain rfl : k = 4 := by omega
      have hd : decide (((4 : Nat) : Int) < (4 : Int)) = false := by decide
      obtain ⟨av, cv, rfl⟩ := own_slice HO.out
      go_wp2_with fail
      go_ret
      exact ⟨_, rfl, ownsRow_low HO.out (by have := HS.out; omega), HS.out ▸ hb⟩
end Go.Proofs.Ytaeenkjbmlgcmaa

namespace Go.Proofs.Ytaeenkjbmlgcmaa
open Go.RowKit
set_option linter.unusedVariables false
attribute [local go_sem ↓] loadRow loadGrid loadLawn loadMirror storeRow storeGrid storeLawn allocRow allocGrid allocLawn buildZero buildSides

/-- The functions of the sides. -/
def sideN (k : Nat) : Nat := if k = 0 then 135 else if k = 1 then 137 else if k = 2 then 138 else 136
def sideF (k : Nat) : Value := .func (.func (sideN k)) #[] #[]
def sidesV : Array Value := #[sideF 0, sideF 1, sideF 2, sideF 3]
theorem sides_any (w : World) : Calls Try.prog 112 #[] w fun e w' => e = .returned (.agg sidesV) ∧ Below w.heap.size w w' := by
  go_enter Try.func112, Try.ntmps112
  go_wp2_with fail
  exact bodyPost_ret (results_cell_holds (n := 4) rfl (by kernel_rfl) _ rfl (Holds.new' _ _ _ w.heap.size rfl) rfl) rfl ⟨rfl, (Below.refl _ _).alloc (Nat.le_refl _) _⟩
theorem side_any (k : Nat) (hk : k < 4) (c d : Pt) (hd : (beside c)[k]? = some d) (h : (0 ≤ c.1 ∧ c.1 < 10) ∧ 0 ≤ c.2 ∧ c.2 < 10) (w : World) :
    Calls Try.prog (sideN k) #[.agg #[.int .i8 c.1, .int .i8 c.2]] w fun e w' => e = .returned (.agg #[.int .i8 d.1, .int .i8 d.2]) ∧ Below w.heap.size w w' := by
  match k, hk with
  | 0, _ => simp only [beside, List.getElem?_cons_zero, Option.some.injEq] at hd; subst hd; exact north_any _ _ (by omega) (by omega) w
  | 1, _ => simp only [beside, List.getElem?_cons_succ, List.getElem?_cons_zero, Option.some.injEq] at hd; subst hd; exact west_any _ _ (by omega) (by omega) w
  | 2, _ => simp only [beside, List.getElem?_cons_succ, List.getElem?_cons_zero, Option.some.injEq] at hd; subst hd; exact east_any _ _ (by omega) (by omega) w
  | 3, _ => simp only [beside, List.getElem?_cons_succ, List.getElem?_cons_zero, Option.some.injEq] at hd; subst hd; exact south_any _ _ (by omega) (by omega) w
theorem side_enters (k : Nat) (hk : k < 4) (args : Array Value) (w : World) : (callFunc (sideN k) args).run Try.prog w = .ok (.enter (sideN k) args) w := by
  match k, hk with
  | 0, _ => exact enters_of Try.func135 (by kernel_rfl) rfl args w
  | 1, _ => exact enters_of Try.func137 (by kernel_rfl) rfl args w
  | 2, _ => exact enters_of Try.func138 (by kernel_rfl) rfl args w
  | 3, _ => exact enters_of Try.func136 (by kernel_rfl) rfl args w
theorem sides_index0 (w : World) : (Instr.index 176 (.agg sidesV) (.int .i64 ((0 : Nat) : Int))).run Try.prog w = .ok (.func (.func (sideN 0)) #[] #[]) w := by kernel_rfl
theorem sides_index1 (w : World) : (Instr.index 176 (.agg sidesV) (.int .i64 ((1 : Nat) : Int))).run Try.prog w = .ok (.func (.func (sideN 1)) #[] #[]) w := by kernel_rfl
theorem sides_index2 (w : World) : (Instr.index 176 (.agg sidesV) (.int .i64 ((2 : Nat) : Int))).run Try.prog w = .ok (.func (.func (sideN 2)) #[] #[]) w := by kernel_rfl
theorem sides_index3 (w : World) : (Instr.index 176 (.agg sidesV) (.int .i64 ((3 : Nat) : Int))).run Try.prog w = .ok (.func (.func (sideN 3)) #[] #[]) w := by kernel_rfl
theorem sides_index (k : Nat) (hk : k < 4) (w : World) : (Instr.index 176 (.agg sidesV) (.int .i64 k)).run Try.prog w = .ok (.func (.func (sideN k)) #[] #[]) w := by
  have : k = 0 ∨ k = 1 ∨ k = 2 ∨ k = 3 := by omega
  rcases this with rfl | rfl | rfl | rfl
  · exact sides_index0 w
  · exact sides_index1 w
  · exact sides_index2 w
  · exact sides_index3 w
theorem pass_isGrass (L : Lawn) (args : Array Value) (w : World) : (callFunc 55 args).run Try.prog w = .ok (.enter 55 args) w := enters_of Try.func55 (by kernel_rfl) rfl args w
theorem pass_isOpen (L : Lawn) (args : Array Value) (w : World) : (callFunc 78 args).run Try.prog w = .ok (.enter 78 args) w := enters_of Try.func78 (by kernel_rfl) rfl args w

/-- How many entries a map's block has; how many elements a slice. -/
def mapLen (w : World) (b : Nat) : Nat := match w.heap[b]? with | some (.map es _) => es.size | _ => 0
def sliceLen (v : Value) : Nat := match v with | .slice _ n _ => n | _ => 0
theorem MapIs.len {κ ν : Type} {enc : κ → Value} {val : ν → Value} {w : World} {b : Nat} {l : List (κ × ν)} (h : MapIs w b enc val l) : mapLen w b = l.length := by
  obtain ⟨es, c, h1, h2, -⟩ := h
  have := congrArg List.length h2
  simpa [mapLen, h1] using this
theorem QIs.len {w : World} {B : Nat} {e : TypeId} {size n : Nat} {v : Value} {xs : List Value} (h : QIs w B e size v n xs) : sliceLen v = n := by
  obtain ⟨g, off, cap, cur, rfl, -⟩ := h
  rfl
def valI (i : Int) : Value := .int .i64 i
theorem zero64 (w : World) : (zeroValue 2).run Try.prog w = .ok (valI 0) w := by kernel_rfl
/-- The cells that are still to be gone through. -/
def restQ (F : Found) (i : Nat) : List Value := flatP ((F.map (·.1)).drop i)
theorem Only.putT {T : List Nat} {w0 w : World} (h : Only T w0 w) {l : Nat} (hl : l ∈ T) (o : Obj) : Only T w0 (w.putObj l o) :=
  ⟨h.os, h.tape, h.output, by simpa using h.size, fun k hk hT => (World.putObj_heap_other (fun e => hT (by rw [e]; exact hl))).trans (h.block k hk hT)⟩
theorem Holds.putObj {w : World} {g l : Nat} {cs : Array Value} (h : Holds w g cs) (hne : g ≠ l) (o : Obj) : Holds (w.putObj l o) g cs := by
  obtain ⟨t, h⟩ := h
  exact ⟨t, (World.putObj_heap_other hne).trans h⟩

set_option maxRecDepth 100000 in
set_option maxHeartbeats 2000000 in
theorem steps_any (L : Lawn) (F : Nat) (pass : Pt → Bool) (hE : ∀ (args : Array Value) (w : World), (callFunc F args).run Try.prog w = .ok (.enter F args) w)
    (HP : ∀ (x y : Int) (w : World), Calls Try.prog F #[.agg L.cells, .agg #[.int .i8 x, .int .i8 y]] w fun e w' => e = .returned (.bool (pass (x, y))) ∧ Below w.heap.size w w')
    (hp : ∀ c, pass c = true → (0 ≤ c.1 ∧ c.1 < 10) ∧ 0 ≤ c.2 ∧ c.2 < 10) (s : Pt) (hs : pass s = true) (w : World) :
    Calls Try.prog 77 #[.agg #[.int .i8 s.1, .int .i8 s.2], .func (.func F) #[.agg L.cells] #[]] w fun e w' => (∃ b, e = .returned (.map (some b)) ∧ w.heap.size ≤ b ∧ MapIs w' b cellK valI (found pass s 100)) ∧ Below w.heap.size w w' := by
  have HP' := Lib.hid HP
  have Hp := Lib.hid hp
  have Hs := Lib.hid hs
  have hmk := fun w => run_makeMap (P := Try.prog) 112 w
  obtain ⟨i0, hi, hz0, hz1, hz2⟩ := info_parts cellInfo
  have HI := Lib.hid (show Try.prog.info? 37 = some i0 ∧ i0.zero = some (.agg #[.int .i8 0, .int .i8 0]) ∧ i0.size = 2 ∧ i0.bytes = 2 from ⟨hi, hz0, hz1, hz2⟩)
  clear HP hp hs hi hz0 hz1 hz2
  have jM : MapIs ((w.alloc (.cells #[.int .i8 s.1, .int .i8 s.2] 37)).alloc (.map #[] 0)) (w.heap.size + 1) cellK valI [] := by
    have := MapIs.made (enc := cellK) (val := valI) (w.alloc (.cells #[.int .i8 s.1, .int .i8 s.2] 37))
    simpa using this
  obtain ⟨o, hput, hM1⟩ := jM.put cellKey Try.underlying112 s 0
  simp only [cellK, cellV, valI] at hput
  have HM1 := Lib.hid hM1
  have c0 := (((Holds.new w #[.int .i8 s.1, .int .i8 s.2] 37).alloc (.map #[] 0)).putObj (l := w.heap.size + 1) (by omega) o).cell
  clear jM hM1
  go_enter Try.func77, Try.ntmps77
  go_wp2_with fail
  have HS0 := Lib.hid (show w.heap.size = w.heap.size from rfl)
  have hQ0 : QIs ((((w.alloc (.cells #[.int .i8 s.1, .int .i8 s.2] 37)).alloc (.map #[] 0)).putObj (w.heap.size + 1) o).alloc (.cells #[.int .i8 s.1, .int .i8 s.2] 37)) (w.heap.size + 1 + 1) 37 2 (.slice (some ⟨w.heap.size + 1 + 1, 0, none⟩) 1 1) 1 (restQ (found pass s 0) 0) :=
    ⟨w.heap.size + 1 + 1, 0, 1, #[.int .i8 s.1, .int .i8 s.2], rfl, by omega, by
      have := heap_alloc_new (((w.alloc (.cells #[.int .i8 s.1, .int .i8 s.2] 37)).alloc (.map #[] 0)).putObj (w.heap.size + 1) o) (.cells #[.int .i8 s.1, .int .i8 s.2] 37)
      simpa using this, by omega, by simp [maxLen], by simp, by simp [restQ, found, flatP], fun j u hu => by simpa [restQ, found, flatP] using hu⟩
  have hM0 : MapIs ((((w.alloc (.cells #[.int .i8 s.1, .int .i8 s.2] 37)).alloc (.map #[] 0)).putObj (w.heap.size + 1) o).alloc (.cells #[.int .i8 s.1, .int .i8 s.2] 37)) (w.heap.size + 1) cellK valI (found pass s 0) := by
    have := HM1.out.alloc (.cells #[.int .i8 s.1, .int .i8 s.2] 37)
    simpa [alPut, found] using this
  have hB0 : Below w.heap.size w ((((w.alloc (.cells #[.int .i8 s.1, .int .i8 s.2] 37)).alloc (.map #[] 0)).putObj (w.heap.size + 1) o).alloc (.cells #[.int .i8 s.1, .int .i8 s.2] 37)) :=
    ((((Below.refl w.heap.size w).alloc (Nat.le_refl _) _).alloc (by simp) _).grown (grownBy_putObj' _ (w.heap.size + 1) o) (by simp; omega) (fun k e => by cases e; omega)).alloc (by simp; omega) _
  obtain ⟨W0, hW0⟩ : ∃ W0, (((w.alloc (.cells #[.int .i8 s.1, .int .i8 s.2] 37)).alloc (.map #[] 0)).putObj (w.heap.size + 1) o).alloc (.cells #[.int .i8 s.1, .int .i8 s.2] 37) = W0 := ⟨_, rfl⟩
  obtain ⟨B, hB⟩ : ∃ B, w.heap.size = B := ⟨_, rfl⟩
  rw [hW0, hB] at hQ0 hM0 hB0
  rw [hW0, hB]
  have HBw := Lib.hid hB
  clear hW0 hB c0 hput HM1 HS0
  go_loopw [6] (fun q wr => ∃ i n : Nat, i ≤ 100 ∧ n + i = (found pass s i).length ∧ QIs wr (B + 1 + 1) 37 2 q n (restQ (found pass s i) i) ∧ MapIs wr (B + 1) cellK valI (found pass s i) ∧ Below B w wr) (fun q wr => 101 - (mapLen wr (B + 1) - sliceLen q))
  case atStart => exact ⟨0, 1, by omega, rfl, hQ0, hM0, hB0⟩
  case round =>
    obtain ⟨i, n, hi, hn, hq, hM, hb⟩ := hrel
    have HMI := Lib.hid (show mapLen wr (B + 1) - sliceLen _ = i by rw [hM.len, hq.len]; omega)
    obtain ⟨g, off, cap, rfl, hcap, hmax, hBg, hgl⟩ := hq.form
    clear hQ0 hM0 hB0 hmk
    cases n with
    | zero =>
      have hlast := found_last (pass := pass) (s := s) hi (by omega)
      go_wp2_with fail
      go_ret
      refine ⟨⟨B + 1, rfl, by have := HBw.out; omega, ?_⟩, HBw.out ▸ hb⟩
      rw [← hlast]
      exact hM
    | succ m =>
      obtain ⟨p, hpi⟩ : ∃ p, (found pass s i)[i]? = some p := ⟨_, List.getElem?_eq_getElem (by omega)⟩
      have HPI := Lib.hid hpi
      obtain ⟨⟨px, py⟩, d⟩ := p
      have hd := (found_good Hs.out i).val i _ hpi
      have hxy := Hp.out _ ((found_good Hs.out i).pass _ (List.mem_of_getElem? hpi))
      have HQ := Lib.hid hq
      have hr : restQ (found pass s i) i = .int .i8 px :: .int .i8 py :: restQ (found pass s i) (i + 1) := by
        unfold restQ
        rw [List.drop_eq_getElem_cons (by simp; omega)]
        obtain ⟨hl, he⟩ := List.getElem?_eq_some_iff.1 hpi
        simp [flatP, he]
      have e0 := hq.cell 0 (.int .i8 px) (by rw [hr]; rfl)
      have e1 := hq.cell 1 (.int .i8 py) (by rw [hr]; rfl)
      have HR := Lib.hid hr
      rw [Nat.add_zero] at e0
      simp only at hd hxy
      have hcap9 : cap ≤ 9223372036854775807 := by unfold maxLen at hmax; omega
      clear hpi hq hr
      have hfin : ∃ q', (cap = 1 → q' = .slice (some ⟨g, off, none⟩) m 0) ∧ (1 < cap → q' = .slice (some ⟨g, off + 2, none⟩) m (cap - 1)) ∧ QIs wr (B + 1 + 1) 37 2 q' m (restQ (found pass s i) (i + 1)) := by
        rcases (by omega : cap = 1 ∨ 1 < cap) with hc1 | hc1
        · obtain ⟨h0, h1⟩ := HQ.out.cutLast hc1
          have hl : (restQ (found pass s i) i).length = (m + 1) * 2 := by obtain ⟨_, _, _, _, -, -, -, -, -, -, h, -⟩ := HQ.out; exact h
          rw [HR.out] at hl
          have h2 : restQ (found pass s i) (i + 1) = [] := List.eq_nil_of_length_eq_zero (by simp at hl; omega)
          exact ⟨.slice (some ⟨g, off, none⟩) m 0, fun _ => rfl, fun h => by omega, by rw [h2, h0]; exact h1⟩
        · have h1 := HQ.out.cut hc1
          rw [HR.out] at h1
          exact ⟨_, fun h => by omega, fun _ => rfl, h1⟩
      obtain ⟨q', hq1, hq2, hq3⟩ := hfin
      have HQ3 := Lib.hid hq3
      have HQ1 := Lib.hid hq1
      have HQ2 := Lib.hid hq2
      clear hq1 hq2 hq3
      obtain ⟨hxy0, hxy1⟩ := hxy
      obtain ⟨hd0, hd1⟩ := hd
      have hcase : cap = 1 ∨ 1 < cap := by omega
      rcases hcase with hc1 | hc1
      all_goals
        go_wp2_with fail
        first | rw [← HQ2.out hc1] | (rw [← HQ1.out hc1])
        refine (sides_any _).mono ?_
        rintro e w5 ⟨rfl, hb1⟩
        have hA5 : Holds w5 wr.heap.size #[.int .i8 px, .int .i8 py] := (Holds.new wr _ _).below hb1 (by simp)
        have hQ5 := (HQ3.out.below ((Below.refl wr.heap.size wr).alloc (Nat.le_refl _) (.cells #[.int .i8 px, .int .i8 py] 37))).below hb1
        have hM5 := (hM.alloc (.cells #[.int .i8 px, .int .i8 py] 37)).below hb1 (by have := hM.lt; simp; omega)
        have hB5 := (hb.alloc (by omega) (.cells #[.int .i8 px, .int .i8 py] 37)).trans (hb1.mono (by simp; omega))
        have hap : ∀ b, q'.ownBlock = some b → b ≠ wr.heap.size := fun b hb => by have := HQ3.out.far b hb; omega
        obtain ⟨a, ha⟩ : ∃ a, wr.heap.size = a := ⟨_, rfl⟩
        rw [ha] at hA5 hap
        rw [ha]
        have HMI2 := Lib.hid HMI.out
        have hBa : B + 1 + 1 ≤ a := by omega
        clear hM hb hb1 e0 e1 ha
        go_wp2_with fail
        go_loopw [6, 27] (fun q x wk => ∃ k n : Nat, k ≤ 4 ∧ x = .int .i64 k ∧ n + (i + 1) = (sideK pass (found pass s i) ((px, py), d) k).length ∧ QIs wk (B + 1 + 1) 37 2 q n (restQ (sideK pass (found pass s i) ((px, py), d) k) (i + 1)) ∧ (∀ b, q.ownBlock = some b → b ≠ a) ∧ MapIs wk (B + 1) cellK valI (sideK pass (found pass s i) ((px, py), d) k) ∧ Holds wk a #[.int .i8 px, .int .i8 py] ∧ Below B w wk) (fun _ x _ => 4 - (intOf x).toNat)
        case atStart => exact ⟨0, m, by omega, rfl, by rw [sideK_zero]; omega, by rw [sideK_zero]; exact hQ5, hap, by rw [sideK_zero]; exact hM5, hA5, hB5⟩
        case round =>
          obtain ⟨k, n, hk, rfl, hn2, hq, hap2, hM, hA, hb⟩ := hrel
          have hg100 := good_length Hp.out (sideK_good Hs.out HPI.out k)
          clear hQ5 hap hM5 hA5 hB5
          by_cases hlt : k < 4
          · have hdk : decide ((k : Int) < (4 : Int)) = true := by simp; omega
            obtain ⟨c, hc⟩ : ∃ c, (beside (px, py))[k]? = some c := ⟨_, List.getElem?_eq_getElem (by simpa [beside] using hlt)⟩
            have HC := Lib.hid hc
            have HSd := Lib.hid (side_any k hlt (px, py) c hc ⟨hxy0, hxy1⟩)
            obtain ⟨cx, cy⟩ := c
            have hix := fun w => sides_index k hlt w
            have hEs := side_enters k hlt
            have hl := hA.lt
            have HQ5 := Lib.hid hq
            have HN := Lib.hid hn2
            have HAP := Lib.hid hap2
            obtain ⟨-, -, dA, -, -⟩ := hA.facts
            have hml := hM.lt
            clear hc hq hap2 hn2
            go_wp2_with fail
            refine (HSd.out _).mono ?_
            rintro e w6 ⟨rfl, hb6⟩
            have hA6 := hA.below hb6 hA.lt
            have HQ6 := Lib.hid (HQ5.out.below hb6)
            have hM6 := hM.below hb6 hM.lt
            have hB6 : Below B w w6 := hb.trans (hb6.mono (by omega))
            have hlk := ((hM6.alloc (.cells #[.int .i8 cx, .int .i8 cy] 37)).look cellKey Try.underlying112 zero64 (cx, cy)).2
            simp only [cellK, cellV, valI] at hlk
            have hs6 := hA6.lt
            clear hA hM hb hb6 dA HQ5 hix hEs
            cases hal : alLook (sideK pass (found pass s i) ((px, py), d) k) (cx, cy)
            case some u =>
              rw [hal] at hlk
              simp only [Option.getD_some, Option.isSome_some] at hlk
              have HAL := Lib.hid hal
              clear hal
              go_wp2_with fail
              go_roundw
              case rel =>
                refine ⟨k + 1, n, by omega, by go_num, ?_⟩
                rw [sideK_succ HC.out, visit_skip (.inl (by rw [HAL.out]; rfl))]
                exact ⟨HN.out, HQ6.out.below ((Below.refl _ w6).alloc (Nat.le_refl _) _), HAP.out, hM6.alloc _, hA6.alloc _, hB6.alloc (by omega) _⟩
              case measure => simp [intOf]; omega
            case none =>
              rw [hal] at hlk
              simp only [Option.getD_none, Option.isSome_none] at hlk
              have HAL := Lib.hid hal
              clear hal
              have c6 := Holds.new w6 #[.int .i8 cx, .int .i8 cy] 37
              obtain ⟨-, -, dC, -, -⟩ := c6.facts
              go_wp2_with fail
              refine (HP'.out cx cy _).mono ?_
              have HPC := Lib.hid (show pass (cx, cy) = pass (cx, cy) from rfl)
              obtain ⟨pc, hpc⟩ : ∃ pc, pass (cx, cy) = pc := ⟨_, rfl⟩
              rw [hpc]
              rintro e w7 ⟨rfl, hb7⟩
              have HPV := Lib.hid hpc
              have hA7 := (hA6.alloc (.cells #[.int .i8 cx, .int .i8 cy] 37)).below hb7 (by simp; omega)
              have c7 := c6.below hb7 c6.lt
              have HQ7 := Lib.hid ((HQ6.out.below ((Below.refl _ w6).alloc (Nat.le_refl _) (.cells #[.int .i8 cx, .int .i8 cy] 37))).below hb7)
              have hM7 := (hM6.alloc (.cells #[.int .i8 cx, .int .i8 cy] 37)).below hb7 (by have := hM6.lt; simp; omega)
              have hB7 : Below B w w7 := (hB6.alloc (by omega) _).trans (hb7.mono (by simp; omega))
              have hqc : ∀ b, Value.ownBlock _ = some b → b < w6.heap.size := fun b hb => (HQ6.out.far b hb).2
              have HQC := Lib.hid hqc
              have hml7 := hM7.lt
              obtain ⟨nb, hnb⟩ : ∃ nb, w6.heap.size = nb := ⟨_, rfl⟩
              rw [hnb] at c7 HQC hs6
              rw [hnb]
              clear hpc hA6 c6 dC HQ6 hM6 hB6 hb7 hlk hqc hnb
              cases pc
              case false =>
                go_wp2_with fail
                go_roundw
                case rel =>
                  refine ⟨k + 1, n, by omega, by go_num, ?_⟩
                  rw [sideK_succ HC.out, visit_skip (.inr HPV.out)]
                  exact ⟨HN.out, HQ7.out, HAP.out, hM7, hA7, hB7⟩
                case measure => simp [intOf]; omega
              case true =>
                have HLK := Lib.hid (sideK_look Hs.out HPI.out k)
                obtain ⟨-, aL⟩ := hA7.later
                obtain ⟨-, cL⟩ := c7.later
                have c7l := c7.lt
                go_wp2_with fail
                refine wp_region_grow 6 (by kernel_rfl) (by kernel_rfl) ?_
                simp only [List.take_succ_cons, List.take_zero, List.drop_succ_cons, List.drop_zero]
                iterate 6
                  apply wpGrow_plain rfl
                  · intro w' hw' K hK
                    have d1 := aL _ hw'
                    have d2 := cL _ hw'
                    have hlk := ((hM7.below hw' hM7.lt).look cellKey Try.underlying112 zero64 (px, py)).1
                    rw [HLK.out] at hlk
                    simp only [cellK, cellV, valI, Option.getD_some] at hlk
                    go_wp2_with fail
                    exact hK _ _ rfl hw'
                  simp only [Act.put, List.setIfInBounds_toArray, List.set_cons_succ, List.set_cons_zero]
                refine wpGrow_nil ?_
                intro W2 hW2
                have hA8 := hA7.below hW2 hA7.lt
                have c8 := c7.below hW2 c7.lt
                have HQ8 := Lib.hid (HQ7.out.below hW2)
                have hB8 : Below B w W2 := hB7.trans (hW2.mono (by omega))
                obtain ⟨o8, hput8, hM9⟩ := (hM7.below hW2 hM7.lt).put cellKey Try.underlying112 (cx, cy) (d + 1)
                rw [alPut_new _ HAL.out] at hM9
                simp only [cellK, cellV, valI] at hput8
                have hs8 := hA8.lt
                have hn8 := c8.lt
                have c9 := c8.putObj (l := B + 1) (by omega) o8
                have hA9 := hA8.putObj (l := B + 1) (by omega) o8
                have HQ9 := Lib.hid ((HQ8.out.keep (grownBy_putObj' W2 (B + 1) o8) (fun e => by have := (HQ8.out.far _ e).1; omega)).below ((Below.refl _ _).alloc (Nat.le_refl _) (.cells #[.int .i8 cx, .int .i8 cy] 37)))
                have hB9 : Below B w (W2.putObj (B + 1) o8) := hB8.grown (grownBy_putObj' W2 (B + 1) o8) (by omega) (fun k e => by cases e; omega)
                obtain ⟨-, -, d9, -, -⟩ := c9.facts
                have hsz9 : (W2.putObj (B + 1) o8).heap.size = W2.heap.size := by simp
                have HSZ := Lib.hid hsz9
                have hnle : n ≤ 100 := by have := HN.out; omega
                clear hA7 c7 HQ7 hM7 hB7 hW2 aL cL hA8 c8 HQ8 hB8 hsz9
                go_wp2_with (at_builtin; refine wpList_append_q _ rfl _ _ 45 rfl rfl HQ9.out ?cB i0 (.agg #[.int .i8 0, .int .i8 0]) 2 Try.underlying45 HI.out.1 HI.out.2.1 HI.out.2.2.1 HI.out.2.2.2 rfl (by decide) ⟨W2.heap.size, 0, none⟩ 1 [.int .i8 cx, .int .i8 cy] rfl rfl ?c1 ?c2 ?c3 ?c4 ?_)
                case cB => simp; omega
                case c1 =>
                  intro m u hu
                  match m, hu with
                  | 0, hu => simp at hu; subst hu; exact (Holds.new' (W2.putObj (B + 1) o8) #[.int .i8 cx, .int .i8 cy] 37 W2.heap.size HSZ.out.symm).cell 0
                  | 1, hu => simp at hu; subst hu; exact (Holds.new' (W2.putObj (B + 1) o8) #[.int .i8 cx, .int .i8 cy] 37 W2.heap.size HSZ.out.symm).cell 1
                case c2 => intro u hu; simp at hu; rcases hu with rfl | rfl <;> rfl
                case c3 => unfold maxLen; omega
                case c4 => omega
                intro v' w3 hq10 hgrow hown
                have hB10 : Below B w w3 := (hB9.alloc (by simp; omega) (.cells #[.int .i8 cx, .int .i8 cy] 37)).grown hgrow (by simp; omega) (fun b e => by have := (HQ9.out.far b e).1; omega)
                have hA10 : Holds w3 a #[.int .i8 px, .int .i8 py] := by
                  obtain ⟨t, ht⟩ := hA9.alloc (.cells #[.int .i8 cx, .int .i8 cy] 37)
                  exact ⟨t, (hgrow.block a (by simp; omega) (fun e => HAP.out a e.symm rfl)).trans ht⟩
                have hM10 := (hM9.alloc (.cells #[.int .i8 cx, .int .i8 cy] 37)).block (w' := w3) (hgrow.block (B + 1) (by simp; omega) (fun e => by have := (HQ9.out.far _ e.symm).1; omega))
                have hap10 : ∀ b, v'.ownBlock = some b → b ≠ a := fun b e => by
                  rcases hown with h | h
                  · exact HAP.out b (h ▸ e)
                  · have := h b e
                    first | omega | (simp at this; omega)
                have hr10 : restQ (sideK pass (found pass s i) ((px, py), d) k ++ [((cx, cy), d + 1)]) (i + 1) = restQ (sideK pass (found pass s i) ((px, py), d) k) (i + 1) ++ [.int .i8 cx, .int .i8 cy] := by
                  unfold restQ
                  rw [List.map_append, List.drop_append_of_le_length (by simp; have := HN.out; omega), flatP_append]
                  rfl
                rw [← hr10] at hq10
                have HQ10 := Lib.hid hq10
                have HAP10 := Lib.hid hap10
                have HV := Lib.hid (visit_new (d := d) HAL.out HPV.out)
                rw [← sideK_succ (p := ((px, py), d)) HC.out] at HV
                rw [← HV.out] at HQ10 hM10
                have HL := Lib.hid (congrArg List.length HV.out)
                clear hq10 hgrow hown hap10 hr10 hB9 hA9 hM9 d9 c9
                go_wp2_with fail
                go_roundw
                case rel =>
                  exact ⟨k + 1, n + 1, by omega, by go_num, by rw [HL.out, List.length_append, ← HN.out]; simp; omega, HQ10.out, HAP10.out, hM10, hA10, hB10⟩
                case measure => simp [intOf]; omega
          · obtain rfl : k = 4 := by omega
            have hdk : decide (((4 : Nat) : Int) < (4 : Int)) = false := by decide
            have hl100 : i < 100 := by have := good_length Hp.out (found_good Hs.out i); omega
            rw [sideK_all HPI.out] at hn2 hq hM
            have HQE := Lib.hid hq
            have hlen : mapLen wr (B + 1) - sliceLen u6 = i + 1 := by rw [hM.len, hq.len]; omega
            have HLE := Lib.hid hlen
            clear hq hlen
            go_wp2_with fail
            go_roundw
            case rel => exact ⟨i + 1, n, by omega, hn2, HQE.out, hM, hb⟩
            case measure => show 101 - (mapLen _ _ - sliceLen _) < 101 - (mapLen _ _ - sliceLen _); rw [HLE.out, HMI2.out]; omega
end Go.Proofs.Ytaeenkjbmlgcmaa

namespace Go.Proofs.Ytaeenkjbmlgcmaa
open Go.RowKit Go.Shelf
set_option linter.unusedVariables false
attribute [local go_sem] Oper.semAt_some
attribute [local go_sem ↓] loadRow loadGrid loadLawn loadMirror storeRow storeGrid storeLawn allocRow allocGrid allocLawn buildZero buildSides loadRow' loadGrid' loadLawn' loadMirror' storeRow' storeGrid' storeLawn' allocRow' allocGrid' allocLawn' buildZero' buildSides'

/-- Cells that are open; cells of grass. -/
def openP (L : Lawn) (c : Pt) : Bool := openB L c.1 c.2
def grassP (L : Lawn) (c : Pt) : Bool := grassB L c.1 c.2
theorem isB_near {L : Lawn} (hv : validB L = true) {x y : Int} (h : isB L x y = true) : (0 ≤ x ∧ x < 10) ∧ 0 ≤ y ∧ y < 10 := by
  obtain ⟨h1, h2, -⟩ := validB_true hv
  have := isB_in h
  omega
theorem openP_near {L : Lawn} (hv : validB L = true) (c : Pt) (h : openP L c = true) : (0 ≤ c.1 ∧ c.1 < 10) ∧ 0 ≤ c.2 ∧ c.2 < 10 := by
  simp only [openP, openB, Bool.and_eq_true] at h
  exact isB_near hv h.1
theorem grassP_near {L : Lawn} (hv : validB L = true) (c : Pt) (h : grassP L c = true) : (0 ≤ c.1 ∧ c.1 < 10) ∧ 0 ≤ c.2 ∧ c.2 < 10 := isB_near hv (grassB_in h)
/-- The steps to a cell; -1 if one cannot come there. -/
def stepsAt (F : Found) (x y : Int) : Int := (alLook F (x, y)).getD (-1)
def stepsV {W H : Nat} (F : Found) (l : List (Fin W × Fin H)) : List Value := l.map fun c => .int .i64 (stepsAt F c.1.val c.2.val)
theorem stepsV_append {W H : Nat} (F : Found) (l l' : List (Fin W × Fin H)) : stepsV F (l ++ l') = stepsV F l ++ stepsV F l' := by simp [stepsV]
theorem int64Info : (Try.prog.info? 2).map (fun i => (i.zero, i.size, i.bytes)) = some (some (.int .i64 0), 1, 8) := by kernel_rfl
/-- The list of numbers that a loop over the cells has gathered, in its variable at block s. -/
def Gathers64 (s B : Nat) (l : List Value) (n : Nat) (W : World) : Prop := ∃ v, Holds W s #[v] ∧ W.ownsRow B 2 1 v n l
theorem gathers64_own {β : Type} (s B : Nat) (l : β → List Value) (n : β → Nat) : Own (fun (b : β) w => Gathers64 s B (l b) (n b) w) := by
  rintro b W W' row ⟨v, h1, h2⟩ hg hr
  exact ⟨v, h1.grown hg hr, own_of_own (B := B) (e := 2) (size := 1) (v := fun _ : Unit => v) (n := fun _ => n b) (xs := fun _ => l b) () W W' row h2 hg hr⟩

end Go.Proofs.Ytaeenkjbmlgcmaa
