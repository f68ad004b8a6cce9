/- A slice that is cut at its head and appended to at its end: where its elements lie, and what an append does. DifferIn of the model. Open cells: the program's and the model's test. The cells beside a cell, of the model. The search, of the program. StepsFrom, of the program. -/
import Derived.Test.YtabemgplddfemaaGreatDoorZC
import Derived.ArgAppend
import Derived.Deep.Onto
import Derived.Test.YtabemgplddfemaaGreatDoorZE
import Derived.Test.YtabemgplddfemaaGreatDoorZF
import Derived.Laws.EntriesVeiled
import Derived.Outline
namespace Go.Proofs.YtabemgplddfemaaGreatDoor
open Go.RowKit
set_option linter.unusedVariables false

/-- The value v is a slice of n elements, of size cells each, that lie at some place of a block from B on that may be written. -/
def QIs (w : World) (B : Nat) (e : TypeId) (size : Nat) (v : Value) (n : Nat) (xs : List Value) : Prop :=
  ∃ g off cap cur, v = .slice (some ⟨g, off, none⟩) n cap ∧ B ≤ g ∧ w.heap[g]? = some (.cells cur e (0, 0)) ∧ n ≤ cap ∧ cap ≤ maxLen ∧ off + cap * size ≤ cur.size ∧ xs.length = n * size ∧ ∀ j u, xs[j]? = some u → cur[off + j]? = some u

section
variable {w w' : World} {B : Nat} {e : TypeId} {size n : Nat} {v : Value} {xs : List Value}
theorem QIs.of_own (h : w.ownsRow B e size v n xs) (hn : 0 < n) : QIs w B e size v n xs := by
  obtain ⟨hl, h0 | ⟨g, cap, cur, rfl, hb, hg, h1, h2, h3, h4⟩⟩ := h
  · omega
  · refine ⟨g, 0, cap, cur, rfl, hb, hg, h1, h2, by omega, hl, fun j u hu => ?_⟩
    rw [← h4, List.getElem?_take] at hu
    split at hu
    · simpa using hu
    · cases hu
theorem QIs.form (h : QIs w B e size v n xs) : ∃ g off cap, v = .slice (some ⟨g, off, none⟩) n cap ∧ n ≤ cap ∧ cap ≤ maxLen ∧ B ≤ g ∧ g < w.heap.size := by
  obtain ⟨g, off, cap, cur, rfl, hb, hg, h1, h2, -⟩ := h
  exact ⟨g, off, cap, rfl, h1, h2, hb, (Array.getElem?_eq_some_iff.1 hg).1⟩
theorem QIs.far (h : QIs w B e size v n xs) (k : Nat) (hk : v.ownBlock = some k) : B ≤ k ∧ k < w.heap.size := by
  obtain ⟨g, off, cap, rfl, -, -, h1, h2⟩ := h.form
  simp only [Value.ownBlock, Option.some.injEq] at hk
  omega
theorem QIs.keep {row : Option Nat} (h : QIs w B e size v n xs) (hg : w.grownBy w' row) (hne : v.ownBlock ≠ row) : QIs w' B e size v n xs := by
  obtain ⟨g, off, cap, cur, rfl, hb, hc, r⟩ := h
  exact ⟨g, off, cap, cur, rfl, hb, (hg.block g (Array.getElem?_eq_some_iff.1 hc).1 hne).trans hc, r⟩
theorem QIs.below (h : QIs w B e size v n xs) (hb : Below w.heap.size w w') : QIs w' B e size v n xs := by
  obtain ⟨g, off, cap, cur, rfl, hB, hc, r⟩ := h
  exact ⟨g, off, cap, cur, rfl, hB, (hb.block g (Array.getElem?_eq_some_iff.1 hc).1).trans hc, r⟩
theorem QIs.other (h : QIs w B e size v n xs) (hb : ∀ k, k < w.heap.size → B ≤ k → w'.heap[k]? = w.heap[k]?) : QIs w' B e size v n xs := by
  obtain ⟨g, off, cap, cur, rfl, hB, hc, r⟩ := h
  exact ⟨g, off, cap, cur, rfl, hB, (hb g (Array.getElem?_eq_some_iff.1 hc).1 hB).trans hc, r⟩
theorem QIs.cell {g off cap : Nat} (h : QIs w B e size (.slice (some ⟨g, off, none⟩) n cap) n xs) (j : Nat) (u : Value) (hu : xs[j]? = some u) : w.cell? ⟨g, off + j, none⟩ = some u := by
  obtain ⟨g', off', cap', cur, he, hB, hc, -, -, -, -, hx⟩ := h
  simp only [Value.slice.injEq, Option.some.injEq, Addr.mk.injEq] at he
  obtain ⟨⟨rfl, rfl, -⟩, -, rfl⟩ := he
  simp [World.cell?, hc, hx j u hu]
/-- The first element is cut off. -/
theorem QIs.cut {g off cap : Nat} (h : QIs w B e size (.slice (some ⟨g, off, none⟩) (n + 1) cap) (n + 1) xs) (h1 : 1 < cap) : QIs w B e size (.slice (some ⟨g, off + size, none⟩) n (cap - 1)) n (xs.drop size) := by
  obtain ⟨g', off', cap', cur, he, hB, hc, a1, a2, a3, a4, hx⟩ := h
  simp only [Value.slice.injEq, Option.some.injEq, Addr.mk.injEq] at he
  obtain ⟨⟨rfl, rfl, -⟩, -, rfl⟩ := he
  refine ⟨g, off + size, cap - 1, cur, rfl, hB, hc, by omega, by omega, ?_, ?_, fun j u hu => ?_⟩
  · obtain ⟨c, rfl⟩ : ∃ c, cap = c + 1 := ⟨cap - 1, by omega⟩
    rw [Nat.add_mul] at a3
    simp; omega
  · rw [List.length_drop, a4, Nat.add_mul]; omega
  · rw [List.getElem?_drop] at hu
    rw [Nat.add_assoc]
    exact hx _ _ hu
theorem QIs.cutLast {g off cap : Nat} (h : QIs w B e size (.slice (some ⟨g, off, none⟩) (n + 1) cap) (n + 1) xs) (h1 : cap = 1) : n = 0 ∧ QIs w B e size (.slice (some ⟨g, off, none⟩) 0 0) 0 [] := by
  obtain ⟨g', off', cap', cur, he, hB, hc, a1, a2, a3, a4, hx⟩ := h
  simp only [Value.slice.injEq, Option.some.injEq, Addr.mk.injEq] at he
  obtain ⟨⟨rfl, rfl, -⟩, -, rfl⟩ := he
  exact ⟨by omega, g, off, 0, cur, rfl, hB, hc, by omega, by omega, by omega, by simp, fun j u hu => by simp at hu⟩
end

theorem heap_setCells_same (g : Nat) (t : TypeId) : ∀ (news : List Value) (i : Nat) (cur : Array Value) (w : World), w.heap[g]? = some (.cells cur t (0, 0)) →
    ∃ cur', (w.setCells g i news).heap[g]? = some (.cells cur' t (0, 0)) ∧ cur'.size = cur.size ∧ (∀ j, j < news.length → i + j < cur.size → cur'[i + j]? = news[j]?) ∧ ∀ j, j < i → cur'[j]? = cur[j]?
  | [], i, cur, w, h => ⟨cur, h, rfl, fun j hj => by simp at hj, fun _ _ => rfl⟩
  | u :: news, i, cur, w, h => by
    obtain ⟨cur', h1, h2, h3, h4⟩ := heap_setCells_same g t news (i + 1) _ _ (heap_setCell_same w g i cur t u h)
    refine ⟨cur', h1, by rw [h2]; simp, fun j hj hc => ?_, fun j hj => ?_⟩
    · cases j with
      | zero =>
        rw [Nat.add_zero] at hc ⊢
        rw [h4 i (by omega)]
        simp [hc]
      | succ j =>
        have := h3 j (by simpa using hj) (by simp; omega)
        rw [show i + (j + 1) = i + 1 + j by omega, this]
        simp
    · rw [h4 j (by omega), Array.getElem?_setIfInBounds, if_neg (by omega)]
theorem grown_setCells {w : World} {g : Nat} : ∀ (news : List Value) (i : Nat) (w' : World), w.grownBy w' (some g) → w.grownBy (w'.setCells g i news) (some g)
  | [], _, _, h => h
  | u :: news, i, w', h => grown_setCells news (i + 1) _ (grown_set h i u)

section
variable {P : Program}
theorem run_append_q {w : World} {B : Nat} {e : TypeId} {size n : Nat} {v : Value} {xs : List Value} (h : QIs w B e size v n xs) (hB : B ≤ w.heap.size)
    (t ty : TypeId) (i : TypeInfo) (z : Value) (bytes : Nat) (ht : P.underlying t = some (.slice e)) (hi : P.info? e = some i) (hz : i.zero = some z) (hsize : i.size = size) (hby : i.bytes = bytes) (hzs : z.cells.size = size) (hsz : 0 < size)
    (ad : Addr) (c : Nat) (news : List Value) (hl : news.length = 1 * size) (hnews : ∀ j u, news[j]? = some u → w.cell? (ad.add j) = some u) (h1 : ∀ u ∈ news, u.oneCell' = true)
    (h63 : n + 1 ≤ maxLen) (hbytes : (n + 1) * bytes ≤ 140737488355328) :
    ∃ v' w', (Builtin.append_ #[t, t] ty #[v, .slice (some ad) 1 c]).run P w = .ok v' w' ∧ QIs w' B e size v' (n + 1) (xs ++ news) ∧ w.grownBy w' v.ownBlock ∧ (v'.ownBlock = v.ownBlock ∨ ∀ k, v'.ownBlock = some k → w.heap.size ≤ k) := by
  subst hsize
  obtain ⟨g, off, cap, cur, rfl, hg, hc, a1, a2, a3, a4, hx⟩ := h
  have hcell : ∀ j, w.cell? ⟨g, j, none⟩ = cur[j]? := fun j => by simp [World.cell?, hc]
  by_cases hr : n + 1 ≤ cap
  · have hm : (n + 1) * i.size ≤ cap * i.size := Nat.mul_le_mul_right _ hr
    rw [Nat.add_mul, Nat.one_mul] at hm
    have hrun := run_append_room_cells (P := P) w t ty e i ht hi g off n cap ad 1 c news hl hnews h1 hr
      (fun j hj => by rw [hcell]; have : off + n * i.size + j < cur.size := by omega
                      simp [this])
      (fun j hj => by simp [World.frozen?, hc])
    obtain ⟨cur', b1, b2, b3, b4⟩ := heap_setCells_same g e news (off + n * i.size) cur w hc
    refine ⟨_, _, hrun, ⟨g, off, cap, cur', rfl, hg, b1, hr, a2, by omega, by rw [List.length_append, a4, hl, Nat.add_mul], fun j u hu => ?_⟩, grown_setCells news _ w (grown_refl w _), .inl rfl⟩
    by_cases hj : j < xs.length
    · rw [List.getElem?_append_left hj] at hu
      rw [b4 _ (by omega)]
      exact hx j u hu
    · rw [List.getElem?_append_right (by omega)] at hu
      have hjn := (List.getElem?_eq_some_iff.1 hu).1
      have := b3 (j - xs.length) hjn (by omega)
      rw [show off + n * i.size + (j - xs.length) = off + j by omega] at this
      rw [this, hu]
  · obtain ⟨v', w', hrun, r1, r2⟩ := run_append_arg_grows (P := P) w t ty e i z i.size bytes ht hi hz rfl hby hzs hsz ⟨g, off, none⟩ n cap xs a4
      (fun j u hu => by rw [Addr.add_lit, hcell]; exact hx j u hu) ad 1 c news hl hnews (by omega) h63 hbytes
    refine ⟨v', w', hrun, QIs.of_own (r1.mono hB) (by omega), ⟨r2.os, r2.tape, r2.output, r2.size, fun k hk _ => r2.block k hk (by simp)⟩, .inr fun k hk => (r1.lt k hk).1⟩

theorem wpList_append_q (w : World) {ops : Array Oper} {rest : List Oper} {o : Oper} {a : Act} {Q : Exit → Act → World → Prop} (hgd : o.guard = none) (s x : Operand) (t : TypeId)
    (ho : o.op = .call { callee := .builtin .append, args := #[s, x], argTypes := #[t, t] })
    {B : Nat} {e : TypeId} {size n : Nat} {v : Value} {xs : List Value} (hs : a.eval s = v) (h : QIs w B e size v n xs) (hB : B ≤ w.heap.size)
    (i : TypeInfo) (z : Value) (bytes : Nat) (ht : P.underlying t = some (.slice e)) (hi : P.info? e = some i) (hz : i.zero = some z) (hsize : i.size = size) (hby : i.bytes = bytes) (hzs : z.cells.size = size) (hsz : 0 < size)
    (ad : Addr) (c : Nat) (news : List Value) (hx : a.eval x = .slice (some ad) 1 c) (hl : news.length = 1 * size) (hnews : ∀ j u, news[j]? = some u → w.cell? (ad.add j) = some u) (h1 : ∀ u ∈ news, u.oneCell' = true)
    (h63 : n + 1 ≤ maxLen) (hbytes : (n + 1) * bytes ≤ 140737488355328)
    (hK : ∀ v' w', QIs w' B e size v' (n + 1) (xs ++ news) → w.grownBy w' v.ownBlock → (v'.ownBlock = v.ownBlock ∨ ∀ k, v'.ownBlock = some k → w.heap.size ≤ k) → wpList P ops Q rest (a.put o.dst v') w') : wpList P ops Q (o :: rest) a w := by
  refine wpList_plain hgd fun K hK' => ?_
  obtain ⟨v', w', hrun, r1, r2, r3⟩ := run_append_q (P := P) h hB t o.type i z bytes ht hi hz hsize hby hzs hsz ad c news hl hnews h1 h63 hbytes
  unfold Oper.wp
  simp [execOp, ho, resolve, invoke, builtin, hs, hx, hrun, Result.andThen]
  exact hK' _ _ (hK v' w' r1 r2 r3)
end
end Go.Proofs.YtabemgplddfemaaGreatDoor

namespace Go.Proofs.YtabemgplddfemaaGreatDoor
open Go.RowKit
set_option linter.unusedVariables false
attribute [local go_sem ↓] loadRow loadGrid loadLawn loadMirror storeRow storeGrid storeLawn allocRow allocGrid allocLawn buildZero buildSides


end Go.Proofs.YtabemgplddfemaaGreatDoor

namespace Go.Proofs.YtabemgplddfemaaGreatDoor
open Go.RowKit
set_option linter.unusedVariables false
attribute [local go_sem ↓] loadRow loadGrid loadLawn loadMirror storeRow storeGrid storeLawn allocRow allocGrid allocLawn buildZero buildSides

/-- Whether a cell is one of grass or of path. -/
def openB (L : Lawn) (x y : Int) : Bool := isB L x y && (L.kind y.toNat x.toNat == 0 || L.kind y.toNat x.toNat == 3)


end Go.Proofs.YtabemgplddfemaaGreatDoor

namespace Go.Proofs.YtabemgplddfemaaGreatDoor
open Go.RowKit
set_option linter.unusedVariables false
attribute [local go_sem ↓] loadRow loadGrid loadLawn loadMirror storeRow storeGrid storeLawn allocRow allocGrid allocLawn buildZero buildSides

def flatP (l : List Pt) : List Value := l.flatMap fun c => [.int .i8 c.1, .int .i8 c.2]
theorem flatP_length (l : List Pt) : (flatP l).length = l.length * 2 := by
  induction l with
  | nil => rfl
  | cons a l ih => simp [flatP] at ih ⊢; omega
theorem flatP_append (l l' : List Pt) : flatP (l ++ l') = flatP l ++ flatP l' := by simp [flatP]
theorem flatP_get : ∀ (l : List Pt) (i : Nat) (c : Pt), l[i]? = some c → (flatP l)[i * 2]? = some (.int .i8 c.1) ∧ (flatP l)[i * 2 + 1]? = some (.int .i8 c.2)
  | [], i, c, h => by simp at h
  | a :: l, 0, c, h => by simp at h; subst h; exact ⟨rfl, rfl⟩
  | a :: l, i + 1, c, h => by
    have ih := flatP_get l i c (by simpa using h)
    simp only [flatP, List.flatMap_cons] at ih ⊢
    rw [show (i + 1) * 2 = i * 2 + 2 by omega, show i * 2 + 2 + 1 = i * 2 + 1 + 2 by omega]
    simpa using ih
/-- The first k cells beside one, those that the lawn has. -/
def besideK (L : Lawn) (x y : Int) (k : Nat) : List Pt := ((beside (x, y)).take k).filter fun c => isB L c.1 c.2
theorem besideK_le (L : Lawn) (x y : Int) (k : Nat) : (besideK L x y k).length ≤ 4 := by
  unfold besideK
  refine Nat.le_trans (List.length_filter_le _ _) ?_
  simp [beside]; omega
theorem besideK_hit {L : Lawn} {x y : Int} {k : Nat} {c : Pt} (h : (beside (x, y))[k]? = some c) (hi : isB L c.1 c.2 = true) : besideK L x y (k + 1) = besideK L x y k ++ [c] := by
  unfold besideK
  rw [List.take_add_one, h, Option.toList_some, List.filter_append]
  simp [hi]
theorem besideK_miss {L : Lawn} {x y : Int} {k : Nat} {c : Pt} (h : (beside (x, y))[k]? = some c) (hi : isB L c.1 c.2 = false) : besideK L x y (k + 1) = besideK L x y k := by
  unfold besideK
  rw [List.take_add_one, h, Option.toList_some, List.filter_append]
  simp [hi]
theorem beside_in {x y : Int} (x0 : 0 ≤ x) (x1 : x ≤ 9) (y0 : 0 ≤ y) (y1 : y ≤ 9) {c : Pt} (h : c ∈ beside (x, y)) : (-1 ≤ c.1 ∧ c.1 ≤ 10) ∧ -1 ≤ c.2 ∧ c.2 ≤ 10 := by
  simp only [beside, List.mem_cons, List.not_mem_nil, or_false] at h
  rcases h with rfl | rfl | rfl | rfl <;> simp only <;> omega

set_option maxRecDepth 100000 in
set_option maxHeartbeats 2000000 in
theorem beside_any (L : Lawn) (hL : L.Fits) (b : Nat) (x y : Int) (x0 : 0 ≤ x) (x1 : x ≤ 9) (y0 : 0 ≤ y) (y1 : y ≤ 9) (w : World) (h : Holds w b L.cells) :
    Calls Tryz.prog 55 #[.pointer (some ⟨b, 0, none⟩), .agg #[.int .i8 x, .int .i8 y]] w fun e w' => ∃ v, e = .returned v ∧ w'.ownsRow w.heap.size 30 2 v (besideK L x y 4).length (flatP (besideK L x y 4)) ∧ Below w.heap.size w w' := by
  obtain ⟨i0, hi, hz0, hz1, hz2⟩ := info_parts cellInfo
  have HI := Lib.hid (show Tryz.prog.info? 30 = some i0 ∧ i0.zero = some (.agg #[.int .i8 0, .int .i8 0]) ∧ i0.size = 2 ∧ i0.bytes = 2 from ⟨hi, hz0, hz1, hz2⟩)
  have HIS := Lib.hid (fun (c : Pt) (h0 : (-1 ≤ c.1 ∧ c.1 ≤ 10) ∧ -1 ≤ c.2 ∧ c.2 ≤ 10) (v : Bool) (hv : isB L c.1 c.2 = v) (w : World) (h : Holds w b L.cells) => l01Is_is L hL b c.1 c.2 w h (by omega) (by omega) (by omega) (by omega) v hv)
  have HBI := Lib.hid (fun (c : Pt) (h : c ∈ beside (x, y)) => beside_in x0 x1 y0 y1 h)
  have hbw := h.lt
  have H0 := Lib.hid h
  clear hi hz0 hz1 hz2 h
  go_enter Tryz.func55, Tryz.ntmps55
  go_wp2_with fail
  have hm : (((w.alloc (.cells #[.int .i8 x, .int .i8 y] 30)).alloc (.cells (flatP (beside (x, y))).toArray 30)).alloc (.cells #[] 30)).ownsRow (w.heap.size + 1 + 1) 30 2 (.slice (some ⟨w.heap.size + 1 + 1, 0, none⟩) 0 0) 0 [] := by
    have := World.ownsRow_made (e := 30) (size := 2) ((w.alloc (.cells #[.int .i8 x, .int .i8 y] 30)).alloc (.cells (flatP (beside (x, y))).toArray 30)) #[] 0 (Nat.le_refl _) (by simp [maxLen]) rfl
    simpa using this
  have h1 : Holds (((w.alloc (.cells #[.int .i8 x, .int .i8 y] 30)).alloc (.cells (flatP (beside (x, y))).toArray 30)).alloc (.cells #[] 30)) (w.heap.size + 1) (flatP (beside (x, y))).toArray := (Holds.new' _ _ _ _ (by simp)).alloc _
  have h0 : Holds (((w.alloc (.cells #[.int .i8 x, .int .i8 y] 30)).alloc (.cells (flatP (beside (x, y))).toArray 30)).alloc (.cells #[] 30)) b L.cells := ((H0.out.alloc _).alloc _).alloc _
  have hb0 : Below w.heap.size w (((w.alloc (.cells #[.int .i8 x, .int .i8 y] 30)).alloc (.cells (flatP (beside (x, y))).toArray 30)).alloc (.cells #[] 30)) := (((Below.refl w.heap.size w).alloc (Nat.le_refl _) _).alloc (by simp) _).alloc (by simp; omega) _
  simp only [flatP, beside, List.flatMap_cons, List.flatMap_nil, List.cons_append, List.nil_append, List.append_nil] at hm h1 h0 hb0
  obtain ⟨s, hs⟩ : ∃ s, w.heap.size = s := ⟨_, rfl⟩
  generalize (((w.alloc (.cells #[.int .i8 x, .int .i8 y] 30)).alloc (.cells _ 30)).alloc (.cells #[] 30)) = W0 at hm h1 h0 hb0 ⊢
  rw [hs] at hm h1 hb0 hbw ⊢
  have h1 : Holds W0 (s + 1) (flatP (beside (x, y))).toArray := h1
  have HS := Lib.hid hs
  clear hs H0
  go_loopw [6, 7] (fun v q wr => ∃ k : Nat, k ≤ 4 ∧ q = .int .i64 k ∧ wr.ownsRow (s + 1 + 1) 30 2 v (besideK L x y k).length (flatP (besideK L x y k)) ∧ Holds wr b L.cells ∧ Holds wr (s + 1) (flatP (beside (x, y))).toArray ∧ Below s w wr) (fun _ q _ => 4 - (intOf q).toNat)
  case atStart => exact ⟨0, by omega, rfl, hm, h0, h1, hb0⟩
  case round =>
    obtain ⟨k, hk, rfl, ho, k0, k1, hb⟩ := hrel
    have HO := Lib.hid ho
    clear ho hm h0 h1 hb0
    have hsz := k1.lt
    by_cases hlt : k < 4
    · have hd : decide ((k : Int) < (4 : Int)) = true := by simp; omega
      obtain ⟨c, hc⟩ : ∃ c, (beside (x, y))[k]? = some c := ⟨_, List.getElem?_eq_getElem (by simpa [beside] using hlt)⟩
      have HC := Lib.hid hc
      have hcb := HBI.out c (List.mem_of_getElem? hc)
      obtain ⟨fa, fb⟩ := flatP_get _ _ _ hc
      have FF := Lib.hid (show ∀ w', Holds w' (s + 1) (flatP (beside (x, y))).toArray → w'.cell? ⟨s + 1, k * 2, none⟩ = some (.int .i8 c.1) ∧ w'.cell? ⟨s + 1, k * 2 + 1, none⟩ = some (.int .i8 c.2) from fun w' h =>
        ⟨by rw [h.cell, List.getElem?_toArray, fa], by rw [h.cell, List.getElem?_toArray, fb]⟩)
      obtain ⟨ca, cb⟩ := FF.out _ k1
      have HCB := Lib.hid hcb
      clear hc fa fb hcb
      go_wp2_with fail
      cases hin : isB L c.1 c.2
      case true =>
        refine (HIS.out c HCB.out true hin _ k0).mono ?_
        rintro e w2 ⟨rfl, hb1⟩
        have p0 := k0.below hb1 k0.lt
        have p1 := k1.below hb1 k1.lt
        have hb4 : Below s w w2 := hb.trans (hb1.mono (by omega))
        have HO2 := Lib.hid (own_below HO.out hb1)
        have hs2 := p1.lt
        clear ca cb k0 k1 hb hb1 HO
        obtain ⟨ca, cb⟩ := FF.out _ p1
        have HIN := Lib.hid hin
        have hle := besideK_le L x y k
        clear hin
        go_wp2_with (at_builtin; refine wpList_append_own_at _ rfl _ _ 47 rfl (s + 1 + 1) 30 i0 (.agg #[.int .i8 0, .int .i8 0]) 2 2 Tryz.underlying47 HI.out.1 HI.out.2.1 HI.out.2.2.1 HI.out.2.2.2 rfl (by decide) _ _ _ rfl (HO2.out.alloc _) ⟨w2.heap.size, 0, none⟩ 1 1 [.int .i8 c.1, .int .i8 c.2] rfl rfl ?c1 ?c2 ?c3 ?c4 ?c5 ?_)
        case c1 =>
          intro m u hu
          match m, hu with
          | 0, hu => simp at hu; subst hu; exact (Holds.new w2 #[.int .i8 c.1, .int .i8 c.2] 30).cell 0
          | 1, hu => simp at hu; subst hu; exact (Holds.new w2 #[.int .i8 c.1, .int .i8 c.2] 30).cell 1
        case c2 => intro u hu; simp at hu; rcases hu with rfl | rfl <;> rfl
        case c3 => unfold maxLen; omega
        case c4 => omega
        case c5 => simp; omega
        intro v' w3 hown' hgrow _ hat
        have hb5 : Below s w w3 := (hb4.alloc (by omega) _).grown hgrow (by simp; omega) (fun k hk => by have := own_far HO2.out k hk; omega)
        have ho3 : w3.ownsRow (s + 1 + 1) 30 2 v' (besideK L x y (k + 1)).length (flatP (besideK L x y (k + 1))) := by
          rw [besideK_hit HC.out HIN.out, flatP_append, List.length_append]
          exact hown'
        have r0 := held_grown (p0.alloc (.cells #[.int .i8 c.1, .int .i8 c.2] 30)) (HO2.out.alloc _) hgrow (by omega)
        have r1 := held_grown (p1.alloc (.cells #[.int .i8 c.1, .int .i8 c.2] 30)) (HO2.out.alloc _) hgrow (by omega)
        have HO3 := Lib.hid ho3
        clear hown' hgrow ho3 hat ca cb hb4 p0 p1
        go_wp2_with fail
        go_roundw
        case rel => exact ⟨k + 1, by omega, by go_num, HO3.out, r0, r1, hb5⟩
        case measure => simp [intOf]; omega
      case false =>
        refine (HIS.out c HCB.out false hin _ k0).mono ?_
        rintro e w2 ⟨rfl, hb1⟩
        have p0 := k0.below hb1 k0.lt
        have p1 := k1.below hb1 k1.lt
        have hb4 : Below s w w2 := hb.trans (hb1.mono (by omega))
        have HO2 := Lib.hid (own_below HO.out hb1)
        rw [← besideK_miss HC.out hin] at HO2
        clear ca cb k0 k1 hb hb1 HO hin
        go_wp2_with fail
        go_roundw
        case rel => exact ⟨k + 1, by omega, by go_num, HO2.out, p0, p1, hb4⟩
        case measure => simp [intOf]; omega
    · obtain rfl : k = 4 := by omega
      have hd : decide (((4 : Nat) : Int) < (4 : Int)) = false := by decide
      obtain ⟨av, cv, rfl⟩ := own_slice HO.out
      go_wp2_with fail
      go_ret
      exact ⟨_, rfl, ownsRow_low HO.out (by have := HS.out; omega), HS.out ▸ hb⟩
end Go.Proofs.YtabemgplddfemaaGreatDoor

namespace Go.Proofs.YtabemgplddfemaaGreatDoor
open Go.RowKit
set_option linter.unusedVariables false
attribute [local go_sem ↓] loadRow loadGrid loadLawn loadMirror storeRow storeGrid storeLawn allocRow allocGrid allocLawn buildZero buildSides

/-- The functions of the sides. -/
def sideN (k : Nat) : Nat := if k = 0 then 74 else if k = 1 then 75 else if k = 2 then 76 else 77
def sideF (k : Nat) : Value := .func (.func (sideN k)) #[] #[]
def sidesV : Array Value := #[sideF 0, sideF 1, sideF 2, sideF 3]
theorem sides_any (w : World) : Calls Tryz.prog 64 #[] w fun e w' => e = .returned (.agg sidesV) ∧ Below w.heap.size w w' := by
  go_enter Tryz.func64, Tryz.ntmps64
  go_wp2_with fail
  exact bodyPost_ret (results_cell_holds (n := 4) rfl (by kernel_rfl) _ rfl (Holds.new' _ _ _ w.heap.size rfl) rfl) rfl ⟨rfl, (Below.refl _ _).alloc (Nat.le_refl _) _⟩
theorem side_any (k : Nat) (hk : k < 4) (c d : Pt) (hd : (beside c)[k]? = some d) (h : (0 ≤ c.1 ∧ c.1 < 10) ∧ 0 ≤ c.2 ∧ c.2 < 10) (w : World) :
    Calls Tryz.prog (sideN k) #[.agg #[.int .i8 c.1, .int .i8 c.2]] w fun e w' => e = .returned (.agg #[.int .i8 d.1, .int .i8 d.2]) ∧ Below w.heap.size w w' := by
  match k, hk with
  | 0, _ => simp only [beside, List.getElem?_cons_zero, Option.some.injEq] at hd; subst hd; exact north_any _ _ (by omega) (by omega) w
  | 1, _ => simp only [beside, List.getElem?_cons_succ, List.getElem?_cons_zero, Option.some.injEq] at hd; subst hd; exact west_any _ _ (by omega) (by omega) w
  | 2, _ => simp only [beside, List.getElem?_cons_succ, List.getElem?_cons_zero, Option.some.injEq] at hd; subst hd; exact east_any _ _ (by omega) (by omega) w
  | 3, _ => simp only [beside, List.getElem?_cons_succ, List.getElem?_cons_zero, Option.some.injEq] at hd; subst hd; exact south_any _ _ (by omega) (by omega) w
theorem side_enters (k : Nat) (hk : k < 4) (args : Array Value) (w : World) : (callFunc (sideN k) args).run Tryz.prog w = .ok (.enter (sideN k) args) w := by
  match k, hk with
  | 0, _ => exact enters_of Tryz.func74 (by kernel_rfl) rfl args w
  | 1, _ => exact enters_of Tryz.func75 (by kernel_rfl) rfl args w
  | 2, _ => exact enters_of Tryz.func76 (by kernel_rfl) rfl args w
  | 3, _ => exact enters_of Tryz.func77 (by kernel_rfl) rfl args w
theorem sides_index0 (w : World) : (Instr.index 112 (.agg sidesV) (.int .i64 ((0 : Nat) : Int))).run Tryz.prog w = .ok (.func (.func (sideN 0)) #[] #[]) w := by kernel_rfl
theorem sides_index1 (w : World) : (Instr.index 112 (.agg sidesV) (.int .i64 ((1 : Nat) : Int))).run Tryz.prog w = .ok (.func (.func (sideN 1)) #[] #[]) w := by kernel_rfl
theorem sides_index2 (w : World) : (Instr.index 112 (.agg sidesV) (.int .i64 ((2 : Nat) : Int))).run Tryz.prog w = .ok (.func (.func (sideN 2)) #[] #[]) w := by kernel_rfl
theorem sides_index3 (w : World) : (Instr.index 112 (.agg sidesV) (.int .i64 ((3 : Nat) : Int))).run Tryz.prog w = .ok (.func (.func (sideN 3)) #[] #[]) w := by kernel_rfl
theorem sides_index (k : Nat) (hk : k < 4) (w : World) : (Instr.index 112 (.agg sidesV) (.int .i64 k)).run Tryz.prog w = .ok (.func (.func (sideN k)) #[] #[]) w := by
  have : k = 0 ∨ k = 1 ∨ k = 2 ∨ k = 3 := by omega
  rcases this with rfl | rfl | rfl | rfl
  · exact sides_index0 w
  · exact sides_index1 w
  · exact sides_index2 w
  · exact sides_index3 w
theorem pass_isGrass (L : Lawn) (args : Array Value) (w : World) : (callFunc 40 args).run Tryz.prog w = .ok (.enter 40 args) w := enters_of Tryz.func40 (by kernel_rfl) rfl args w

/-- How many entries a map's block has; how many elements a slice. -/
def mapLen (w : World) (b : Nat) : Nat := match w.heap[b]? with | some (.map es _) => es.size | _ => 0
def sliceLen (v : Value) : Nat := match v with | .slice _ n _ => n | _ => 0
theorem MapIs.len {κ ν : Type} {enc : κ → Value} {val : ν → Value} {w : World} {b : Nat} {l : List (κ × ν)} (h : MapIs w b enc val l) : mapLen w b = l.length := by
  obtain ⟨es, c, h1, h2, -⟩ := h
  have := congrArg List.length h2
  simpa [mapLen, h1] using this
theorem QIs.len {w : World} {B : Nat} {e : TypeId} {size n : Nat} {v : Value} {xs : List Value} (h : QIs w B e size v n xs) : sliceLen v = n := by
  obtain ⟨g, off, cap, cur, rfl, -⟩ := h
  rfl
def valI (i : Int) : Value := .int .i64 i
theorem zero64 (w : World) : (zeroValue 2).run Tryz.prog w = .ok (valI 0) w := by kernel_rfl
/-- The cells that are still to be gone through. -/
def restQ (F : Found) (i : Nat) : List Value := flatP ((F.map (·.1)).drop i)
theorem Only.putT {T : List Nat} {w0 w : World} (h : Only T w0 w) {l : Nat} (hl : l ∈ T) (o : Obj) : Only T w0 (w.putObj l o) :=
  ⟨h.os, h.tape, h.output, by simpa using h.size, fun k hk hT => (World.putObj_heap_other (fun e => hT (by rw [e]; exact hl))).trans (h.block k hk hT)⟩
theorem Holds.putObj {w : World} {g l : Nat} {cs : Array Value} (h : Holds w g cs) (hne : g ≠ l) (o : Obj) : Holds (w.putObj l o) g cs := by
  obtain ⟨t, h⟩ := h
  exact ⟨t, (World.putObj_heap_other hne).trans h⟩

end Go.Proofs.YtabemgplddfemaaGreatDoor

namespace Go.Proofs.YtabemgplddfemaaGreatDoor
open Go.RowKit Go.Shelf
set_option linter.unusedVariables false
attribute [local go_sem] Oper.semAt_some
attribute [local go_sem ↓] loadRow loadGrid loadLawn loadMirror storeRow storeGrid storeLawn allocRow allocGrid allocLawn buildZero buildSides loadRow' loadGrid' loadLawn' loadMirror' storeRow' storeGrid' storeLawn' allocRow' allocGrid' allocLawn' buildZero' buildSides'

/-- Cells that are open; cells of grass. -/
def openP (L : Lawn) (c : Pt) : Bool := openB L c.1 c.2
def grassP (L : Lawn) (c : Pt) : Bool := grassB L c.1 c.2
theorem isB_near {L : Lawn} (hv : validB L = true) {x y : Int} (h : isB L x y = true) : (0 ≤ x ∧ x < 10) ∧ 0 ≤ y ∧ y < 10 := by
  obtain ⟨h1, h2, -⟩ := validB_true hv
  have := isB_in h
  omega
theorem openP_near {L : Lawn} (hv : validB L = true) (c : Pt) (h : openP L c = true) : (0 ≤ c.1 ∧ c.1 < 10) ∧ 0 ≤ c.2 ∧ c.2 < 10 := by
  simp only [openP, openB, Bool.and_eq_true] at h
  exact isB_near hv h.1
theorem grassP_near {L : Lawn} (hv : validB L = true) (c : Pt) (h : grassP L c = true) : (0 ≤ c.1 ∧ c.1 < 10) ∧ 0 ≤ c.2 ∧ c.2 < 10 := isB_near hv (grassB_in h)
/-- The steps to a cell; -1 if one cannot come there. -/
def stepsAt (F : Found) (x y : Int) : Int := (alLook F (x, y)).getD (-1)
def stepsV {W H : Nat} (F : Found) (l : List (Fin W × Fin H)) : List Value := l.map fun c => .int .i64 (stepsAt F c.1.val c.2.val)
theorem stepsV_append {W H : Nat} (F : Found) (l l' : List (Fin W × Fin H)) : stepsV F (l ++ l') = stepsV F l ++ stepsV F l' := by simp [stepsV]
theorem int64Info : (Tryz.prog.info? 2).map (fun i => (i.zero, i.size, i.bytes)) = some (some (.int .i64 0), 1, 8) := by kernel_rfl
/-- The list of numbers that a loop over the cells has gathered, in its variable at block s. -/
def Gathers64 (s B : Nat) (l : List Value) (n : Nat) (W : World) : Prop := ∃ v, Holds W s #[v] ∧ W.ownsRow B 2 1 v n l
theorem gathers64_own {β : Type} (s B : Nat) (l : β → List Value) (n : β → Nat) : Own (fun (b : β) w => Gathers64 s B (l b) (n b) w) := by
  rintro b W W' row ⟨v, h1, h2⟩ hg hr
  exact ⟨v, h1.grown hg hr, own_of_own (B := B) (e := 2) (size := 1) (v := fun _ : Unit => v) (n := fun _ => n b) (xs := fun _ => l b) () W W' row h2 hg hr⟩

end Go.Proofs.YtabemgplddfemaaGreatDoor
