/- slices.DeleteFunc over cells: the list's own memory is written. -/
import Derived.Test.YteaajkkhbflmdaaDoorISides
import Derived.Lib.SliceRun
namespace Go.Proofs.YteaajkkhbflmdaaDoor
open Go.RowKit
set_option linter.unusedVariables false
set_option linter.unusedSimpArgs false
attribute [local go_sem ↓] loadRow loadGrid loadLawn loadMirror storeRow storeGrid storeLawn allocRow allocGrid allocLawn buildZero buildSides

section
variable {P : Program}
theorem zeroPairs (n : Nat) : (Builtin.zeroCells #[.int .i8 0, .int .i8 0] n).toList = List.replicate (n * 2) (.int .i8 0) := by
  apply List.ext_getElem
  · simp [Builtin.zeroCells]
  · intro i h1 h2
    have : i % 2 = 0 ∨ i % 2 = 1 := by omega
    rcases this with h | h <;> simp [Builtin.zeroCells, h]
theorem run_clear_pairs (w : World) (t e ty : TypeId) (ht : P.underlying t = some (.slice e)) (hv : ∀ w, (zeroValue e).run P w = .ok (.agg #[.int .i8 0, .int .i8 0]) w) (b o n c : Nat) (hn : 0 < n)
    (hc : ∀ j, j < n * 2 → (w.cell? ⟨b, o + j, none⟩).isSome = true) (hf : ∀ j, j < n * 2 → w.frozen? ⟨b, o + j, none⟩ = false) :
    (Builtin.clear_ #[t] ty #[.slice (some ⟨b, o, none⟩) n c]).run P w = .ok (.tuple #[]) (w.setCells b o (List.replicate (n * 2) (.int .i8 0))) := by
  have hst := run_storeCells_cells (P := P) b o (List.replicate (n * 2) (.int .i8 0)) 0 w (by simpa using hc) (by simpa using hf) (by intro v hv'; rw [List.eq_of_mem_replicate hv']; rfl)
  simp only [Nat.add_zero] at hst
  obtain ⟨m, rfl⟩ : ∃ m, n = m + 1 := ⟨n - 1, by omega⟩
  simp [Builtin.clear_, run_underlying ht, hv, Value.cells, zeroPairs, hst]
end
theorem own_cutD {w : World} {B : Nat} {e : TypeId} {size n m g cap : Nat} {xs : List Value} (h : w.ownsRow B e size (.slice (some ⟨g, 0, none⟩) n cap) n xs) (hm : m ≤ n) :
    w.ownsRow B e size (.slice (some ⟨g, 0, none⟩) m cap) m (xs.take (m * size)) := by
  obtain ⟨hl, h | ⟨g', cap', cur, he, hb, hg, hn, hc, hs, hx⟩⟩ := h
  · simp at h
  · simp only [Value.slice.injEq, Option.some.injEq, Addr.mk.injEq, and_true, true_and] at he
    obtain ⟨rfl, rfl⟩ := he
    have hms : m * size ≤ n * size := Nat.mul_le_mul_right _ hm
    refine ⟨by rw [List.length_take]; omega, .inr ⟨g, cap, cur, rfl, hb, hg, by omega, hc, hs, ?_⟩⟩
    rw [← hx, List.take_take, Nat.min_eq_left hms]
/-- An own row whose tail is written anew, cut ahead of it. -/
theorem own_clear {w : World} {B : Nat} {e : TypeId} {size n m g cap : Nat} {xs : List Value} (h : w.ownsRow B e size (.slice (some ⟨g, 0, none⟩) n cap) n xs) (hm : m ≤ n) (zs : List Value) :
    (w.setCells g (m * size) zs).ownsRow B e size (.slice (some ⟨g, 0, none⟩) m cap) m (xs.take (m * size)) := by
  obtain ⟨hl, h | ⟨g', cap', cur, he, hb, hg, hn, hc, hs, hx⟩⟩ := own_cutD h hm
  · simp at h
  · simp only [Value.slice.injEq, Option.some.injEq, Addr.mk.injEq, and_true, true_and] at he
    obtain ⟨rfl, rfl⟩ := he
    obtain ⟨cur', h1, h2, h3, h4⟩ := heap_setCells_same g e zs (m * size) cur w hg
    refine ⟨hl, .inr ⟨g, cap, cur', rfl, hb, h1, hn, hc, by omega, ?_⟩⟩
    rw [← hx]
    apply List.ext_getElem?
    intro j
    rw [List.getElem?_take, List.getElem?_take]
    by_cases hj : j < m * size
    · rw [if_pos hj, if_pos hj]
      have := h4 j hj
      simpa using this
    · rw [if_neg hj, if_neg hj]

/-- A row in which those that are kept of the first j cells stand first, i of them, and the others from the j-th on where they were. -/
structure DelIs {W H : Nat} (l : List (Fin W × Fin H)) (keep : Fin W × Fin H → Bool) (i j : Nat) (xs : List Value) : Prop where
  len : xs.length = l.length * 2
  cnt : ((l.take j).filter keep).length = i
  lo : ∀ (q : Nat) (c : Fin W × Fin H), ((l.take j).filter keep)[q]? = some c → xs[q * 2]? = some (.int .i8 c.1.val) ∧ xs[q * 2 + 1]? = some (.int .i8 c.2.val)
  hi : ∀ (q : Nat) (c : Fin W × Fin H), j ≤ q → l[q]? = some c → xs[q * 2]? = some (.int .i8 c.1.val) ∧ xs[q * 2 + 1]? = some (.int .i8 c.2.val)
theorem DelIs.le {W H : Nat} {l : List (Fin W × Fin H)} {keep : Fin W × Fin H → Bool} {i j : Nat} {xs : List Value} (h : DelIs l keep i j xs) (hj : j ≤ l.length) : i ≤ j := by
  rw [← h.cnt]
  refine Nat.le_trans (List.length_filter_le _ _) ?_
  rw [List.length_take]; omega
theorem DelIs.keep {W H : Nat} {l : List (Fin W × Fin H)} {keep : Fin W × Fin H → Bool} {i j : Nat} {xs : List Value} (h : DelIs l keep i j xs) {c : Fin W × Fin H} (hc : l[j]? = some c) (hk : keep c = true) :
    DelIs l keep (i + 1) (j + 1) ((xs.set (i * 2) (.int .i8 c.1.val)).set (i * 2 + 1) (.int .i8 c.2.val)) := by
  have hj : j < l.length := (List.getElem?_eq_some_iff.1 hc).1
  have hij := h.le (Nat.le_of_lt hj)
  have hf : (l.take (j + 1)).filter keep = (l.take j).filter keep ++ [c] := by rw [List.take_add_one, hc, Option.toList_some, List.filter_append]; simp [hk]
  have hl := h.len
  refine ⟨by simp [hl], by rw [hf, List.length_append, h.cnt]; rfl, fun q d hq => ?_, fun q d hq hd => ?_⟩
  · rw [hf] at hq
    by_cases e : q < i
    · rw [List.getElem?_append_left (by rw [h.cnt]; exact e)] at hq
      obtain ⟨a, b⟩ := h.lo q d hq
      rw [List.getElem?_set_ne (by omega), List.getElem?_set_ne (by omega), List.getElem?_set_ne (by omega), List.getElem?_set_ne (by omega)]
      exact ⟨a, b⟩
    · rw [List.getElem?_append_right (by rw [h.cnt]; omega), h.cnt] at hq
      have hqi : q = i := by
        have := (List.getElem?_eq_some_iff.1 hq).1
        simp at this
        omega
      subst hqi
      simp at hq
      subst hq
      constructor
      · rw [List.getElem?_set_ne (by omega), List.getElem?_set_self (by omega)]
      · rw [List.getElem?_set_self (by simp; omega)]
  · obtain ⟨a, b⟩ := h.hi q d (by omega) hd
    rw [List.getElem?_set_ne (by omega), List.getElem?_set_ne (by omega), List.getElem?_set_ne (by omega), List.getElem?_set_ne (by omega)]
    exact ⟨a, b⟩
theorem DelIs.drop {W H : Nat} {l : List (Fin W × Fin H)} {keep : Fin W × Fin H → Bool} {i j : Nat} {xs : List Value} (h : DelIs l keep i j xs) {c : Fin W × Fin H} (hc : l[j]? = some c) (hk : keep c = false) : DelIs l keep i (j + 1) xs := by
  have hf : (l.take (j + 1)).filter keep = (l.take j).filter keep := by rw [List.take_add_one, hc, Option.toList_some, List.filter_append]; simp [hk]
  exact ⟨h.len, by rw [hf]; exact h.cnt, fun q d hq => h.lo q d (by rwa [hf] at hq), fun q d hq hd => h.hi q d (by omega) hd⟩
theorem DelIs.done {W H : Nat} {l : List (Fin W × Fin H)} {keep : Fin W × Fin H → Bool} {i : Nat} {xs : List Value} (h : DelIs l keep i l.length xs) : i = (l.filter keep).length ∧ xs.take (i * 2) = flatV (l.filter keep) := by
  have hc := h.cnt
  have hlo := h.lo
  rw [List.take_of_length_le (Nat.le_refl _)] at hc hlo
  have hle := h.le (Nat.le_refl _)
  refine ⟨hc.symm, ?_⟩
  apply List.ext_getElem?
  intro t
  rw [List.getElem?_take]
  by_cases ht : t < i * 2
  · rw [if_pos ht]
    have hq : t / 2 < (l.filter keep).length := by omega
    have hg := List.getElem?_eq_getElem hq
    obtain ⟨a, b⟩ := hlo _ _ hg
    obtain ⟨a', b'⟩ := flatV_get _ _ _ hg
    rcases Nat.mod_two_eq_zero_or_one t with e | e
    · rw [show t / 2 * 2 = t by omega] at a a'
      rw [a, a']
    · rw [show t / 2 * 2 + 1 = t by omega] at b b'
      rw [b, b']
  · rw [if_neg ht, List.getElem?_eq_none (by rw [flatV_length]; omega)]
theorem DelIs.start {W H : Nat} {l : List (Fin W × Fin H)} {keep : Fin W × Fin H → Bool} {m : Nat} {c : Fin W × Fin H} (hall : ∀ j c, j < m → l[j]? = some c → keep c = true) (hc : l[m]? = some c) (hk : keep c = false) : DelIs l keep m (m + 1) (flatV l) := by
  have hm : m < l.length := (List.getElem?_eq_some_iff.1 hc).1
  have hf : (l.take (m + 1)).filter keep = l.take m := by
    rw [List.take_add_one, hc, Option.toList_some, List.filter_append]
    have : (l.take m).filter keep = l.take m := by
      rw [List.filter_eq_self]
      intro a ha
      obtain ⟨j, hj⟩ := List.mem_iff_getElem?.1 ha
      rw [List.getElem?_take] at hj
      split at hj
      · exact hall j a (by omega) hj
      · cases hj
    rw [this]
    simp [hk]
  refine ⟨flatV_length l, by rw [hf, List.length_take]; omega, fun q d hq => ?_, fun q d hq hd => flatV_get _ _ _ hd⟩
  rw [hf, List.getElem?_take] at hq
  split at hq
  · exact flatV_get _ _ _ hq
  · cases hq

theorem zeroCell (w : World) : (zeroValue 39).run Tryd.prog w = .ok (.agg #[.int .i8 0, .int .i8 0]) w := by kernel_rfl
theorem own_roomD {w : World} {B : Nat} {e : TypeId} {size n g cap : Nat} {xs : List Value} (h : w.ownsRow B e size (.slice (some ⟨g, 0, none⟩) n cap) n xs) : n ≤ cap := by
  obtain ⟨hl, h | ⟨g', cap', cur, he, hb, hg, hn, hc, hs, hx⟩⟩ := h
  · simp at h
  · simp only [Value.slice.injEq, Option.some.injEq, Addr.mk.injEq, and_true, true_and] at he
    obtain ⟨rfl, rfl⟩ := he
    exact hn
theorem own_maxD {w : World} {B : Nat} {e : TypeId} {size n g cap : Nat} {xs : List Value} (h : w.ownsRow B e size (.slice (some ⟨g, 0, none⟩) n cap) n xs) : cap ≤ maxLen := by
  obtain ⟨hl, h | ⟨g', cap', cur, he, hb, hg, hn, hc, hs, hx⟩⟩ := h
  · simp at h
  · simp only [Value.slice.injEq, Option.some.injEq, Addr.mk.injEq, and_true, true_and] at he
    obtain ⟨rfl, rfl⟩ := he
    exact hc
/-- Whether a cell stays in the list of the inner cells, or of the others. -/
def keepI {W H : Nat} (L : Lawn) (inner : Bool) (c : Fin W × Fin H) : Bool := innerB L ((c.1.val : Int), (c.2.val : Int)) == inner


/-- The index of the first cell that goes. -/
def goneI (n m : Nat) : Int := if m < n then (m : Int) else -1


end Go.Proofs.YteaajkkhbflmdaaDoor
