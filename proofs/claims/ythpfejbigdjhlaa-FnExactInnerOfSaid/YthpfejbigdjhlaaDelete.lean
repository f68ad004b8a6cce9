/- slices.DeleteFunc over cells: the list's own memory is written. -/
import Derived.Test.YthpfejbigdjhlaaISides
import Derived.Lib.SliceRun
namespace Go.Proofs.Ythpfejbigdjhlaa
open Go.RowKit
set_option linter.unusedVariables false
set_option linter.unusedSimpArgs false
attribute [local go_sem ↓] loadRow loadGrid loadLawn loadMirror storeRow storeGrid storeLawn allocRow allocGrid allocLawn buildZero buildSides

section
variable {P : Program}
theorem zeroPairs (n : Nat) : (Builtin.zeroCells #[.int .i8 0, .int .i8 0] n).toList = List.replicate (n * 2) (.int .i8 0) := by
  apply List.ext_getElem
  · simp [Builtin.zeroCells]
  · intro i h1 h2
    have : i % 2 = 0 ∨ i % 2 = 1 := by omega
    rcases this with h | h <;> simp [Builtin.zeroCells, h]
theorem run_clear_pairs (w : World) (t e ty : TypeId) (ht : P.underlying t = some (.slice e)) (hv : ∀ w, (zeroValue e).run P w = .ok (.agg #[.int .i8 0, .int .i8 0]) w) (b o n c : Nat) (hn : 0 < n)
    (hc : ∀ j, j < n * 2 → (w.cell? ⟨b, o + j, none⟩).isSome = true) (hf : ∀ j, j < n * 2 → w.frozen? ⟨b, o + j, none⟩ = false) :
    (Builtin.clear_ #[t] ty #[.slice (some ⟨b, o, none⟩) n c]).run P w = .ok (.tuple #[]) (w.setCells b o (List.replicate (n * 2) (.int .i8 0))) := by
  have hst := run_storeCells_cells (P := P) b o (List.replicate (n * 2) (.int .i8 0)) 0 w (by simpa using hc) (by simpa using hf) (by intro v hv'; rw [List.eq_of_mem_replicate hv']; rfl)
  simp only [Nat.add_zero] at hst
  obtain ⟨m, rfl⟩ : ∃ m, n = m + 1 := ⟨n - 1, by omega⟩
  simp [Builtin.clear_, run_underlying ht, hv, Value.cells, zeroPairs, hst]
end
theorem own_cutD {w : World} {B : Nat} {e : TypeId} {size n m g cap : Nat} {xs : List Value} (h : w.ownsRow B e size (.slice (some ⟨g, 0, none⟩) n cap) n xs) (hm : m ≤ n) :
    w.ownsRow B e size (.slice (some ⟨g, 0, none⟩) m cap) m (xs.take (m * size)) := by
  obtain ⟨hl, h | ⟨g', cap', cur, he, hb, hg, hn, hc, hs, hx⟩⟩ := h
  · simp at h
  · simp only [Value.slice.injEq, Option.some.injEq, Addr.mk.injEq, and_true, true_and] at he
    obtain ⟨rfl, rfl⟩ := he
    have hms : m * size ≤ n * size := Nat.mul_le_mul_right _ hm
    refine ⟨by rw [List.length_take]; omega, .inr ⟨g, cap, cur, rfl, hb, hg, by omega, hc, hs, ?_⟩⟩
    rw [← hx, List.take_take, Nat.min_eq_left hms]
/-- An own row whose tail is written anew, cut ahead of it. -/
theorem own_clear {w : World} {B : Nat} {e : TypeId} {size n m g cap : Nat} {xs : List Value} (h : w.ownsRow B e size (.slice (some ⟨g, 0, none⟩) n cap) n xs) (hm : m ≤ n) (zs : List Value) :
    (w.setCells g (m * size) zs).ownsRow B e size (.slice (some ⟨g, 0, none⟩) m cap) m (xs.take (m * size)) := by
  obtain ⟨hl, h | ⟨g', cap', cur, he, hb, hg, hn, hc, hs, hx⟩⟩ := own_cutD h hm
  · simp at h
  · simp only [Value.slice.injEq, Option.some.injEq, Addr.mk.injEq, and_true, true_and] at he
    obtain ⟨rfl, rfl⟩ := he
    obtain ⟨cur', h1, h2, h3, h4⟩ := heap_setCells_same g e zs (m * size) cur w hg
    refine ⟨hl, .inr ⟨g, cap, cur', rfl, hb, h1, hn, hc, by omega, ?_⟩⟩
    rw [← hx]
    apply List.ext_getElem?
    intro j
    rw [List.getElem?_take, List.getElem?_take]
    by_cases hj : j < m * size
    · rw [if_pos hj, if_pos hj]
      have := h4 j hj
      simpa using this
    · rw [if_neg hj, if_neg hj]

/-- A row in which those that are kept of the first j cells stand first, i of them, and the others from the j-th on where they were. -/
structure DelIs {W H : Nat} (l : List (Fin W × Fin H)) (keep : Fin W × Fin H → Bool) (i j : Nat) (xs : List Value) : Prop where
  len : xs.length = l.length * 2
  cnt : ((l.take j).filter keep).length = i
  lo : ∀ (q : Nat) (c : Fin W × Fin H), ((l.take j).filter keep)[q]? = some c → xs[q * 2]? = some (.int .i8 c.1.val) ∧ xs[q * 2 + 1]? = some (.int .i8 c.2.val)
  hi : ∀ (q : Nat) (c : Fin W × Fin H), j ≤ q → l[q]? = some c → xs[q * 2]? = some (.int .i8 c.1.val) ∧ xs[q * 2 + 1]? = some (.int .i8 c.2.val)
theorem DelIs.le {W H : Nat} {l : List (Fin W × Fin H)} {keep : Fin W × Fin H → Bool} {i j : Nat} {xs : List Value} (h : DelIs l keep i j xs) (hj : j ≤ l.length) : i ≤ j := by
  rw [← h.cnt]
  refine Nat.le_trans (List.length_filter_le _ _) ?_
  rw [List.length_take]; omega
theorem DelIs.keep {W H : Nat} {l : List (Fin W × Fin H)} {keep : Fin W × Fin H → Bool} {i j : Nat} {xs : List Value} (h : DelIs l keep i j xs) {c : Fin W × Fin H} (hc : l[j]? = some c) (hk : keep c = true) :
    DelIs l keep (i + 1) (j + 1) ((xs.set (i * 2) (.int .i8 c.1.val)).set (i * 2 + 1) (.int .i8 c.2.val)) := by
  have hj : j < l.length := (List.getElem?_eq_some_iff.1 hc).1
  have hij := h.le (Nat.le_of_lt hj)
  have hf : (l.take (j + 1)).filter keep = (l.take j).filter keep ++ [c] := by rw [List.take_add_one, hc, Option.toList_some, List.filter_append]; simp [hk]
  have hl := h.len
  refine ⟨by simp [hl], by rw [hf, List.length_append, h.cnt]; rfl, fun q d hq => ?_, fun q d hq hd => ?_⟩
  · rw [hf] at hq
    by_cases e : q < i
    · rw [List.getElem?_append_left (by rw [h.cnt]; exact e)] at hq
      obtain ⟨a, b⟩ := h.lo q d hq
      rw [List.getElem?_set_ne (by omega), List.getElem?_set_ne (by omega), List.getElem?_set_ne (by omega), List.getElem?_set_ne (by omega)]
      exact ⟨a, b⟩
    · rw [List.getElem?_append_right (by rw [h.cnt]; omega), h.cnt] at hq
      have hqi : q = i := by
        have := (List.getElem?_eq_some_iff.1 hq).1
        simp at this
        omega
      subst hqi
      simp at hq
      subst hq
      constructor
      · rw [List.getElem?_set_ne (by omega), List.getElem?_set_self (by omega)]
      · rw [List.getElem?_set_self (by simp; omega)]
  · obtain ⟨a, b⟩ := h.hi q d (by omega) hd
    rw [List.getElem?_set_ne (by omega), List.getElem?_set_ne (by omega), List.getElem?_set_ne (by omega), List.getElem?_set_ne (by omega)]
    exact ⟨a, b⟩
theorem DelIs.drop {W H : Nat} {l : List (Fin W × Fin H)} {keep : Fin W × Fin H → Bool} {i j : Nat} {xs : List Value} (h : DelIs l keep i j xs) {c : Fin W × Fin H} (hc : l[j]? = some c) (hk : keep c = false) : DelIs l keep i (j + 1) xs := by
  have hf : (l.take (j + 1)).filter keep = (l.take j).filter keep := by rw [List.take_add_one, hc, Option.toList_some, List.filter_append]; simp [hk]
  exact ⟨h.len, by rw [hf]; exact h.cnt, fun q d hq => h.lo q d (by rwa [hf] at hq), fun q d hq hd => h.hi q d (by omega) hd⟩
theorem DelIs.done {W H : Nat} {l : List (Fin W × Fin H)} {keep : Fin W × Fin H → Bool} {i : Nat} {xs : List Value} (h : DelIs l keep i l.length xs) : i = (l.filter keep).length ∧ xs.take (i * 2) = flatV (l.filter keep) := by
  have hc := h.cnt
  have hlo := h.lo
  rw [List.take_of_length_le (Nat.le_refl _)] at hc hlo
  have hle := h.le (Nat.le_refl _)
  refine ⟨hc.symm, ?_⟩
  apply List.ext_getElem?
  intro t
  rw [List.getElem?_take]
  by_cases ht : t < i * 2
  · rw [if_pos ht]
    have hq : t / 2 < (l.filter keep).length := by omega
    have hg := List.getElem?_eq_getElem hq
    obtain ⟨a, b⟩ := hlo _ _ hg
    obtain ⟨a', b'⟩ := flatV_get _ _ _ hg
    rcases Nat.mod_two_eq_zero_or_one t with e | e
    · rw [show t / 2 * 2 = t by omega] at a a'
      rw [a, a']
    · rw [show t / 2 * 2 + 1 = t by omega] at b b'
      rw [b, b']
  · rw [if_neg ht, List.getElem?_eq_none (by rw [flatV_length]; omega)]
theorem DelIs.start {W H : Nat} {l : List (Fin W × Fin H)} {keep : Fin W × Fin H → Bool} {m : Nat} {c : Fin W × Fin H} (hall : ∀ j c, j < m → l[j]? = some c → keep c = true) (hc : l[m]? = some c) (hk : keep c = false) : DelIs l keep m (m + 1) (flatV l) := by
  have hm : m < l.length := (List.getElem?_eq_some_iff.1 hc).1
  have hf : (l.take (m + 1)).filter keep = l.take m := by
    rw [List.take_add_one, hc, Option.toList_some, List.filter_append]
    have : (l.take m).filter keep = l.take m := by
      rw [List.filter_eq_self]
      intro a ha
      obtain ⟨j, hj⟩ := List.mem_iff_getElem?.1 ha
      rw [List.getElem?_take] at hj
      split at hj
      · exact hall j a (by omega) hj
      · cases hj
    rw [this]
    simp [hk]
  refine ⟨flatV_length l, by rw [hf, List.length_take]; omega, fun q d hq => ?_, fun q d hq hd => flatV_get _ _ _ hd⟩
  rw [hf, List.getElem?_take] at hq
  split at hq
  · exact flatV_get _ _ _ hq
  · cases hq

theorem zeroCell (w : World) : (zeroValue 40).run Try.prog w = .ok (.agg #[.int .i8 0, .int .i8 0]) w := by kernel_rfl
theorem own_roomD {w : World} {B : Nat} {e : TypeId} {size n g cap : Nat} {xs : List Value} (h : w.ownsRow B e size (.slice (some ⟨g, 0, none⟩) n cap) n xs) : n ≤ cap := by
  obtain ⟨hl, h | ⟨g', cap', cur, he, hb, hg, hn, hc, hs, hx⟩⟩ := h
  · simp at h
  · simp only [Value.slice.injEq, Option.some.injEq, Addr.mk.injEq, and_true, true_and] at he
    obtain ⟨rfl, rfl⟩ := he
    exact hn
theorem own_maxD {w : World} {B : Nat} {e : TypeId} {size n g cap : Nat} {xs : List Value} (h : w.ownsRow B e size (.slice (some ⟨g, 0, none⟩) n cap) n xs) : cap ≤ maxLen := by
  obtain ⟨hl, h | ⟨g', cap', cur, he, hb, hg, hn, hc, hs, hx⟩⟩ := h
  · simp at h
  · simp only [Value.slice.injEq, Option.some.injEq, Addr.mk.injEq, and_true, true_and] at he
    obtain ⟨rfl, rfl⟩ := he
    exact hc
/-- Whether a cell stays in the list of the inner cells, or of the others. -/
def keepI {W H : Nat} (L : Lawn) (inner : Bool) (c : Fin W × Fin H) : Bool := innerB L ((c.1.val : Int), (c.2.val : Int)) == inner

set_option maxRecDepth 100000 in
set_option maxHeartbeats 1000000 in
theorem inside_is (L : Lawn) (hv : validB L = true) (inner : Bool) (b c : Nat) (x y : Nat) (hx : x < 10) (hy : y < 10) (d : Bool) (hd : (innerB L ((x : Int), (y : Int)) != inner) = d) (w : World) (hb : Holds w b L.cells) (hc : Holds w c #[.bool inner]) :
    Calls Try.prog 100 #[.agg #[.int .i8 x, .int .i8 y], .pointer (some ⟨b, 0, none⟩), .pointer (some ⟨c, 0, none⟩)] w fun e w' => e = .returned (.bool d) ∧ Below w.heap.size w w' := by
  have HN := Lib.hid (isInner_any L hv x y (by omega) (by omega) (by omega) (by omega))
  subst hd
  obtain ⟨n, hn⟩ : ∃ n, innerB L ((x : Int), (y : Int)) = n := ⟨_, rfl⟩
  rw [hn] at HN ⊢
  clear hn hv
  have c0 := Holds.new w #[.int .i8 x, .int .i8 y] 40
  have b1 := hb.alloc (.cells #[.int .i8 x, .int .i8 y] 40)
  have c1 := hc.alloc (.cells #[.int .i8 x, .int .i8 y] 40)
  have hb0 := (Below.refl w.heap.size w).alloc (Nat.le_refl _) (.cells #[.int .i8 x, .int .i8 y] 40)
  obtain ⟨W0, hW0⟩ : ∃ W0, w.alloc (.cells #[.int .i8 x, .int .i8 y] 40) = W0 := ⟨_, rfl⟩
  rw [hW0] at c0 b1 c1 hb0
  go_enter Try.func100, Try.ntmps100
  go_wp2_with fail
  clear hW0
  obtain ⟨r0, -⟩ := b1.later
  obtain ⟨-, s0⟩ := c0.later
  obtain ⟨-, s1⟩ := c1.later
  refine wp_region_grow 5 (by kernel_rfl) (by kernel_rfl) ?_
  simp only [List.take_succ_cons, List.take_zero, List.drop_succ_cons, List.drop_zero]
  iterate 5
    apply wpGrow_plain rfl
    · intro w' hw' K hK
      have e0 := s0 _ hw'
      have e1 := s1 _ hw'
      have e2 := r0 _ hw'
      go_wp2_with (go_at_call 101; refine (HN.out _).mono ?_; rintro e w1 ⟨rfl, hb1⟩)
      first | exact hK _ _ rfl hw' | exact hK _ _ rfl (below_onto hw' hb1)
    simp only [Act.put, List.setIfInBounds_toArray, List.set_cons_succ, List.set_cons_zero]
  refine wpGrow_nil ?_
  intro W1 hW
  have hb2 := below_onto hb0 hW
  clear r0 s0 s1 b1 c1 c0 hW hb0
  go_wp2_with fail
  go_ret
  exact ⟨rfl, hb2⟩

/-- The index of the first cell that goes. -/
def goneI (n m : Nat) : Int := if m < n then (m : Int) else -1

set_option maxRecDepth 100000 in
set_option maxHeartbeats 2000000 in
theorem indexIn_any {Wn Hn : Nat} (hW : Wn ≤ 10) (hH : Hn ≤ 10) (L : Lawn) (hv : validB L = true) (inner : Bool) (b c B n : Nat) (v : Value) (hn : n ≤ 100) (l : List (Fin Wn × Fin Hn)) (hl : l.length = n) (m : Nat) (hmn : m ≤ n) (hm1 : ∀ j d, j < m → l[j]? = some d → keepI L inner d = true) (hm2 : ∀ d, l[m]? = some d → keepI L inner d = false)
    (w : World) (ho : w.ownsRow B 40 2 v n (flatV l)) (hb : Holds w b L.cells) (hc : Holds w c #[.bool inner]) :
    Calls Try.prog 111 #[v, .func (.func 100) #[] #[.pointer (some ⟨b, 0, none⟩), .pointer (some ⟨c, 0, none⟩)]] w fun e w' => e = .returned (.int .i64 (goneI n m)) ∧ Below w.heap.size w w' := by
  obtain ⟨av, cv, rfl⟩ := own_slice ho
  have HIN := Lib.hid (fun (d : Fin Wn × Fin Hn) (r : Bool) (hr : (innerB L ((d.1.val : Int), (d.2.val : Int)) != inner) = r) (w : World) (hb : Holds w b L.cells) (hc : Holds w c #[.bool inner]) => inside_is L hv inner b c d.1.val d.2.val (by have := d.1.isLt; omega) (by have := d.2.isLt; omega) r hr w hb hc)
  have HO := Lib.hid ho
  have HB := Lib.hid hb
  have HC := Lib.hid hc
  have HM := Lib.hid (And.intro hm1 hm2)
  clear ho hv hb hc hm1 hm2
  go_enter Try.func111, Try.ntmps111
  go_wp2_with fail
  go_loopw [8] (fun i wr => ∃ k : Nat, k ≤ m ∧ i = .int .i64 k ∧ Below w.heap.size w wr) (fun i _ => n - (intOf i).toNat)
  case atStart => exact ⟨0, by omega, rfl, Below.refl _ _⟩
  case round =>
    obtain ⟨k, hk, rfl, hbk⟩ := hrel
    by_cases hlt : k < n
    · have hd : decide ((k : Int) < (n : Int)) = true := by simp; omega
      obtain ⟨d, hdk⟩ : ∃ d, l[k]? = some d := ⟨_, List.getElem?_eq_getElem (by omega)⟩
      have HD := Lib.hid hdk
      obtain ⟨fa, fb⟩ := flatV_get _ _ _ hdk
      have ho := own_below HO.out hbk
      obtain ⟨ga, cap, he, hBg, hg⟩ := own_form ho (by omega)
      simp only [Value.slice.injEq, true_and] at he
      obtain ⟨rfl, rfl⟩ := he
      have ca := own_cell ho _ _ fa
      have cb := own_cell ho _ _ fb
      have hbb := HB.out.below hbk HB.out.lt
      have hcc := HC.out.below hbk HC.out.lt
      have hsz := hbk.size
      clear ho hdk fa fb
      obtain ⟨r, hr⟩ : ∃ r, (innerB L ((d.1.val : Int), (d.2.val : Int)) != inner) = r := ⟨_, rfl⟩
      have HR := Lib.hid (HIN.out d r hr)
      have HRR := Lib.hid hr
      clear hr
      have HKP := Lib.hid (show keepI L inner d = !r by rw [← HRR.out]; simp [keepI, bne])
      go_wp2_with fail
      refine (HR.out _ hbb hcc).mono ?_
      rintro e w2 ⟨rfl, hb1⟩
      have hb2 := below_onto hbk hb1
      clear hb1 ca cb hbb hcc hbk
      cases r
      · have HKM := Lib.hid (show k < m by
          rcases Nat.lt_or_ge k m with h | h
          · exact h
          · have := HM.out.2 d (by rw [show m = k by omega]; exact HD.out)
            rw [HKP.out] at this
            cases this)
        go_wp2_with fail
        go_roundw
        case rel => exact ⟨k + 1, HKM.out, by go_num, hb2⟩
        case measure => simp [intOf]; omega
      · have HKM := Lib.hid (show goneI n m = k by
          rcases Nat.lt_or_ge k m with h | h
          · have := HM.out.1 k d h HD.out
            rw [HKP.out] at this
            cases this
          · unfold goneI; rw [show m = k by omega, if_pos hlt])
        go_wp2_with fail
        go_ret
        exact ⟨by rw [HKM.out]; rfl, hb2⟩
    · have hd : decide ((k : Int) < (n : Int)) = false := by simp; omega
      have HKM := Lib.hid (show goneI n m = -1 by unfold goneI; rw [if_neg (by omega)])
      go_wp2_with fail
      go_ret
      exact ⟨by rw [HKM.out]; rfl, hbk⟩

set_option maxRecDepth 100000 in
set_option maxHeartbeats 4000000 in
theorem delete_any {Wn Hn : Nat} (hW : Wn ≤ 10) (hH : Hn ≤ 10) (L : Lawn) (hv : validB L = true) (inner : Bool) (b c B n : Nat) (v : Value) (hn : n ≤ 100) (l : List (Fin Wn × Fin Hn)) (hl : l.length = n) (w : World) (ho : w.ownsRow B 40 2 v n (flatV l)) (hb : Holds w b L.cells) (hc : Holds w c #[.bool inner]) (hbB : b < B) (hcB : c < B) (hBle : B ≤ w.heap.size) :
    Calls Try.prog 99 #[v, .func (.func 100) #[] #[.pointer (some ⟨b, 0, none⟩), .pointer (some ⟨c, 0, none⟩)]] w fun e w' => (∃ u, e = .returned u ∧ w'.ownsRow B 40 2 u (l.filter (keepI L inner)).length (flatV (l.filter (keepI L inner)))) ∧ Below B w w' := by
  obtain ⟨m, hmn, hm1, hm2⟩ : ∃ m, m ≤ n ∧ (∀ j d, j < m → l[j]? = some d → keepI L inner d = true) ∧ (∀ d, l[m]? = some d → keepI L inner d = false) := by
    subst hl
    clear ho
    induction l with
    | nil => exact ⟨0, by simp, fun j d h => by omega, fun d h => by simp at h⟩
    | cons x l ih =>
      cases hx : keepI L inner x with
      | false => exact ⟨0, by simp, fun j d h => by omega, fun d h => by simp at h; subst h; exact hx⟩
      | true =>
        obtain ⟨m, h1, h2, h3⟩ := ih (by simp at hn; omega)
        refine ⟨m + 1, by simp; omega, fun j d hj hd => ?_, fun d hd => h3 d (by simpa using hd)⟩
        cases j with
        | zero => simp at hd; subst hd; exact hx
        | succ j => exact h2 j d (by omega) (by simpa using hd)
  have HX := Lib.hid (indexIn_any hW hH L hv inner b c B n v hn l hl m hmn hm1 hm2 w ho hb hc)
  have HIN := Lib.hid (fun (d : Fin Wn × Fin Hn) (r : Bool) (hr : (innerB L ((d.1.val : Int), (d.2.val : Int)) != inner) = r) (w : World) (hb : Holds w b L.cells) (hc : Holds w c #[.bool inner]) => inside_is L hv inner b c d.1.val d.2.val (by have := d.1.isLt; omega) (by have := d.2.isLt; omega) r hr w hb hc)
  have HM := Lib.hid (And.intro hm1 hm2)
  obtain ⟨av, cv, rfl⟩ := own_slice ho
  have HO := Lib.hid ho
  have HBC := Lib.hid (And.intro hb hc)
  clear ho hv hm1 hm2 hb hc
  rcases Nat.lt_or_ge m n with hmlt | hmge
  · have hgi : goneI n m = m := by unfold goneI; rw [if_pos hmlt]
    rw [hgi] at HX
    obtain ⟨dm, hdm⟩ : ∃ d, l[m]? = some d := ⟨_, List.getElem?_eq_getElem (by omega)⟩
    have HST := Lib.hid (DelIs.start HM.out.1 hdm (HM.out.2 dm hdm))
    have hd0 : ((m : Int) == -1) = false := by simp
    clear hgi hdm
    go_enter Try.func99, Try.ntmps99
    go_wp2_with fail
    refine HX.out.mono ?_
    rintro e w1 ⟨rfl, hb1⟩
    have ho1 := own_below HO.out hb1
    obtain ⟨g, cap, he, hBg, hg⟩ := own_form ho1 (by omega)
    simp only [Value.slice.injEq, true_and] at he
    obtain ⟨rfl, rfl⟩ := he
    have HO1 := Lib.hid ho1
    have HB1 := Lib.hid (HBC.out.1.below hb1 HBC.out.1.lt)
    have HC1 := Lib.hid (HBC.out.2.below hb1 HBC.out.2.lt)
    have hBw : B ≤ w.heap.size := by have := own_lt HO.out; omega
    have hbw : Below B w w1 := hb1.mono hBw
    clear ho1 hb1 HX HO HBC
    go_wp2_with fail
    go_loopw [5, 6] (fun i j wr => ∃ p q xs, q ≤ n ∧ m + 1 ≤ q ∧ i = .int .i64 (p : Nat) ∧ j = .int .i64 (q : Nat) ∧ DelIs l (keepI L inner) p q xs ∧ wr.ownsRow B 40 2 (.slice (some ⟨g, 0, none⟩) n cv) n xs ∧ Holds wr b L.cells ∧ Holds wr c #[.bool inner] ∧ Below B w wr) (fun _ j _ => n - (intOf j).toNat)
    case atStart => exact ⟨m, m + 1, flatV l, by omega, by omega, rfl, rfl, HST.out, HO1.out, HB1.out, HC1.out, hbw⟩
    case round =>
      obtain ⟨p, q, xs, hq, hq1, rfl, rfl, hD, hoq, hbq, hcq, hbel⟩ := hrel
      have HD := Lib.hid hD
      have HOQ := Lib.hid hoq
      have hgw := (own_lt hoq).2
      clear hD hoq HO1 HB1 HC1 hbw HST
      by_cases hlt : q < n
      · have hd : decide ((q : Int) < (n : Int)) = true := by simp; omega
        obtain ⟨d, hdq⟩ : ∃ d, l[q]? = some d := ⟨_, List.getElem?_eq_getElem (by omega)⟩
        have HDQ := Lib.hid hdq
        obtain ⟨fa, fb⟩ := HD.out.hi q d (Nat.le_refl _) hdq
        have ca := own_cell HOQ.out _ _ fa
        have cb := own_cell HOQ.out _ _ fb
        have hpq := HD.out.le (by omega)
        obtain ⟨r, hr⟩ : ∃ r, (innerB L ((d.1.val : Int), (d.2.val : Int)) != inner) = r := ⟨_, rfl⟩
        have HR := Lib.hid (HIN.out d r hr)
        have HKP := Lib.hid (show keepI L inner d = !r by rw [← hr]; simp [keepI, bne])
        clear hr hdq fa fb
        have n0 := Holds.new wr #[.int .i8 d.1.val, .int .i8 d.2.val] 40
        have b0 := hbq.alloc (.cells #[.int .i8 d.1.val, .int .i8 d.2.val] 40)
        have c0 := hcq.alloc (.cells #[.int .i8 d.1.val, .int .i8 d.2.val] 40)
        have o0 := own_below HOQ.out ((Below.refl wr.heap.size wr).alloc (Nat.le_refl _) (.cells #[.int .i8 d.1.val, .int .i8 d.2.val] 40))
        have hb0 := hbel.alloc (by have := hbq.lt; omega) (.cells #[.int .i8 d.1.val, .int .i8 d.2.val] 40)
        obtain ⟨-, -, dn, -, -⟩ := n0.facts
        have HO0 := Lib.hid o0
        clear o0 hbq hcq hbel
        go_wp2_with fail
        refine (HR.out _ b0 c0).mono ?_
        rintro e w2 ⟨rfl, hb2⟩
        have n2 := n0.below hb2 n0.lt
        have b2 := b0.below hb2 b0.lt
        have c2 := c0.below hb2 c0.lt
        have hbel2 : Below B w w2 := hb0.trans (hb2.mono (by simp; omega))
        have HO2 := Lib.hid (own_below HO0.out hb2)
        have hsz2 := n2.lt
        obtain ⟨k, hk⟩ : ∃ k, wr.heap.size = k := ⟨_, rfl⟩
        rw [hk] at n2 hsz2 hgw
        clear n0 b0 c0 hb0 hb2 HO0 HR HOQ ca cb dn
        cases r
        · have HD2 := Lib.hid (HD.out.keep HDQ.out (by rw [HKP.out]; rfl))
          have f0 := own_free HO2.out (p * 2)
          have f1 := own_free HO2.out (p * 2 + 1)
          have hxl := HD.out.len
          obtain ⟨x0, hx0⟩ : ∃ x, xs[p * 2]? = some x := ⟨_, List.getElem?_eq_getElem (by omega)⟩
          obtain ⟨x1, hx1⟩ : ∃ x, xs[p * 2 + 1]? = some x := ⟨_, List.getElem?_eq_getElem (by omega)⟩
          have d0 := own_cell HO2.out _ _ hx0
          have d1 := own_cell HO2.out _ _ hx1
          have HS := Lib.hid (own_set (own_set HO2.out (p * 2) (.int .i8 d.1.val) (by omega)) (p * 2 + 1) (.int .i8 d.2.val) (by simp; omega))
          obtain ⟨-, -, dn, -, -⟩ := n2.facts
          clear hx0 hx1
          go_wp2_with fail
          go_roundw
          case rel => exact ⟨p + 1, q + 1, _, by omega, by omega, by go_num, by go_num, HD2.out, HS.out, (b2.setCell_other _ _ (by dsimp only; omega)).setCell_other _ _ (by dsimp only; omega), (c2.setCell_other _ _ (by dsimp only; omega)).setCell_other _ _ (by dsimp only; omega), (hbel2.setCell (p := ⟨g, p * 2, none⟩) (by dsimp only; omega) _).setCell (p := ⟨g, p * 2 + 1, none⟩) (by dsimp only; omega) _⟩
          case measure => simp [intOf]; omega
        · have HD2 := Lib.hid (HD.out.drop HDQ.out (by rw [HKP.out]; rfl))
          go_wp2_with fail
          go_roundw
          case rel => exact ⟨p, q + 1, xs, by omega, by omega, rfl, by go_num, HD2.out, HO2.out, b2, c2, hbel2⟩
          case measure => simp [intOf]; omega
      · obtain rfl : q = n := by omega
        subst hl
        obtain ⟨hp, hx⟩ := HD.out.done
        have HX := Lib.hid hx
        have HP := Lib.hid hp
        have hpn : p < l.length := by
          rw [hp]
          obtain ⟨dm, hdm⟩ : ∃ d, l[m]? = some d := ⟨_, List.getElem?_eq_getElem (by omega)⟩
          have := (List.length_filter_lt_length_iff_exists (p := keepI L inner)).2 ⟨dm, List.mem_of_getElem? hdm, by rw [HM.out.2 dm hdm]; decide⟩
          exact this
        have hcap := own_roomD HOQ.out
        have hmx := own_maxD HOQ.out
        have hd : decide (((l.length : Nat) : Int) < (l.length : Int)) = false := by simp
        have hcl := fun ty => run_clear_pairs (P := Try.prog) wr 52 40 ty Try.underlying52 zeroCell g (p * 2) (l.length - p) (cv - p) (by omega) (fun j hj => by
          obtain ⟨x, hx⟩ : ∃ x, xs[p * 2 + j]? = some x := ⟨_, List.getElem?_eq_getElem (by have := HD.out.len; omega)⟩
          rw [own_cell HOQ.out _ _ hx]; rfl) (fun j hj => own_free HOQ.out _)
        have HCL := Lib.hid (own_clear HOQ.out (m := p) (by omega) (List.replicate ((l.length - p) * 2) (.int .i8 0)))
        clear hp hx
        go_wp2_with fail
        go_ret
        refine ⟨⟨_, rfl, ?_⟩, hbel.grown (grown_setCells _ _ _ (grown_refl _ g)) (by omega) (fun k hk => by cases hk; omega)⟩
        rw [← HP.out, ← HX.out]
        exact HCL.out
  · have hgi : goneI n m = -1 := by unfold goneI; rw [if_neg (by omega)]
    rw [hgi] at HX
    have HF := Lib.hid (show l.filter (keepI L inner) = l by
      rw [List.filter_eq_self]
      intro a ha
      obtain ⟨j, hj⟩ := List.mem_iff_getElem?.1 ha
      exact HM.out.1 j a (by have := (List.getElem?_eq_some_iff.1 hj).1; omega) hj)
    clear hgi
    go_enter Try.func99, Try.ntmps99
    go_wp2_with fail
    refine HX.out.mono ?_
    rintro e w1 ⟨rfl, hb1⟩
    go_wp2_with fail
    go_ret
    refine ⟨⟨_, rfl, ?_⟩, hb1.mono hBle⟩
    rw [HF.out, hl]
    exact own_below HO.out hb1
end Go.Proofs.Ythpfejbigdjhlaa
