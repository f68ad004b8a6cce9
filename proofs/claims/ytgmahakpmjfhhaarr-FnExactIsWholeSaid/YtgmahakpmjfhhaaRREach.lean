/- The iterator over a lawn's cells: it hands on all cells in their order, for every loop body that keeps the iterator's own copy of the lawn. -/
import Derived.Test.YtgmahakpmjfhhaaRROk
import Derived.RangeFuncNested
import Derived.RangeFuncBound
import Derived.RangeFuncCalls
import Derived.RangeFuncLeaves
import Derived.Shelf.Abstract
import Derived.Shelf.RegionOpen
import Derived.OwnWalkIn
import Derived.TacticsInMore
import Derived.LoopNIn
import Derived.LoopIn
namespace Go.Proofs.YtgmahakpmjfhhaaRR
open Go.RowKit Go.Shelf
attribute [local go_sem] Oper.semAt_some
attribute [local go_sem ↓] loadRow loadGrid loadLawn loadMirror storeRow storeGrid storeLawn allocRow allocGrid allocLawn buildZero buildSides

/-- All cells of a lawn of W by H, ordered. -/
def allC (W H : Nat) : List (Fin W × Fin H) := (List.finRange H).flatMap fun y => (List.finRange W).map fun x => (x, y)
theorem flat_get {α β : Type} (n : Nat) (f : α → List β) : ∀ (l : List α), (∀ a ∈ l, (f a).length = n) → ∀ (k j : Nat), j < n → (l.flatMap f)[k * n + j]? = (l[k]?).bind fun a => (f a)[j]?
  | [], _, k, j, _ => by simp
  | a :: l, h, 0, j, hj => by
    rw [List.flatMap_cons, List.getElem?_append_left (by rw [h a (by simp)]; omega)]
    simp
  | a :: l, h, k + 1, j, hj => by
    have ha := h a (by simp)
    rw [List.flatMap_cons, List.getElem?_append_right (by rw [ha, Nat.succ_mul]; omega), ha, show (k + 1) * n + j - n = k * n + j by rw [Nat.succ_mul]; omega,
      flat_get n f l (fun b hb => h b (by simp [hb])) k j hj]
    simp
theorem allC_get (W H k j : Nat) (hj : j < W) (hk : k < H) : (allC W H)[k * W + j]? = some (⟨j, hj⟩, ⟨k, hk⟩) := by
  unfold allC
  rw [flat_get W _ _ (fun a _ => by simp) k j hj]
  simp [hj, hk]
theorem allC_length (W H : Nat) : (allC W H).length = H * W := by
  unfold allC
  rw [List.length_flatMap]
  simp [List.map_const']
theorem allC_take (W H k j : Nat) (hj : j < W) (hk : k < H) : (allC W H).take (k * W + j + 1) = (allC W H).take (k * W + j) ++ [(⟨j, hj⟩, ⟨k, hk⟩)] := by
  rw [List.take_add_one, allC_get W H k j hj hk]; rfl
theorem allC_mem (W H : Nat) (x : Fin W × Fin H) : x ∈ allC W H := by
  obtain ⟨⟨j, hj⟩, ⟨k, hk⟩⟩ := x
  exact List.mem_of_getElem? (allC_get W H k j hj hk)

/-- A block lies as it lay. -/
def KeepB (b : Nat) (W W' : World) : Prop := W'.heap[b]? = W.heap[b]?
theorem KeepB.holds {b : Nat} {W W' : World} {cs : Array Value} (h : KeepB b W W') (hh : Holds W b cs) : Holds W' b cs := by
  obtain ⟨t, ht⟩ := hh; exact ⟨t, h.trans ht⟩
theorem keepB_t {b : Nat} {A B C : World} (h : KeepB b A B) (k : KeepB b B C) : KeepB b A C := Eq.trans k h
theorem keepB_b {b : Nat} {w : World} (hb : b < w.heap.size) (W : World) (l : Nat) (o o' : Obj) (hl : w.heap.size ≤ l) (_ : W.heap[l]? = some o) (_ : o.isCells = false) (_ : o.isWalk = false) : KeepB b W (W.putObj l o') := World.putObj_heap_other (by omega)
theorem KeepB.of_below {b B : Nat} {W W' : World} (h : Below B W W') (hb : b < B) : KeepB b W W' := h.block b hb
def cellA {W H : Nat} (c : Fin W × Fin H) : Array Value := #[cellV (c.1 : Nat) (c.2 : Nat)]

set_option maxRecDepth 100000 in
set_option maxHeartbeats 1000000 in
theorem each1_in (F : Fence) (n : Nat) (h6 : F.fn 167) (hro : F.round = none) (hn : 1 ≤ n) (l b : Nat) (Wn Hn : Nat) (hW : Wn ≤ 10) (hH : Hn ≤ 10) (K : Nat → Nat → Int) (J Jx : List (Fin Wn × Fin Hn) → World → Prop)
    (hY : ∀ pre x W, J pre W → pre.length < (allC Wn Hn).length → YieldAt F (n - 1) Try.prog l (cellA x) W fun e W' =>
      (e = .returned (.bool true) ∧ J (pre ++ [x]) W' ∧ KeepB b W W') ∨ (e = .returned (.bool false) ∧ Jx (pre ++ [x]) W'))
    (W : World) (hB : Holds W b (Lawn.cells ⟨(Wn : Int), (Hn : Int), K⟩)) (h0 : J [] W) :
    CallsIn F n Try.prog 167 #[.func (.yield l) #[] #[], .pointer (some ⟨b, 0, none⟩)] W fun e W' => (∃ v, e = .returned v) ∧
      ((∃ ys, ys = allC Wn Hn ∧ J ys W') ∨ (∃ pre, pre <+: allC Wn Hn ∧ Jx pre W')) := by
  obtain ⟨-, -, c, -, -⟩ := hB.facts
  refine callsIn_of_wp Try.func167 rfl h6 ?_ hro
  simp only [Try.ntmps167, List.size_toArray, List.length_cons, List.length_nil, Nat.reduceAdd, Nat.reduceSub, Array.replicate_succ, Array.replicate_zero, List.push_toArray, List.append_toArray, List.nil_append, List.cons_append]
  gi_wp2
  clear c
  gi_loopw [7, 3, 4, 12] (fun y _ _ _ wr => ∃ k : Nat, k ≤ Hn ∧ y = .int .i8 k ∧ Holds wr b (Lawn.cells ⟨(Wn : Int), (Hn : Int), K⟩) ∧ J ((allC Wn Hn).take (k * Wn)) wr) (fun y _ _ _ _ => Hn - (intOf y).toNat)
  case atStart => exact ⟨0, by omega, rfl, hB, by simpa using h0⟩
  case round =>
    obtain ⟨k, hk, rfl, hb, hJ⟩ := hrel
    obtain ⟨-, -, c, -, -⟩ := hb.facts
    by_cases hlt : k < Hn
    · have hd : decide ((k : Int) < Hn) = true := by simp; omega
      gi_wp2
      clear c
      gi_loopw [12, 4] (fun x _ wr => ∃ j : Nat, j ≤ Wn ∧ x = .int .i8 j ∧ Holds wr b (Lawn.cells ⟨(Wn : Int), (Hn : Int), K⟩) ∧ J ((allC Wn Hn).take (k * Wn + j)) wr) (fun x _ _ => Wn - (intOf x).toNat)
      case atStart => exact ⟨0, by omega, rfl, hb, by simpa using hJ⟩
      case round =>
        obtain ⟨j, hj, rfl, hbi, hJi⟩ := hrel
        by_cases hjt : j < Wn
        · have hlen : ((allC Wn Hn).take (k * Wn + j)).length < (allC Wn Hn).length := by
            have := (List.getElem?_eq_some_iff.1 (allC_get Wn Hn k j hjt hlt)).1
            rw [List.length_take]; omega
          have HT := Lib.hid (allC_take Wn Hn k j hjt hlt)
          obtain ⟨fn, tmps, assign, body, hy, hR⟩ := hY _ (⟨j, hjt⟩, ⟨k, hlt⟩) wr hJi hlen
          simp only [cellA, cellV] at hy
          gi_wp2
          refine hR.mono ?_
          rintro e W3 (⟨rfl, hJ3, hk3⟩ | ⟨rfl, hJx3⟩)
          · rw [← HT.out] at hJ3
            have hb3 := hk3.holds hbi
            gi_wp2
            go_roundw
            case rel => exact ⟨j + 1, by omega, by go_num, hb3, hJ3⟩
            case measure => simp [intOf]; omega
          · rw [← HT.out] at hJx3
            gi_wp2
            refine bodyPost_ret (results_none rfl _ _ _) rfl ?_
            exact ⟨⟨_, rfl⟩, .inr ⟨_, List.take_prefix _ _, hJx3⟩⟩
        · obtain rfl : j = Wn := by omega
          have e : k * j + j = (k + 1) * j := by rw [Nat.succ_mul]
          rw [e] at hJi
          clear e
          gi_wp2
          go_roundw
          case rel => exact ⟨k + 1, by omega, by go_num, hbi, hJi⟩
          case measure => simp [intOf]; omega
    · obtain rfl : k = Hn := by omega
      rw [List.take_of_length_le (by rw [allC_length]; omega)] at hJ
      gi_wp2
      go_end0
      exact ⟨⟨_, rfl⟩, .inl ⟨_, rfl, hJ⟩⟩

/-- **eachCell**: the lawn is boxed; the function value captures the box. -/
theorem each_in (F : Fence) (n : Nat) (h5 : F.fn 98) (hro : F.round = none) (L : Lawn) (w : World) :
    CallsIn F n Try.prog 98 #[.agg L.cells] w fun e w' => e = .returned (.func (.func 167) #[] #[.pointer (some ⟨w.heap.size, 0, none⟩)]) ∧ w' = w.alloc (.cells L.cells 28) := by
  refine callsIn_of_wp Try.func98 rfl h5 ?_ hro
  simp only [Try.ntmps98, List.size_toArray, List.length_cons, List.length_nil, Nat.reduceAdd, Nat.reduceSub, Array.replicate_succ, Array.replicate_zero, List.push_toArray, List.append_toArray, List.nil_append, List.cons_append]
  gi_wp2
  go_ret
  exact ⟨rfl, rfl⟩

theorem each_stops (F : Fence) (n : Nat) (h6 : F.fn 167) (hro : F.round = none) (hn : 1 ≤ n) (b : Nat) (Wn Hn : Nat) (hW : Wn ≤ 10) (hH : Hn ≤ 10) (K : Nat → Nat → Int) (w : World) (hb : b < w.heap.size) (hB : Holds w b (Lawn.cells ⟨(Wn : Int), (Hn : Int), K⟩)) :
    SeqStopsK F n Try.prog 167 #[.pointer (some ⟨b, 0, none⟩)] (cellA : Fin Wn × Fin Hn → Array Value) (KeepB b) (fun ys => ys = allC Wn Hn) (fun pre => pre <+: allC Wn Hn) (allC Wn Hn).length w := fun l J Jx W hWW _ _ hY h0 =>
  each1_in F n h6 hro hn l b Wn Hn hW hH K J Jx hY W (hB.below hWW hb) h0
end Go.Proofs.YtgmahakpmjfhhaaRR
