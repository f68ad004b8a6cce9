/- eachSpan: so many days behind each other, from each first day on. -/
import Derived.Test.YtbcbokpdcliimaaAsked
import Derived.Test.YtbcbokpdcliimaaIValidW
namespace Go.Proofs.Ytbcbokpdcliimaa
open Go.RowKit Go.Shelf
set_option linter.unusedVariables false
attribute [local go_sem] Oper.semAt_some

theorem eachSpan_in (n : Nat) (a : Option Addr) (l c : Nat) (d : Int) (w : World) :
    CallsIn Fence.wide n Try.prog 63 #[.slice a l c, .int .i64 d] w fun e w' => e = .returned (.func (.func 76) #[] #[.pointer (some ⟨w.heap.size + 1, 0, none⟩), .pointer (some ⟨w.heap.size, 0, none⟩)]) ∧ w' = (w.alloc (.cells #[.slice a l c] 27)).alloc (.cells #[.int .i64 d] 2) := by
  refine callsIn_of_wp Try.func63 rfl trivial ?_ rfl
  simp only [Try.ntmps63, List.size_toArray, List.length_cons, List.length_nil, Nat.reduceAdd, Nat.reduceSub, Array.replicate_succ, Array.replicate_zero, List.push_toArray, List.append_toArray, List.nil_append, List.cons_append]
  have hmf : ∀ (fn : Fn) (first cap : Array Value) (w : World), (Instr.makeFunc fn first cap).run Try.prog w = .ok (.func fn first cap) w := fun _ _ _ _ => rfl
  gi_wp2
  go_ret
  exact ⟨rfl, rfl⟩

/-- What the iterator leaves alone. -/
def KeepS (b1 b2 : Nat) (v : Value) (W W' : World) : Prop := (W'.heap[b1]? = W.heap[b1]? ∧ W'.heap[b2]? = W.heap[b2]?) ∧ ∀ g, v.ownBlock = some g → W'.heap[g]? = W.heap[g]?
theorem KeepS.t {b1 b2 : Nat} {v : Value} {A B C : World} (h : KeepS b1 b2 v A B) (k : KeepS b1 b2 v B C) : KeepS b1 b2 v A C := ⟨⟨k.1.1.trans h.1.1, k.1.2.trans h.1.2⟩, fun g hg => (k.2 g hg).trans (h.2 g hg)⟩
theorem KeepS.own {b1 b2 B : Nat} {v : Value} {W W' : World} {e : TypeId} {size n : Nat} {xs : List Value} (h : KeepS b1 b2 v W W') (ho : W.ownsRow B e size v n xs) : W'.ownsRow B e size v n xs :=
  KeepL.own (b := b1) ⟨h.1.1, h.2⟩ ho
theorem KeepS.holds {b1 b2 : Nat} {v : Value} {W W' : World} {c1 c2 : Array Value} (h : KeepS b1 b2 v W W') (h1 : Holds W b1 c1) (h2 : Holds W b2 c2) : Holds W' b1 c1 ∧ Holds W' b2 c2 := by
  obtain ⟨t, ht⟩ := h1; obtain ⟨s, hs⟩ := h2
  exact ⟨⟨t, h.1.1.trans ht⟩, ⟨s, h.1.2.trans hs⟩⟩
def spanV (v : Value) (d x : Nat) : Value := match v with | .slice (some a) _ c => .slice (some ⟨a.block, x * 2, none⟩) d (c - x) | _ => undef
def spanA (v : Value) (d x : Nat) : Array Value := #[.int .i64 (x : Int), spanV v d x]
theorem spanV_at (g N c d x : Nat) : spanV (.slice (some ⟨g, 0, none⟩) N c) d x = .slice (some ⟨g, x * 2, none⟩) d (c - x) := rfl
theorem spanA_at (g N c d x : Nat) : spanA (.slice (some ⟨g, 0, none⟩) N c) d x = #[.int .i64 (x : Int), .slice (some ⟨g, x * 2, none⟩) d (c - x)] := rfl
/-- The first days of so many spans. -/
def firsts (M k : Nat) : List (Fin M) := (List.finRange M).take k
theorem firsts_zero (M : Nat) : firsts M 0 = [] := rfl
theorem firsts_step {M k : Nat} (h : k < M) : firsts M (k + 1) = firsts M k ++ [⟨k, h⟩] := by
  have : (List.finRange M)[k]? = some ⟨k, h⟩ := by simp [h]
  simp [firsts, List.take_add_one, this]
theorem firsts_length {M k : Nat} (h : k ≤ M) : (firsts M k).length = k := by simp [firsts]; omega
theorem firsts_all (M : Nat) : firsts M M = List.finRange M := by simp [firsts, List.take_of_length_le]

set_option maxRecDepth 100000 in
set_option maxHeartbeats 2000000 in
theorem spans_in (n : Nat) (hn : 1 ≤ n) (l b1 b2 B : Nat) (v : Value) (N d : Nat) (hN : N ≤ 30) (hd1 : 1 ≤ d ∧ d ≤ 30) (zs : List Value) (J : List (Fin (N + 1 - d)) → World → Prop)
    (hY : ∀ pre x W, J pre W → pre.length < 30 → YieldAt Fence.wide (n - 1) Try.prog l (spanA v d x.val) W fun e W' => e = .returned (.bool true) ∧ J (pre ++ [x]) W' ∧ KeepS b1 b2 v W W')
    (W : World) (hB1 : Holds W b1 #[.int .i64 d]) (hB2 : Holds W b2 #[v]) (ho : W.ownsRow B 40 2 v N zs) (h0 : J [] W) :
    CallsIn Fence.wide n Try.prog 76 #[.func (.yield l) #[] #[], .pointer (some ⟨b1, 0, none⟩), .pointer (some ⟨b2, 0, none⟩)] W fun e W' => (∃ v, e = .returned v) ∧ J (List.finRange (N + 1 - d)) W' := by
  obtain ⟨av, cv, rfl⟩ := own_slice ho
  have HO0 := Lib.hid ho
  clear ho
  obtain ⟨-, -, e1, -, -⟩ := hB1.facts
  obtain ⟨-, -, e2, -, -⟩ := hB2.facts
  refine callsIn_of_wp Try.func76 rfl trivial ?_ rfl
  simp only [Try.ntmps76, List.size_toArray, List.length_cons, List.length_nil, Nat.reduceAdd, Nat.reduceSub, Array.replicate_succ, Array.replicate_zero, List.push_toArray, List.append_toArray, List.nil_append, List.cons_append]
  gi_wp2
  clear e1 e2
  gi_loopw [4] (fun i wr => ∃ k : Nat, k ≤ N + 1 - d ∧ i = .int .i64 k ∧ Holds wr b1 #[.int .i64 d] ∧ Holds wr b2 #[.slice av N cv] ∧ wr.ownsRow B 40 2 (.slice av N cv) N zs ∧ J (firsts (N + 1 - d) k) wr) (fun i _ => 31 - (intOf i).toNat)
  case atStart => exact ⟨0, by omega, rfl, hB1, hB2, HO0.out, h0⟩
  case round =>
    obtain ⟨k, hk, rfl, hb1, hb2, ho, hj⟩ := hrel
    have HO := Lib.hid ho
    have f1 := hb1.cell 0
    have f2 := hb2.cell 0
    by_cases hlt : k + d ≤ N
    · have hd : decide ((k : Int) + (d : Int) ≤ (N : Int)) = true := by simp; omega
      obtain ⟨g, cap, he, hBg, hg⟩ := own_form ho (by omega)
      simp only [Value.slice.injEq, true_and] at he
      obtain ⟨rfl, rfl⟩ := he
      have hcap : N ≤ cv := by
        obtain ⟨-, h3 | ⟨g', cap', cur, h4, -, -, h6, -⟩⟩ := ho
        · have := h3.2; omega
        · simp only [Value.slice.injEq] at h4
          obtain ⟨-, -, rfl⟩ := h4
          exact h6
      have hck : ¬ cv = k := by omega
      clear ho
      obtain ⟨fn, tmps, assign, body, hy, hR⟩ := hY _ ⟨k, by omega⟩ wr hj (by rw [firsts_length hk]; omega)
      simp only [spanA_at] at hy
      clear hj hY
      gi_wp2
      refine hR.mono ?_
      rintro e W3 ⟨rfl, hJ3, hk3⟩
      rw [← firsts_step] at hJ3
      obtain ⟨hb3, hb4⟩ := hk3.holds hb1 hb2
      have HO3 := Lib.hid (hk3.own HO.out)
      clear f1 f2 hk3
      gi_wp2
      go_roundw
      case rel => exact ⟨k + 1, by omega, by go_num, hb3, hb4, HO3.out, hJ3⟩
      case measure => simp [intOf]; omega
    · have hd : decide ((k : Int) + (d : Int) ≤ (N : Int)) = false := by simp; omega
      obtain rfl : k = N + 1 - d := by omega
      gi_wp2
      go_end0
      rw [firsts_all] at hj
      exact ⟨⟨_, rfl⟩, hj⟩
end Go.Proofs.Ytbcbokpdcliimaa
