/- A queue to which several elements are appended at once. -/
import Derived.Test.YtaeenkjbmlgcmaaZG
namespace Go.Proofs.Ytaeenkjbmlgcmaa
open Go.RowKit
set_option linter.unusedVariables false

section
variable {P : Program}
theorem run_append_qm {w : World} {B : Nat} {e : TypeId} {size n : Nat} {v : Value} {xs : List Value} (h : QIs w B e size v n xs) (hB : B ≤ w.heap.size)
    (t ty : TypeId) (i : TypeInfo) (z : Value) (bytes : Nat) (ht : P.underlying t = some (.slice e)) (hi : P.info? e = some i) (hz : i.zero = some z) (hsize : i.size = size) (hby : i.bytes = bytes) (hzs : z.cells.size = size) (hsz : 0 < size)
    (ad : Addr) (m c : Nat) (hm0 : 0 < m) (news : List Value) (hl : news.length = m * size) (hnews : ∀ j u, news[j]? = some u → w.cell? (ad.add j) = some u) (h1 : ∀ u ∈ news, u.oneCell' = true)
    (h63 : n + m ≤ maxLen) (hbytes : (n + m) * bytes ≤ 140737488355328) :
    ∃ v' w', (Builtin.append_ #[t, t] ty #[v, .slice (some ad) m c]).run P w = .ok v' w' ∧ QIs w' B e size v' (n + m) (xs ++ news) ∧ w.grownBy w' v.ownBlock ∧ (v'.ownBlock = v.ownBlock ∨ ∀ k, v'.ownBlock = some k → w.heap.size ≤ k) := by
  subst hsize
  obtain ⟨g, off, cap, cur, rfl, hg, hc, a1, a2, a3, a4, hx⟩ := h
  have hcell : ∀ j, w.cell? ⟨g, j, none⟩ = cur[j]? := fun j => by simp [World.cell?, hc]
  by_cases hr : n + m ≤ cap
  · have hm : (n + m) * i.size ≤ cap * i.size := Nat.mul_le_mul_right _ hr
    rw [Nat.add_mul] at hm
    have hrun := run_append_room_cells (P := P) w t ty e i ht hi g off n cap ad m c news hl hnews h1 hr
      (fun j hj => by rw [hcell]; have : off + n * i.size + j < cur.size := by omega
                      simp [this])
      (fun j hj => by simp [World.frozen?, hc])
    obtain ⟨cur', b1, b2, b3, b4⟩ := heap_setCells_same g e news (off + n * i.size) cur w hc
    refine ⟨_, _, hrun, ⟨g, off, cap, cur', rfl, hg, b1, hr, a2, by omega, by rw [List.length_append, a4, hl, Nat.add_mul], fun j u hu => ?_⟩, grown_setCells news _ w (grown_refl w _), .inl rfl⟩
    by_cases hj : j < xs.length
    · rw [List.getElem?_append_left hj] at hu
      rw [b4 _ (by omega)]
      exact hx j u hu
    · rw [List.getElem?_append_right (by omega)] at hu
      have hjn := (List.getElem?_eq_some_iff.1 hu).1
      have := b3 (j - xs.length) hjn (by omega)
      rw [show off + n * i.size + (j - xs.length) = off + j by omega] at this
      rw [this, hu]
  · obtain ⟨v', w', hrun, r1, r2⟩ := run_append_arg_grows (P := P) w t ty e i z i.size bytes ht hi hz rfl hby hzs hsz ⟨g, off, none⟩ n cap xs a4
      (fun j u hu => by rw [Addr.add_lit, hcell]; exact hx j u hu) ad m c news hl hnews (by omega) h63 hbytes
    refine ⟨v', w', hrun, QIs.of_own (r1.mono hB) (by omega), ⟨r2.os, r2.tape, r2.output, r2.size, fun k hk _ => r2.block k hk (by simp)⟩, .inr fun k hk => (r1.lt k hk).1⟩

theorem wpList_append_qm (w : World) {ops : Array Oper} {rest : List Oper} {o : Oper} {a : Act} {Q : Exit → Act → World → Prop} (hgd : o.guard = none) (s x : Operand) (t : TypeId)
    (ho : o.op = .call { callee := .builtin .append, args := #[s, x], argTypes := #[t, t] })
    {B : Nat} {e : TypeId} {size n : Nat} {v : Value} {xs : List Value} (hs : a.eval s = v) (h : QIs w B e size v n xs) (hB : B ≤ w.heap.size)
    (i : TypeInfo) (z : Value) (bytes : Nat) (ht : P.underlying t = some (.slice e)) (hi : P.info? e = some i) (hz : i.zero = some z) (hsize : i.size = size) (hby : i.bytes = bytes) (hzs : z.cells.size = size) (hsz : 0 < size)
    (ad : Addr) (m c : Nat) (hm0 : 0 < m) (news : List Value) (hx : a.eval x = .slice (some ad) m c) (hl : news.length = m * size) (hnews : ∀ j u, news[j]? = some u → w.cell? (ad.add j) = some u) (h1 : ∀ u ∈ news, u.oneCell' = true)
    (h63 : n + m ≤ maxLen) (hbytes : (n + m) * bytes ≤ 140737488355328)
    (hK : ∀ v' w', QIs w' B e size v' (n + m) (xs ++ news) → w.grownBy w' v.ownBlock → (v'.ownBlock = v.ownBlock ∨ ∀ k, v'.ownBlock = some k → w.heap.size ≤ k) → wpList P ops Q rest (a.put o.dst v') w') : wpList P ops Q (o :: rest) a w := by
  refine wpList_plain hgd fun K hK' => ?_
  obtain ⟨v', w', hrun, r1, r2, r3⟩ := run_append_qm (P := P) h hB t o.type i z bytes ht hi hz hsize hby hzs hsz ad m c hm0 news hl hnews h1 h63 hbytes
  unfold Oper.wp
  simp [execOp, ho, resolve, invoke, builtin, hs, hx, hrun, Result.andThen]
  exact hK' _ _ (hK v' w' r1 r2 r3)
end
end Go.Proofs.Ytaeenkjbmlgcmaa
