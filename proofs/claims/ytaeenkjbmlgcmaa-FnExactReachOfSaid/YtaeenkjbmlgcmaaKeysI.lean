/- maps.Keys of a map over cells: its iterator hands on all keys, each once, in an order that nobody knows. -/
import Derived.Test.YtaeenkjbmlgcmaaMapR
import Derived.Test.YtaeenkjbmlgcmaaZF
import Derived.Test.YtaeenkjbmlgcmaaZB
namespace Go.Proofs.Ytaeenkjbmlgcmaa
open Go.RowKit Go.Shelf
set_option linter.unusedVariables false
attribute [local go_sem] Oper.semAt_some
attribute [local go_sem ↓] loadRow loadGrid loadLawn loadMirror storeRow storeGrid storeLawn allocRow allocGrid allocLawn buildZero buildSides

def valK (i : Int) : Value := .int .i64 i
/-- The cells of the pairs that have come. -/
def cameL (L : Found) (seen : List Nat) : List Pt := (seen.filterMap (L[·]?)).map (·.1)
theorem cameL_add {L : Found} {seen : List Nat} {j : Nat} {c : Pt} {v : Int} (hj : L[j]? = some (c, v)) : cameL L (seen ++ [j]) = cameL L seen ++ [c] := by
  simp [cameL, hj]
theorem cameL_all {L : Found} {seen : List Nat} (hn : seen.Nodup) (hlt : ∀ j ∈ seen, j < L.length) (hall : ∀ j, j < L.length → j ∈ seen) : (cameL L seen).Perm (L.map (·.1)) := by
  have key : ∀ n, n ≤ L.length → (List.range n).filterMap (L[·]?) = L.take n := by
    intro n
    induction n with
    | zero => simp
    | succ n ih =>
      intro h
      rw [List.range_succ, List.filterMap_append, ih (by omega), List.take_add_one]
      congr 1
  have hp : seen.Perm (List.range L.length) := by
    rw [List.perm_ext_iff_of_nodup hn List.nodup_range]
    exact fun a => ⟨fun h => List.mem_range.2 (hlt a h), fun h => hall a (List.mem_range.1 h)⟩
  have := (hp.filterMap (L[·]?)).map (·.1)
  rwa [key _ (Nat.le_refl _), List.take_length] at this
theorem cameL_length {L : Found} : ∀ {seen : List Nat}, (∀ j ∈ seen, j < L.length) → (cameL L seen).length = seen.length
  | [], _ => rfl
  | j :: s, h => by
    have ih := cameL_length (L := L) (seen := s) (fun i hi => h i (by simp [hi]))
    obtain ⟨q, hj⟩ : ∃ q, L[j]? = some q := ⟨_, List.getElem?_eq_getElem (h j (by simp))⟩
    unfold cameL at ih ⊢
    rw [List.filterMap_cons, hj]
    simp [ih]
theorem seen_below : ∀ (n : Nat) (l : List Nat), l.Nodup → (∀ j ∈ l, j < n) → l.length ≤ n
  | 0, l, _, h => by
    cases l with
    | nil => simp
    | cons a l => exact absurd (h a (by simp)) (by omega)
  | n + 1, l, hn, h => by
    have h1 := seen_below n (l.erase n) (hn.erase n) (fun j hj => by
      have h2 := (hn.mem_erase_iff).1 hj
      have := h j h2.2
      omega)
    have := List.length_erase (a := n) (l := l)
    split at this <;> omega
def ptA (c : Pt) : Array Value := #[cellV c.1 c.2]
theorem IterIs.walks {w w' : World} {b r n : Nat} {seen : List Nat} (h : IterIs w b r n seen) (hk : KeepsWalks w w') : IterIs w' b r n seen := by
  obtain ⟨sa, c, h1, h2⟩ := h
  exact ⟨sa, c, hk.same r _ h1 rfl, h2⟩
theorem MapIs.walks {κ ν : Type} {enc : κ → Value} {val : ν → Value} {w w' : World} {b : Nat} {l : List (κ × ν)} (h : MapIs w b enc val l) (hk : KeepsWalks w w') : MapIs w' b enc val l := by
  obtain ⟨es, c, h1, h2⟩ := h
  exact ⟨es, c, hk.same b _ h1 rfl, h2⟩

set_option maxRecDepth 100000 in
set_option maxHeartbeats 1000000 in
theorem keys1_in (F : Fence) (n : Nat) (h1 : F.fn 148) (hro : F.round = none) (hn : 1 ≤ n) (l Bm b : Nat) (L : Found) (J Jx : List Pt → World → Prop)
    (hY : ∀ pre x W, J pre W → pre.length < L.length → YieldAt F (n - 1) Try.prog l (ptA x) W fun e W' =>
      (e = .returned (.bool true) ∧ J (pre ++ [x]) W' ∧ KeepsWalks W W') ∨ (e = .returned (.bool false) ∧ Jx (pre ++ [x]) W'))
    (W : World) (hJ : AbidesFrom W.heap.size J) (hm : Holds W Bm #[.map (some b)]) (hM : MapIs W b cellK valK L) (h0 : J [] W) :
    CallsIn F n Try.prog 148 #[.func (.yield l) #[] #[], .pointer (some ⟨Bm, 0, none⟩)] W fun e W' => (∃ v, e = .returned v) ∧
      ((∃ ys, ys.Perm (L.map (·.1)) ∧ J ys W') ∨ (∃ pre, True ∧ Jx pre W')) := by
  obtain ⟨o, hrange, hit⟩ := hM.range (P := Try.prog) Try.underlying112
  have qM := hM.alloc o
  have hbr := hM.lt
  have j0 : J [] (W.alloc o) := hJ [] W _ none h0 (World.grownBy_alloc W o none) (fun r e => by cases e)
  have cM := hm.cell 0
  simp only [List.getElem?_toArray, List.getElem?_cons_zero] at cM
  have HJ := Lib.hid hJ
  have HY := Lib.hid hY
  obtain ⟨r, hr⟩ : ∃ r, W.heap.size = r := ⟨_, rfl⟩
  obtain ⟨W3, hW3⟩ : ∃ W3, W.alloc o = W3 := ⟨_, rfl⟩
  rw [hr] at hit hbr HJ hrange
  rw [hW3] at hit qM j0 hrange
  clear hJ hY hM h0
  refine callsIn_of_wp Try.func148 rfl h1 ?_ hro
  simp only [Try.ntmps148, List.size_toArray, List.length_cons, List.length_nil, Nat.reduceAdd, Nat.reduceSub, Array.replicate_succ, Array.replicate_zero, List.push_toArray, List.append_toArray, List.nil_append, List.cons_append]
  gi_wp2
  clear hW3 hrange hr cM hm
  gi_loopw [3] (fun _ wr => ∃ (seen : List Nat), seen.Nodup ∧ (∀ j ∈ seen, j < L.length) ∧ IterIs wr b r L.length seen ∧ MapIs wr b cellK valK L ∧ J (cameL L seen) wr) (fun _ wr => L.length - iterLen wr r)
  case atStart => exact ⟨[], List.nodup_nil, fun j hj => by simp at hj, hit, qM, j0⟩
  case round =>
    obtain ⟨seen, hnd, hlt, ji, jm, jj⟩ := hrel
    clear hit qM j0
    have hil := ji.len
    rcases jm.next (P := Try.prog) ji 0 with ⟨hall, hnx⟩ | ⟨j, c, v, w', hjl, hjn, hnx, ki, km, hen, hsz2, hoth, hbel⟩
    · have hfin := cameL_all hnd hlt hall
      gi_wp2
      go_end0
      exact ⟨⟨_, rfl⟩, .inl ⟨_, hfin, jj⟩⟩
    · have hbl := hbel r wr (Below.refl _ _) (Nat.le_refl _)
      have hg : wr.grownBy w' (some r) := ⟨hbl.os, hbl.tape, hbl.output, hbl.size, fun k hk hne => hoth k (fun e => hne (by rw [e]))⟩
      have hob : ∃ o : Obj, wr.heap[r]? = some o ∧ o.isWalk = true := by
        obtain ⟨sa, c0, hh, -⟩ := ji
        exact ⟨_, hh, rfl⟩
      have j1 := HJ.out _ wr w' (some r) jj hg (fun r' e => by cases e; exact ⟨Nat.le_refl _, hob⟩)
      have j2 := HJ.out _ w' (w'.alloc (.cells #[.int .i8 c.1, .int .i8 c.2] 37)) none j1 (World.grownBy_alloc _ _ none) (fun r e => by cases e)
      have hjlt := (List.getElem?_eq_some_iff.1 hjl).1
      have hnd2 : (seen ++ [j]).Nodup := by
        rw [List.nodup_append]
        exact ⟨hnd, by simp, fun a ha b hb => by rw [List.mem_singleton.1 hb]; exact fun e => hjn (e ▸ ha)⟩
      have hlt2 : ∀ i ∈ seen ++ [j], i < L.length := fun i hi => (List.mem_append.1 hi).elim (hlt i) (fun h => by rw [List.mem_singleton.1 h]; exact hjlt)
      have hcnt := seen_below L.length (seen ++ [j]) hnd2 hlt2
      have hcl := cameL_length hlt
      obtain ⟨fn, tmps, assign, body, hy, hR⟩ := HY.out _ c _ j2 (by rw [hcl]; simp at hcnt; omega)
      have HCA := Lib.hid (cameL_add (seen := seen) hjl)
      obtain ⟨cx, cy⟩ := c
      have hen1 := hen w' rfl rfl
      have qi := ki.alloc (.cells #[.int .i8 cx, .int .i8 cy] 37)
      have qm := km.alloc (.cells #[.int .i8 cx, .int .i8 cy] 37)
      have c0 : (w'.alloc (.cells #[.int .i8 cx, .int .i8 cy] 37)).cell? ⟨w'.heap.size, 0, none⟩ = some (.int .i8 cx) := (Holds.new _ _ _).cell 0
      have c1 : (w'.alloc (.cells #[.int .i8 cx, .int .i8 cy] 37)).cell? ⟨w'.heap.size, 1, none⟩ = some (.int .i8 cy) := (Holds.new _ _ _).cell 1
      clear hen ji jm jj j1 j2 hbel hoth hjn hnd hlt hbl hg hob ki km
      simp only [cellK, cellV, valK] at hnx hen1
      simp only [ptA, cellV] at hy
      rw [hsz2] at c0 c1
      gi_wp2
      refine hR.mono ?_
      rintro e W5 (⟨rfl, hJ5, hk5⟩ | ⟨rfl, hJx⟩)
      · rw [← HCA.out] at hJ5
        have vi := qi.walks hk5
        have vm := qm.walks hk5
        have hvl := vi.len
        clear qi qm c0 c1 hk5
        gi_wp2
        go_roundw
        case rel => exact ⟨seen ++ [j], hnd2, hlt2, vi, vm, hJ5⟩
        case measure => rw [hvl, hil]; simp at hcnt ⊢; omega
      · clear qi qm c0 c1
        gi_wp2
        refine bodyPost_ret (results_none rfl _ _ _) rfl ?_
        exact ⟨⟨_, rfl⟩, .inr ⟨_, trivial, hJx⟩⟩

/-- **maps.Keys**: the map is boxed; the function value captures the box. -/
theorem keys_any (b : Nat) (w : World) :
    Calls Try.prog 119 #[.map (some b)] w fun e w' => e = .returned (.func (.func 148) #[] #[.pointer (some ⟨w.heap.size, 0, none⟩)]) ∧ w' = w.alloc (.cells #[.map (some b)] 112) := by
  go_enter Try.func119, Try.ntmps119
  go_wp2_with fail
  go_ret
  exact ⟨rfl, rfl⟩

theorem keys_stops (F : Fence) (n : Nat) (h1 : F.fn 148) (hro : F.round = none) (hn : 1 ≤ n) (Bm b : Nat) (L : Found) (w : World) (hm : Holds w Bm #[.map (some b)]) (hM : MapIs w b cellK valK L) :
    SeqStopsK F n Try.prog 148 #[.pointer (some ⟨Bm, 0, none⟩)] ptA KeepsWalks (fun ys => ys.Perm (L.map (·.1))) (fun _ => True) L.length w := fun l J Jx W hWW hJ _ hY h0 =>
  keys1_in F n h1 hro hn l Bm b L J Jx hY W hJ (hm.below hWW hm.lt) (hM.below hWW hM.lt) h0
end Go.Proofs.Ytaeenkjbmlgcmaa
