/- grassAround of the program, on a lawn: from one map into another. -/
import Derived.Test.YtaeenkjbmlgcmaaStepsM
import Derived.Test.YtaeenkjbmlgcmaaComesH
import Derived.Test.YtaeenkjbmlgcmaaZG
import Derived.Test.YtaeenkjbmlgcmaaMapR
import Derived.Test.YtaeenkjbmlgcmaaGrowV
import Derived.Handy
namespace Go.Proofs.Ytaeenkjbmlgcmaa
open Go.RowKit
set_option linter.unusedVariables false
set_option linter.unusedSimpArgs false
attribute [local go_sem ↓] loadRow loadGrid loadLawn loadMirror storeRow storeGrid storeLawn allocRow allocGrid allocLawn buildZero buildSides

/-- What has been taken of a list's pairs, of those that have come. -/
def takenL (q : Pt → Bool) (l : Found) (seen : List Nat) : Found := (seen.filterMap (l[·]?)).filter fun p => q p.1
theorem takenL_add {q : Pt → Bool} {l : Found} {seen : List Nat} {j : Nat} {p : Pt × Int} (hj : l[j]? = some p) : takenL q l (seen ++ [j]) = takenL q l seen ++ if q p.1 then [p] else [] := by
  unfold takenL
  rw [List.filterMap_append, List.filter_append]
  congr 1
  simp only [List.filterMap_cons, hj, List.filterMap_nil]
  cases h : q p.1 <;> simp [h]
theorem takenL_new {q : Pt → Bool} {l : Found} {seen : List Nat} {j : Nat} {c : Pt} {v : Int} (hn : (l.map (·.1)).Nodup) (hj : l[j]? = some (c, v)) (hs : j ∉ seen) : alLook (takenL q l seen) c = none := by
  cases h : alLook (takenL q l seen) c with
  | none => rfl
  | some u =>
    exfalso
    obtain ⟨i, u', h1, h2, h3⟩ := (alIdx_spec (takenL q l seen) c).resolve_left (fun ⟨_, e⟩ => by rw [h] at e; cases e)
    have hm := List.mem_of_getElem? h2
    unfold takenL at hm
    rw [List.mem_filter, List.mem_filterMap] at hm
    obtain ⟨⟨a, ha, hla⟩, -⟩ := hm
    have e1 : (l.map (·.1))[a]? = some c := by rw [List.getElem?_map, hla]; rfl
    have e2 : (l.map (·.1))[j]? = some c := by rw [List.getElem?_map, hj]; rfl
    obtain ⟨l1, e1⟩ := List.getElem?_eq_some_iff.1 e1
    obtain ⟨l2, e2⟩ := List.getElem?_eq_some_iff.1 e2
    have : a = j := (List.getElem_inj hn).1 (e1.trans e2.symm)
    exact hs (this ▸ ha)
theorem perm_range {n : Nat} {seen : List Nat} (hn : seen.Nodup) (hlt : ∀ j ∈ seen, j < n) (hall : ∀ j, j < n → j ∈ seen) : seen.Perm (List.range n) := by
  rw [List.perm_ext_iff_of_nodup hn List.nodup_range]
  exact fun a => ⟨fun h => List.mem_range.2 (hlt a h), fun h => hall a (List.mem_range.1 h)⟩
theorem range_filterMap {α : Type} (l : List α) : ∀ n, n ≤ l.length → (List.range n).filterMap (l[·]?) = l.take n
  | 0, _ => by simp
  | n + 1, h => by
    rw [List.range_succ, List.filterMap_append, range_filterMap l n (by omega), List.take_add_one]
    congr 1
theorem takenL_all {q : Pt → Bool} {l : Found} {seen : List Nat} (hn : seen.Nodup) (hlt : ∀ j ∈ seen, j < l.length) (hall : ∀ j, j < l.length → j ∈ seen) : (takenL q l seen).Perm (l.filter fun p => q p.1) := by
  unfold takenL
  refine List.Perm.filter _ ?_
  have := (perm_range hn hlt hall).filterMap (l[·]?)
  rwa [range_filterMap l _ (Nat.le_refl _), List.take_length] at this

set_option maxRecDepth 100000 in
set_option maxHeartbeats 2000000 in
theorem around_lawn (L : Lawn) (hL : L.Fits) (hv : validB L = true) (x y : Int) (ho : openB L x y = true) (w : World) :
    Calls Try.prog 73 #[.iface 29 (.agg L.cells), .agg #[.int .i8 x, .int .i8 y]] w fun e w' =>
      (∃ b l, e = .returned (.map (some b)) ∧ w.heap.size ≤ b ∧ MapIs w' b cellK valI l ∧ l.Perm ((found (openP L) (x, y) 100).filter fun p => grassP L p.1)) ∧ Below w.heap.size w w' := by
  have HST := Lib.hid (fun (w : World) => steps_anyM L (openP L) (fun x y w => isOpen_any L hv hL x y w) (openP_near hv) (x, y) ho w)
  have HG := Lib.hid (fun (c : Pt) (w : World) => isGrass_any L hv hL c.1 c.2 w)
  have hgood := found_good (pass := openP L) (s := (x, y)) ho 100
  obtain ⟨l, hl⟩ : ∃ l, found (openP L) (x, y) 100 = l := ⟨_, rfl⟩
  rw [hl] at HST hgood ⊢
  have HN := Lib.hid hgood.nodup
  obtain ⟨q, hq⟩ : ∃ q, grassP L = q := ⟨_, rfl⟩
  have HQ := Lib.hid (show ∀ c, grassB L c.1 c.2 = q c from fun c => by rw [← hq]; rfl)
  rw [hq]
  clear hl hgood ho hv hL hq
  obtain ⟨W0, hW0⟩ : ∃ W0, (w.alloc (.cells #[.int .i8 x, .int .i8 y] 37)).alloc (.map #[] 0) = W0 := ⟨_, rfl⟩
  obtain ⟨B, hB⟩ : ∃ B, w.heap.size = B := ⟨_, rfl⟩
  have hs0 : W0.heap.size = B + 2 := by rw [← hW0, ← hB]; simp
  have g1 : Holds W0 B #[.int .i8 x, .int .i8 y] := by rw [← hW0, ← hB]; exact (Holds.new _ _ _).alloc _
  have gm : MapIs W0 (B + 1) cellK valI (takenL q l []) := by
    have := MapIs.made (enc := cellK) (val := valI) (w.alloc (.cells #[.int .i8 x, .int .i8 y] 37))
    rw [← hW0, ← hB]
    simpa [takenL] using this
  have hb0 : Below B w W0 := by rw [← hW0, ← hB]; exact ((Below.refl w.heap.size w).alloc (Nat.le_refl _) _).alloc (by simp) _
  have hmk := fun w => run_makeMap (P := Try.prog) 112 w
  go_enter Try.func73, Try.ntmps73
  go_wp2_with fail
  try rw [hW0, hB]
  have HB := Lib.hid hB
  clear hW0 hmk hB
  have HX := Lib.hid (show ∀ w', Below W0.heap.size W0 w' → w'.cell? ⟨B, 0, none⟩ = some (.int .i8 x) ∧ w'.cell? ⟨B, 1, none⟩ = some (.int .i8 y) from fun w' hw' => by
    have g := g1.below hw' g1.lt
    exact ⟨g.cell 0, g.cell 1⟩)
  refine wp_region_growV 5 4 [] (fun p w' => ∃ b, p = .map (some b) ∧ B + 2 ≤ b ∧ MapIs w' b cellK valI l) (fun p w1 w2 ⟨b, h1, h2, h3⟩ hb => ⟨b, h1, h2, h3.below hb h3.lt⟩)
    (fun p => [.agg #[.int .i8 x, .int .i8 y], .iface 29 (.agg L.cells), .iface 29 (.agg L.cells), .func (.method "loop.example/g01405/impl.isOpen") #[.iface 29 (.agg L.cells)] #[], p]) (by
      intro p p' j h1 h2
      match j with
      | 0 => rfl
      | 1 => rfl
      | 2 => rfl
      | 3 => rfl
      | 4 => exact absurd rfl h1
      | j + 5 => rfl) (by kernel_rfl) (by kernel_rfl) (by kernel_rfl) ?_
  intro p
  simp only [List.take_succ_cons, List.take_zero, List.drop_succ_cons, List.drop_zero]
  refine seqV_free (v := .agg #[.int .i8 x, .int .i8 y]) rfl rfl rfl rfl ?_ ?_
  · intro w' hw' K hK
    obtain ⟨c1, c2⟩ := HX.out _ hw'
    go_wp2_with fail
    exact hK _ _ rfl (Below.refl _ _)
  simp only [Act.put, List.setIfInBounds_toArray, List.set_cons_succ, List.set_cons_zero]
  refine seqV_free (v := .iface 29 (.agg L.cells)) rfl rfl rfl rfl ?_ ?_
  · intro w' hw' K hK
    go_wp2_with fail
    exact hK _ _ rfl (Below.refl _ _)
  simp only [Act.put, List.setIfInBounds_toArray, List.set_cons_succ, List.set_cons_zero]
  refine seqV_free (v := .iface 29 (.agg L.cells)) rfl rfl rfl rfl ?_ ?_
  · intro w' hw' K hK
    go_wp2_with fail
    exact hK _ _ rfl (Below.refl _ _)
  simp only [Act.put, List.setIfInBounds_toArray, List.set_cons_succ, List.set_cons_zero]
  refine seqV_free (v := .func (.method "loop.example/g01405/impl.isOpen") #[.iface 29 (.agg L.cells)] #[]) rfl rfl rfl rfl ?_ ?_
  · intro w' hw' K hK
    go_wp2_with fail
    exact hK _ _ rfl (Below.refl _ _)
  simp only [Act.put, List.setIfInBounds_toArray, List.set_cons_succ, List.set_cons_zero]
  refine seqV_call rfl rfl (fun q => rfl) ?_ ?_
  · intro w' hw' K hK
    go_wp2_with fail
    refine (HST.out _).mono ?_
    rintro e w4 ⟨⟨b, rfl, hbl, hm⟩, hb4⟩
    exact hK _ _ _ rfl hb4 ⟨b, rfl, by have := hw'.size; omega, hm⟩
  simp only [Act.put, List.setIfInBounds_toArray, List.set_cons_succ, List.set_cons_zero]
  refine seqV_nil ?_
  intro w2 hsz hbw hI
  obtain ⟨b, rfl, hbl, hm⟩ := hI
  have jm := gm.below hbw gm.lt
  have hb3 := hb0.trans (hbw.mono (by omega))
  clear HX g1 gm hb0 hbw
  obtain ⟨o, hrange, hit⟩ := hm.range (P := Try.prog) Try.underlying112
  have qm := hm.alloc o
  have qj := jm.alloc o
  have hb4 := hb3.alloc (by omega) o
  have hbr := hm.lt
  obtain ⟨r, hr⟩ : ∃ r, w2.heap.size = r := ⟨_, rfl⟩
  obtain ⟨W3, hW3⟩ : ∃ W3, w2.alloc o = W3 := ⟨_, rfl⟩
  rw [hr, hW3] at hrange hit
  rw [hW3] at qm qj hb4
  rw [hr] at hbr hsz
  clear hm jm hb3
  go_wp2_with fail
  clear hW3 hrange hr
  go_loopw [15] (fun _ wr => ∃ (seen : List Nat), seen.Nodup ∧ (∀ j ∈ seen, j < l.length) ∧ IterIs wr b r l.length seen ∧ MapIs wr b cellK valI l ∧ MapIs wr (B + 1) cellK valI (takenL q l seen) ∧ Below B w wr) (fun _ wr => l.length - iterLen wr r)
  case atStart => exact ⟨[], List.nodup_nil, fun j hj => by simp at hj, hit, qm, qj, hb4⟩
  case round =>
    obtain ⟨seen, hnd, hlt, ji, jm, jj, hb⟩ := hrel
    clear hit qm qj hb4
    have hil := ji.len
    have hsr2 := ji.lt
    rcases jm.next (P := Try.prog) ji 0 with ⟨hall, hnx⟩ | ⟨j, c, v, w', hjl, hjn, hnx, ki, km, hen, hsz2, hoth, hbel⟩
    · have hfin := takenL_all (q := q) hnd hlt hall
      go_wp2_with fail
      go_ret
      rw [HB.out]
      exact ⟨⟨B + 1, _, rfl, by omega, jj, hfin⟩, hb⟩
    · have hkB := hbel B w hb (by omega)
      have kj := jj.block (hoth (B + 1) (by omega))
      have HTN := Lib.hid (takenL_new (q := q) HN.out hjl hjn)
      have HTA := Lib.hid (takenL_add (q := q) (seen := seen) hjl)
      have hjlt := (List.getElem?_eq_some_iff.1 hjl).1
      have hnd2 : (seen ++ [j]).Nodup := by
        rw [List.nodup_append]
        exact ⟨hnd, by simp, fun a ha b hb => by rw [List.mem_singleton.1 hb]; exact fun e => hjn (e ▸ ha)⟩
      have hlt2 : ∀ i ∈ seen ++ [j], i < l.length := fun i hi => (List.mem_append.1 hi).elim (hlt i) (fun h => by rw [List.mem_singleton.1 h]; exact hjlt)
      have hcnt := nodup_below l.length (seen ++ [j]) hnd2 hlt2
      have HIc := Lib.hid (HG.out c)
      have HO := Lib.hid (HQ.out c)
      obtain ⟨cx, cy⟩ := c
      have hen1 := hen w' rfl rfl
      clear hen ji jm jj hb hbel hoth hjn hnd hlt
      simp only [cellK, cellV, valI] at hnx hen1
      have qi := ki.alloc (.cells #[.int .i8 cx, .int .i8 cy] 37)
      have qm := km.alloc (.cells #[.int .i8 cx, .int .i8 cy] 37)
      have qj := kj.alloc (.cells #[.int .i8 cx, .int .i8 cy] 37)
      have q1 := Holds.new w' #[.int .i8 cx, .int .i8 cy] 37
      have hb5 := hkB.alloc (by omega) (.cells #[.int .i8 cx, .int .i8 cy] 37)
      rw [hsz2] at q1
      have c0 : (w'.alloc (.cells #[.int .i8 cx, .int .i8 cy] 37)).cell? ⟨wr.heap.size, 0, none⟩ = some (.int .i8 cx) := q1.cell 0
      have c1 : (w'.alloc (.cells #[.int .i8 cx, .int .i8 cy] 37)).cell? ⟨wr.heap.size, 1, none⟩ = some (.int .i8 cy) := q1.cell 1
      clear ki km kj hkB
      go_wp2_with fail
      refine (HIc.out _).mono ?_
      rintro e5 w5 ⟨rfl, hb6⟩
      rw [HO.out]
      have vi := qi.below hb6 qi.lt
      have vm := qm.below hb6 qm.lt
      have vj := qj.below hb6 qj.lt
      have v1 := q1.below hb6 q1.lt
      have hb7 := hb5.trans (hb6.mono (by have := q1.lt; omega))
      have hvl := vi.len
      clear qi qm qj q1 hb5 hb6 c0 c1
      have HTA2 := HTA.out
      cases hin : q (cx, cy)
      · rw [hin] at HTA2
        simp only [Bool.false_eq_true, if_false, List.append_nil] at HTA2
        rw [← HTA2] at vj
        have HTC := Lib.hid hin
        clear HTA HTA2 HTN hin HO
        go_wp2_with fail
        exact ⟨⟨seen ++ [j], hnd2, hlt2, vi, vm, vj, hb7⟩, by rw [hvl, hil]; simp at hcnt ⊢; omega⟩
      · rw [hin] at HTA2
        simp only [if_true] at HTA2
        obtain ⟨o8, hput8, hM9⟩ := vj.put cellKey Try.underlying112 (cx, cy) v
        rw [alPut_new _ HTN.out, ← HTA2] at hM9
        simp only [cellK, cellV, valI] at hput8
        have hv1 := v1.lt
        have c0 : w5.cell? ⟨wr.heap.size, 0, none⟩ = some (.int .i8 cx) := v1.cell 0
        have c1 : w5.cell? ⟨wr.heap.size, 1, none⟩ = some (.int .i8 cy) := v1.cell 1
        have HTC := Lib.hid hin
        clear HTA HTA2 HTN hin HO v1
        go_wp2_with fail
        refine (comesHome_lawn _ _ _).mono ?_
        rintro e6 w6 ⟨rfl, rfl⟩
        go_wp2_with fail
        have oth : ∀ i : Nat, i ≠ B + 1 → (w6.putObj (B + 1) o8).heap[i]? = w6.heap[i]? := fun i hi => World.putObj_heap_other hi
        have vi8 := vi.block (oth r (by omega))
        have hvl8 := vi8.len
        exact ⟨⟨seen ++ [j], hnd2, hlt2, vi8, vm.block (oth b (by omega)), hM9, hb7.grown (grownBy_putObj' w6 (B + 1) o8) (by omega) (fun k e => by cases e; omega)⟩, by rw [hvl8, hil]; simp at hcnt ⊢; omega⟩
end Go.Proofs.Ytaeenkjbmlgcmaa
