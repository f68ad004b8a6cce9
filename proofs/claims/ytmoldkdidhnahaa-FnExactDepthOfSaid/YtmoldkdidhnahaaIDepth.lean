/- DepthOf, of the program. -/
import Derived.Test.YtmoldkdidhnahaaDepthP
import Derived.Test.YtmoldkdidhnahaaMapR
import Derived.Test.YtmoldkdidhnahaaLSidesAt
namespace Go.Proofs.Ytmoldkdidhnahaa
open Go.RowKit
set_option linter.unusedVariables false
set_option linter.unusedSimpArgs false
attribute [local go_sem ↓] loadRow loadGrid loadLawn loadMirror storeRow storeGrid storeLawn allocRow allocGrid allocLawn buildZero buildSides

/-- The border. -/
def outerB (L : Lawn) (c : Pt) : Bool := !innerB L c
/-- The least number up to now. -/
def LeastTo (q : Pt → Bool) (l : Found) (seen : List Nat) (d : Int) : Prop := (∀ j ∈ seen, ∀ p, l[j]? = some p → q p.1 = true → d ≤ p.2) ∧ (d = 100 ∨ ∃ j ∈ seen, ∃ p, l[j]? = some p ∧ q p.1 = true ∧ p.2 = d)
theorem leastTo_skip {q : Pt → Bool} {l : Found} {seen : List Nat} {d : Int} {j : Nat} {p : Pt × Int} (h : LeastTo q l seen d) (hj : l[j]? = some p) (hq : q p.1 = false) : LeastTo q l (seen ++ [j]) d := by
  refine ⟨fun i hi p' hp' hq' => ?_, h.2.elim .inl fun ⟨i, hi, x⟩ => .inr ⟨i, by simp [hi], x⟩⟩
  rcases List.mem_append.1 hi with hi | hi
  · exact h.1 i hi p' hp' hq'
  · rw [List.mem_singleton.1 hi, hj] at hp'
    cases hp'
    rw [hq] at hq'; cases hq'
theorem leastTo_take {q : Pt → Bool} {l : Found} {seen : List Nat} {d : Int} {j : Nat} {p : Pt × Int} (h : LeastTo q l seen d) (hj : l[j]? = some p) (hq : q p.1 = true) : LeastTo q l (seen ++ [j]) (if p.2 < d then p.2 else d) := by
  constructor
  · intro i hi p' hp' hq'
    rcases List.mem_append.1 hi with hi | hi
    · have := h.1 i hi p' hp' hq'; split <;> omega
    · rw [List.mem_singleton.1 hi, hj] at hp'
      cases hp'
      split <;> omega
  · split
    · exact .inr ⟨j, by simp, p, hj, hq, rfl⟩
    · exact h.2.elim .inl fun ⟨i, hi, x⟩ => .inr ⟨i, by simp [hi], x⟩
theorem leastTo_end {q : Pt → Bool} {l : Found} {seen : List Nat} {d e : Int} (h : LeastTo q l seen d) (hs : ∀ j, j < l.length → j ∈ seen) (hb : ∀ p ∈ l, p.2 < 100) (he : LeastIs q l e) : d = e := by
  refine least_one (q := q) (l := l) ⟨fun p hp hq => ?_, ?_⟩ he
  · obtain ⟨i, hi, rfl⟩ := List.getElem_of_mem hp
    exact h.1 i (hs i hi) _ (List.getElem?_eq_getElem hi) hq
  · rcases h.2 with h2 | ⟨j, hj, p, hp, hq, hd⟩
    · obtain ⟨p, hp, hq, rfl⟩ := he.2
      obtain ⟨i, hi, rfl⟩ := List.getElem_of_mem hp
      have := h.1 i (hs i hi) _ (List.getElem?_eq_getElem hi) hq
      have := hb _ hp
      omega
    · exact ⟨p, List.mem_of_getElem? hp, hq, hd⟩
theorem leastTo_bound {q : Pt → Bool} {l : Found} {seen : List Nat} {d : Int} (h : LeastTo q l seen d) (hb : ∀ p ∈ l, 0 ≤ p.2 ∧ p.2 < 100) : 0 ≤ d ∧ d ≤ 100 := by
  rcases h.2 with h2 | ⟨j, hj, p, hp, hq, hd⟩
  · omega
  · have := hb p (List.mem_of_getElem? hp); omega

def iterLen (w : World) (r : Nat) : Nat := match w.heap[r]? with | some (.mapIter _ _ sa _) => sa.size | _ => 0
theorem IterIs.len {w : World} {b r n : Nat} {seen : List Nat} (h : IterIs w b r n seen) : iterLen w r = seen.length := by
  obtain ⟨sa, c, h1, -, rfl⟩ := h
  simp [iterLen, h1]

set_option maxRecDepth 100000 in
set_option maxHeartbeats 2000000 in
theorem implDepth_good (L : Lawn) (hL : L.Fits) (x y : Int) (hg : grassC L x y = 0) (d : Int) (hd : LeastIs (outerB L) (found (grassP L) (x, y) 100) d) (w : World) :
    Calls Try.prog 18 #[.agg L.cells, .agg #[.int .i8 x, .int .i8 y]] w fun e w' => e = .returned (.tuple #[.int .i64 d, .int .i64 0]) ∧ Below w.heap.size w w' := by
  obtain ⟨hv, hi, hgr⟩ := grassC_zero hg
  have HC := Lib.hid (checkGrass_any L hL x y)
  rw [hg] at HC
  have HST := Lib.hid (fun (w : World) => steps_any L _ (grassP L) (pass_isGrass L) (fun x y w => isGrass_any L hv hL x y w) (fun c h => grassP_near hv c h) (x, y) hgr w)
  have hgood := found_good (pass := grassP L) (s := (x, y)) hgr 100
  have hlen := good_length (fun c h => grassP_near hv c h) hgood
  obtain ⟨l, hl⟩ : ∃ l, found (grassP L) (x, y) 100 = l := ⟨_, rfl⟩
  rw [hl] at HST hgood hlen hd
  have HF : Hid (∀ (j : Nat) (c : Pt) (v : Int), (l)[j]? = some (c, v) → ((0 ≤ c.1 ∧ c.1 ≤ 9) ∧ 0 ≤ c.2 ∧ c.2 ≤ 9) ∧ 0 ≤ v ∧ v < 100) := Lib.hid (fun j c v h => by
    have h1 := grassP_near hv _ (hgood.pass _ (List.mem_of_getElem? h))
    have h2 := hgood.val j _ h
    have h3 := (List.getElem?_eq_some_iff.1 h).1
    dsimp only at h1 h2
    omega)
  have HB : Hid (∀ p ∈ l, 0 ≤ p.2 ∧ p.2 < 100) := Lib.hid (fun p hp => by
    obtain ⟨j, hj, rfl⟩ := List.getElem_of_mem hp
    exact (HF.out j _ _ (List.getElem?_eq_getElem hj)).2)
  have HIN := Lib.hid (fun (c : Pt) (h : (0 ≤ c.1 ∧ c.1 ≤ 9) ∧ 0 ≤ c.2 ∧ c.2 ≤ 9) (w : World) => isInner_any L hv c.1 c.2 h.1.1 h.1.2 h.2.1 h.2.2 w)
  have HD := Lib.hid hd
  clear hv hi hgr hgood hd hg hL hl
  obtain ⟨W0, hW0⟩ : ∃ W0, (w.alloc (.cells L.cells 27)).alloc (.cells #[.int .i8 x, .int .i8 y] 37) = W0 := ⟨_, rfl⟩
  have g0 : Holds W0 w.heap.size L.cells := by rw [← hW0]; exact (Holds.new _ _ _).alloc _
  have g1 : Holds W0 (w.heap.size + 1) #[.int .i8 x, .int .i8 y] := by rw [← hW0]; exact Holds.new' _ _ _ _ (by simp)
  have hb0 : Below w.heap.size w W0 := by rw [← hW0]; exact ((Below.refl w.heap.size w).alloc (Nat.le_refl _) _).alloc (by simp) _
  obtain ⟨r0, -, -, -, -⟩ := g0.facts
  have c0 : W0.cell? ⟨w.heap.size + 1, 0, none⟩ = some (.int .i8 x) := g1.cell 0
  have c1 : W0.cell? ⟨w.heap.size + 1, 1, none⟩ = some (.int .i8 y) := g1.cell 1
  go_enter Try.func18, Try.ntmps18
  go_wp2_with fail
  clear hW0 r0 c0 c1
  refine (HC.out _).mono ?_
  rintro e w1 ⟨rfl, hb1⟩
  have k0 := g0.below hb1 g0.lt
  have k1 := g1.below hb1 g1.lt
  have hb2 := below_onto hb0 hb1
  clear g0 g1 hb0 hb1
  obtain ⟨r0, -, -, -, -⟩ := k0.facts
  have c0 : w1.cell? ⟨w.heap.size + 1, 0, none⟩ = some (.int .i8 x) := k1.cell 0
  have c1 : w1.cell? ⟨w.heap.size + 1, 1, none⟩ = some (.int .i8 y) := k1.cell 1
  go_wp2_with fail
  refine (HST.out _).mono ?_
  rintro e w2 ⟨⟨b, rfl, hbl, hm⟩, hb1⟩
  have j0 := k0.below hb1 k0.lt
  have hb3 := below_onto hb2 hb1
  have hs1 := k1.lt
  clear k0 k1 hb2 hb1 r0 c0 c1
  obtain ⟨o, hrange, hit⟩ := hm.range (P := Try.prog) Try.underlying90
  have q0 := j0.alloc o
  have qm := hm.alloc o
  have hb4 := hb3.alloc hb3.size o
  have hsr := j0.lt
  have hbr := hm.lt
  obtain ⟨s, hs⟩ : ∃ s, w.heap.size = s := ⟨_, rfl⟩
  rw [hs] at q0 hb4 hs1 hsr ⊢
  have HS := Lib.hid hs
  obtain ⟨r, hr⟩ : ∃ r, w2.heap.size = r := ⟨_, rfl⟩
  obtain ⟨W3, hW3⟩ : ∃ W3, w2.alloc o = W3 := ⟨_, rfl⟩
  rw [hr] at hrange hit hsr hbr
  rw [hW3] at hrange hit q0 qm hb4
  clear hs j0 hb3 hm
  go_wp2_with fail
  clear hW3 hrange hr
  have HOR : Hid (∀ c, outerB L c = !innerB L c) := Lib.hid (fun _ => rfl)
  go_loopw [7] (fun v wr => ∃ (e : Int) (seen : List Nat), v = .int .i64 e ∧ LeastTo (outerB L) l seen e ∧ seen.Nodup ∧ (∀ j ∈ seen, j < l.length) ∧ IterIs wr b r l.length seen ∧ MapIs wr b cellK valI l ∧ Holds wr s L.cells ∧ Below s w wr) (fun _ wr => l.length - iterLen wr r)
  case atStart => exact ⟨100, [], rfl, ⟨fun j hj => by simp at hj, .inl rfl⟩, List.nodup_nil, fun j hj => by simp at hj, hit, qm, q0, hb4⟩
  case round =>
    obtain ⟨e, seen, rfl, hle, hnd, hlt, ji, jm, j0, hb⟩ := hrel
    clear hit qm q0 hb4
    have hil := ji.len
    have hsr2 := ji.lt
    rcases jm.next (P := Try.prog) ji 0 with ⟨hall, hnx⟩ | ⟨j, c, v, w', hjl, hjn, hnx, ki, km, hen, hsz, hoth, hbel⟩
    · have hed : e = d := leastTo_end hle hall (fun p hp => (HB.out p hp).2) HD.out
      subst hed
      clear HF HB HD HIN HC HST hle hall
      go_wp2_with fail
      go_ret2
      exact ⟨rfl, by rw [HS.out]; exact hb⟩
    · have hkB := hbel s w hb (by omega)
      have k0 : Holds w' s L.cells := by
        obtain ⟨tt, ht⟩ := j0
        exact ⟨tt, (hoth s (by omega)).trans ht⟩
      have hc := HF.out j c v hjl
      have HSK := Lib.hid (fun h : outerB L c = false => leastTo_skip hle hjl h)
      have HTK := Lib.hid (fun h : outerB L c = true => leastTo_take hle hjl h)
      have HEB := leastTo_bound hle HB.out
      have hjlt := (List.getElem?_eq_some_iff.1 hjl).1
      have hnd2 : (seen ++ [j]).Nodup := by
        rw [List.nodup_append]
        exact ⟨hnd, by simp, fun a ha b hb => by rw [List.mem_singleton.1 hb]; exact fun e => hjn (e ▸ ha)⟩
      have hlt2 : ∀ i ∈ seen ++ [j], i < l.length := fun i hi => (List.mem_append.1 hi).elim (hlt i) (fun h => by rw [List.mem_singleton.1 h]; exact hjlt)
      have hcnt := nodup_below l.length (seen ++ [j]) hnd2 hlt2
      have HIc := Lib.hid (HIN.out c hc.1)
      have HO := Lib.hid (HOR.out c)
      obtain ⟨cx, cy⟩ := c
      dsimp only at hc
      have hen1 := hen w' rfl rfl
      clear hen ji jm j0 hb hbel hoth hle hjn hnd hlt
      simp only [cellK, cellV, valI] at hnx hen1
      have q0 := k0.alloc (.cells #[.int .i8 cx, .int .i8 cy] 37)
      have qi := ki.alloc (.cells #[.int .i8 cx, .int .i8 cy] 37)
      have qm := km.alloc (.cells #[.int .i8 cx, .int .i8 cy] 37)
      have q1 := Holds.new w' #[.int .i8 cx, .int .i8 cy] 37
      have hb5 := hkB.alloc (by omega) (.cells #[.int .i8 cx, .int .i8 cy] 37)
      rw [hsz] at q1
      obtain ⟨r0, -, -, -, -⟩ := q0.facts
      have c0 : (w'.alloc (.cells #[.int .i8 cx, .int .i8 cy] 37)).cell? ⟨wr.heap.size, 0, none⟩ = some (.int .i8 cx) := q1.cell 0
      have c1 : (w'.alloc (.cells #[.int .i8 cx, .int .i8 cy] 37)).cell? ⟨wr.heap.size, 1, none⟩ = some (.int .i8 cy) := q1.cell 1
      clear k0 ki km hkB q1
      go_wp2_with fail
      refine (HIc.out _).mono ?_
      rintro e5 w5 ⟨rfl, hb6⟩
      have v0 := q0.below hb6 q0.lt
      have vi := qi.below hb6 qi.lt
      have vm := qm.below hb6 qm.lt
      have hb7 := hb5.trans (hb6.mono (by have := q0.lt; omega))
      have hvl := vi.len
      clear q0 qi qm hb5 hb6 r0 c0 c1
      cases hin : innerB L (cx, cy)
      · have HT := Lib.hid (HTK.out (by rw [HO.out, hin]; rfl))
        clear HTK HSK
        by_cases hve : v < e
        · have hde : decide (v < e) = true := by simpa using hve
          have HT2 := HT.out
          rw [if_pos hve] at HT2
          clear hin
          go_wp2_with fail
          exact ⟨⟨v, seen ++ [j], rfl, HT2, hnd2, hlt2, vi, vm, v0, hb7⟩, by rw [hvl, hil]; simp at hcnt ⊢; omega⟩
        · have hde : decide (v < e) = false := by simpa using hve
          have HT2 := HT.out
          rw [if_neg hve] at HT2
          clear hin
          go_wp2_with fail
          exact ⟨⟨e, seen ++ [j], rfl, HT2, hnd2, hlt2, vi, vm, v0, hb7⟩, by rw [hvl, hil]; simp at hcnt ⊢; omega⟩
      · have HT := Lib.hid (HSK.out (by rw [HO.out, hin]; rfl))
        clear HTK HSK hin
        go_wp2_with fail
        go_roundw
        case rel => exact ⟨e, seen ++ [j], rfl, HT.out, hnd2, hlt2, vi, vm, v0, hb7⟩
        case measure => rw [hvl, hil]; simp at hcnt ⊢; omega

set_option maxRecDepth 100000 in
set_option maxHeartbeats 1000000 in
theorem implDepth_bad (L : Lawn) (hL : L.Fits) (x y : Int) (hg : grassC L x y ≠ 0) (w : World) :
    Calls Try.prog 18 #[.agg L.cells, .agg #[.int .i8 x, .int .i8 y]] w fun e w' => e = .returned (.tuple #[.int .i64 0, .int .i64 (grassC L x y)]) ∧ Below w.heap.size w w' := by
  have HC := Lib.hid (checkGrass_any L hL x y)
  have hne : (grassC L x y != 0) = true := by simpa [bne] using hg
  obtain ⟨k, hk⟩ : ∃ k, grassC L x y = k := ⟨_, rfl⟩
  rw [hk] at HC hne ⊢
  clear hg hk
  obtain ⟨W0, hW0⟩ : ∃ W0, (w.alloc (.cells L.cells 27)).alloc (.cells #[.int .i8 x, .int .i8 y] 37) = W0 := ⟨_, rfl⟩
  have g0 : Holds W0 w.heap.size L.cells := by rw [← hW0]; exact (Holds.new _ _ _).alloc _
  have g1 : Holds W0 (w.heap.size + 1) #[.int .i8 x, .int .i8 y] := by rw [← hW0]; exact Holds.new' _ _ _ _ (by simp)
  have hb0 : Below w.heap.size w W0 := by rw [← hW0]; exact ((Below.refl w.heap.size w).alloc (Nat.le_refl _) _).alloc (by simp) _
  obtain ⟨r0, -, -, -, -⟩ := g0.facts
  have c0 : W0.cell? ⟨w.heap.size + 1, 0, none⟩ = some (.int .i8 x) := g1.cell 0
  have c1 : W0.cell? ⟨w.heap.size + 1, 1, none⟩ = some (.int .i8 y) := g1.cell 1
  go_enter Try.func18, Try.ntmps18
  go_wp2_with fail
  clear hW0 r0 c0 c1
  refine (HC.out _).mono ?_
  rintro e w1 ⟨rfl, hb1⟩
  have hb2 := below_onto hb0 hb1
  clear g0 g1 hb0 hb1
  go_wp2_with fail
  go_ret2
  exact ⟨rfl, hb2⟩
end Go.Proofs.Ytmoldkdidhnahaa
