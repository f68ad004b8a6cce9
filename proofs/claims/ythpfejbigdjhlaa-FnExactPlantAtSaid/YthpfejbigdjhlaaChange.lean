/- A cell that becomes another kind, and how long the edge is then: of the program. -/
import Derived.Test.YthpfejbigdjhlaaLSides
import Derived.Test.YthpfejbigdjhlaaSetCell
import Derived.Test.YthpfejbigdjhlaaZE
namespace Go.Proofs.Ythpfejbigdjhlaa
open Go.RowKit
set_option linter.unusedVariables false
set_option linter.unusedSimpArgs false
attribute [local go_sem ↓] loadRow loadGrid loadLawn loadMirror storeRow storeGrid storeLawn allocRow allocGrid allocLawn buildZero buildSides loadSd storeSd allocSd buildSd

theorem put_wide (L : Lawn) (y x : Nat) (k : Int) : (L.put y x k).wide = L.wide ∧ (L.put y x k).high = L.high := ⟨rfl, rfl⟩
theorem put_fits {L : Lawn} (hL : L.Fits) (y x : Nat) {k : Int} (hk : 0 ≤ k ∧ k ≤ 255) : (L.put y x k).Fits := by
  refine ⟨hL.w0, hL.w1, hL.h0, hL.h1, fun a b ha hb => ?_, fun a b ha hb => ?_⟩
  · have := hL.k0 a b ha hb
    simp only [Lawn.put]; split <;> omega
  · have := hL.k1 a b ha hb
    simp only [Lawn.put]; split <;> omega
theorem put_valid {L : Lawn} (hv : validB L = true) {x y : Nat} (hi : isB L x y = true) {k : Int} (hk : inB k 0 3 = true) : validB (L.put y x k) = true := by
  obtain ⟨h1, h2, h3⟩ := validB_true hv
  simp only [validB, Bool.and_eq_true, List.all_eq_true, List.mem_range]
  refine ⟨⟨inB_yes h1.1 h1.2, inB_yes h2.1 h2.2⟩, fun a ha b hb => ?_⟩
  have h4 := h3 a b ha hb
  unfold okAt at h4 ⊢
  simp only [Lawn.put]
  by_cases e : a = y ∧ b = x
  · obtain ⟨rfl, rfl⟩ := e
    rw [if_pos ⟨rfl, rfl⟩, hk]
    have : isB { L with kind := fun a' b' => if a' = a ∧ b' = b then k else L.kind a' b' } (b : Int) (a : Int) = isB L b a := rfl
    rw [this, hi]
    simp
  · rw [if_neg e]
    exact h4
/-- How long the edge is when a cell has become of a kind. -/
def edgeC {W H : Nat} (L : Lawn) (k : Int) (c : Fin W × Fin H) : Int := edgeZ (sidesOfL (L.put c.2.val c.1.val k))
theorem edgeC_bound {W H : Nat} (L : Lawn) (k : Int) (c : Fin W × Fin H) : 0 ≤ edgeC L k c ∧ edgeC L k c ≤ 1600 := by
  have b1 := sidesOfL_bound (L.put c.2.val c.1.val k) 1
  have b2 := sidesOfL_bound (L.put c.2.val c.1.val k) 2
  have b3 := sidesOfL_bound (L.put c.2.val c.1.val k) 3
  have b4 := sidesOfL_bound (L.put c.2.val c.1.val k) 4
  unfold edgeC edgeZ
  omega
/-- The cells of changes. -/
def chV (x y e : Int) : Array Value := #[.int .i8 x, .int .i8 y, .int .i64 e]
def flatC {W H : Nat} (L : Lawn) (k : Int) (l : List (Fin W × Fin H)) : List Value := l.flatMap fun c => [.int .i8 c.1.val, .int .i8 c.2.val, .int .i64 (edgeC L k c)]
theorem flatC_append {W H : Nat} (L : Lawn) (k : Int) (l l' : List (Fin W × Fin H)) : flatC L k (l ++ l') = flatC L k l ++ flatC L k l' := by simp [flatC]
theorem flatC_length {W H : Nat} (L : Lawn) (k : Int) (l : List (Fin W × Fin H)) : (flatC L k l).length = l.length * 3 := by
  induction l with
  | nil => rfl
  | cons a l ih => simp [flatC] at ih ⊢; omega
theorem flatC_get {W H : Nat} (L : Lawn) (k : Int) : ∀ (l : List (Fin W × Fin H)) (i : Nat) (c : Fin W × Fin H), l[i]? = some c → (flatC L k l)[i * 3]? = some (.int .i8 c.1.val) ∧ (flatC L k l)[i * 3 + 1]? = some (.int .i8 c.2.val) ∧ (flatC L k l)[i * 3 + 2]? = some (.int .i64 (edgeC L k c))
  | [], i, c, h => by simp at h
  | a :: l, 0, c, h => by simp at h; subst h; exact ⟨rfl, rfl, rfl⟩
  | a :: l, i + 1, c, h => by
    have := flatC_get L k l i c (by simpa using h)
    have e : flatC L k (a :: l) = [.int .i8 a.1.val, .int .i8 a.2.val, .int .i64 (edgeC L k a)] ++ flatC L k l := rfl
    rw [e, List.getElem?_append_right (by simp; omega), List.getElem?_append_right (by simp; omega), List.getElem?_append_right (by simp; omega)]
    simp only [List.length_cons, List.length_nil, Nat.reduceAdd, Nat.zero_add]
    rw [show (i + 1) * 3 - 3 = i * 3 by omega, show (i + 1) * 3 + 1 - 3 = i * 3 + 1 by omega, show (i + 1) * 3 + 2 - 3 = i * 3 + 2 by omega]
    exact this

set_option maxRecDepth 100000 in
set_option maxHeartbeats 2000000 in
theorem changed_is {W H : Nat} (L : Lawn) (hL : L.Fits) (hv : validB L = true) (hW : L.wide = W) (hH : L.high = H) (k : Int) (hk : inB k 0 3 = true) (b g : Nat) (c : Fin W × Fin H) (w : World) (hb : Holds w b L.cells) (hg : Holds w g #[.int .i64 k]) :
    Calls Try.prog 105 #[.agg #[.int .i8 c.1.val, .int .i8 c.2.val], .pointer (some ⟨b, 0, none⟩), .pointer (some ⟨g, 0, none⟩)] w fun e w' => e = .returned (.agg (chV c.1.val c.2.val (edgeC L k c))) ∧ Below w.heap.size w w' := by
  have hi : isB L c.1.val c.2.val = true := isB_fin hW hH c
  have hk2 := inB_true hk
  have hvp := put_valid hv hi hk
  have hLp := put_fits hL c.2.val c.1.val (k := k) (by omega)
  have HS := Lib.hid (implSet_any L hL c.1.val c.2.val k)
  rw [show setV L c.1.val c.2.val k = .tuple #[.agg (L.put c.2.val c.1.val k).cells, .int .i64 0] by unfold setV; rw [hv, hi, hk]; rfl] at HS
  have HA := Lib.hid (allSides_any (L.put c.2.val c.1.val k) hLp hvp)
  have HE := Lib.hid (edge_any (sidesOfL (L.put c.2.val c.1.val k)) (fun j => by have := sidesOfL_bound (L.put c.2.val c.1.val k) j; omega))
  have HEC : Hid (edgeC L k c = edgeZ (sidesOfL (L.put c.2.val c.1.val k))) := Lib.hid rfl
  obtain ⟨M, hM⟩ : ∃ M, L.put c.2.val c.1.val k = M := ⟨_, rfl⟩
  rw [hM] at HS HA HE HEC
  clear hi hk hk2 hvp hLp hv hL hW hH hM
  obtain ⟨x, hx⟩ : ∃ x : Int, (c.1.val : Int) = x := ⟨_, rfl⟩
  obtain ⟨y, hy⟩ : ∃ y : Int, (c.2.val : Int) = y := ⟨_, rfl⟩
  rw [hx, hy] at HS ⊢
  clear hx hy
  have n0 := (Holds.new w #[.int .i8 x, .int .i8 y] 40).alloc (.cells (chV 0 0 0) 99)
  have n1 := Holds.new' (w.alloc (.cells #[.int .i8 x, .int .i8 y] 40)) (chV 0 0 0) 99 (w.heap.size + 1) (by simp)
  have b0 := (hb.alloc (.cells #[.int .i8 x, .int .i8 y] 40)).alloc (.cells (chV 0 0 0) 99)
  have g0 := (hg.alloc (.cells #[.int .i8 x, .int .i8 y] 40)).alloc (.cells (chV 0 0 0) 99)
  have hb0 := ((Below.refl w.heap.size w).alloc (Nat.le_refl _) (.cells #[.int .i8 x, .int .i8 y] 40)).alloc (by simp) (.cells (chV 0 0 0) 99)
  unfold chV at n0 n1 b0 g0 hb0
  obtain ⟨W0, hW0⟩ : ∃ W0, (w.alloc (.cells #[.int .i8 x, .int .i8 y] 40)).alloc (.cells #[.int .i8 0, .int .i8 0, .int .i64 0] 99) = W0 := ⟨_, rfl⟩
  rw [hW0] at n0 n1 b0 g0 hb0
  have r0 := b0.row
  obtain ⟨-, -, dn, -, -⟩ := n0.facts
  obtain ⟨-, -, dg, -, -⟩ := g0.facts
  go_enter Try.func105, Try.ntmps105
  go_wp2_with fail
  clear hW0
  refine (HS.out _).mono ?_
  rintro e w1 ⟨rfl, hb1⟩
  have n2 := n0.below hb1 n0.lt
  have z2 := n1.below hb1 n1.lt
  have hb2 := below_onto hb0 hb1
  clear n0 n1 b0 g0 hb0 hb1 r0 dn dg
  have n3 := n2.alloc (.cells M.cells 31)
  have z3 := z2.alloc (.cells M.cells 31)
  have m3 := Holds.new w1 M.cells 31
  have hb3 := hb2.alloc hb2.size (.cells M.cells 31)
  obtain ⟨W3, hW3⟩ : ∃ W3, w1.alloc (.cells M.cells 31) = W3 := ⟨_, rfl⟩
  rw [hW3] at n3 z3 m3 hb3
  clear n2 z2 hb2
  go_wp2_with fail
  clear hW3
  obtain ⟨r0, -⟩ := m3.later
  obtain ⟨-, s0⟩ := n3.later
  refine wp_region_grow 5 (by kernel_rfl) (by kernel_rfl) ?_
  simp only [List.take_succ_cons, List.take_zero, List.drop_succ_cons, List.drop_zero]
  iterate 5
    apply wpGrow_plain rfl
    · intro w' hw' K hK
      have e0 := s0 _ hw'
      have e1 := r0 _ hw'
      go_wp2_with (first | (go_at_call 55; refine (HA.out _).mono ?_; rintro e w2 ⟨rfl, hb5⟩) | (go_at_call 57; refine (HE.out _).mono ?_; rintro e w2 ⟨rfl, hb5⟩))
      first | exact hK _ _ rfl hw' | exact hK _ _ rfl (below_onto hw' hb5)
    simp only [Act.put, List.setIfInBounds_toArray, List.set_cons_succ, List.set_cons_zero]
  refine wpGrow_nil ?_
  intro W4 hW4
  have z4 := z3.below hW4 z3.lt
  have hb4 := below_onto hb3 hW4
  clear n3 z3 m3 hW4 hb3 r0 s0
  obtain ⟨-, -, dz, fz, lz⟩ := z4.facts
  have q1 := ((z4.setCell 0 (.int .i8 x)).setCell 1 (.int .i8 y)).setCell 2 (.int .i64 (edgeZ (sidesOfL M)))
  have hb5 := ((hb4.setCell (p := ⟨w.heap.size + 1, 0, none⟩) (by dsimp only; omega) (.int .i8 x)).setCell (p := ⟨w.heap.size + 1, 1, none⟩) (by dsimp only; omega) (.int .i8 y)).setCell (p := ⟨w.heap.size + 1, 2, none⟩) (by dsimp only; omega) (.int .i64 (edgeZ (sidesOfL M)))
  go_wp2_with fail
  exact bodyPost_ret (results_cell_holds (n := 3) rfl (by kernel_rfl) _ rfl q1 rfl) rfl ⟨by rw [HEC.out]; rfl, hb5⟩

set_option maxRecDepth 100000 in
theorem changeInfo : (Try.prog.info? 99).map (fun i => (i.zero, i.size, i.bytes)) = some (some (.agg #[.int .i8 0, .int .i8 0, .int .i64 0]), 3, 16) := by kernel_rfl

set_option maxRecDepth 100000 in
set_option maxHeartbeats 4000000 in
theorem eachChange_any {W H : Nat} (L : Lawn) (hL : L.Fits) (hv : validB L = true) (hW : L.wide = W) (hH : L.high = H) (k : Int) (hk : inB k 0 3 = true) (b g B n : Nat) (v : Value) (hn : n ≤ 100) (l : List (Fin W × Fin H)) (hl : l.length = n) (w : World) (ho : w.ownsRow B 40 2 v n (flatV l)) (hb : Holds w b L.cells) (hg : Holds w g #[.int .i64 k]) :
    Calls Try.prog 104 #[v, .func (.func 105) #[] #[.pointer (some ⟨b, 0, none⟩), .pointer (some ⟨g, 0, none⟩)]] w fun e w' => (∃ u, e = .returned u ∧ w'.ownsRow w.heap.size 99 3 u n (flatC L k l)) ∧ Below w.heap.size w w' := by
  obtain ⟨av, cv, rfl⟩ := own_slice ho
  obtain ⟨i0, hi, hz0, hz1, hz2⟩ := info_parts changeInfo
  have HI := Lib.hid (show Try.prog.info? 99 = some i0 ∧ i0.zero = some (.agg #[.int .i8 0, .int .i8 0, .int .i64 0]) ∧ i0.size = 3 ∧ i0.bytes = 16 from ⟨hi, hz0, hz1, hz2⟩)
  have HCH := Lib.hid (fun (c : Fin W × Fin H) (w : World) (hb : Holds w b L.cells) (hg : Holds w g #[.int .i64 k]) => changed_is L hL hv hW hH k hk b g c w hb hg)
  have HO := Lib.hid ho
  have HB := Lib.hid (And.intro hb hg)
  clear hi hz0 hz1 hz2 hL hv hW hH hk ho hb hg
  go_enter Try.func104, Try.ntmps104
  go_wp2_with fail
  go_loopw [5, 10] (fun u q wr => ∃ i : Nat, i ≤ n ∧ q = .int .i64 i ∧ wr.ownsRow w.heap.size 99 3 u i (flatC L k (l.take i)) ∧ Below w.heap.size w wr) (fun _ q _ => n - (intOf q).toNat)
  case atStart => exact ⟨0, by omega, rfl, World.ownsRow_nil _ _ _ _, Below.refl _ _⟩
  case round =>
    obtain ⟨i, hi, rfl, hu, hbw⟩ := hrel
    have HU := Lib.hid hu
    clear hu
    by_cases hlt : i < n
    · have hd : decide ((i : Int) < (n : Int)) = true := by simp; omega
      obtain ⟨c, hc⟩ : ∃ c, l[i]? = some c := ⟨_, List.getElem?_eq_getElem (by omega)⟩
      have HT := Lib.hid (show l.take (i + 1) = l.take i ++ [c] by rw [List.take_add_one, hc]; rfl)
      obtain ⟨fa, fb⟩ := flatV_get _ _ _ hc
      have ho := own_below HO.out hbw
      obtain ⟨ga, cap, he, hBg, hgw⟩ := own_form ho (by omega)
      simp only [Value.slice.injEq, true_and] at he
      obtain ⟨rfl, rfl⟩ := he
      have ca := own_cell ho _ _ fa
      have cb := own_cell ho _ _ fb
      have hsz := hbw.size
      have n0 := Holds.new wr #[.int .i8 c.1.val, .int .i8 c.2.val] 40
      have b0 := (HB.out.1.below hbw HB.out.1.lt).alloc (.cells #[.int .i8 c.1.val, .int .i8 c.2.val] 40)
      have g0 := (HB.out.2.below hbw HB.out.2.lt).alloc (.cells #[.int .i8 c.1.val, .int .i8 c.2.val] 40)
      have hb0 := hbw.alloc hsz (.cells #[.int .i8 c.1.val, .int .i8 c.2.val] 40)
      have HU0 := Lib.hid (own_below HU.out ((Below.refl wr.heap.size wr).alloc (Nat.le_refl _) (.cells #[.int .i8 c.1.val, .int .i8 c.2.val] 40)))
      obtain ⟨-, -, dn, -, -⟩ := n0.facts
      have HCc := Lib.hid (HCH.out c)
      clear ho hc fa fb hbw HU n0
      go_wp2_with fail
      refine (HCc.out _ b0 g0).mono ?_
      rintro e w2 ⟨rfl, hb1⟩
      have hb2 := below_onto hb0 hb1
      have HU2 := Lib.hid (own_below HU0.out hb1)
      have hsz2 := hb2.size
      clear b0 g0 hb0 hb1 HU0 ca cb dn
      unfold chV
      go_wp2_with (at_builtin; refine wpList_append_own_at _ rfl _ _ 126 rfl w.heap.size 99 i0 (.agg #[.int .i8 0, .int .i8 0, .int .i64 0]) 3 16 Try.underlying126 HI.out.1 HI.out.2.1 HI.out.2.2.1 HI.out.2.2.2 rfl (by decide) _ _ _ rfl (HU2.out.alloc _) ⟨w2.heap.size, 0, none⟩ 1 1 [.int .i8 c.1.val, .int .i8 c.2.val, .int .i64 (edgeC L k c)] rfl rfl ?c1 ?c2 ?c3 ?c4 ?c5 ?_)
      case c1 =>
        intro m u hu
        match m, hu with
        | 0, hu => simp at hu; subst hu; exact (Holds.new w2 #[.int .i8 c.1.val, .int .i8 c.2.val, .int .i64 (edgeC L k c)] 99).cell 0
        | 1, hu => simp at hu; subst hu; exact (Holds.new w2 #[.int .i8 c.1.val, .int .i8 c.2.val, .int .i64 (edgeC L k c)] 99).cell 1
        | 2, hu => simp at hu; subst hu; exact (Holds.new w2 #[.int .i8 c.1.val, .int .i8 c.2.val, .int .i64 (edgeC L k c)] 99).cell 2
      case c2 => intro u hu; simp at hu; rcases hu with rfl | rfl | rfl <;> rfl
      case c3 => unfold maxLen; omega
      case c4 => omega
      case c5 => simp; omega
      intro v' w3 hown' hgrow _ hat
      have hb5 : Below w.heap.size w w3 := (hb2.alloc hsz2 _).grown hgrow (by simp; omega) (fun k hk => own_far HU2.out k hk)
      have ho3 : w3.ownsRow w.heap.size 99 3 v' (i + 1) (flatC L k (l.take (i + 1))) := by
        rw [HT.out, flatC_append]
        exact hown'
      have HO3 := Lib.hid ho3
      clear hown' hgrow ho3 hat HU2 hb2
      go_wp2_with fail
      go_roundw
      case rel => exact ⟨i + 1, by omega, by go_num, HO3.out, hb5⟩
      case measure => simp [intOf]; omega
    · obtain rfl : i = n := by omega
      have hd : decide ((i : Int) < (i : Int)) = false := by simp
      have HT := Lib.hid (show l.take i = l from List.take_of_length_le (by omega))
      go_wp2_with fail
      go_ret
      exact ⟨⟨_, rfl, by have := HU.out; rwa [HT.out] at this⟩, hbw⟩
end Go.Proofs.Ythpfejbigdjhlaa
