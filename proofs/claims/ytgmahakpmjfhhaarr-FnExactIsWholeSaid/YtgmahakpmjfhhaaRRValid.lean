/- The program's ValidLawn answers as the model's. -/
import Derived.Test.YtgmahakpmjfhhaaRRIn
import Derived.Test.YtgmahakpmjfhhaaRREql
namespace Go.Proofs.YtgmahakpmjfhhaaRR
open Go.RowKit Go.Shelf
attribute [local go_sem] Oper.semAt_some
attribute [local go_sem ↓] loadRow loadGrid loadLawn loadMirror storeRow storeGrid storeLawn allocRow allocGrid allocLawn buildZero buildSides eqlGrid eqlLawn loadRow' loadGrid' loadLawn' storeRow' storeGrid' storeLawn' allocRow' allocGrid' allocLawn' buildZero' buildSides' eqlGrid' eqlLawn'

theorem Holds.grown {w w' : World} {b : Nat} {cs : Array Value} {row : Option Nat} (h : Holds w b cs) (hg : w.grownBy w' row) (hr : ∀ r, row = some r → ∃ o : Obj, w.heap[r]? = some o ∧ o.isCells = false) : Holds w' b cs := by
  obtain ⟨t, ht⟩ := h
  refine ⟨t, (hg.block b (Array.getElem?_eq_some_iff.1 ht).1 (fun e => ?_)).trans ht⟩
  obtain ⟨o, ho, hc⟩ := hr b e.symm
  rw [ht] at ho; cases ho; cases hc
theorem holds_own {β : Type} (b : Nat) (f : β → Array Value) : Own (fun s W => Holds W b (f s)) := fun _ _ _ _ hs hg hr => hs.grown hg hr
theorem pure_own {β : Type} (p : β → Prop) : Own (fun s (_ : World) => p s) := fun _ _ _ _ hs _ _ => hs
theorem ownAnd {β : Type} {I I' : β → World → Prop} (h : Own I) (h' : Own I') : Own (fun s W => I s W ∧ I' s W) := fun s W W' row hs hg hr => ⟨h s W W' row hs.1 hg hr, h' s W W' row hs.2 hg hr⟩
theorem keeps_setRow (W : World) (g : Nat) (cs : Array Value) : KeepsOthers W (W.setRow g cs) :=
  ⟨by simp, fun k o hk ho => by
    by_cases e : k = g
    · subst e
      have hlt := (Array.getElem?_eq_some_iff.1 hk).1
      have hv := (Array.getElem?_eq_some_iff.1 hk).2
      unfold World.setRow
      rw [Array.getElem?_eq_getElem (by simpa using hlt), Array.getElem_modify]
      simp only [↓reduceIte, hv]
      cases o <;> first | rfl | (cases ho)
    · exact (setRow_other W g k cs e).trans hk⟩

set_option maxRecDepth 100000 in
set_option maxHeartbeats 400000 in
theorem kind_any (L : Lawn) (x y : Nat) (hx : x < 10) (hy : y < 10) (w : World) :
    Calls Try.prog 109 #[.agg L.cells, .agg #[.int .i8 x, .int .i8 y]] w fun e w' => e = .returned (.int .u8 (L.kind y x)) ∧ Below w.heap.size w w' := by
  have hx0 : (0 : Int) ≤ x := by omega
  have hx1 : (x : Int) < 10 := by omega
  have hy0 : (0 : Int) ≤ y := by omega
  have hy1 : (y : Int) < 10 := by omega
  have ck : L.cells[2 + y * 10 + x]? = some (.int .u8 (L.kind y x)) := Lawn.cells_get L y x hy hx
  have cs : 2 + y * 10 + x < 102 := by omega
  have ca : L.cells[2 + y * 10 + x]'(by simp; omega) = .int .u8 (L.kind y x) := by
    rw [Array.getElem?_eq_getElem (by simp; omega)] at ck; exact Option.some.inj ck
  clear ck
  go_enter Try.func109, Try.ntmps109
  go_wp2
  go_quiet (fail)
  go_wp2
  go_ret
  exact ⟨rfl, below_drewN (((Below.refl _ _).alloc (Nat.le_refl _) _).alloc (by simp) _) _⟩

/-- The kinds of the cells that have come; 0 elsewhere. -/
def seen {W H : Nat} (K : Nat → Nat → Int) (pre : List (Fin W × Fin H)) (y x : Nat) : Int := if pre.any (fun c => c.2.val == y && c.1.val == x) then K y x else 0
theorem seen_nil {W H : Nat} (K : Nat → Nat → Int) : gridOf (seen K ([] : List (Fin W × Fin H))) = gridOf fun _ _ => 0 := gridOf_ext fun y x _ _ => by simp [seen]
theorem seen_snoc {W H : Nat} (hW : W ≤ 10) (K : Nat → Nat → Int) (pre : List (Fin W × Fin H)) (c : Fin W × Fin H) :
    (gridOf (seen K pre)).setIfInBounds (c.2.val * 10 + c.1.val) (.int .u8 (K c.2.val c.1.val)) = gridOf (seen K (pre ++ [c])) := by
  obtain ⟨⟨j, hj⟩, ⟨k, hk⟩⟩ := c
  unfold gridOf
  apply rowOf_of
  · simp
  · intro i hi
    rw [Array.getElem?_setIfInBounds]
    by_cases e : k * 10 + j = i
    · subst e
      rw [if_pos rfl, if_pos (by simp; omega)]
      rw [show (k * 10 + j) / 10 = k by omega, show (k * 10 + j) % 10 = j by omega]
      simp [seen]
    · rw [if_neg e, rowOf_get _ _ _ hi]
      have hne : ¬ (k = i / 10 ∧ j = i % 10) := fun h => e (by omega)
      have hb : (k == i / 10 && j == i % 10) = false := by
        cases h : (k == i / 10 && j == i % 10) with
        | false => rfl
        | true => simp only [Bool.and_eq_true, beq_iff_eq] at h; exact absurd h hne
      simp only [seen, List.any_append, List.any_cons, List.any_nil, Bool.or_false, hb]
/-- Of a lawn with sides as told and kinds as told: it is valid where it is what its cells are. -/
theorem valid_of_seen {W H : Nat} (hW : W ≤ 10) (hH : H ≤ 10) (hW1 : 1 ≤ W) (hH1 : 1 ≤ H) (K : Nat → Nat → Int) (h : ∀ c ∈ allC W H, inB (K c.2 c.1) 0 3 = true) :
    gridEq K (seen K (allC W H)) = validB ⟨(W : Int), (H : Int), K⟩ := by
  have hin : ∀ y x, (allC W H).any (fun c => c.2.val == y && c.1.val == x) = true ↔ x < W ∧ y < H := by
    intro y x
    rw [List.any_eq_true]
    constructor
    · rintro ⟨c, _, hc⟩
      simp only [Bool.and_eq_true, beq_iff_eq] at hc
      have := c.1.isLt; have := c.2.isLt; omega
    · rintro ⟨hx, hy⟩
      exact ⟨(⟨x, hx⟩, ⟨y, hy⟩), allC_mem _ _ _, by simp⟩
  have hk : ∀ y x, x < W → y < H → inB (K y x) 0 3 = true := fun y x hx hy => h (⟨x, hx⟩, ⟨y, hy⟩) (allC_mem _ _ _)
  have his : ∀ y x : Nat, isB ⟨(W : Int), (H : Int), K⟩ x y = decide (x < W ∧ y < H) := by
    intro y x
    rw [Bool.eq_iff_iff]
    simp only [isB, inB, Bool.and_eq_true, decide_eq_true_eq]
    omega
  cases hv : validB ⟨(W : Int), (H : Int), K⟩ with
  | true =>
    obtain ⟨-, -, hv⟩ := validB_true hv
    refine gridEq_of fun y x hy hx => ?_
    unfold seen
    by_cases e : x < W ∧ y < H
    · rw [if_pos ((hin y x).2 e)]
    · rw [if_neg (fun he => e ((hin y x).1 he))]
      have := hv y x hy hx
      simp only [okAt, Bool.and_eq_true, Bool.or_eq_true, beq_iff_eq, his, decide_eq_true_eq] at this
      exact this.2.resolve_right e
  | false =>
    cases hg : gridEq K (seen K (allC W H)) with
    | false => rfl
    | true =>
      have hg := gridEq_true hg
      rw [← hv]
      refine (validB_of (inB_yes (by dsimp only; omega) (by dsimp only; omega)) (inB_yes (by dsimp only; omega) (by dsimp only; omega)) (fun y x hy hx _ => ?_)).symm
      have hyx := hg y x hy hx
      unfold seen at hyx
      simp only [okAt, Bool.and_eq_true, Bool.or_eq_true, beq_iff_eq, his, decide_eq_true_eq]
      by_cases e : x < W ∧ y < H
      · exact ⟨hk y x e.1 e.2, .inr e⟩
      · rw [if_neg (fun he => e ((hin y x).1 he))] at hyx
        rw [hyx]
        exact ⟨by decide, .inl rfl⟩

set_option maxRecDepth 100000 in
set_option maxHeartbeats 1000000 in
theorem valid_loop (Wn Hn : Nat) (hW : Wn ≤ 10) (hH : Hn ≤ 10) (hW1 : 1 ≤ Wn) (hH1 : 1 ≤ Hn) (L : Lawn) (hLw : L.wide = Wn) (hLh : L.high = Hn) (hF : ∀ y x, y < 10 → x < 10 → 0 ≤ L.kind y x ∧ L.kind y x ≤ 255) (w : World) :
    Calls Try.prog 96 #[.agg L.cells] w fun e w' => e = .returned (.bool (validB L)) ∧ Below w.heap.size w w' := by
  have hws : inB L.wide 1 10 = true := inB_yes (by omega) (by omega)
  have hhs : inB L.high 1 10 = true := inB_yes (by omega) (by omega)
  have b1 : -128 ≤ L.wide ∧ L.wide ≤ 127 ∧ -128 ≤ L.high ∧ L.high ≤ 127 := by omega
  obtain ⟨b1, b2, b3, b4⟩ := b1
  have HL : Hid (L = ⟨(Wn : Int), (Hn : Int), L.kind⟩) := Lib.hid (by cases L; simp_all)
  clear hLw hLh
  refine (callsIn_wide (n := 9)).1 ?_
  refine callsIn_of_wp_marks Try.func96 rfl trivial ?_ rfl
  simp only [Try.ntmps96, List.size_toArray, List.length_cons, List.length_nil, Nat.reduceAdd, Nat.reduceSub, Array.replicate_succ, Array.replicate_zero, List.push_toArray, List.append_toArray, List.nil_append, List.cons_append]
  gi_wp2_with (first | (refine ⟨trivial, ?_⟩; gi_at_call 161; ((with_reducible refine (callsIn_wide.2 (side_is _ _ hws _)).mono ?_); rintro e w1 ⟨rfl, rfl⟩)) | (refine ⟨trivial, ?_⟩; gi_at_call 161; ((with_reducible refine (callsIn_wide.2 (side_is _ _ hhs _)).mono ?_); rintro e w1 ⟨rfl, rfl⟩)) | (refine ⟨trivial, ?_⟩; gi_at_call 98; refine (each_in Fence.wide _ trivial rfl _ _).mono ?_; rintro e w1 ⟨rfl, rfl⟩))
  obtain ⟨W0, hW0⟩ : ∃ W0, (((w.alloc (.cells L.cells 28)).alloc (.cells #[.bool false] 4)).alloc (.cells (gridOf fun _ _ => 0) 26)).alloc (.cells L.cells 28) = W0 := ⟨_, rfl⟩
  have g0 : Holds W0 w.heap.size L.cells := by rw [← hW0]; exact (((Holds.new _ _ _).alloc _).alloc _).alloc _
  have g1 : Holds W0 (w.heap.size + 1) #[.bool false] := by rw [← hW0]; exact ((Holds.new' _ _ _ _ (by simp)).alloc _).alloc _
  have g2 : Holds W0 (w.heap.size + 1 + 1) (gridOf fun _ _ => 0) := by rw [← hW0]; exact (Holds.new' _ _ _ _ (by simp)).alloc _
  have g3 : Holds W0 (w.heap.size + 1 + 1 + 1) L.cells := by rw [← hW0]; exact Holds.new' _ _ _ _ (by simp)
  have hB0 : Below w.heap.size w W0 := by rw [← hW0]; exact ((((Below.refl _ _).alloc (Nat.le_refl _) _).alloc (by simp) _).alloc (by simp; omega) _).alloc (by simp; omega) _
  have hsz : W0.heap.size = w.heap.size + 4 := by rw [← hW0]; simp
  rw [hW0]
  clear hW0
  have HZ := Lib.hid hsz
  refine wpIn_rangeFunc_ownH (α := Fin Wn × Fin Hn) rfl (by omega) (gf := 167) (lb := #[.pointer (some ⟨w.heap.size + 1 + 1 + 1, 0, none⟩)]) rfl trivial (enters_of Try.func167 (by kernel_rfl) rfl)
    (each_stops Fence.wide _ trivial rfl (by omega) (w.heap.size + 1 + 1 + 1) Wn Hn hW hH L.kind W0 (by omega) (by rw [← HL.out]; exact g3)) keepB_t (keepB_b (by omega)) (Below.refl _ _) (fun _ => rfl)
    (fun pre W => (Holds W w.heap.size L.cells ∧ Holds W (w.heap.size + 1) #[.bool false] ∧ Holds W (w.heap.size + 1 + 1) (gridOf (seen L.kind pre)) ∧ Holds W (w.heap.size + 1 + 1 + 1) L.cells ∧ (∀ c ∈ pre, inB (L.kind c.2 c.1) 0 3 = true)) ∧ Below w.heap.size w W)
    (fun c pre W => (c = .ret ∧ Holds W (w.heap.size + 1) #[.bool false] ∧ (∃ c ∈ pre, inB (L.kind c.2 c.1) 0 3 = false)) ∧ Below w.heap.size w W)
    (OwnFrom.and (Own.from (ownAnd (holds_own _ (fun _ => L.cells)) (ownAnd (holds_own _ (fun _ => #[.bool false])) (ownAnd (holds_own _ (fun pre => gridOf (seen L.kind pre))) (ownAnd (holds_own _ (fun _ => L.cells)) (pure_own _))))) _) (ownFrom_below (Nat.le_refl _) (by omega)))
    (fun c => OwnFrom.and (Own.from (ownAnd (pure_own _) (ownAnd (holds_own _ (fun _ => #[.bool false])) (pure_own _))) _) (ownFrom_below (Nat.le_refl _) (by omega)))
    ⟨⟨g0, g1, by rw [seen_nil]; exact g2, g3, by simp⟩, hB0⟩
    (fun x a' W => ∃ Bx, w.heap.size + 4 ≤ Bx ∧ Holds W Bx #[.int .i8 ((x.1 : Nat) : Int), .int .i8 ((x.2 : Nat) : Int)] ∧ a' = { tmps := #[.agg L.cells, .pointer (some ⟨w.heap.size, 0, none⟩), .pointer (some ⟨w.heap.size + 1, 0, none⟩), .pointer (some ⟨w.heap.size + 1 + 1, 0, none⟩), .pointer (some ⟨Bx, 0, none⟩), .pointer (some ⟨w.heap.size, 0, none⟩), .int .i8 L.wide, .int .i64 L.wide, .bool true, .bool false, .bool false, .pointer (some ⟨w.heap.size, 1, none⟩), .int .i8 L.high, .int .i64 L.high, .bool true, .bool false, .bool false, .agg L.cells, .func (.func 167) #[] #[.pointer (some ⟨w.heap.size + 1 + 1 + 1, 0, none⟩)], .agg #[.int .i8 ((x.1 : Nat) : Int), .int .i8 ((x.2 : Nat) : Int)], undef, undef, undef, undef, undef, undef, undef, undef, undef, undef, undef, undef, undef, undef, undef, undef, undef, undef, undef], defers := [] })
    (fun x a' => fun _ W W' row ⟨Bx, h1, h2, h3⟩ hg hr => ⟨Bx, h1, h2.grown hg (fun r e => (hr r e).2), h3⟩)
    ?assign ?body ?done ?stop
  case assign =>
    rintro l pre x W K' ⟨⟨i0, i1, i2, i3, i4⟩, iB⟩ hK
    have hlt := i3.lt
    simp only [cellA, cellV]
    gi_wp2
    exact hK _ _ ((KeepsOthers.alloc _ _).from _) (KeepB.of_below ((Below.refl _ W).alloc (Nat.le_refl _) _) hlt) ⟨⟨i0.alloc _, i1.alloc _, i2.alloc _, i3.alloc _, i4⟩, iB.alloc iB.size _⟩ ⟨_, by omega, Holds.new _ _ _, rfl⟩
  case body =>
    rintro l pre x a' W hl ⟨r, hr⟩ ⟨⟨i0, i1, i2, i3, i4⟩, iB⟩ ⟨Bx, hBx, bX, rfl⟩ hlt
    have hl3 := i3.lt
    obtain ⟨r0, -, -, -, l0⟩ := i0.facts
    obtain ⟨rx, -, cx, -, lx⟩ := bX.facts
    have hx := x.1.isLt
    have hy := x.2.isLt
    obtain ⟨⟨xj, hxj⟩, ⟨xk, hxk⟩⟩ := x
    dsimp only at *
    clear hr
    clear hsz
    gi_wp2_with fail
    refine ⟨trivial, CallsIn.inRound l (callsIn_wide.2 ((kind_any L xj xk (by omega) (by omega) W).mono ?_))⟩
    rintro e w1 ⟨rfl, hb1⟩
    have j0 := i0.below hb1 i0.lt
    have j1 := i1.below hb1 i1.lt
    have j2 := i2.below hb1 i2.lt
    have j3 := i3.below hb1 i3.lt
    have jX := bX.below hb1 bX.lt
    have jB : Below w.heap.size w w1 := iB.trans (hb1.mono iB.size)
    have jK : KeepsOthers W w1 := ⟨hb1.size, fun k o hk _ => (hb1.block k (Array.getElem?_eq_some_iff.1 hk).1).trans hk⟩
    have jb : KeepB (w.heap.size + 1 + 1 + 1) W w1 := KeepB.of_below hb1 hl3
    clear hb1 i0 i1 i2 i3 bX r0 l0 rx cx lx iB
    have jl := j3.lt
    obtain ⟨k0, k1⟩ := hF xk xj (by omega) (by omega)
    cases hkd : inB (L.kind xk xj) 0 3
    case false =>
      obtain ⟨-, f1, c1, z1, l1⟩ := j1.facts
      gi_wp2_with (refine ⟨trivial, ?_⟩; gi_at_call 162; refine (CallsIn.inRound l (callsIn_wide.2 (kind_is _ _ hkd _))).mono ?_; rintro e w2 ⟨rfl, rfl⟩)
      exact ⟨(jK.trans (KeepsOthers.setCell _ _ _)).from _, ⟨rfl, j1.setCell 0 (.bool false), ⟨(⟨xj, hxj⟩, ⟨xk, hxk⟩), by simp, hkd⟩⟩, jB.setCell (p := ⟨w.heap.size + 1, 0, none⟩) (by dsimp only; omega) _⟩
    case true =>
      obtain ⟨r0, -, -, -, l0⟩ := j0.facts
      obtain ⟨-, -, cx, -, lx⟩ := jX.facts
      gi_wp2_with (refine ⟨trivial, ?_⟩; gi_at_call 162; refine (CallsIn.inRound l (callsIn_wide.2 (kind_is _ _ hkd _))).mono ?_; rintro e w2 ⟨rfl, rfl⟩)
      have hj0 : (0 : Int) ≤ xj := by omega
      have hj1 : (xj : Int) < 10 := by omega
      have hk0 : (0 : Int) ≤ xk := by omega
      have hk1 : (xk : Int) < 10 := by omega
      clear r0 l0 cx lx hF k0 k1 hlt hl hws hhs b1 b2 b3 b4 g0 g1 g2 g3 hB0
      obtain ⟨r0, c0⟩ := j0.later
      obtain ⟨rx, cx⟩ := jX.later
      refine wpIn_region_grow 9 (by kernel_rfl) rfl (by rintro ⟨_, _, h⟩; exact h) (by kernel_rfl) ?_
      simp only [List.take_succ_cons, List.take_zero, List.drop_succ_cons, List.drop_zero]
      iterate 9
        apply wpGrow_plain rfl
        · intro w' hw' K hK
          go_wp2_with (go_at_call 109; refine (kind_any L xj xk (by omega) (by omega) _).mono ?_; rintro e w2 ⟨rfl, hb2⟩)
          first | exact hK _ _ rfl hw' | exact hK _ _ rfl (below_onto hw' hb2)
        simp only [Act.put, List.setIfInBounds_toArray, List.set_cons_succ, List.set_cons_zero]
      refine wpGrow_nil ?_
      intro W2 hW2
      have q0 := j0.below hW2 j0.lt
      have q1 := j1.below hW2 j1.lt
      have q2 := j2.below hW2 j2.lt
      have q3 := j3.below hW2 j3.lt
      have qB : Below w.heap.size w W2 := jB.trans (hW2.mono jB.size)
      have qK : KeepsOthers W W2 := jK.trans ⟨hW2.size, fun k o hk _ => (hW2.block k (Array.getElem?_eq_some_iff.1 hk).1).trans hk⟩
      have qb : KeepB (w.heap.size + 1 + 1 + 1) W W2 := keepB_t jb (KeepB.of_below hW2 jl)
      clear hW2 r0 c0 rx cx j0 j1 j2 j3 jX jB jK jb jl
      obtain ⟨-, -, c2, z2, l2⟩ := q2.facts
      have c2' : W2.cell? ⟨w.heap.size + 1 + 1, xk * 10 + xj, none⟩ = some (.int .u8 (seen L.kind pre xk xj)) := (c2 _).trans (gridOf_get _ _ _ (by omega) (by omega))
      clear c2
      go_wp2
      have hsn := seen_snoc hW L.kind pre (⟨xj, hxj⟩, ⟨xk, hxk⟩)
      exact ⟨(qK.trans (KeepsOthers.setCell _ _ _)).from _, keepB_t qb (Below.heap_setCell _ _ _ _ (by dsimp only; omega)),
        ⟨q0.setCell_other _ _ (by dsimp only; omega), q1.setCell_other _ _ (by dsimp only; omega), hsn ▸ q2.setCell _ _, q3.setCell_other _ _ (by dsimp only; omega), fun c hc => (List.mem_append.1 hc).elim (i4 c) (fun h => by rw [List.mem_singleton.1 h]; exact hkd)⟩,
        qB.setCell (p := ⟨w.heap.size + 1 + 1, xk * 10 + xj, none⟩) (by dsimp only; omega) _⟩
  case done =>
    rintro D ys W hD rfl ⟨⟨i0, i1, i2, i3, i4⟩, iB⟩ hK
    have HV := Lib.hid (valid_of_seen hW hH hW1 hH1 L.kind i4)
    obtain ⟨r0, -, -, -, l0⟩ := i0.facts
    obtain ⟨-, f1, c1, z1, l1⟩ := i1.facts
    obtain ⟨r2, -, -, -, l2⟩ := i2.facts
    clear i4 hF g0 g1 g2 g3
    gi_wp2
    have hv : gridEq L.kind (seen L.kind (allC Wn Hn)) = validB L := HV.out.trans (congrArg validB HL.out.symm)
    have hK' := (KeepsOthers.setCell W ⟨w.heap.size + 1, 0, none⟩ (.bool (gridEq L.kind (seen L.kind (allC Wn Hn))))).same D _ hK rfl
    have hc := ((i1.setCell 0 (.bool (gridEq L.kind (seen L.kind (allC Wn Hn))))).grown (grownBy_putObj' _ D (.deferred none)) (fun r e => by cases e; exact ⟨_, hK', rfl⟩)).cell 0
    have hc' : World.cell? (World.putObj (W.setCell ⟨w.heap.size + 1, 0, none⟩ (.bool (gridEq L.kind (seen L.kind (allC Wn Hn))))) D (.deferred none)) ⟨w.heap.size + 1, 0, none⟩ = some (.bool (gridEq L.kind (seen L.kind (allC Wn Hn)))) := hc
    refine ⟨by simp, .inl ⟨_, _, rfl, run_takeDeferred hK', ?_⟩⟩
    refine ⟨.bool (gridEq L.kind (seen L.kind (allC Wn Hn))), ?_, by rw [hv], (iB.setCell (p := ⟨w.heap.size + 1, 0, none⟩) (by simp) _).trans (belowK_b (w := w) (Nat.le_refl _) _ D _ _ (by omega) hK' rfl rfl)⟩
    clear hv HV hc
    simp [results, Try.f96, go_sem, hc']
  case stop =>
    rintro D c pre W hD hpre ⟨⟨rfl, i1, ⟨cc, hcm, hcb⟩⟩, iB⟩ hK
    have hv : validB L = false := validB_not (y := cc.2) (x := cc.1) (by have := cc.2.isLt; omega) (by have := cc.1.isLt; omega) (by simp [okAt, hcb])
    have HV := Lib.hid hv
    clear hv hcb hcm hpre hF
    gi_wp2
    have hc := (i1.grown (grownBy_putObj' _ D (.deferred none)) (fun r e => by cases e; exact ⟨_, hK, rfl⟩)).cell 0
    have hc' : World.cell? (World.putObj W D (.deferred none)) ⟨w.heap.size + 1, 0, none⟩ = some (.bool false) := hc
    refine ⟨by simp, .inl ⟨_, _, rfl, run_takeDeferred hK, ?_⟩⟩
    refine ⟨.bool false, ?_, by rw [HV.out], iB.trans (belowK_b (w := w) (Nat.le_refl _) _ D _ _ (by omega) hK rfl rfl)⟩
    clear HV hc
    simp [results, Try.f96, go_sem, hc']

set_option maxRecDepth 100000 in
set_option maxHeartbeats 400000 in
theorem valid_wide (L : Lawn) (b1 : -128 ≤ L.wide) (b2 : L.wide ≤ 127) (hw : inB L.wide 1 10 = false) (w : World) :
    Calls Try.prog 96 #[.agg L.cells] w fun e w' => e = .returned (.bool false) ∧ Below w.heap.size w w' := by
  go_enter Try.func96, Try.ntmps96
  go_wp2_with (go_at_call 161; refine (side_is _ _ hw _).mono ?_; rintro e w1 ⟨rfl, rfl⟩)
  refine bodyPost_ret (v := .bool false) ?_ rfl ⟨rfl, ((Below.refl _ _).alloc (Nat.le_refl _) _).alloc (by simp) _⟩
  simp [results, Try.f96, go_sem]
set_option maxRecDepth 100000 in
set_option maxHeartbeats 400000 in
theorem valid_high (L : Lawn) (b1 : -128 ≤ L.wide) (b2 : L.wide ≤ 127) (b3 : -128 ≤ L.high) (b4 : L.high ≤ 127) (hw : inB L.wide 1 10 = true) (hh : inB L.high 1 10 = false) (w : World) :
    Calls Try.prog 96 #[.agg L.cells] w fun e w' => e = .returned (.bool false) ∧ Below w.heap.size w w' := by
  go_enter Try.func96, Try.ntmps96
  go_wp2_with (first | (go_at_call 161; ((with_reducible refine (side_is _ _ hw _).mono ?_); rintro e w1 ⟨rfl, rfl⟩)) | (go_at_call 161; ((with_reducible refine (side_is _ _ hh _).mono ?_); rintro e w1 ⟨rfl, rfl⟩)))
  refine bodyPost_ret (v := .bool false) ?_ rfl ⟨rfl, ((Below.refl _ _).alloc (Nat.le_refl _) _).alloc (by simp) _⟩
  simp [results, Try.f96, go_sem]

/-- **ValidLawn answers whether the lawn is valid.** -/
theorem implValid_any (L : Lawn) (hL : L.Fits) (w : World) :
    Calls Try.prog 96 #[.agg L.cells] w fun e w' => e = .returned (.bool (validB L)) ∧ Below w.heap.size w w' := by
  cases hws : inB L.wide 1 10
  · rw [validB_wide hws]; exact valid_wide L hL.w0 hL.w1 hws w
  cases hhs : inB L.high 1 10
  · rw [validB_high hhs]; exact valid_high L hL.w0 hL.w1 hL.h0 hL.h1 hws hhs w
  obtain ⟨w1, w2⟩ := inB_true hws
  obtain ⟨h1, h2⟩ := inB_true hhs
  exact valid_loop L.wide.toNat L.high.toNat (by omega) (by omega) (by omega) (by omega) L (by omega) (by omega) (fun y x hy hx => ⟨hL.k0 y x hy hx, hL.k1 y x hy hx⟩) w
end Go.Proofs.YtgmahakpmjfhhaaRR
