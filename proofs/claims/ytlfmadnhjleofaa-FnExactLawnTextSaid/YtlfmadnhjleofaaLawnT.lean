/- LawnText: the text of a lawn. -/
import Derived.Test.YtlfmadnhjleofaaBackF
namespace Go.Proofs.Ytlfmadnhjleofaa
open Go.RowKit Go.Shelf
set_option linter.unusedVariables false
attribute [local go_sem] Oper.semAt_some
attribute [local go_sem ↓] loadRow loadGrid loadLawn loadMirror storeRow storeGrid storeLawn allocRow allocGrid allocLawn buildZero buildSides loadRow' loadGrid' loadLawn' loadMirror' storeRow' storeGrid' storeLawn' allocRow' allocGrid' allocLawn' buildZero' buildSides'

/-- The letter of a kind. -/
def letK (k : Int) : UInt8 := if k = 0 then 46 else if k = 1 then 35 else if k = 2 then 84 else 61
/-- The text of the first cells. -/
def textL (L : Lawn) {W H : Nat} (pre : List (Fin W × Fin H)) : List UInt8 := pre.flatMap fun c => letK (L.kind c.2 c.1) :: (if c.1.val + 1 = W then [10] else [])
theorem textL_snoc (L : Lawn) {W H : Nat} (pre : List (Fin W × Fin H)) (c : Fin W × Fin H) : textL L (pre ++ [c]) = textL L pre ++ letK (L.kind c.2 c.1) :: (if c.1.val + 1 = W then [10] else []) := by simp [textL]
theorem textL_length (L : Lawn) {W H : Nat} : ∀ pre : List (Fin W × Fin H), (textL L pre).length ≤ pre.length * 2
  | [] => by simp [textL]
  | c :: pre => by
    have := textL_length L pre
    simp only [textL, List.flatMap_cons, List.length_append, List.length_cons] at *
    split
    · simp only [List.length_singleton]; omega
    · simp only [List.length_nil]; omega
theorem bytes_one (l : List UInt8) (c : UInt8) : Lib.byteCells (l ++ c :: []) = Lib.byteCells l ++ [.int .u8 c.toNat] := by simp [Lib.byteCells]
theorem bytes_two (l : List UInt8) (c d : UInt8) : Lib.byteCells (l ++ c :: [d]) = Lib.byteCells l ++ [.int .u8 c.toNat] ++ [.int .u8 d.toNat] := by simp [Lib.byteCells]
/-- The text of the first rows. -/
def rowsT (L : Lawn) (W k : Nat) : List UInt8 := (List.range k).flatMap fun y => (List.range W).map (fun x => letK (L.kind y x)) ++ [10]
theorem rowsT_succ (L : Lawn) (W k : Nat) : rowsT L W (k + 1) = rowsT L W k ++ ((List.range W).map (fun x => letK (L.kind k x)) ++ [10]) := by simp [rowsT, List.range_succ]
theorem rowsT_length (L : Lawn) (W : Nat) (hW : W ≤ 10) : ∀ k, (rowsT L W k).length ≤ k * 11
  | 0 => by simp [rowsT]
  | k + 1 => by
    have := rowsT_length L W hW k
    rw [rowsT_succ]
    simp only [List.length_append, List.length_map, List.length_range, List.length_singleton]
    omega
theorem textL_row (L : Lawn) (W H k : Nat) (hW : 1 ≤ W) (hk : k < H) (h : textL L ((allC W H).take (k * W)) = rowsT L W k) : ∀ j, j ≤ W → textL L ((allC W H).take (k * W + j)) = rowsT L W k ++ (List.range j).map (fun x => letK (L.kind k x)) ++ (if j = W then [10] else [])
  | 0, _ => by simp only [Nat.add_zero, h]; rw [if_neg (by omega)]; simp
  | j + 1, hj => by
    have ih := textL_row L W H k hW hk h j (by omega)
    rw [if_neg (by omega), List.append_nil] at ih
    rw [← Nat.add_assoc, allC_take W H k j (by omega) hk, textL_snoc, ih]
    simp [List.range_succ]
theorem textL_rows (L : Lawn) (W H : Nat) (hW : 1 ≤ W) : ∀ k, k ≤ H → textL L ((allC W H).take (k * W)) = rowsT L W k
  | 0, _ => by simp [textL, rowsT]
  | k + 1, hk => by
    have := textL_row L W H k hW (by omega) (textL_rows L W H hW k (by omega)) W (Nat.le_refl _)
    rw [if_pos rfl] at this
    rw [Nat.succ_mul, this, rowsT_succ]
    simp
theorem textL_all (L : Lawn) (W H : Nat) (hW : 1 ≤ W) : textL L (allC W H) = rowsT L W H := by
  rw [← textL_rows L W H hW H (Nat.le_refl _), List.take_of_length_le (by rw [allC_length]; exact Nat.le_refl _)]
def textS (L : Lawn) : ByteArray := if validB L then ⟨(rowsT L L.wide.toNat L.high.toNat).toArray⟩ else ⟨#[]⟩

theorem ownF_same {w w' : World} {B : Nat} {e : TypeId} {size n : Nat} {v : Value} {xs : List Value} (h : w.ownsRowF B e size v n xs) (hb : ∀ (g : Nat) (c : Array Value) (e : TypeId) (fz : Nat × Nat), w.heap[g]? = some (Obj.cells c e fz) → w'.heap[g]? = w.heap[g]?) : w'.ownsRowF B e size v n xs := by
  obtain ⟨h1, h2⟩ := h
  refine ⟨h1, ?_⟩
  rcases h2 with h2 | ⟨g, cap, cur, fz, h3, h4, h5, h6⟩
  · exact .inl h2
  · exact .inr ⟨g, cap, cur, fz, h3, h4, by rw [hb g _ _ _ h5]; exact h5, h6⟩
theorem bld_same {w w' : World} {B b : Nat} {bs : List Value} (h : Bld w B b bs) (hb : ∀ (g : Nat) (c : Array Value) (e : TypeId) (fz : Nat × Nat), w.heap[g]? = some (Obj.cells c e fz) → w'.heap[g]? = w.heap[g]?) : Bld w' B b bs := by
  rcases h with ⟨h1, v, h2, h3, h4⟩ | ⟨h1, v, h2, h3, h4⟩
  · exact .inl ⟨h1, v, by rw [hb b _ _ _ h2]; exact h2, ownF_same h3 hb, h4⟩
  · exact .inr ⟨h1, v, by rw [hb b _ _ _ h2]; exact h2, ownF_same h3 hb, h4⟩
/-- The iterator's own steps keep a builder. -/
theorem bld_own {β : Type} (A B b : Nat) (f : β → List Value) : OwnFrom A (fun (p : β) W => Bld W B b (f p)) := fun s W W' row hs hg hr =>
  bld_same hs fun g c e fz hgc => hg.block g (Array.getElem?_eq_some_iff.1 hgc).1 (fun er => by
    obtain ⟨-, o, ho, hc⟩ := hr g er.symm
    rw [hgc] at ho
    cases ho
    simp [Obj.isCells] at hc)
theorem bld_lt {w : World} {B b : Nat} {bs : List Value} (h : Bld w B b bs) : b < w.heap.size := by
  rcases h with ⟨-, v, h2, -⟩ | ⟨-, v, h2, -⟩ <;> exact (Array.getElem?_eq_some_iff.1 h2).1
theorem bld_cells {w : World} {B b : Nat} {bs : List Value} (h : Bld w B b bs) : ∃ c, w.heap[b]? = some (.cells c 169 (0, 0)) := by
  rcases h with ⟨-, v, h2, -⟩ | ⟨-, v, h2, -⟩ <;> exact ⟨_, h2⟩
/-- What a write into a builder leaves alone, seen from a world in which the blocks from the builder on are known. -/
theorem write_only {w W W' : World} {b : Nat} (hO : Only [b] w W) (hb : Below b W W') (hk : Lib.OthersKept 5 (some b) W W') (hw : b < w.heap.size) (h : ∀ k, b < k → k < w.heap.size → ∃ o, w.heap[k]? = some o ∧ ∀ c fz, o ≠ .cells c 5 fz) : Only [b] w W' := by
  refine ⟨hb.os.trans hO.os, hb.tape.trans hO.tape, hb.output.trans hO.output, Nat.le_trans hO.size hb.size, fun k hk1 hk2 => ?_⟩
  have e := hO.block k hk1 hk2
  rcases Nat.lt_trichotomy k b with hl | hl | hl
  · rw [hb.block k hl, e]
  · exact absurd (by simp [hl]) hk2
  · obtain ⟨o, ho, hne⟩ := h k hl hk1
    rw [hk k o (e.trans ho) (by simp; omega) hne, ho]
theorem write_keeps {W W' : World} {B b : Nat} {bs : List Value} (hB : Bld W B b bs) (hb : Below b W W') (hk : Lib.OthersKept 5 (some b) W W') : KeepsOthers W W' := by
  obtain ⟨c, hc⟩ := bld_cells hB
  refine ⟨hb.size, fun k o ho hn => ?_⟩
  refine hk k o ho (fun e => ?_) (fun c' fz e => by rw [e] at hn; simp [Obj.isCells] at hn)
  simp only [Option.some.injEq] at e
  subst e
  rw [hc] at ho
  cases ho
  simp [Obj.isCells] at hn

/-- The range over a lawn's cells, with the type of the loop's variable. -/
theorem each_rangeC {n : Nat} (hn : 2 ≤ n) {g : Operand} {p q : Nat} {assign body : Code} {Q : Exit → Act → World → Prop} {a : Act} {w : World} {b : Nat} (T : List Nat) (Wn Hn : Nat) (hW : Wn ≤ 10) (hH : Hn ≤ 10) (kd : Nat → Nat → Int)
    (hg : a.eval g = .func (.func 161) #[] #[.pointer (some ⟨b, 0, none⟩)]) (hB : Holds w b (Lawn.cells ⟨(Wn : Int), (Hn : Int), kd⟩))
    (I : List (Fin Wn × Fin Hn) → World → Prop) (Ix : Code → List (Fin Wn × Fin Hn) → World → Prop) (hI : OwnFrom w.heap.size I) (hIx : ∀ c, OwnFrom w.heap.size (Ix c)) (h0 : I [] w)
    (hassign : ∀ (l : Nat) (x y : Int) (W : World) (K : Act → World → Prop), K { tmps := (a.tmps.setIfInBounds p (cellV x y)).setIfInBounds q (.pointer (some ⟨W.heap.size, 0, none⟩)), defers := [] } (W.alloc (.cells #[.int .i8 x, .int .i8 y] 35)) →
      assign.wpIn (Fence.wide.inRound l) (n - 1 - 1) Try.prog (Exit.then K (fun _ _ _ => False)) { tmps := a.tmps.setIfInBounds p (cellV x y), defers := [] } W)
    (hbody : ∀ (l : Nat) (pre : List (Fin Wn × Fin Hn)) (x : Fin Wn × Fin Hn) (Bx : Nat) (W : World), w.heap.size ≤ l → (∃ r, W.heap[l]? = some (.loop r)) → Only T w W → I pre W → w.heap.size ≤ Bx → W.heap[Bx]? = some (.cells #[.int .i8 ((x.1 : Nat) : Int), .int .i8 ((x.2 : Nat) : Int)] 35 (0, 0)) → pre.length < (allC Wn Hn).length →
      body.wpIn (Fence.wide.inRound l) (n - 1 - 1) Try.prog (ownPostG w.heap.size (KeepB b) (fun pre W => Only T w W ∧ I pre W) (fun c pre W => Only T w W ∧ Ix c pre W) (pre ++ [x]) W)
        { tmps := (a.tmps.setIfInBounds p (cellV ((x.1 : Nat) : Int) ((x.2 : Nat) : Int))).setIfInBounds q (.pointer (some ⟨Bx, 0, none⟩)), defers := [] } W)
    (hdone : ∀ (D : Nat) (W : World), w.heap.size ≤ D → Only T w W → I (allC Wn Hn) W → W.heap[D]? = some (.deferred (some [])) → Q .normal (withD a D) W)
    (hstop : ∀ (D : Nat) (c : Code) (pre : List (Fin Wn × Fin Hn)) (W : World), w.heap.size ≤ D → Only T w W → Ix c pre W → W.heap[D]? = some (.deferred (some [])) → c.wpIn Fence.wide n Try.prog Q (withD a D) W) :
    (Code.rangeFunc g #[p] assign body).wpIn Fence.wide n Try.prog Q a w := by
  refine wpIn_rangeFunc_ownH (α := Fin Wn × Fin Hn) rfl (by omega) (gf := 161) (lb := #[.pointer (some ⟨b, 0, none⟩)]) hg trivial (enters_of Try.func161 (by kernel_rfl) rfl)
    (each_stops Fence.wide _ trivial rfl (by omega) b Wn Hn hW hH kd w hB.lt hB) keepB_t (keepB_b hB.lt) (Below.refl _ _) (fun _ => rfl)
    (fun pre W => Only T w W ∧ I pre W) (fun c pre W => Only T w W ∧ Ix c pre W)
    (OwnFrom.and (ownFrom_only (Nat.le_refl _)) hI) (fun c => OwnFrom.and (ownFrom_only (Nat.le_refl _)) (hIx c)) ⟨Only.refl _ _, h0⟩
    (fun x a' W => ∃ Bx, w.heap.size ≤ Bx ∧ W.heap[Bx]? = some (.cells #[.int .i8 ((x.1 : Nat) : Int), .int .i8 ((x.2 : Nat) : Int)] 35 (0, 0)) ∧ a' = { tmps := (a.tmps.setIfInBounds p (cellV ((x.1 : Nat) : Int) ((x.2 : Nat) : Int))).setIfInBounds q (.pointer (some ⟨Bx, 0, none⟩)), defers := [] })
    (fun x a' => fun _ W W' row ⟨Bx, h1, h2, h3⟩ hg hr => ⟨Bx, h1, (hg.block Bx (Array.getElem?_eq_some_iff.1 h2).1 (fun er => by
      obtain ⟨-, o, ho, hc⟩ := hr Bx er.symm
      rw [h2] at ho
      cases ho
      simp [Obj.isCells] at hc)).trans h2, h3⟩)
    ?assign ?body ?done ?stop
  case assign =>
    rintro l pre x W K' ⟨iO, iI⟩ hK
    have hlt : b < W.heap.size := Nat.lt_of_lt_of_le hB.lt iO.size
    have e : (#[p].zip (cellA x)).foldl (fun t (p, v) => t.setIfInBounds p v) a.tmps = a.tmps.setIfInBounds p (cellV ((x.1 : Nat) : Int) ((x.2 : Nat) : Int)) := by simp [cellA]
    rw [e]
    exact hassign l _ _ W K' (hK _ _ ((KeepsOthers.alloc _ _).from _) (KeepB.of_below ((Below.refl _ W).alloc (Nat.le_refl _) _) hlt) ⟨iO.alloc _, hI.alloc _ iI⟩ ⟨_, iO.size, heap_alloc_new _ _, rfl⟩)
  case body =>
    rintro l pre x a' W hl hr ⟨iO, iI⟩ ⟨Bx, hBx, bX, rfl⟩ hlt
    exact hbody l pre x Bx W hl hr iO iI hBx bX hlt
  case done =>
    rintro D xs W hD rfl ⟨iO, iI⟩ hK
    exact hdone D W hD iO iI hK
  case stop =>
    rintro D c pre W hD _ ⟨iO, iX⟩ hK
    exact hstop D c pre W hD iO iX hK

set_option maxRecDepth 100000 in
set_option maxHeartbeats 2000000 in
theorem text_loop (Wn Hn : Nat) (hW : Wn ≤ 10) (hH : Hn ≤ 10) (hW1 : 1 ≤ Wn) (L : Lawn) (hLw : L.wide = Wn) (hLh : L.high = Hn) (hL : L.Fits) (hV : validB L = true) (w : World) :
    Calls Try.prog 63 #[.agg L.cells] w fun e w' => e = .returned (.string ⟨(textL L (allC Wn Hn)).toArray⟩) ∧ Below w.heap.size w w' := by
  have HI := Lib.hid (show ∀ w : World, Calls Try.prog 84 #[.agg L.cells] w fun e w' => e = .returned (.bool true) ∧ Below w.heap.size w w' from fun w => hV ▸ implValid_any L hL w)
  have HK := Lib.hid (fun (x y : Nat) (hx : x < 10) (hy : y < 10) (w : World) => kind_any L x y hx hy w)
  have HR := Lib.hid (show ∀ y x : Nat, y < 10 → x < 10 → L.kind y x = 0 ∨ L.kind y x = 1 ∨ L.kind y x = 2 ∨ L.kind y x = 3 from fun y x hy hx => by
    have := (validB_true hV).2.2 y x hy hx
    simp only [okAt, Bool.and_eq_true] at this
    have := inB_true this.1
    omega)
  have HL : Hid (L = ⟨(Wn : Int), (Hn : Int), L.kind⟩) := Lib.hid (by cases L; simp_all)
  clear hLw hLh hV hL
  refine (callsIn_wide (n := 9)).1 ?_
  refine callsIn_of_wp_marks Try.func63 rfl trivial ?_ rfl
  simp only [Try.ntmps63, List.size_toArray, List.length_cons, List.length_nil, Nat.reduceAdd, Nat.reduceSub, Array.replicate_succ, Array.replicate_zero, List.push_toArray, List.append_toArray, List.nil_append, List.cons_append]
  have g0 := Holds.new w L.cells 28
  have hb0 := (Below.refl w.heap.size w).alloc (Nat.le_refl _) (.cells L.cells 28)
  gi_wp2_with fail
  refine ⟨trivial, (callsIn_wide.2 (HI.out _)).mono ?_⟩
  rintro e w1 ⟨rfl, hb1⟩
  have j0 := g0.below hb1 g0.lt
  have jB := below_onto hb0 hb1
  have hsw : w.heap.size < w1.heap.size := j0.lt
  clear g0 hb0 hb1
  obtain ⟨r0, -, -, -, -⟩ := (j0.alloc (.cells #[.pointer none, .slice none 0 0] 169)).facts
  gi_wp2_with (refine ⟨trivial, ?_⟩; gi_at_call 86; refine (each_in Fence.wide _ trivial rfl _ _).mono ?_; rintro e w2 ⟨rfl, rfl⟩)
  obtain ⟨b, hbe⟩ : ∃ b, w1.heap.size = b := ⟨_, rfl⟩
  obtain ⟨W0, hW0⟩ : ∃ W0, (w1.alloc (.cells #[.pointer none, .slice none 0 0] 169)).alloc (.cells L.cells 28) = W0 := ⟨_, rfl⟩
  have gL : Holds W0 w.heap.size L.cells := by rw [← hW0]; exact (j0.alloc _).alloc _
  have gB : Bld W0 b b [] := by rw [← hW0, ← hbe]; exact Lib.IsBuilderF.alloc (Bld.made w1 _ (Nat.le_refl _)) _
  have g3 : Holds W0 (b + 1) L.cells := by rw [← hW0]; exact Holds.new' _ _ _ _ (by simp; omega)
  have hB0 : Below w.heap.size w W0 := by rw [← hW0]; exact (jB.alloc jB.size _).alloc (by simp; omega) _
  have hsz : W0.heap.size = b + 2 := by rw [← hW0]; simp; omega
  have HBL := Lib.hid (show ∀ k, b < k → k < W0.heap.size → ∃ o, W0.heap[k]? = some o ∧ ∀ c fz, o ≠ .cells c 5 fz from fun k h1 h2 => by
    have e : k = b + 1 := by omega
    have := World.alloc_heap_new (w1.alloc (.cells #[.pointer none, .slice none 0 0] 169)) (.cells L.cells 28)
    rw [hW0, World.size_alloc, hbe] at this
    exact ⟨_, by rw [e]; exact this, fun c fz h => by simp only [Obj.cells.injEq] at h; exact absurd h.2.1 (by decide)⟩)
  rw [hbe] at hsw ⊢
  rw [hW0]
  have hz1 : b + 2 ≤ W0.heap.size := by omega
  have hz2 : W0.heap.size ≤ b + 2 := by omega
  clear hW0 hbe j0 jB r0 hsz
  refine each_rangeC (by omega) (p := 10) (q := 4) [b] Wn Hn hW hH L.kind rfl (by rw [← HL.out]; exact g3)
    (fun pre W => Bld W b b (Lib.byteCells (textL L pre))) (fun c pre W => False)
    (bld_own _ b b fun pre => Lib.byteCells (textL L pre)) (fun c => fun _ _ _ _ h _ _ => h.elim) gB ?assign ?body ?done ?stop
  case assign =>
    intro l x y W K hK
    simp only [cellV]
    gi_wp2
    exact hK
  case body =>
    rintro l pre x Bx W hl hr hO iB hBx bX hlt
    have hx := x.1.isLt
    have hy := x.2.isLt
    have hTS := Lib.hid (textL_snoc L pre x)
    obtain ⟨⟨xj, hxj⟩, ⟨xk, hxk⟩⟩ := x
    dsimp only at *
    simp only [cellV, List.setIfInBounds_toArray, List.set_cons_succ, List.set_cons_zero]
    have IB := Lib.hid iB
    have i0 := hO.holds gL (by simp; omega)
    have hO2 := Lib.hid hO
    clear hr hl hO iB
    obtain ⟨r0, -, c0, -, -⟩ := i0.facts
    have hbX : Holds W Bx #[.int .i8 (xj : Int), .int .i8 (xk : Int)] := ⟨_, bX⟩
    obtain ⟨rx, -, cx, -, -⟩ := hbX.facts
    obtain ⟨kd, hkd⟩ : ∃ kd, L.kind xk xj = kd := ⟨_, rfl⟩
    have hkr := HR.out xk xj (by omega) (by omega)
    have HK2 := Lib.hid (HK.out xj xk (by omega) (by omega))
    rw [hkd] at hkr HK2 hTS
    have htl : (textL L pre).length ≤ 200 := by
      have h1 := textL_length L pre
      have h2 : (allC Wn Hn).length ≤ 100 := by rw [allC_length]; exact Nat.le_trans (Nat.mul_le_mul hH hW) (by omega)
      omega
    gi_wp2_with fail
    refine ⟨trivial, (CallsIn.inRound l (callsIn_wide.2 (HK2.out _))).mono ?_⟩
    rintro e W1 ⟨rfl, hb1⟩
    have IB1 := Lib.hid (bld_below IB.out hb1)
    have hO3 := hO2.out.onto hb1
    have k1 : KeepsOthers W W1 := keeps_below hb1
    have i1 := i0.below hb1 i0.lt
    have bX1 := (hb1.block Bx (Array.getElem?_eq_some_iff.1 bX).1).trans bX
    clear r0 c0 rx cx i0 bX IB hb1 HK2 hkd hbX
    rcases hkr with rfl | rfl | rfl | rfl
    all_goals
      gi_wp2_with fail
      refine ⟨trivial, (CallsIn.inRound l (callsIn_wide.2 (writeByte_any _ _ _ _ _ IB1.out (by rw [Lib.byteCells_length]; omega) (by have := hO3.size; omega)))).mono ?_⟩
      rintro e W2 ⟨rfl, hB2, hb2, hk2⟩
      have hO4 := write_only hO3 hb2 hk2 (by omega) HBL.out
      have k2 := k1.trans (write_keeps IB1.out hb2 hk2)
      have IB2 := Lib.hid hB2
      have i2 := hO4.holds gL (by simp; omega)
      have bX2 : Holds W2 Bx #[.int .i8 (xj : Int), .int .i8 (xk : Int)] := ⟨_, hk2 Bx _ bX1 (by simp; omega) (fun c fz h => by simp only [Obj.cells.injEq] at h; exact absurd h.2.1 (by decide))⟩
      clear hB2 hb2 hk2 IB1 hO3 i1 bX1
      obtain ⟨-, -, c2, -, -⟩ := i2.facts
      obtain ⟨-, -, cx, -, -⟩ := bX2.facts
      have hlw : L.wide = (Wn : Int) := congrArg Lawn.wide HL.out
      have hww : IntKind.i8.wrap ((Wn : Int) - 1) = (Wn : Int) - 1 := IntWalk.i8_in _ (by omega)
      by_cases hend : xj + 1 = Wn
      · have heq : ((xj : Int) == (Wn : Int) - 1) = true := by simp; omega
        rw [if_pos hend] at hTS
        gi_wp2_with fail
        refine ⟨trivial, (CallsIn.inRound l (callsIn_wide.2 (writeByte_any _ _ _ _ _ IB2.out (by simp only [List.length_append, Lib.byteCells_length, List.length_singleton]; omega) (by have := hO4.size; omega)))).mono ?_⟩
        rintro e W3 ⟨rfl, hB3, hb3, hk3⟩
        have hO5 := write_only hO4 hb3 hk3 (by omega) HBL.out
        have k3 := k2.trans (write_keeps IB2.out hb3 hk3)
        have IB3 := Lib.hid hB3
        clear hB3 hb3 hk3 IB2 hO4 i2 bX2
        gi_wp2_with fail
        exact eachDone (b := b + 1) (by omega) (by simp) hO2.out k3 hO5 (by rw [hTS.out, bytes_two]; exact IB3.out)
      · have heq : ((xj : Int) == (Wn : Int) - 1) = false := by simp; omega
        rw [if_neg hend] at hTS
        gi_wp2_with fail
        exact eachDone (b := b + 1) (by omega) (by simp) hO2.out k2 hO4 (by rw [hTS.out, bytes_one]; exact IB2.out)
  case done =>
    rintro D W hD hO iB hK
    have IB := Lib.hid iB
    have hB2 : Below w.heap.size w W := hB0.trans (hO.toBelow (by simp; omega) (by omega))
    have hlb := bld_lt iB
    clear iB gL gB
    gi_wp2_with fail
    refine ⟨trivial, (callsIn_wide.2 (Try.Builder_String_any_k _ _ _ _ IB.out (by omega))).mono ?_⟩
    rintro e W3 ⟨rfl, hB3, hb3, hk3⟩
    have hK3 : W3.heap[D]? = some (.deferred (some [])) := hk3 D _ hK (by simp; omega) (fun c fz h => by cases h)
    have hB4 := hB2.trans (hb3.mono (by omega))
    clear hB3 hb3 hk3 IB hK hO hB2
    gi_wp2
    refine ⟨by simp, .inl ⟨_, _, rfl, run_takeDeferred hK3, ?_⟩⟩
    refine ⟨.string ⟨(textL L (allC Wn Hn)).toArray⟩, ?_, ⟨rfl, hB4.trans (belowK_b (w := w) (Nat.le_refl _) _ D _ _ (by omega) hK3 rfl rfl)⟩⟩
    simp [results, Try.f63, go_sem]
  case stop =>
    rintro D c pre W hD hO h hK
    exact h.elim
set_option maxRecDepth 100000 in
set_option maxHeartbeats 2000000 in
theorem implText_any (L : Lawn) (hL : L.Fits) (w : World) :
    Calls Try.prog 63 #[.agg L.cells] w fun e w' => e = .returned (.string (textS L)) ∧ Below w.heap.size w w' := by
  cases hv : validB L
  case true =>
    obtain ⟨h1, h2, -⟩ := validB_true hv
    have := text_loop L.wide.toNat L.high.toNat (by omega) (by omega) (by omega) L (by omega) (by omega) hL hv w
    rw [textL_all L _ _ (by omega)] at this
    simpa [textS, hv] using this
  case false =>
    have HI := Lib.hid (show ∀ w : World, Calls Try.prog 84 #[.agg L.cells] w fun e w' => e = .returned (.bool false) ∧ Below w.heap.size w w' from fun w => hv ▸ implValid_any L hL w)
    have e : textS L = ⟨#[]⟩ := by simp [textS, hv]
    rw [e]
    clear hv hL e
    go_enter Try.func63, Try.ntmps63
    have hb0 := (Below.refl w.heap.size w).alloc (Nat.le_refl _) (.cells L.cells 28)
    go_wp2_with fail
    refine (HI.out _).mono ?_
    rintro e w1 ⟨rfl, hb1⟩
    have hb2 := below_onto hb0 hb1
    clear hb0 hb1
    go_wp2_with fail
    go_ret
    exact ⟨rfl, hb2⟩

/-- A string made of one byte. -/
theorem conv_one (w : World) (c : UInt8) : (convert 22 9 (.slice (some ⟨w.heap.size, 0, none⟩) 1 1)).run Try.prog (w.alloc (.cells #[.int .u8 c.toNat] 5)) = .ok (.string ⟨#[c]⟩) (w.alloc (.cells #[.int .u8 c.toNat] 5)) := by
  refine run_convert_bytes_back _ 22 9 5 ⟨w.heap.size, 0, none⟩ 1 [c] Try.underlying22 Try.underlying5 Try.underlying9 (fun j hj => ?_)
  have : j = 0 := by simp at hj; omega
  subst this
  simp [Addr.add]

set_option maxRecDepth 100000 in
set_option maxHeartbeats 400000 in
theorem l01Text_any (L : Lawn) (hV : validB L = true) (b : Nat) (w : World) (h : Holds w b L.cells) :
    Calls Try.prog 135 #[.pointer (some ⟨b, 0, none⟩)] w fun e w' => e = .returned (.string ⟨(rowsT L L.wide.toNat L.high.toNat).toArray⟩) ∧ Below w.heap.size w w' := by
  have HR := Lib.hid (show ∀ y x : Nat, y < 10 → x < 10 → L.kind y x = 0 ∨ L.kind y x = 1 ∨ L.kind y x = 2 ∨ L.kind y x = 3 from fun y x hy hx => by
    have := (validB_true hV).2.2 y x hy hx
    simp only [okAt, Bool.and_eq_true] at this
    have := inB_true this.1
    omega)
  obtain ⟨h1, h2, -⟩ := validB_true hV
  obtain ⟨W, hW⟩ : ∃ W : Nat, L.wide = (W : Int) := ⟨L.wide.toNat, by omega⟩
  obtain ⟨H, hH⟩ : ∃ H : Nat, L.high = (H : Int) := ⟨L.high.toNat, by omega⟩
  have hWn : L.wide.toNat = W := by omega
  have hHn : L.high.toNat = H := by omega
  have hW10 : W ≤ 10 := by omega
  have hH10 : H ≤ 10 := by omega
  rw [hWn, hHn]
  clear hWn hHn h1 h2 hV
  go_enter Try.func135, Try.ntmps135
  have HF := Lib.hid (show ∀ w' : World, Holds w' b L.cells → w'.cell? ⟨b, 0, none⟩ = some (.int .i8 (W : Int)) ∧ w'.cell? ⟨b, 1, none⟩ = some (.int .i8 (H : Int)) from fun w' g => ⟨by rw [g.cell, Lawn.cells_0, hW], by rw [g.cell, Lawn.cells_1, hH]⟩)
  clear hW hH
  go_wp2_with fail
  go_loopw [3, 4] (fun s i wr => ∃ y : Nat, y ≤ H ∧ i = .int .i8 y ∧ s = .string ⟨(rowsT L W y).toArray⟩ ∧ Holds wr b L.cells ∧ Below w.heap.size w wr) (fun _ i _ => H - (intOf i).toNat)
  case atStart => exact ⟨0, Nat.zero_le _, rfl, rfl, h, Below.refl _ _⟩
  case round =>
    obtain ⟨y, hy, rfl, rfl, g1, hb⟩ := hrel
    obtain ⟨-, c1⟩ := HF.out _ g1
    have hlen := rowsT_length L W hW10 y
    by_cases hlt : y < H
    · have hd : decide ((y : Int) < (H : Int)) = true := by simp; omega
      go_wp2_with fail
      obtain ⟨pl, hpl⟩ : ∃ pl, rowsT L W y = pl := ⟨_, rfl⟩
      have HPL := Lib.hid hpl
      have hpll : pl.length ≤ 110 := by rw [← hpl]; omega
      clear c1 hpl hlen
      go_loopw [3, 5] (fun s i wr' => ∃ x : Nat, x ≤ W ∧ i = .int .i8 x ∧ s = .string ⟨(pl ++ (List.range x).map fun x => letK (L.kind y x)).toArray⟩ ∧ Holds wr' b L.cells ∧ Below w.heap.size w wr') (fun _ i _ => W - (intOf i).toNat)
      case atStart => exact ⟨0, Nat.zero_le _, rfl, by rw [← HPL.out]; simp, g1, hb⟩
      case round =>
        obtain ⟨x, hx, rfl, rfl, g2, hb2⟩ := hrel
        obtain ⟨c2, -⟩ := HF.out _ g2
        by_cases hltx : x < W
        · have hdx : decide ((x : Int) < (W : Int)) = true := by simp; omega
          have hcell : wr.cell? ⟨b, 2 + y * 10 + x, none⟩ = some (.int .u8 (L.kind y x)) := by rw [g2.cell]; exact Lawn.cells_get L y x (by omega) (by omega)
          obtain ⟨kd, hkd⟩ : ∃ kd, L.kind y x = kd := ⟨_, rfl⟩
          have hkr := HR.out y x (by omega) (by omega)
          have HX := Lib.hid (show (List.range (x + 1)).map (fun x => letK (L.kind y x)) = (List.range x).map (fun x => letK (L.kind y x)) ++ [letK kd] by simp [List.range_succ, hkd])
          rw [hkd] at hcell hkr
          clear hkd
          have hl2 : (pl ++ (List.range x).map fun x => letK (L.kind y x)).length ≤ 200 := by simp only [List.length_append, List.length_map, List.length_range]; omega
          obtain ⟨s0, hs0⟩ : ∃ s0, pl ++ (List.range x).map (fun x => letK (L.kind y x)) = s0 := ⟨_, rfl⟩
          rw [hs0] at hl2
          have HS0 := Lib.hid hs0
          simp only [hs0]
          clear hs0
          rcases hkr with rfl | rfl | rfl | rfl
          all_goals
            have hcv : ∀ c : UInt8, (convert 22 9 (.slice (some ⟨wr.heap.size, 0, none⟩) 1 1)).run Try.prog (wr.alloc (.cells #[.int .u8 c.toNat] 5)) = .ok (.string ⟨#[c]⟩) (wr.alloc (.cells #[.int .u8 c.toNat] 5)) := fun c =>
              conv_one wr c
            go_wp2_with fail
            go_roundw
            case rel => exact ⟨x + 1, by omega, by go_num, by rw [HX.out, ← List.append_assoc, HS0.out]; exact congrArg Value.string (str_snoc s0 _), g2.alloc _, hb2.alloc hb2.size _⟩
            case measure => simp [intOf]; omega
        · have hdx : decide ((x : Int) < (W : Int)) = false := by simp; omega
          obtain rfl : x = W := by omega
          have hl2 : (pl ++ (List.range x).map fun x => letK (L.kind y x)).length ≤ 200 := by simp only [List.length_append, List.length_map, List.length_range]; omega
          go_wp2_with fail
          go_roundw
          case rel => exact ⟨y + 1, by omega, by go_num, by rw [str_snoc, rowsT_succ, HPL.out, List.append_assoc], g2, hb2⟩
          case measure => simp [intOf]; omega
    · have hd : decide ((y : Int) < (H : Int)) = false := by simp; omega
      obtain rfl : y = H := by omega
      go_wp2_with fail
      go_ret
      exact ⟨rfl, hb⟩

set_option maxRecDepth 100000 in
set_option maxHeartbeats 1000000 in
theorem specText_any (L : Lawn) (hL : L.Fits) (w : World) :
    Calls Try.prog 62 #[.agg L.cells] w fun e w' => e = .returned (.string (textS L)) ∧ Below w.heap.size w w' := by
  have HO := Lib.hid (fun (w' : World) (h : Holds w' w.heap.size L.cells) => l01Ok_any L hL w.heap.size w' h)
  have g0 := Holds.new w L.cells 28
  have hb0 := (Below.refl w.heap.size w).alloc (Nat.le_refl _) (.cells L.cells 28)
  have HT := Lib.hid (show textS L = if validB L then ⟨(rowsT L L.wide.toNat L.high.toNat).toArray⟩ else ⟨#[]⟩ from rfl)
  cases hv : validB L
  case false =>
    rw [hv] at HO HT
    clear hv hL
    go_enter Try.func62, Try.ntmps62
    go_wp2_with fail
    refine (HO.out _ g0).mono ?_
    rintro e w1 ⟨rfl, hb1⟩
    have hb2 := below_onto hb0 hb1
    clear g0 hb0 hb1
    go_wp2_with fail
    go_ret
    refine ⟨?_, hb2⟩
    rw [HT.out]
    rfl
  case true =>
    have HX := Lib.hid (fun w' h => l01Text_any L hv w.heap.size w' h)
    rw [hv] at HO HT
    clear hv hL
    go_enter Try.func62, Try.ntmps62
    go_wp2_with fail
    refine (HO.out _ g0).mono ?_
    rintro e w1 ⟨rfl, hb1⟩
    have g1 := g0.below hb1 g0.lt
    have hb2 := below_onto hb0 hb1
    clear g0 hb0 hb1
    go_wp2_with fail
    refine (HX.out _ g1).mono ?_
    rintro e w2 ⟨rfl, hb3⟩
    have hb4 := below_onto hb2 hb3
    clear g1 hb2 hb3
    go_wp2_with fail
    go_ret
    refine ⟨?_, hb4⟩
    rw [HT.out]
    rfl
end Go.Proofs.Ytlfmadnhjleofaa
