/- LawnText: the text of a lawn. -/
import Derived.Test.YtojccgaldadcnaaBld
namespace Go.Proofs.Ytojccgaldadcnaa
open Go.RowKit Go.Shelf
set_option linter.unusedVariables false
attribute [local go_sem] Oper.semAt_some
attribute [local go_sem ↓] loadRow loadGrid loadLawn loadMirror storeRow storeGrid storeLawn allocRow allocGrid allocLawn buildZero buildSides loadRow' loadGrid' loadLawn' loadMirror' storeRow' storeGrid' storeLawn' allocRow' allocGrid' allocLawn' buildZero' buildSides'

/-- The letter of a kind. -/
def letK (k : Int) : UInt8 := if k = 0 then 46 else if k = 1 then 35 else if k = 2 then 84 else 61
/-- The text of the first cells. -/
def textL (L : Lawn) {W H : Nat} (pre : List (Fin W × Fin H)) : List UInt8 := pre.flatMap fun c => letK (L.kind c.2 c.1) :: (if c.1.val + 1 = W then [10] else [])
theorem textL_snoc (L : Lawn) {W H : Nat} (pre : List (Fin W × Fin H)) (c : Fin W × Fin H) : textL L (pre ++ [c]) = textL L pre ++ letK (L.kind c.2 c.1) :: (if c.1.val + 1 = W then [10] else []) := by simp [textL]
theorem textL_length (L : Lawn) {W H : Nat} : ∀ pre : List (Fin W × Fin H), (textL L pre).length ≤ pre.length * 2
  | [] => by simp [textL]
  | c :: pre => by
    have := textL_length L pre
    simp only [textL, List.flatMap_cons, List.length_append, List.length_cons] at *
    split
    · simp only [List.length_singleton]; omega
    · simp only [List.length_nil]; omega
theorem bytes_one (l : List UInt8) (c : UInt8) : Lib.byteCells (l ++ c :: []) = Lib.byteCells l ++ [.int .u8 c.toNat] := by simp [Lib.byteCells]
theorem bytes_two (l : List UInt8) (c d : UInt8) : Lib.byteCells (l ++ c :: [d]) = Lib.byteCells l ++ [.int .u8 c.toNat] ++ [.int .u8 d.toNat] := by simp [Lib.byteCells]
/-- The text of the first rows. -/
def rowsT (L : Lawn) (W k : Nat) : List UInt8 := (List.range k).flatMap fun y => (List.range W).map (fun x => letK (L.kind y x)) ++ [10]
theorem rowsT_succ (L : Lawn) (W k : Nat) : rowsT L W (k + 1) = rowsT L W k ++ ((List.range W).map (fun x => letK (L.kind k x)) ++ [10]) := by simp [rowsT, List.range_succ]
theorem rowsT_length (L : Lawn) (W : Nat) (hW : W ≤ 10) : ∀ k, (rowsT L W k).length ≤ k * 11
  | 0 => by simp [rowsT]
  | k + 1 => by
    have := rowsT_length L W hW k
    rw [rowsT_succ]
    simp only [List.length_append, List.length_map, List.length_range, List.length_singleton]
    omega
theorem textL_row (L : Lawn) (W H k : Nat) (hW : 1 ≤ W) (hk : k < H) (h : textL L ((allC W H).take (k * W)) = rowsT L W k) : ∀ j, j ≤ W → textL L ((allC W H).take (k * W + j)) = rowsT L W k ++ (List.range j).map (fun x => letK (L.kind k x)) ++ (if j = W then [10] else [])
  | 0, _ => by simp only [Nat.add_zero, h]; rw [if_neg (by omega)]; simp
  | j + 1, hj => by
    have ih := textL_row L W H k hW hk h j (by omega)
    rw [if_neg (by omega), List.append_nil] at ih
    rw [← Nat.add_assoc, allC_take W H k j (by omega) hk, textL_snoc, ih]
    simp [List.range_succ]
theorem textL_rows (L : Lawn) (W H : Nat) (hW : 1 ≤ W) : ∀ k, k ≤ H → textL L ((allC W H).take (k * W)) = rowsT L W k
  | 0, _ => by simp [textL, rowsT]
  | k + 1, hk => by
    have := textL_row L W H k hW (by omega) (textL_rows L W H hW k (by omega)) W (Nat.le_refl _)
    rw [if_pos rfl] at this
    rw [Nat.succ_mul, this, rowsT_succ]
    simp
theorem textL_all (L : Lawn) (W H : Nat) (hW : 1 ≤ W) : textL L (allC W H) = rowsT L W H := by
  rw [← textL_rows L W H hW H (Nat.le_refl _), List.take_of_length_le (by rw [allC_length]; exact Nat.le_refl _)]
def textS (L : Lawn) : ByteArray := if validB L then ⟨(rowsT L L.wide.toNat L.high.toNat).toArray⟩ else ⟨#[]⟩

theorem ownF_same {w w' : World} {B : Nat} {e : TypeId} {size n : Nat} {v : Value} {xs : List Value} (h : w.ownsRowF B e size v n xs) (hb : ∀ (g : Nat) (c : Array Value) (e : TypeId) (fz : Nat × Nat), w.heap[g]? = some (Obj.cells c e fz) → w'.heap[g]? = w.heap[g]?) : w'.ownsRowF B e size v n xs := by
  obtain ⟨h1, h2⟩ := h
  refine ⟨h1, ?_⟩
  rcases h2 with h2 | ⟨g, cap, cur, fz, h3, h4, h5, h6⟩
  · exact .inl h2
  · exact .inr ⟨g, cap, cur, fz, h3, h4, by rw [hb g _ _ _ h5]; exact h5, h6⟩
theorem bld_same {w w' : World} {B b : Nat} {bs : List Value} (h : Bld w B b bs) (hb : ∀ (g : Nat) (c : Array Value) (e : TypeId) (fz : Nat × Nat), w.heap[g]? = some (Obj.cells c e fz) → w'.heap[g]? = w.heap[g]?) : Bld w' B b bs := by
  rcases h with ⟨h1, v, h2, h3, h4⟩ | ⟨h1, v, h2, h3, h4⟩
  · exact .inl ⟨h1, v, by rw [hb b _ _ _ h2]; exact h2, ownF_same h3 hb, h4⟩
  · exact .inr ⟨h1, v, by rw [hb b _ _ _ h2]; exact h2, ownF_same h3 hb, h4⟩
/-- The iterator's own steps keep a builder. -/
theorem bld_own {β : Type} (A B b : Nat) (f : β → List Value) : OwnFrom A (fun (p : β) W => Bld W B b (f p)) := fun s W W' row hs hg hr =>
  bld_same hs fun g c e fz hgc => hg.block g (Array.getElem?_eq_some_iff.1 hgc).1 (fun er => by
    obtain ⟨-, o, ho, hc⟩ := hr g er.symm
    rw [hgc] at ho
    cases ho
    simp [Obj.isCells] at hc)
theorem bld_lt {w : World} {B b : Nat} {bs : List Value} (h : Bld w B b bs) : b < w.heap.size := by
  rcases h with ⟨-, v, h2, -⟩ | ⟨-, v, h2, -⟩ <;> exact (Array.getElem?_eq_some_iff.1 h2).1
theorem bld_cells {w : World} {B b : Nat} {bs : List Value} (h : Bld w B b bs) : ∃ c, w.heap[b]? = some (.cells c 74 (0, 0)) := by
  rcases h with ⟨-, v, h2, -⟩ | ⟨-, v, h2, -⟩ <;> exact ⟨_, h2⟩
/-- What a write into a builder leaves alone, seen from a world in which the blocks from the builder on are known. -/
theorem write_only {w W W' : World} {b : Nat} (hO : Only [b] w W) (hb : Below b W W') (hk : Lib.OthersKept 5 (some b) W W') (hw : b < w.heap.size) (h : ∀ k, b < k → k < w.heap.size → ∃ o, w.heap[k]? = some o ∧ ∀ c fz, o ≠ .cells c 5 fz) : Only [b] w W' := by
  refine ⟨hb.os.trans hO.os, hb.tape.trans hO.tape, hb.output.trans hO.output, Nat.le_trans hO.size hb.size, fun k hk1 hk2 => ?_⟩
  have e := hO.block k hk1 hk2
  rcases Nat.lt_trichotomy k b with hl | hl | hl
  · rw [hb.block k hl, e]
  · exact absurd (by simp [hl]) hk2
  · obtain ⟨o, ho, hne⟩ := h k hl hk1
    rw [hk k o (e.trans ho) (by simp; omega) hne, ho]
theorem write_keeps {W W' : World} {B b : Nat} {bs : List Value} (hB : Bld W B b bs) (hb : Below b W W') (hk : Lib.OthersKept 5 (some b) W W') : KeepsOthers W W' := by
  obtain ⟨c, hc⟩ := bld_cells hB
  refine ⟨hb.size, fun k o ho hn => ?_⟩
  refine hk k o ho (fun e => ?_) (fun c' fz e => by rw [e] at hn; simp [Obj.isCells] at hn)
  simp only [Option.some.injEq] at e
  subst e
  rw [hc] at ho
  cases ho
  simp [Obj.isCells] at hn

/-- The range over a lawn's cells, with the type of the loop's variable. -/
theorem each_rangeC {n : Nat} (hn : 2 ≤ n) {g : Operand} {p q : Nat} {assign body : Code} {Q : Exit → Act → World → Prop} {a : Act} {w : World} {b : Nat} (T : List Nat) (Wn Hn : Nat) (hW : Wn ≤ 10) (hH : Hn ≤ 10) (kd : Nat → Nat → Int)
    (hg : a.eval g = .func (.func 87) #[] #[.pointer (some ⟨b, 0, none⟩)]) (hB : Holds w b (Lawn.cells ⟨(Wn : Int), (Hn : Int), kd⟩))
    (I : List (Fin Wn × Fin Hn) → World → Prop) (Ix : Code → List (Fin Wn × Fin Hn) → World → Prop) (hI : OwnFrom w.heap.size I) (hIx : ∀ c, OwnFrom w.heap.size (Ix c)) (h0 : I [] w)
    (hassign : ∀ (l : Nat) (x y : Int) (W : World) (K : Act → World → Prop), K { tmps := (a.tmps.setIfInBounds p (cellV x y)).setIfInBounds q (.pointer (some ⟨W.heap.size, 0, none⟩)), defers := [] } (W.alloc (.cells #[.int .i8 x, .int .i8 y] 43)) →
      assign.wpIn (Fence.wide.inRound l) (n - 1 - 1) Try.prog (Exit.then K (fun _ _ _ => False)) { tmps := a.tmps.setIfInBounds p (cellV x y), defers := [] } W)
    (hbody : ∀ (l : Nat) (pre : List (Fin Wn × Fin Hn)) (x : Fin Wn × Fin Hn) (Bx : Nat) (W : World), w.heap.size ≤ l → (∃ r, W.heap[l]? = some (.loop r)) → Only T w W → I pre W → w.heap.size ≤ Bx → W.heap[Bx]? = some (.cells #[.int .i8 ((x.1 : Nat) : Int), .int .i8 ((x.2 : Nat) : Int)] 43 (0, 0)) → pre.length < (allC Wn Hn).length →
      body.wpIn (Fence.wide.inRound l) (n - 1 - 1) Try.prog (ownPostG w.heap.size (KeepB b) (fun pre W => Only T w W ∧ I pre W) (fun c pre W => Only T w W ∧ Ix c pre W) (pre ++ [x]) W)
        { tmps := (a.tmps.setIfInBounds p (cellV ((x.1 : Nat) : Int) ((x.2 : Nat) : Int))).setIfInBounds q (.pointer (some ⟨Bx, 0, none⟩)), defers := [] } W)
    (hdone : ∀ (D : Nat) (W : World), w.heap.size ≤ D → Only T w W → I (allC Wn Hn) W → W.heap[D]? = some (.deferred (some [])) → Q .normal (withD a D) W)
    (hstop : ∀ (D : Nat) (c : Code) (pre : List (Fin Wn × Fin Hn)) (W : World), w.heap.size ≤ D → Only T w W → Ix c pre W → W.heap[D]? = some (.deferred (some [])) → c.wpIn Fence.wide n Try.prog Q (withD a D) W) :
    (Code.rangeFunc g #[p] assign body).wpIn Fence.wide n Try.prog Q a w := by
  refine wpIn_rangeFunc_ownH (α := Fin Wn × Fin Hn) rfl (by omega) (gf := 87) (lb := #[.pointer (some ⟨b, 0, none⟩)]) hg trivial (enters_of Try.func87 (by kernel_rfl) rfl)
    (each_stops Fence.wide _ trivial rfl (by omega) b Wn Hn hW hH kd w hB.lt hB) keepB_t (keepB_b hB.lt) (Below.refl _ _) (fun _ => rfl)
    (fun pre W => Only T w W ∧ I pre W) (fun c pre W => Only T w W ∧ Ix c pre W)
    (OwnFrom.and (ownFrom_only (Nat.le_refl _)) hI) (fun c => OwnFrom.and (ownFrom_only (Nat.le_refl _)) (hIx c)) ⟨Only.refl _ _, h0⟩
    (fun x a' W => ∃ Bx, w.heap.size ≤ Bx ∧ W.heap[Bx]? = some (.cells #[.int .i8 ((x.1 : Nat) : Int), .int .i8 ((x.2 : Nat) : Int)] 43 (0, 0)) ∧ a' = { tmps := (a.tmps.setIfInBounds p (cellV ((x.1 : Nat) : Int) ((x.2 : Nat) : Int))).setIfInBounds q (.pointer (some ⟨Bx, 0, none⟩)), defers := [] })
    (fun x a' => fun _ W W' row ⟨Bx, h1, h2, h3⟩ hg hr => ⟨Bx, h1, (hg.block Bx (Array.getElem?_eq_some_iff.1 h2).1 (fun er => by
      obtain ⟨-, o, ho, hc⟩ := hr Bx er.symm
      rw [h2] at ho
      cases ho
      simp [Obj.isCells] at hc)).trans h2, h3⟩)
    ?assign ?body ?done ?stop
  case assign =>
    rintro l pre x W K' ⟨iO, iI⟩ hK
    have hlt : b < W.heap.size := Nat.lt_of_lt_of_le hB.lt iO.size
    have e : (#[p].zip (cellA x)).foldl (fun t (p, v) => t.setIfInBounds p v) a.tmps = a.tmps.setIfInBounds p (cellV ((x.1 : Nat) : Int) ((x.2 : Nat) : Int)) := by simp [cellA]
    rw [e]
    exact hassign l _ _ W K' (hK _ _ ((KeepsOthers.alloc _ _).from _) (KeepB.of_below ((Below.refl _ W).alloc (Nat.le_refl _) _) hlt) ⟨iO.alloc _, hI.alloc _ iI⟩ ⟨_, iO.size, heap_alloc_new _ _, rfl⟩)
  case body =>
    rintro l pre x a' W hl hr ⟨iO, iI⟩ ⟨Bx, hBx, bX, rfl⟩ hlt
    exact hbody l pre x Bx W hl hr iO iI hBx bX hlt
  case done =>
    rintro D xs W hD rfl ⟨iO, iI⟩ hK
    exact hdone D W hD iO iI hK
  case stop =>
    rintro D c pre W hD _ ⟨iO, iX⟩ hK
    exact hstop D c pre W hD iO iX hK


/-- A string made of one byte. -/
theorem conv_one (w : World) (c : UInt8) : (convert 72 9 (.slice (some ⟨w.heap.size, 0, none⟩) 1 1)).run Try.prog (w.alloc (.cells #[.int .u8 c.toNat] 5)) = .ok (.string ⟨#[c]⟩) (w.alloc (.cells #[.int .u8 c.toNat] 5)) := by
  refine run_convert_bytes_back _ 72 9 5 ⟨w.heap.size, 0, none⟩ 1 [c] Try.underlying72 Try.underlying5 Try.underlying9 (fun j hj => ?_)
  have : j = 0 := by simp at hj; omega
  subst this
  simp [Addr.add]


end Go.Proofs.Ytojccgaldadcnaa
