/- Worlds that differ in told blocks alone, and the range over a lawn's cells with the book-keeping done once. -/
import Derived.Test.YtgmahakpmjfhhaaRRValid
namespace Go.Proofs.YtgmahakpmjfhhaaRR
open Go.RowKit Go.Shelf

/-- Of what lay in w, only the blocks of T may lie otherwise in w'. -/
structure Only (T : List Nat) (w w' : World) : Prop where
  os : w'.os = w.os
  tape : w'.tape = w.tape
  output : w'.output = w.output
  size : w.heap.size ≤ w'.heap.size
  block : ∀ k, k < w.heap.size → k ∉ T → w'.heap[k]? = w.heap[k]?

theorem Only.refl (T : List Nat) (w : World) : Only T w w := ⟨rfl, rfl, rfl, Nat.le_refl _, fun _ _ _ => rfl⟩
theorem Only.trans {T : List Nat} {a b c : World} (h : Only T a b) (k : Only T b c) : Only T a c :=
  ⟨k.os.trans h.os, k.tape.trans h.tape, k.output.trans h.output, Nat.le_trans h.size k.size, fun i hi ht => (k.block i (Nat.lt_of_lt_of_le hi h.size) ht).trans (h.block i hi ht)⟩
theorem Only.mono {T T' : List Nat} {w w' : World} (h : Only T w w') (hT : ∀ k ∈ T, k ∈ T') : Only T' w w' := ⟨h.os, h.tape, h.output, h.size, fun k hk ht => h.block k hk (fun hm => ht (hT k hm))⟩
theorem Only.alloc {T : List Nat} {w0 w : World} (h : Only T w0 w) (o : Obj) : Only T w0 (w.alloc o) :=
  ⟨h.os, h.tape, h.output, by have := h.size; simp; omega, fun k hk ht => (Below.heap_alloc w o k (Nat.lt_of_lt_of_le hk h.size)).trans (h.block k hk ht)⟩
theorem Only.drew {T : List Nat} {w0 w : World} (h : Only T w0 w) : Only T w0 w.drew := ⟨h.os, h.tape, h.output, h.size, h.block⟩
theorem Only.setCell {T : List Nat} {w0 w : World} (h : Only T w0 w) {a : Addr} (ha : a.block ∈ T ∨ w0.heap.size ≤ a.block) (v : Value) : Only T w0 (w.setCell a v) :=
  ⟨h.os, h.tape, h.output, by have := h.size; simpa using this, fun k hk ht => (Below.heap_setCell w a v k (fun e => by subst e; rcases ha with ha | ha; exact ht ha; omega)).trans (h.block k hk ht)⟩
theorem Only.setRow {T : List Nat} {w0 w : World} (h : Only T w0 w) {g : Nat} (ha : g ∈ T ∨ w0.heap.size ≤ g) (cs : Array Value) : Only T w0 (w.setRow g cs) :=
  ⟨h.os, h.tape, h.output, by have := h.size; simpa [World.setRow] using this, fun k hk ht => (setRow_other w g k cs (fun e => by subst e; rcases ha with ha | ha; exact ht ha; omega)).trans (h.block k hk ht)⟩
theorem Only.below {T : List Nat} {w0 w w' : World} {B : Nat} (h : Only T w0 w) (hb : Below B w w') (hB : w0.heap.size ≤ B) : Only T w0 w' :=
  ⟨hb.os.trans h.os, hb.tape.trans h.tape, hb.output.trans h.output, Nat.le_trans h.size hb.size, fun k hk ht => (hb.block k (Nat.lt_of_lt_of_le hk hB)).trans (h.block k hk ht)⟩
theorem Only.onto {T : List Nat} {w0 w w' : World} (h : Only T w0 w) (hb : Below w.heap.size w w') : Only T w0 w' := h.below hb h.size
theorem Only.grown {T : List Nat} {w0 w w' : World} {row : Option Nat} (h : Only T w0 w) (hg : w.grownBy w' row) (hr : ∀ k, row = some k → k ∈ T ∨ w0.heap.size ≤ k) : Only T w0 w' :=
  ⟨hg.os.trans h.os, hg.tape.trans h.tape, hg.output.trans h.output, Nat.le_trans h.size hg.size, fun k hk ht => by
    refine (hg.block k (Nat.lt_of_lt_of_le hk h.size) (fun e => ?_)).trans (h.block k hk ht)
    rcases hr k e.symm with h1 | h1
    · exact ht h1
    · omega⟩
theorem Only.putObj {T : List Nat} {w0 w : World} (h : Only T w0 w) {l : Nat} (hl : w0.heap.size ≤ l) (o : Obj) : Only T w0 (w.putObj l o) := h.grown (grownBy_putObj' w l o) (fun k e => by cases e; exact .inr hl)
theorem Only.holds {T : List Nat} {w w' : World} {b : Nat} {cs : Array Value} (h : Only T w w') (hh : Holds w b cs) (hb : b ∉ T) : Holds w' b cs := by
  have hl := hh.lt
  obtain ⟨t, ht⟩ := hh
  exact ⟨t, (h.block b hl hb).trans ht⟩
theorem Only.own {T : List Nat} {w w' : World} {B : Nat} {e : TypeId} {size n : Nat} {v : Value} {xs : List Value} (h : Only T w w') (ho : w.ownsRow B e size v n xs) (hb : ∀ k, v.ownBlock = some k → k ∉ T) : w'.ownsRow B e size v n xs := by
  refine ⟨ho.1, ?_⟩
  rcases ho.2 with h2 | ⟨g, cap, cur, hv, hbg, hg, r⟩
  · exact .inl h2
  · exact .inr ⟨g, cap, cur, hv, hbg, (h.block g (Array.getElem?_eq_some_iff.1 hg).1 (hb g (by rw [hv]; rfl))).trans hg, r⟩
theorem Only.toBelow {T : List Nat} {w w' : World} {B : Nat} (h : Only T w w') (hT : ∀ k ∈ T, B ≤ k) (hB : B ≤ w.heap.size) : Below B w w' :=
  ⟨h.os, h.tape, h.output, h.size, fun k hk => h.block k (Nat.lt_of_lt_of_le hk hB) (fun hm => by have := hT k hm; omega)⟩
theorem Only.ofBelow {T : List Nat} {w w' : World} (h : Below w.heap.size w w') : Only T w w' := ⟨h.os, h.tape, h.output, h.size, fun k hk _ => h.block k hk⟩
theorem ownFrom_only {β : Type} {T : List Nat} {B : Nat} {w0 : World} (hB : w0.heap.size ≤ B) : OwnFrom B (fun (_ : β) W => Only T w0 W) :=
  fun _ _ _ _ hs hg hr => hs.grown hg (fun k e => .inr (Nat.le_trans hB (hr k e).1))
theorem keeps_below {W W' : World} (h : Below W.heap.size W W') : KeepsOthers W W' := ⟨h.size, fun k _ hk _ => (h.block k (Array.getElem?_eq_some_iff.1 hk).1).trans hk⟩
theorem ownsRow_low {W : World} {A B : Nat} {e : TypeId} {size n : Nat} {v : Value} {xs : List Value} (h : W.ownsRow B e size v n xs) (hb : A ≤ B) : W.ownsRow A e size v n xs := by
  refine ⟨h.1, ?_⟩
  rcases h.2 with h2 | ⟨g, cap, cur, hv, hbg, r⟩
  · exact .inl h2
  · exact .inr ⟨g, cap, cur, hv, Nat.le_trans hb hbg, r⟩
theorem own_far {W : World} {B : Nat} {e : TypeId} {size n : Nat} {v : Value} {xs : List Value} (ho : W.ownsRow B e size v n xs) (k : Nat) (hk : v.ownBlock = some k) : B ≤ k := by
  rcases ho.2 with ⟨rfl, -⟩ | ⟨g, cap, cur, rfl, hb, -⟩
  · simp [Value.ownBlock] at hk
  · simp only [Value.ownBlock, Option.some.injEq] at hk
    exact hk ▸ hb
theorem own_others {W W' : World} {B : Nat} {e : TypeId} {size n : Nat} {v : Value} {xs : List Value} (ho : W.ownsRow B e size v n xs) (hg : W.grownBy W' v.ownBlock) : KeepsOthers W W' := by
  refine ⟨hg.size, fun k _ hk hc => (hg.block k (Array.getElem?_eq_some_iff.1 hk).1 fun he => ?_).trans hk⟩
  rcases ho.2 with ⟨rfl, -⟩ | ⟨g, cap, cur, rfl, hb, hgg, -⟩
  · simp [Value.ownBlock] at he
  · simp only [Value.ownBlock, Option.some.injEq] at he
    subst he
    rw [hgg] at hk
    cases hk
    cases hc
/-- A slice that is owned is one. -/
theorem own_slice {W : World} {B : Nat} {e : TypeId} {size n : Nat} {v : Value} {xs : List Value} (h : W.ownsRow B e size v n xs) : ∃ a c, v = .slice a n c := by
  rcases h.2 with ⟨rfl, rfl⟩ | ⟨g, cap, cur, rfl, -⟩
  · exact ⟨_, _, rfl⟩
  · exact ⟨_, _, rfl⟩
theorem own_of_own {β : Type} {B : Nat} {e : TypeId} {size : Nat} {v : β → Value} {n : β → Nat} {xs : β → List Value} : Own (fun (b : β) w => w.ownsRow B e size (v b) (n b) (xs b)) := by
  intro b W W' row h2 hg hr
  refine h2.kept hg ?_
  rcases h2.2 with ⟨h, -⟩ | ⟨g, cap, cur, h, hb, hgg, -⟩
  · exact .inl (by rw [h]; rfl)
  · refine .inr fun he => ?_
    rw [h] at he
    obtain ⟨o, ho, hc⟩ := hr g he.symm
    rw [hgg] at ho
    cases ho
    cases hc
theorem own_below {W W' : World} {B : Nat} {e : TypeId} {size n : Nat} {v : Value} {xs : List Value} (h : W.ownsRow B e size v n xs) (hb : Below W.heap.size W W') : W'.ownsRow B e size v n xs :=
  h.kept (row := none) ⟨hb.os, hb.tape, hb.output, hb.size, fun k hk _ => hb.block k hk⟩ (by cases hx : Value.ownBlock _ <;> simp)

/-- The number of deferred calls' block that a loop leaves. -/
abbrev withD (a : Act) (D : Nat) : Act := { a with defers := { target := .collected D, args := #[] } :: a.defers }

theorem eachDone {T : List Nat} {w W W' : World} {b : Nat} {p : Prop} (hb : b < w.heap.size) (hbT : b ∉ T) (hW : Only T w W) (hk : KeepsOthers W W') (hW' : Only T w W') (hp : p) :
    KeepsFrom w.heap.size W W' ∧ KeepB b W W' ∧ Only T w W' ∧ p := ⟨hk.from _, (hW'.block b hb hbT).trans (hW.block b hb hbT).symm, hW', hp⟩
theorem eachLeft {T : List Nat} {w W W' : World} {p : Prop} (hk : KeepsOthers W W') (hW' : Only T w W') (hp : p) :
    KeepsFrom w.heap.size W W' ∧ Only T w W' ∧ p := ⟨hk.from _, hW', hp⟩

/-- **The range over a lawn's cells.** -/
theorem each_range {n : Nat} (hn : 2 ≤ n) {g : Operand} {p q : Nat} {assign body : Code} {Q : Exit → Act → World → Prop} {a : Act} {w : World} {b : Nat} (T : List Nat) (Wn Hn : Nat) (hW : Wn ≤ 10) (hH : Hn ≤ 10) (kd : Nat → Nat → Int)
    (hg : a.eval g = .func (.func 167) #[] #[.pointer (some ⟨b, 0, none⟩)]) (hB : Holds w b (Lawn.cells ⟨(Wn : Int), (Hn : Int), kd⟩))
    (I : List (Fin Wn × Fin Hn) → World → Prop) (Ix : Code → List (Fin Wn × Fin Hn) → World → Prop) (hI : OwnFrom w.heap.size I) (hIx : ∀ c, OwnFrom w.heap.size (Ix c)) (h0 : I [] w)
    (hassign : ∀ (l : Nat) (x y : Int) (W : World) (K : Act → World → Prop), K { tmps := (a.tmps.setIfInBounds p (cellV x y)).setIfInBounds q (.pointer (some ⟨W.heap.size, 0, none⟩)), defers := [] } (W.alloc (.cells #[.int .i8 x, .int .i8 y] 35)) →
      assign.wpIn (Fence.wide.inRound l) (n - 1 - 1) Try.prog (Exit.then K (fun _ _ _ => False)) { tmps := a.tmps.setIfInBounds p (cellV x y), defers := [] } W)
    (hbody : ∀ (l : Nat) (pre : List (Fin Wn × Fin Hn)) (x : Fin Wn × Fin Hn) (Bx : Nat) (W : World), w.heap.size ≤ l → (∃ r, W.heap[l]? = some (.loop r)) → Only T w W → I pre W → w.heap.size ≤ Bx → Holds W Bx #[.int .i8 ((x.1 : Nat) : Int), .int .i8 ((x.2 : Nat) : Int)] → pre.length < (allC Wn Hn).length →
      body.wpIn (Fence.wide.inRound l) (n - 1 - 1) Try.prog (ownPostG w.heap.size (KeepB b) (fun pre W => Only T w W ∧ I pre W) (fun c pre W => Only T w W ∧ Ix c pre W) (pre ++ [x]) W)
        { tmps := (a.tmps.setIfInBounds p (cellV ((x.1 : Nat) : Int) ((x.2 : Nat) : Int))).setIfInBounds q (.pointer (some ⟨Bx, 0, none⟩)), defers := [] } W)
    (hdone : ∀ (D : Nat) (W : World), w.heap.size ≤ D → Only T w W → I (allC Wn Hn) W → W.heap[D]? = some (.deferred (some [])) → Q .normal (withD a D) W)
    (hstop : ∀ (D : Nat) (c : Code) (pre : List (Fin Wn × Fin Hn)) (W : World), w.heap.size ≤ D → Only T w W → Ix c pre W → W.heap[D]? = some (.deferred (some [])) → c.wpIn Fence.wide n Try.prog Q (withD a D) W) :
    (Code.rangeFunc g #[p] assign body).wpIn Fence.wide n Try.prog Q a w := by
  refine wpIn_rangeFunc_ownH (α := Fin Wn × Fin Hn) rfl (by omega) (gf := 167) (lb := #[.pointer (some ⟨b, 0, none⟩)]) hg trivial (enters_of Try.func167 (by kernel_rfl) rfl)
    (each_stops Fence.wide _ trivial rfl (by omega) b Wn Hn hW hH kd w hB.lt hB) keepB_t (keepB_b hB.lt) (Below.refl _ _) (fun _ => rfl)
    (fun pre W => Only T w W ∧ I pre W) (fun c pre W => Only T w W ∧ Ix c pre W)
    (OwnFrom.and (ownFrom_only (Nat.le_refl _)) hI) (fun c => OwnFrom.and (ownFrom_only (Nat.le_refl _)) (hIx c)) ⟨Only.refl _ _, h0⟩
    (fun x a' W => ∃ Bx, w.heap.size ≤ Bx ∧ Holds W Bx #[.int .i8 ((x.1 : Nat) : Int), .int .i8 ((x.2 : Nat) : Int)] ∧ a' = { tmps := (a.tmps.setIfInBounds p (cellV ((x.1 : Nat) : Int) ((x.2 : Nat) : Int))).setIfInBounds q (.pointer (some ⟨Bx, 0, none⟩)), defers := [] })
    (fun x a' => fun _ W W' row ⟨Bx, h1, h2, h3⟩ hg hr => ⟨Bx, h1, h2.grown hg (fun r e => (hr r e).2), h3⟩)
    ?assign ?body ?done ?stop
  case assign =>
    rintro l pre x W K' ⟨iO, iI⟩ hK
    have hlt : b < W.heap.size := Nat.lt_of_lt_of_le hB.lt iO.size
    have e : (#[p].zip (cellA x)).foldl (fun t (p, v) => t.setIfInBounds p v) a.tmps = a.tmps.setIfInBounds p (cellV ((x.1 : Nat) : Int) ((x.2 : Nat) : Int)) := by simp [cellA]
    rw [e]
    exact hassign l _ _ W K' (hK _ _ ((KeepsOthers.alloc _ _).from _) (KeepB.of_below ((Below.refl _ W).alloc (Nat.le_refl _) _) hlt) ⟨iO.alloc _, hI.alloc _ iI⟩ ⟨_, iO.size, Holds.new _ _ _, rfl⟩)
  case body =>
    rintro l pre x a' W hl hr ⟨iO, iI⟩ ⟨Bx, hBx, bX, rfl⟩ hlt
    exact hbody l pre x Bx W hl hr iO iI hBx bX hlt
  case done =>
    rintro D xs W hD rfl ⟨iO, iI⟩ hK
    exact hdone D W hD iO iI hK
  case stop =>
    rintro D c pre W hD _ ⟨iO, iX⟩ hK
    exact hstop D c pre W hD iO iX hK
end Go.Proofs.YtgmahakpmjfhhaaRR
