/- The first bed with grass at three sides, of the program. -/
import Derived.Test.YtmoldkdidhnahaaRoundP
import Derived.Test.YtmoldkdidhnahaaISide
namespace Go.Proofs.Ytmoldkdidhnahaa
open Go.RowKit Go.Shelf
set_option linter.unusedVariables false
set_option linter.unusedSimpArgs false
attribute [local go_sem] Oper.semAt_some
attribute [local go_sem ↓] loadRow loadGrid loadLawn loadMirror storeRow storeGrid storeLawn allocRow allocGrid allocLawn buildZero buildSides loadRow' loadGrid' loadLawn' loadMirror' storeRow' storeGrid' storeLawn' allocRow' allocGrid' allocLawn' buildZero' buildSides' loadSd storeSd allocSd buildSd

/-- The same range; where it is left, what has come is a first part of all cells. -/
theorem each_rangeP {n : Nat} (hn : 2 ≤ n) {g : Operand} {p q : Nat} {assign body : Code} {Q : Exit → Act → World → Prop} {a : Act} {w : World} {b : Nat} (T : List Nat) (Wn Hn : Nat) (hW : Wn ≤ 10) (hH : Hn ≤ 10) (kd : Nat → Nat → Int)
    (hg : a.eval g = .func (.func 123) #[] #[.pointer (some ⟨b, 0, none⟩)]) (hB : Holds w b (Lawn.cells ⟨(Wn : Int), (Hn : Int), kd⟩))
    (I : List (Fin Wn × Fin Hn) → World → Prop) (Ix : Code → List (Fin Wn × Fin Hn) → World → Prop) (hI : OwnFrom w.heap.size I) (hIx : ∀ c, OwnFrom w.heap.size (Ix c)) (h0 : I [] w)
    (hassign : ∀ (l : Nat) (x y : Int) (W : World) (K : Act → World → Prop), K { tmps := (a.tmps.setIfInBounds p (cellV x y)).setIfInBounds q (.pointer (some ⟨W.heap.size, 0, none⟩)), defers := [] } (W.alloc (.cells #[.int .i8 x, .int .i8 y] 37)) →
      assign.wpIn (Fence.wide.inRound l) (n - 1 - 1) Try.prog (Exit.then K (fun _ _ _ => False)) { tmps := a.tmps.setIfInBounds p (cellV x y), defers := [] } W)
    (hbody : ∀ (l : Nat) (pre : List (Fin Wn × Fin Hn)) (x : Fin Wn × Fin Hn) (Bx : Nat) (W : World), w.heap.size ≤ l → (∃ r, W.heap[l]? = some (.loop r)) → Only T w W → I pre W → w.heap.size ≤ Bx → Holds W Bx #[.int .i8 ((x.1 : Nat) : Int), .int .i8 ((x.2 : Nat) : Int)] → pre.length < (allC Wn Hn).length →
      body.wpIn (Fence.wide.inRound l) (n - 1 - 1) Try.prog (ownPostG w.heap.size (KeepB b) (fun pre W => Only T w W ∧ I pre W) (fun c pre W => Only T w W ∧ Ix c pre W) (pre ++ [x]) W)
        { tmps := (a.tmps.setIfInBounds p (cellV ((x.1 : Nat) : Int) ((x.2 : Nat) : Int))).setIfInBounds q (.pointer (some ⟨Bx, 0, none⟩)), defers := [] } W)
    (hdone : ∀ (D : Nat) (W : World), w.heap.size ≤ D → Only T w W → I (allC Wn Hn) W → W.heap[D]? = some (.deferred (some [])) → Q .normal (withD a D) W)
    (hstop : ∀ (D : Nat) (c : Code) (pre : List (Fin Wn × Fin Hn)) (W : World), w.heap.size ≤ D → pre <+: allC Wn Hn → Only T w W → Ix c pre W → W.heap[D]? = some (.deferred (some [])) → c.wpIn Fence.wide n Try.prog Q (withD a D) W) :
    (Code.rangeFunc g #[p] assign body).wpIn Fence.wide n Try.prog Q a w := by
  refine wpIn_rangeFunc_ownH (α := Fin Wn × Fin Hn) rfl (by omega) (gf := 123) (lb := #[.pointer (some ⟨b, 0, none⟩)]) hg trivial (enters_of Try.func123 (by kernel_rfl) rfl)
    (each_stops Fence.wide _ trivial rfl (by omega) b Wn Hn hW hH kd w hB.lt hB) keepB_t (keepB_b hB.lt) (Below.refl _ _) (fun _ => rfl)
    (fun pre W => Only T w W ∧ I pre W) (fun c pre W => Only T w W ∧ Ix c pre W)
    (OwnFrom.and (ownFrom_only (Nat.le_refl _)) hI) (fun c => OwnFrom.and (ownFrom_only (Nat.le_refl _)) (hIx c)) ⟨Only.refl _ _, h0⟩
    (fun x a' W => ∃ Bx, w.heap.size ≤ Bx ∧ Holds W Bx #[.int .i8 ((x.1 : Nat) : Int), .int .i8 ((x.2 : Nat) : Int)] ∧ a' = { tmps := (a.tmps.setIfInBounds p (cellV ((x.1 : Nat) : Int) ((x.2 : Nat) : Int))).setIfInBounds q (.pointer (some ⟨Bx, 0, none⟩)), defers := [] })
    (fun x a' => fun _ W W' row ⟨Bx, h1, h2, h3⟩ hg hr => ⟨Bx, h1, h2.grown hg (fun r e => (hr r e).2), h3⟩)
    ?assign ?body ?done ?stop
  case assign =>
    rintro l pre x W K' ⟨iO, iI⟩ hK
    have hlt : b < W.heap.size := Nat.lt_of_lt_of_le hB.lt iO.size
    have e : (#[p].zip (cellA x)).foldl (fun t (p, v) => t.setIfInBounds p v) a.tmps = a.tmps.setIfInBounds p (cellV ((x.1 : Nat) : Int) ((x.2 : Nat) : Int)) := by simp [cellA]
    rw [e]
    exact hassign l _ _ W K' (hK _ _ ((KeepsOthers.alloc _ _).from _) (KeepB.of_below ((Below.refl _ W).alloc (Nat.le_refl _) _) hlt) ⟨iO.alloc _, hI.alloc _ iI⟩ ⟨_, iO.size, Holds.new _ _ _, rfl⟩)
  case body =>
    rintro l pre x a' W hl hr ⟨iO, iI⟩ ⟨Bx, hBx, bX, rfl⟩ hlt
    exact hbody l pre x Bx W hl hr iO iI hBx bX hlt
  case done =>
    rintro D xs W hD rfl ⟨iO, iI⟩ hK
    exact hdone D W hD iO iI hK
  case stop =>
    rintro D c pre W hD hp ⟨iO, iX⟩ hK
    exact hstop D c pre W hD hp iO iX hK

theorem find_prefix {α : Type} {p : α → Bool} {l m : List α} {x : α} (h : l.find? p = some x) (hp : l <+: m) : m.find? p = some x := by
  obtain ⟨t, rfl⟩ := hp
  rw [List.find?_append, h]; rfl
def cellF {W H : Nat} (o : Option (Fin W × Fin H)) : Array Value := match o with
  | none => #[.int .i8 0, .int .i8 0]
  | some c => #[.int .i8 c.1.val, .int .i8 c.2.val]

theorem firstBed_results (tmps : Array Value) {w : World} {g k : Nat} {x y : Int} {b : Bool}
    (hp : tmps.getD 2 undef = .pointer (some ⟨g, 0, none⟩)) (hq : tmps.getD 3 undef = .pointer (some ⟨k, 0, none⟩)) (hg : Holds w g #[.int .i8 x, .int .i8 y]) (hk : Holds w k #[.bool b]) :
    (results Try.f52 tmps).run Try.prog w = .ok (.tuple #[.agg #[.int .i8 x, .int .i8 y], .bool b]) w := by
  have hp' : tmps[2]?.getD undef = .pointer (some ⟨g, 0, none⟩) := by simpa using hp
  have hq' : tmps[3]?.getD undef = .pointer (some ⟨k, 0, none⟩) := by simpa using hq
  have hc : w.cell? ⟨k, 0, none⟩ = some (.bool b) := hk.cell 0
  have c0 : w.cell? ⟨g, 0, none⟩ = some (.int .i8 x) := hg.cell 0
  have c1 : w.cell? ⟨g, 1, none⟩ = some (.int .i8 y) := hg.cell 1
  simp [results, Try.f52, hp', hq', asAddr, go_sem, hc, c0, c1]

set_option maxRecDepth 100000 in
set_option maxHeartbeats 2000000 in
theorem firstBed_loop (Wn Hn : Nat) (hW : Wn ≤ 10) (hH : Hn ≤ 10) (L : Lawn) (hLw : L.wide = Wn) (hLh : L.high = Hn) (hV : validB L = true) (w : World) :
    Calls Try.prog 52 #[.agg L.cells] w fun e w' => e = .returned (.tuple #[.agg (cellF (firstR L Wn Hn)), .bool (firstR L Wn Hn).isSome]) ∧ Below w.heap.size w w' := by
  have HSA := Lib.hid (fun (c : Fin Wn × Fin Hn) (w : World) => sidesAt_any L hV c.1.val c.2.val (by omega) (by have := c.1.isLt; omega) (by omega) (by have := c.2.isLt; omega) w)
  have HKA := Lib.hid (fun (c : Fin Wn × Fin Hn) (w : World) => kind_any L c.1.val c.2.val (by have := c.1.isLt; omega) (by have := c.2.isLt; omega) w)
  have HL : Hid (L = ⟨(Wn : Int), (Hn : Int), L.kind⟩) := Lib.hid (by cases L; simp_all)
  clear hLw hLh hV
  refine (callsIn_wide (n := 9)).1 ?_
  refine callsIn_of_wp_marks Try.func52 rfl trivial ?_ rfl
  simp only [Try.ntmps52, List.size_toArray, List.length_cons, List.length_nil, Nat.reduceAdd, Nat.reduceSub, Array.replicate_succ, Array.replicate_zero, List.push_toArray, List.append_toArray, List.nil_append, List.cons_append]
  gi_wp2_with (refine ⟨trivial, ?_⟩; gi_at_call 91; refine (each_in Fence.wide _ trivial rfl _ _).mono ?_; rintro e w2 ⟨rfl, rfl⟩)
  obtain ⟨s, hs⟩ : ∃ s, w.heap.size = s := ⟨_, rfl⟩
  obtain ⟨W0, hW0⟩ : ∃ W0, (((w.alloc (.cells L.cells 27)).alloc (.cells #[.int .i8 0, .int .i8 0] 37)).alloc (.cells #[.bool false] 4)).alloc (.cells L.cells 27) = W0 := ⟨_, rfl⟩
  have g0 : Holds W0 s L.cells := by rw [← hW0]; exact (((Holds.new' _ _ _ _ hs.symm).alloc _).alloc _).alloc _
  have g1 : Holds W0 (s + 1) #[.int .i8 0, .int .i8 0] := by rw [← hW0]; exact ((Holds.new' _ _ _ _ (by simp; omega)).alloc _).alloc _
  have g2 : Holds W0 (s + 1 + 1) #[.bool false] := by rw [← hW0]; exact (Holds.new' _ _ _ _ (by simp; omega)).alloc _
  have g3 : Holds W0 (s + 1 + 1 + 1) L.cells := by rw [← hW0]; exact Holds.new' _ _ _ _ (by simp; omega)
  have hB0 : Below w.heap.size w W0 := by rw [← hW0]; exact ((((Below.refl w.heap.size w).alloc (Nat.le_refl _) _).alloc (by simp) _).alloc (by simp; omega) _).alloc (by simp; omega) _
  have hz1 : s + 4 ≤ W0.heap.size := by rw [← hW0]; simp; omega
  have hz2 : W0.heap.size ≤ s + 4 := by rw [← hW0]; simp; omega
  rw [hs] at hB0 ⊢
  rw [hW0]
  clear hW0
  refine each_rangeP (by omega) (p := 7) (q := 4) [s + 1, s + 1 + 1] Wn Hn hW hH L.kind rfl (by rw [← HL.out]; exact g3)
    (fun pre W => Holds W (s + 1) #[.int .i8 0, .int .i8 0] ∧ Holds W (s + 1 + 1) #[.bool false] ∧ pre.find? (roundB L) = none)
    (fun c pre W => c = .ret ∧ ∃ x, Holds W (s + 1) (cellF (some x)) ∧ Holds W (s + 1 + 1) #[.bool true] ∧ pre.find? (roundB L) = some x)
    (Own.from (ownAnd (holds_own _ (fun _ => #[.int .i8 0, .int .i8 0])) (ownAnd (holds_own _ (fun _ => #[.bool false])) (pure_own _))) _)
    (fun c => Own.from (fun pre W W' row h hg hr => ⟨h.1, h.2.elim fun x hx => ⟨x, hx.1.grown hg hr, hx.2.1.grown hg hr, hx.2.2⟩⟩) _) ⟨g1, g2, rfl⟩ ?assign ?body ?done ?stop
  case assign =>
    intro l x y W K hK
    simp only [cellV]
    gi_wp2
    exact hK
  case body =>
    rintro l pre x Bx W hl hr hO ⟨i1, i2, ip⟩ hBx bX hlt
    have HSx := Lib.hid (HSA.out x)
    have HKx := Lib.hid (HKA.out x)
    have HYes : Hid (roundB L x = true → (pre ++ [x]).find? (roundB L) = some x) := Lib.hid (fun h => by rw [List.find?_append, ip]; simp [h])
    have HNo : Hid (roundB L x = false → (pre ++ [x]).find? (roundB L) = none) := Lib.hid (fun h => by rw [List.find?_append, ip]; simp [h])
    have HR0 : Hid (roundB L x = (L.kind x.2 x.1 == 1 && decide (3 ≤ sidesL L ((x.1.val : Int), (x.2.val : Int)) 0))) := Lib.hid rfl
    obtain ⟨f, hf⟩ : ∃ f, sidesL L ((x.1.val : Int), (x.2.val : Int)) = f := ⟨_, rfl⟩
    rw [hf] at HSx HR0
    have hix : ∀ w, (Instr.index 76 (.agg (sdV f)) (.int .i64 0)).run Try.prog w = .ok (.int .i64 (f 0)) w := fun w => sd_index0 f w
    have HC : Hid (cellF (some x) = #[.int .i8 x.1.val, .int .i8 x.2.val]) := Lib.hid rfl
    obtain ⟨kx, hkx⟩ : ∃ kx, L.kind x.2.val x.1.val = kx := ⟨_, rfl⟩
    have HR : Hid (roundB L x = (kx == 1 && decide (3 ≤ f 0))) := Lib.hid (by rw [← hkx]; exact HR0.out)
    clear HR0
    rw [hkx] at HKx
    obtain ⟨r, hrr⟩ : ∃ r, roundB L x = r := ⟨_, rfl⟩
    rw [hrr] at HYes HNo HR
    obtain ⟨⟨xj, hxj⟩, ⟨xk, hxk⟩⟩ := x
    dsimp only at *
    simp only [cellV, List.setIfInBounds_toArray, List.set_cons_succ, List.set_cons_zero]
    have i0 := hO.holds g0 (by simp; omega)
    have hO2 := Lib.hid hO
    clear hr hlt hl hO hf hkx hrr ip
    obtain ⟨r0, -, -, -, -⟩ := i0.facts
    obtain ⟨-, -, cx, -, -⟩ := bX.facts
    have hsw := i2.lt
    gi_wp2_with fail
    refine ⟨trivial, (CallsIn.inRound l (callsIn_wide.2 (HKx.out _))).mono ?_⟩
    rintro e w1 ⟨rfl, hb1⟩
    have j0 := i0.below hb1 i0.lt
    have j1 := i1.below hb1 i1.lt
    have j2 := i2.below hb1 i2.lt
    have jX := bX.below hb1 bX.lt
    have jO : Only [s + 1, s + 1 + 1] W0 w1 := hO2.out.onto hb1
    have jK : KeepsOthers W w1 := keeps_below hb1
    clear i2 i1 i0 bX hb1 r0 cx
    by_cases hk : kx = 1
    · subst hk
      obtain ⟨r0, -, -, -, -⟩ := j0.facts
      obtain ⟨-, -, cx, -, -⟩ := jX.facts
      gi_wp2_with fail
      refine ⟨trivial, (CallsIn.inRound l (callsIn_wide.2 (HSx.out _))).mono ?_⟩
      rintro e w2 ⟨rfl, hb1⟩
      have q1 := j1.below hb1 j1.lt
      have q2 := j2.below hb1 j2.lt
      have qX := jX.below hb1 jX.lt
      have qO : Only [s + 1, s + 1 + 1] W0 w2 := jO.onto hb1
      have qK : KeepsOthers W w2 := jK.trans (keeps_below hb1)
      clear j0 j1 j2 jX jO jK hb1 r0 cx
      obtain ⟨-, -, cx, -, -⟩ := qX.facts
      obtain ⟨-, -, d1, f1, l1⟩ := q1.facts
      obtain ⟨-, -, d2, f2, l2⟩ := q2.facts
      cases r
      · have hge : decide (3 ≤ f 0) = false := by simpa using HR.out.symm
        have HNN := Lib.hid (HNo.out rfl)
        clear HR HNo HYes
        gi_wp2_with fail
        exact eachDone (b := s + 1 + 1 + 1) (by omega) (by simp; omega) hO2.out qK qO ⟨q1, q2, HNN.out⟩
      · have hge : decide (3 ≤ f 0) = true := by simpa using HR.out.symm
        have HNN := Lib.hid (HYes.out rfl)
        clear HR HNo HYes
        have v1 := ((q1.setCell 0 (.int .i8 xj)).setCell 1 (.int .i8 xk)).setCell_other ⟨s + 1 + 1, 0, none⟩ (.bool true) (by dsimp only; omega)
        have v2 := ((q2.setCell_other ⟨s + 1, 0, none⟩ (.int .i8 xj) (by dsimp only; omega)).setCell_other ⟨s + 1, 1, none⟩ (.int .i8 xk) (by dsimp only; omega)).setCell 0 (.bool true)
        gi_wp2_with fail
        exact eachLeft (((qK.trans (KeepsOthers.setCell _ _ _)).trans (KeepsOthers.setCell _ _ _)).trans (KeepsOthers.setCell _ _ _)) (((qO.setCell (.inl (by simp)) _).setCell (.inl (by simp)) _).setCell (.inl (by simp)) _) ⟨rfl, (⟨xj, hxj⟩, ⟨xk, hxk⟩), v1, v2, HNN.out⟩
    · have hr : r = false := by rw [HR.out]; simp [hk]
      have hkd : (kx == 1) = false := by simp [hk]
      subst hr
      have HNN := Lib.hid (HNo.out rfl)
      clear HR HNo HYes
      gi_wp2_with fail
      refine ⟨trivial, ?_⟩
      gi_wp2_with fail
      exact eachDone (b := s + 1 + 1 + 1) (by omega) (by simp; omega) hO2.out jK jO ⟨j1, j2, HNN.out⟩
  case done =>
    rintro D W hD hO ⟨i1, i2, ip⟩ hK
    have hB2 : Below s w W := hB0.trans (hO.toBelow (by intro k hk; simp at hk; omega) (by omega))
    have HF := Lib.hid (show firstR L Wn Hn = none from ip)
    obtain ⟨-, -, d1, f1, l1⟩ := i1.facts
    obtain ⟨-, -, d2, f2, l2⟩ := i2.facts
    have v1 := ((i1.setCell 0 (.int .i8 0)).setCell 1 (.int .i8 0)).setCell_other ⟨s + 1 + 1, 0, none⟩ (.bool false) (by dsimp only; omega)
    have v2 := ((i2.setCell_other ⟨s + 1, 0, none⟩ (.int .i8 0) (by dsimp only; omega)).setCell_other ⟨s + 1, 1, none⟩ (.int .i8 0) (by dsimp only; omega)).setCell 0 (.bool false)
    have hB3 := ((hB2.setCell (p := ⟨s + 1, 0, none⟩) (by dsimp only; omega) (.int .i8 0)).setCell (p := ⟨s + 1, 1, none⟩) (by dsimp only; omega) (.int .i8 0)).setCell (p := ⟨s + 1 + 1, 0, none⟩) (by dsimp only; omega) (.bool false)
    have hK' := (((KeepsOthers.setCell W ⟨s + 1, 0, none⟩ (.int .i8 0)).trans (KeepsOthers.setCell _ ⟨s + 1, 1, none⟩ (.int .i8 0))).trans (KeepsOthers.setCell _ ⟨s + 1 + 1, 0, none⟩ (.bool false))).same D _ hK rfl
    clear ip g0 g1 g2 g3 hO
    gi_wp2
    obtain ⟨W2, hW2⟩ : ∃ W2, ((W.setCell ⟨s + 1, 0, none⟩ (.int .i8 0)).setCell ⟨s + 1, 1, none⟩ (.int .i8 0)).setCell ⟨s + 1 + 1, 0, none⟩ (.bool false) = W2 := ⟨_, rfl⟩
    rw [hW2] at v1 v2 hB3 hK' ⊢
    refine ⟨by simp, .inl ⟨_, _, rfl, run_takeDeferred hK', ?_⟩⟩
    refine ⟨.tuple #[.agg #[.int .i8 0, .int .i8 0], .bool false], ?_, by rw [HF.out]; rfl, hs ▸ hB3.trans (belowK_b (w := w) (by omega) _ D _ _ (by omega) hK' rfl rfl)⟩
    exact firstBed_results _ rfl rfl (v1.grown (grownBy_putObj' _ D _) (fun r e => by cases e; exact ⟨_, hK', rfl⟩)) (v2.grown (grownBy_putObj' _ D _) (fun r e => by cases e; exact ⟨_, hK', rfl⟩))
  case stop =>
    rintro D c pre W hD hp hO ⟨rfl, x, i1, i2, ip⟩ hK
    have hB3 : Below s w W := hB0.trans (hO.toBelow (by intro k hk; simp at hk; omega) (by omega))
    have HF := Lib.hid (show firstR L Wn Hn = some x from find_prefix ip hp)
    clear ip g0 g1 g2 g3 hO hp
    gi_wp2
    refine ⟨by simp, .inl ⟨_, _, rfl, run_takeDeferred hK, ?_⟩⟩
    have i1 : Holds W (s + 1) #[.int .i8 x.1.val, .int .i8 x.2.val] := i1
    refine ⟨.tuple #[.agg #[.int .i8 x.1.val, .int .i8 x.2.val], .bool true], ?_, by rw [HF.out]; rfl, hs ▸ hB3.trans (belowK_b (w := w) (by omega) _ D _ _ (by omega) hK rfl rfl)⟩
    exact firstBed_results _ rfl rfl (i1.grown (grownBy_putObj' _ D _) (fun r e => by cases e; exact ⟨_, hK, rfl⟩)) (i2.grown (grownBy_putObj' _ D _) (fun r e => by cases e; exact ⟨_, hK, rfl⟩))
end Go.Proofs.Ytmoldkdidhnahaa
