/- slices.AppendSeq and Collect over the keys of a map of cells, of the program. -/
import Derived.Test.YtaeenkjbmlgcmaaKeysI
import Derived.Test.YtaeenkjbmlgcmaaZG
import Derived.Test.YtaeenkjbmlgcmaaZB
import Derived.Test.YtaeenkjbmlgcmaaZC
import Derived.Maps.OwnIn
namespace Go.Proofs.Ytaeenkjbmlgcmaa
open Go.RowKit Go.Shelf
set_option linter.unusedVariables false
attribute [local go_sem] Oper.semAt_some
attribute [local go_sem ↓] loadRow loadGrid loadLawn loadMirror storeRow storeGrid storeLawn allocRow allocGrid allocLawn buildZero buildSides loadRow' loadGrid' loadLawn' loadMirror' storeRow' storeGrid' storeLawn' allocRow' allocGrid' allocLawn' buildZero' buildSides'

theorem own_ownP {β : Type} (s B : Nat) (e : TypeId) (size : Nat) (f : β → List Pt) : Own (fun (b : β) w => ∃ v, Holds w s #[v] ∧ w.ownsRow B e size v (f b).length (flatP (f b))) := by
  rintro b W W' row ⟨v, h1, h2⟩ hg hr
  refine ⟨v, h1.grown hg hr, h2.kept hg ?_⟩
  rcases h2.2 with ⟨rfl, -⟩ | ⟨g, cap, cur, rfl, hb, hgg, -⟩
  · exact .inl rfl
  · refine .inr fun he => ?_
    obtain ⟨o, ho, hc⟩ := hr g he.symm
    rw [hgg] at ho
    cases ho
    cases hc
theorem flatP_snoc (l : List Pt) (c : Pt) : flatP (l ++ [c]) = flatP l ++ [.int .i8 c.1, .int .i8 c.2] := by simp [flatP]
theorem walks_of {W W' : World} (h : KeepsOthers W W') : KeepsWalks W W' := ⟨h.size, fun k o hk hw => h.same k o hk (Obj.not_cells_of_walk hw)⟩

set_option maxRecDepth 100000 in
set_option maxHeartbeats 2000000 in
theorem appendSeq_any (Bm b : Nat) (L : Found) (hLen : L.length ≤ 100) (w : World) (hm : Holds w Bm #[.map (some b)]) (hM : MapIs w b cellK valK L) :
    Calls Try.prog 154 #[.slice none 0 0, .func (.func 148) #[] #[.pointer (some ⟨Bm, 0, none⟩)]] w fun e w' =>
      (∃ v ys, e = .returned v ∧ ys.Perm (L.map (·.1)) ∧ w'.ownsRow w.heap.size 37 2 v ys.length (flatP ys)) ∧ Below w.heap.size w w' := by
  obtain ⟨ci, hi, hz0, hz1, hz2⟩ := info_parts cellInfo
  have HCI := Lib.hid (show Try.prog.info? 37 = some ci ∧ ci.zero = some (.agg #[.int .i8 0, .int .i8 0]) ∧ ci.size = 2 ∧ ci.bytes = 2 from ⟨hi, hz0, hz1, hz2⟩)
  clear hi hz0 hz1 hz2
  obtain ⟨s, hs⟩ : ∃ s, w.heap.size = s := ⟨_, rfl⟩
  obtain ⟨W0, hW0⟩ : ∃ W0, w.alloc (.cells #[.slice none 0 0] 45) = W0 := ⟨_, rfl⟩
  have g0 : Holds W0 s #[.slice none 0 0] := by rw [← hW0, ← hs]; exact Holds.new _ _ _
  have gm : Holds W0 Bm #[.map (some b)] := by rw [← hW0]; exact hm.alloc _
  have gM : MapIs W0 b cellK valK L := by rw [← hW0]; exact hM.alloc _
  have hB0 : Below s w W0 := by rw [← hW0, ← hs]; exact (Below.refl w.heap.size w).alloc (Nat.le_refl _) _
  have hsz : W0.heap.size = s + 1 := by rw [← hW0, ← hs]; simp
  have hws : Hid (w.heap.size = s) := Lib.hid hs
  clear hm hM
  refine (callsIn_wide (n := 9)).1 ?_
  refine callsIn_of_wp_marks Try.func154 rfl trivial ?_ rfl
  simp only [Try.ntmps154, List.size_toArray, List.length_cons, List.length_nil, Nat.reduceAdd, Nat.reduceSub, Array.replicate_succ, Array.replicate_zero, List.push_toArray, List.append_toArray, List.nil_append, List.cons_append]
  gi_wp2_with fail
  try rw [hW0]
  try rw [hs]
  clear hW0 hs
  have hR0 : W0.ownsRow (s + 1) 37 2 (.slice none 0 0) 0 [] := World.ownsRow_nil _ _ _ _
  refine wpIn_rangeFunc_ownH (α := Pt) rfl (by omega) (gf := 148) (lb := #[.pointer (some ⟨Bm, 0, none⟩)]) rfl trivial (enters_of Try.func148 (by kernel_rfl) rfl)
    (keys_stops Fence.wide _ trivial rfl (by omega) Bm b L W0 gm gM) KeepsWalks.trans walksK_b (Below.refl _ _) (fun _ => rfl)
    (fun pre W => (∃ v, Holds W s #[v] ∧ W.ownsRow (s + 1) 37 2 v pre.length (flatP pre)) ∧ Below s w W)
    (fun c pre W => False)
    (OwnFrom.and (Own.from (own_ownP s (s + 1) 37 2 id) _) (ownFrom_below (by rw [hws.out]; omega) (by omega)))
    (fun c => fun _ _ _ _ h _ _ => h.elim)
    ⟨⟨_, g0, hR0⟩, hB0⟩
    (fun x a' W => ∃ Bx, s + 1 ≤ Bx ∧ Holds W Bx #[.int .i8 x.1, .int .i8 x.2] ∧ a' = { tmps := #[.slice none 0 0, .func (.func 148) #[] #[.pointer (some ⟨Bm, 0, none⟩)], .pointer (some ⟨s, 0, none⟩), undef, .slice none 0 0, .pointer (some ⟨Bx, 0, none⟩), .func (.func 148) #[] #[.pointer (some ⟨Bm, 0, none⟩)], .agg #[.int .i8 x.1, .int .i8 x.2], undef, undef, undef, undef, undef], defers := [] })
    (fun x a' => fun _ W W' row ⟨Bx, h1, h2, h3⟩ hg hr => ⟨Bx, h1, h2.grown hg (fun r e => (hr r e).2), h3⟩)
    ?assign ?body ?done ?stop
  case assign =>
    rintro l pre ⟨x, y⟩ W K' ⟨⟨v, i2, io⟩, iB⟩ hK
    have hlt := i2.lt
    simp only [ptA, cellV]
    gi_wp2
    exact hK _ _ ((KeepsOthers.alloc _ _).from _) (walks_of (KeepsOthers.alloc _ _)) ⟨⟨v, i2.alloc _, io.alloc _⟩, iB.alloc (by have := iB.size; rw [hws.out] at this; omega) _⟩ ⟨_, by omega, Holds.new _ _ _, rfl⟩
  case body =>
    rintro l pre ⟨x, y⟩ a' W hl ⟨r, hr⟩ ⟨⟨v, i2, io⟩, iB⟩ ⟨Bx, hBx, bX, rfl⟩ hlt
    dsimp only at *
    have IO := Lib.hid io
    obtain ⟨-, -, c2, z2, l2⟩ := i2.facts
    have cx : W.cell? ⟨Bx, 0, none⟩ = some (.int .i8 x) := bX.cell 0
    have cy : W.cell? ⟨Bx, 1, none⟩ = some (.int .i8 y) := bX.cell 1
    have lX := bX.lt
    have HPL := Lib.hid (show pre.length ≤ 100 by omega)
    clear hr hsz io g0 gm gM hB0 hlt hl hR0
    gi_wp2_with (gi_at_builtin; refine wpListIn_append_own_at _ rfl _ _ 45 rfl (s + 1) 37 ci (.agg #[.int .i8 0, .int .i8 0]) 2 2 Try.underlying45 HCI.out.1 HCI.out.2.1 HCI.out.2.2.1 HCI.out.2.2.2 rfl (by decide) _ _ _ rfl (IO.out.alloc _) ⟨W.heap.size, 0, none⟩ 1 1 [.int .i8 x, .int .i8 y] rfl rfl ?c1 ?c2 ?c3 ?c4 ?c5 ?_)
    case c1 =>
      intro m u hu
      match m, hu with
      | 0, hu => simp at hu; subst hu; exact (Holds.new W #[.int .i8 x, .int .i8 y] 37).cell 0
      | 1, hu => simp at hu; subst hu; exact (Holds.new W #[.int .i8 x, .int .i8 y] 37).cell 1
    case c2 => intro u hu; simp at hu; rcases hu with rfl | rfl <;> rfl
    case c3 => have := HPL.out; unfold maxLen; omega
    case c4 => have := HPL.out; omega
    case c5 => have := lX; simp; omega
    · intro v' w3 hown' hgrow _ hat
      have ho3 : w3.ownsRow (s + 1) 37 2 v' (pre ++ [(x, y)]).length (flatP (pre ++ [(x, y)])) := by
        rw [flatP_snoc, List.length_append]
        exact hown'
      have p2 := held_grown (i2.alloc (.cells #[.int .i8 x, .int .i8 y] 37)) (IO.out.alloc _) hgrow (by omega)
      have pB : Below s w w3 := by
        have hws' := hws.out
        have hsz' := iB.size
        refine (iB.alloc (by omega) _).grown hgrow (by simp; omega) fun k hk => ?_
        have := own_far IO.out k hk
        omega
      have pK : KeepsOthers W w3 := (KeepsOthers.alloc _ _).trans (own_others (IO.out.alloc _) hgrow)
      have HO3 := Lib.hid ho3
      obtain ⟨g', cap', rfl, -, -⟩ := own_form hown' (by omega)
      clear hown' hgrow ho3 hat IO i2 bX c2 z2 l2 cx cy lX iB
      obtain ⟨-, -, c2, z2, l2⟩ := p2.facts
      have hf3 := own_far HO3.out g' rfl
      gi_wp2_with fail
      exact ⟨(pK.trans (KeepsOthers.setCell _ _ _)).from _, walks_of (pK.trans (KeepsOthers.setCell _ _ _)),
        ⟨_, p2.setCell 0 _, HO3.out.kept (grownBy_setCell' w3 s _) (.inr (by simp [Value.ownBlock]; omega))⟩,
        pB.setCell (p := ⟨s, 0, none⟩) (by dsimp only; omega) _⟩
  case done =>
    rintro D ys W hD hp ⟨⟨v, i2, io⟩, iB⟩ hK
    obtain ⟨n, hn⟩ : ∃ n, ys.length = n := ⟨_, rfl⟩
    rw [hn] at io
    obtain ⟨a, c, rfl⟩ := own_slice io
    have IO := Lib.hid io
    obtain ⟨-, f1, c1, z1, l1⟩ := i2.facts
    have HP := Lib.hid hp
    have HN := Lib.hid hn
    clear io g0 gm gM hR0 hp hn
    gi_wp2
    refine ⟨by simp, .inl ⟨_, _, rfl, run_takeDeferred hK, ?_⟩⟩
    refine ⟨.slice a n c, ?_, ⟨⟨_, ys, rfl, HP.out, ?_⟩, ?_⟩⟩
    · simp [results, Try.f154, go_sem]
    · rw [hws.out, HN.out]
      refine ownsRow_low (B := s + 1) ?_ (by omega)
      refine World.ownsRow.kept IO.out (grownBy_putObj' _ D (.deferred none)) ?_
      rcases IO.out.2 with ⟨he, -⟩ | ⟨g, cap, cur, he, hb, hgg, -⟩
      · rw [he]; exact .inl rfl
      · rw [he]
        refine .inr fun hgD => ?_
        simp only [Value.ownBlock, Option.some.injEq] at hgD
        subst hgD
        rw [hgg] at hK
        cases hK
    · rw [hws.out]
      exact iB.trans (belowK_b (w := w) (by have := hws.out; omega) _ D _ _ (by have := hws.out; omega) hK rfl rfl)
  case stop =>
    rintro D c pre W hD hpre h hK
    exact h.elim
end Go.Proofs.Ytaeenkjbmlgcmaa
