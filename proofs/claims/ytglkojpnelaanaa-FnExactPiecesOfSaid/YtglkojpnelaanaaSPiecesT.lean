/- PiecesOf, of the model: the function itself. -/
import Derived.Test.YtglkojpnelaanaaSPieces
namespace Go.Proofs.Ytglkojpnelaanaa
open Go.RowKit
set_option linter.unusedVariables false
attribute [local go_sem ↓] loadRow loadGrid loadLawn loadMirror storeRow storeGrid storeLawn allocRow allocGrid allocLawn buildZero buildSides

set_option maxRecDepth 100000 in
set_option maxHeartbeats 2000000 in
theorem specPieces_any (L : Lawn) (hL : L.Fits) (w : World) :
    Calls Try.prog 11 #[.agg L.cells] w fun e w' => (∃ v, e = .returned (.tuple #[v, .int .i64 (pcC L)]) ∧ RowsC w' w.heap.size v (pcR L)) ∧ Below w.heap.size w w' := by
  have HO := Lib.hid (show ∀ w', Holds w' w.heap.size L.cells → Calls Try.prog 44 #[.pointer (some ⟨w.heap.size, 0, none⟩)] w' fun e w'' => e = .returned (.bool (validB L)) ∧ Below w'.heap.size w' w'' from fun w' h => l01Ok_any L hL w.heap.size w' h)
  have g0 := Holds.new w L.cells 30
  have hb : Below w.heap.size w (w.alloc (.cells L.cells 30)) := (Below.refl _ _).alloc (Nat.le_refl _) _
  cases hv : validB L
  case true =>
    rw [hv] at HO
    have e1 : pcC L = 0 := by unfold pcC; rw [hv]; rfl
    have e2 : pcR L = rowsOfS (piecesG L (ofKind L L.wide.toNat L.high.toNat 0)) := by unfold pcR; rw [hv]; rfl
    rw [e1, e2]
    clear e1 e2
    obtain ⟨h1, h2, -⟩ := validB_true hv
    have HP := Lib.hid (show ∀ w', Holds w' w.heap.size L.cells → Calls Try.prog 45 #[.pointer (some ⟨w.heap.size, 0, none⟩)] w' fun e w'' => (∃ v, e = .returned v ∧ RowsC w'' w'.heap.size v (rowsOfS (piecesG L (ofKind L L.wide.toNat L.high.toNat 0)))) ∧ Below w'.heap.size w' w'' from fun w' h => l01Pieces_any L.wide.toNat L.high.toNat (by omega) (by omega) (by omega) (by omega) L hL hv (by omega) (by omega) w.heap.size w' h)
    obtain ⟨RR, hRR⟩ : ∃ RR, rowsOfS (piecesG L (ofKind L L.wide.toNat L.high.toNat 0)) = RR := ⟨_, rfl⟩
    rw [hRR] at HP ⊢
    clear hRR hv hL
    go_enter Try.func11, Try.ntmps11
    go_wp2_with fail
    refine (HO.out _ g0).mono ?_
    rintro e w1 ⟨rfl, hb1⟩
    have g1 := g0.below hb1 g0.lt
    have hb2 := below_onto hb hb1
    clear g0 hb hb1
    go_wp2_with fail
    refine (HP.out _ g1).mono ?_
    rintro e w2 ⟨⟨v, rfl, hR⟩, hb3⟩
    have hb4 := below_onto hb2 hb3
    have hs := hb2.size
    obtain ⟨a, c, he⟩ := hR.slice
    obtain ⟨nr, hnr⟩ : ∃ nr, RR.length = nr := ⟨_, rfl⟩
    rw [hnr] at he
    subst he
    have HR := Lib.hid (hR.low hs)
    clear hR hb2 hb3 g1 hnr
    go_wp2_with fail
    go_ret2
    exact ⟨⟨_, rfl, HR.out⟩, hb4⟩
  case false =>
    rw [hv] at HO
    have e1 : pcC L = 1 := by unfold pcC; rw [hv]; rfl
    have e2 : pcR L = [] := by unfold pcR; rw [hv]; rfl
    rw [e1, e2]
    clear e1 e2
    go_enter Try.func11, Try.ntmps11
    go_wp2_with fail
    refine (HO.out _ g0).mono ?_
    rintro e w1 ⟨rfl, hb1⟩
    have hb2 := below_onto hb hb1
    have hs := hb2.size
    clear g0 hb hb1
    go_wp2_with fail
    go_ret2
    exact ⟨⟨_, rfl, [], ⟨ownsRow_low (World.ownsRow_made w1 #[] 0 (Nat.le_refl _) (by simp [maxLen]) rfl) hs, by simp, by simp⟩⟩, hb2.alloc hs _⟩
end Go.Proofs.Ytglkojpnelaanaa
