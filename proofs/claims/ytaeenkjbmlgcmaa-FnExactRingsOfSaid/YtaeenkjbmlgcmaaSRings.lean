/- RingsOf, of the model, out of what its count of holes answers. -/
import Derived.Test.YtaeenkjbmlgcmaaIRings
import Derived.Test.YtaeenkjbmlgcmaaSPieces
namespace Go.Proofs.Ytaeenkjbmlgcmaa
open Go.RowKit
set_option linter.unusedVariables false
set_option linter.unusedSimpArgs false
attribute [local go_sem ↓] loadRow loadGrid loadLawn loadMirror storeRow storeGrid storeLawn allocRow allocGrid allocLawn buildZero buildSides

set_option maxRecDepth 100000 in
set_option maxHeartbeats 1000000 in
theorem specRings_of (L : Lawn) (hL : L.Fits) (w : World)
    (HH : validB L = true → ∀ (b : Nat) (w' : World), Holds w' b L.cells → Calls Try.prog 47 #[.pointer (some ⟨b, 0, none⟩)] w' fun e w'' => e = .returned (.int .i64 (holesL L)) ∧ Below w'.heap.size w' w'') :
    Calls Try.prog 12 #[.agg L.cells] w fun e w' => e = .returned (.tuple #[.int .i64 (ringsZ L), .int .i64 (pcC L)]) ∧ Below w.heap.size w w' := by
  have HO := Lib.hid (show ∀ w', Holds w' w.heap.size L.cells → Calls Try.prog 45 #[.pointer (some ⟨w.heap.size, 0, none⟩)] w' fun e w'' => e = .returned (.bool (validB L)) ∧ Below w'.heap.size w' w'' from fun w' h => l01Ok_any L hL w.heap.size w' h)
  have g0 := Holds.new w L.cells 29
  have hb : Below w.heap.size w (w.alloc (.cells L.cells 29)) := (Below.refl _ _).alloc (Nat.le_refl _) _
  have HRL := Lib.hid (pcR_len L)
  cases hv : validB L
  case true =>
    rw [hv] at HO
    have e1 : pcC L = 0 := by unfold pcC; rw [hv]; rfl
    have e2 : pcR L = rowsOfS (piecesG L (ofKind L L.wide.toNat L.high.toNat 0)) := by unfold pcR; rw [hv]; rfl
    have e3 : ringsZ L = ((pcR L).length : Int) + holesL L := by unfold ringsZ; rw [e1, if_pos rfl]
    have hhl := holesL_le hv
    obtain ⟨h1, h2, -⟩ := validB_true hv
    have HP := Lib.hid (show ∀ w', Holds w' w.heap.size L.cells → Calls Try.prog 46 #[.pointer (some ⟨w.heap.size, 0, none⟩)] w' fun e w'' => (∃ v, e = .returned v ∧ RowsC w'' w'.heap.size v (pcR L)) ∧ Below w'.heap.size w' w'' from fun w' h => e2 ▸ l01Pieces_any L.wide.toNat L.high.toNat (by omega) (by omega) (by omega) (by omega) L hL hv (by omega) (by omega) w.heap.size w' h)
    have HH2 := Lib.hid (fun w' h => HH hv w.heap.size w' h)
    rw [e1, e3]
    obtain ⟨R, hR⟩ : ∃ R, pcR L = R := ⟨_, rfl⟩
    obtain ⟨n, hn⟩ : ∃ n, holesL L = n := ⟨_, rfl⟩
    rw [hR] at HP HRL ⊢
    rw [hn] at HH2 hhl ⊢
    obtain ⟨m, hm⟩ : ∃ m, R.length = m := ⟨_, rfl⟩
    rw [hm] at HRL ⊢
    have HM := Lib.hid hm
    have hrl := HRL.out
    clear e1 e2 e3 hR hn hm HH h1 h2 hv hL
    go_enter Try.func12, Try.ntmps12
    go_wp2_with fail
    refine (HO.out _ g0).mono ?_
    rintro e w1 ⟨rfl, hb1⟩
    have g1 := g0.below hb1 g0.lt
    have hb2 := below_onto hb hb1
    clear g0 hb hb1
    go_wp2_with fail
    refine (HP.out _ g1).mono ?_
    rintro e w2 ⟨⟨v, rfl, hs, hro⟩, hb3⟩
    have hO := hro.1
    rw [HM.out] at hO
    obtain ⟨va, vc, rfl⟩ := own_slice hO
    have g2 := g1.below hb3 g1.lt
    have hb4 := below_onto hb2 hb3
    clear g1 hb2 hb3 hro hO
    go_wp2_with fail
    refine (HH2.out _ g2).mono ?_
    rintro e w3 ⟨rfl, hb5⟩
    have hb6 := below_onto hb4 hb5
    clear g2 hb4 hb5
    go_wp2_with fail
    go_ret2
    exact ⟨rfl, hb6⟩
  case false =>
    rw [hv] at HO
    have e1 : pcC L = 1 := by unfold pcC; rw [hv]; rfl
    have e3 : ringsZ L = 0 := by unfold ringsZ; rw [e1, if_neg (by decide)]
    rw [e1, e3]
    clear e1 e3 HH hv hL HRL
    go_enter Try.func12, Try.ntmps12
    go_wp2_with fail
    refine (HO.out _ g0).mono ?_
    rintro e w1 ⟨rfl, hb1⟩
    have hb2 := below_onto hb hb1
    clear g0 hb hb1
    go_wp2_with fail
    go_ret2
    exact ⟨rfl, hb2⟩
end Go.Proofs.Ytaeenkjbmlgcmaa
