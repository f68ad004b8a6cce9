/- RingsOf, of the program. -/
import Derived.Test.YtaeenkjbmlgcmaaIHoles
import Derived.Test.YtaeenkjbmlgcmaaIPieces
namespace Go.Proofs.Ytaeenkjbmlgcmaa
open Go.RowKit
set_option linter.unusedVariables false
set_option linter.unusedSimpArgs false
attribute [local go_sem ↓] loadRow loadGrid loadLawn loadMirror storeRow storeGrid storeLawn allocRow allocGrid allocLawn buildZero buildSides

noncomputable def holesL (L : Lawn) : Nat := holeN (bareP L) (edgeB L) ((allC L.wide.toNat L.high.toNat).map ptF) ((allC L.wide.toNat L.high.toNat).map ptF)
theorem holesL_le {L : Lawn} (hv : validB L = true) : holesL L ≤ 100 := by
  obtain ⟨h1, h2, -⟩ := validB_true hv
  have := holeN_le (bareP L) (edgeB L) ((allC L.wide.toNat L.high.toNat).map ptF) ((allC L.wide.toNat L.high.toNat).map ptF)
  rw [List.length_map, allC_length] at this
  exact Nat.le_trans this (Nat.le_trans (Nat.mul_le_mul (show L.high.toNat ≤ 10 by omega) (show L.wide.toNat ≤ 10 by omega)) (by omega))
/-- How many rings there are. -/
noncomputable def ringsZ (L : Lawn) : Int := if pcC L = 0 then ((pcR L).length : Int) + holesL L else 0

set_option maxRecDepth 100000 in
set_option maxHeartbeats 1000000 in
theorem implRings_any (L : Lawn) (hL : L.Fits) (w : World) :
    Calls Try.prog 14 #[.agg L.cells] w fun e w' => e = .returned (.tuple #[.int .i64 (ringsZ L), .int .i64 (pcC L)]) ∧ Below w.heap.size w w' := by
  have HPC := Lib.hid (fun w => implPieces_any L hL w)
  have HHO := Lib.hid (show pcC L = 0 → ∀ w, Calls Try.prog 50 #[.agg L.cells] w fun e w' => e = .returned (.int .i64 (holesL L)) ∧ Below w.heap.size w w' from fun h w => by
    have hv : validB L = true := by
      unfold pcC at h
      cases hv : validB L with
      | true => rfl
      | false => rw [hv] at h; simp at h
    obtain ⟨h1, h2, -⟩ := validB_true hv
    exact holes_loop L.wide.toNat L.high.toNat (by omega) (by omega) L hL (by omega) (by omega) hv w)
  have HHL := Lib.hid (show pcC L = 0 → holesL L ≤ 100 from fun h => by
    have hv : validB L = true := by
      unfold pcC at h
      cases hv : validB L with
      | true => rfl
      | false => rw [hv] at h; simp at h
    exact holesL_le hv)
  have HRL := Lib.hid (pcR_len L)
  have HRZ : Hid (ringsZ L = if pcC L = 0 then ((pcR L).length : Int) + holesL L else 0) := Lib.hid rfl
  obtain ⟨c, hc⟩ : ∃ c, pcC L = c := ⟨_, rfl⟩
  obtain ⟨R, hR⟩ : ∃ R, pcR L = R := ⟨_, rfl⟩
  obtain ⟨z, hz⟩ : ∃ z, ringsZ L = z := ⟨_, rfl⟩
  obtain ⟨n, hn⟩ : ∃ n, holesL L = n := ⟨_, rfl⟩
  rw [hc, hR] at HPC
  rw [hc, hn] at HHO HHL
  rw [hc, hR, hz, hn] at HRZ
  rw [hR] at HRL
  rw [hc, hz]
  clear hc hR hz hn hL
  have k0 := Holds.new w L.cells 29
  have kb := (Below.refl w.heap.size w).alloc (Nat.le_refl _) (.cells L.cells 29)
  go_enter Try.func14, Try.ntmps14
  go_wp2_with fail
  refine (HPC.out _).mono ?_
  rintro e w1 ⟨⟨v, rfl, hs, hro⟩, hb1⟩
  have q0 := k0.below hb1 k0.lt
  have qb := below_onto kb hb1
  have hO := hro.1
  have hrl := HRL.out
  obtain ⟨m, hm⟩ : ∃ m, R.length = m := ⟨_, rfl⟩
  rw [hm] at hO hrl HRZ
  obtain ⟨va, vc, rfl⟩ := own_slice hO
  clear k0 kb hb1 hro hO hm
  by_cases hc0 : c = 0
  · subst hc0
    have hnl := HHL.out rfl
    have HE := Lib.hid (show z = (m : Int) + n by rw [HRZ.out, if_pos rfl])
    have HH2 := Lib.hid (HHO.out rfl)
    obtain ⟨r0, -⟩ := q0.facts
    clear HHO HHL HRZ
    go_wp2_with fail
    refine (HH2.out _).mono ?_
    rintro e w2 ⟨rfl, hb2⟩
    have qb2 := below_onto qb hb2
    clear q0 qb hb2 r0
    go_wp2_with fail
    go_ret2
    exact ⟨by rw [HE.out]; rfl, qb2⟩
  · have hcn : (c == 0) = false := by simpa using hc0
    have HE := Lib.hid (show z = 0 by rw [HRZ.out, if_neg hc0])
    clear hc0 HHO HHL HRZ
    go_wp2_with fail
    go_ret2
    exact ⟨by rw [HE.out]; rfl, qb⟩
end Go.Proofs.Ytaeenkjbmlgcmaa
