/- BackHome, of the program. -/
import Derived.Test.YtaeenkjbmlgcmaaBackP
namespace Go.Proofs.Ytaeenkjbmlgcmaa
open Go.RowKit
set_option linter.unusedVariables false
set_option linter.unusedSimpArgs false
attribute [local go_sem ↓] loadRow loadGrid loadLawn loadMirror storeRow storeGrid storeLawn allocRow allocGrid allocLawn buildZero buildSides

set_option maxRecDepth 100000 in
set_option maxHeartbeats 2000000 in
theorem implBackH_any (L : Lawn) (hL : L.Fits) (hx hy x y : Int) (w : World) :
    Calls Try.prog 39 #[.agg L.cells, .agg #[.int .i8 hx, .int .i8 hy], .agg #[.int .i8 x, .int .i8 y]] w fun e w' => (∃ v, e = .returned (.tuple #[v, .int .i64 (homeC L x y hx hy)]) ∧ w'.ownsRow w.heap.size 37 2 v (backL L (x, y) (hx, hy)).length (flatP (backL L (x, y) (hx, hy)))) ∧ Below w.heap.size w w' := by
  have HHF := Lib.hid (fun (w : World) => implHomeF_any L hL x y hx hy w)
  have HCE := Lib.hid (show homeC L x y hx hy = 0 → ∀ w, Calls Try.prog 85 #[.string (homeA L x y hx hy), .agg #[.int .i8 x, .int .i8 y], .func (.func 78) #[.agg L.cells] #[]] w fun e w' => (∃ v, e = .returned v ∧ w'.ownsRow w.heap.size 37 2 v (backL L (x, y) (hx, hy)).length (flatP (backL L (x, y) (hx, hy)))) ∧ Below w.heap.size w w' from fun h0 w => by
    obtain ⟨h1, h2, h3, h4⟩ := homeC_zero h0
    have e1 : homeA L x y hx hy = homeS L (x, y) (hx, hy) := by unfold homeA; rw [if_pos h0]
    have e2 : backL L (x, y) (hx, hy) = backW L (x, y) (hx, hy) := by unfold backL; rw [if_pos h0]
    have h5 := wayC_home h1 h3 h2 h4
    have h6 := gone_home h1 h3 h2 h4
    rw [e1, e2]
    unfold backW
    obtain ⟨S, hS⟩ : ∃ S, homeS L (x, y) (hx, hy) = S := ⟨_, rfl⟩
    rw [hS] at h5 h6 ⊢
    have := cells_any L hL h1 S h5 x y _ h6 w
    have hl : (cellsK (x, y) S.data.toList (S.size + 1)).length = S.size + 1 := by simp [cellsK]
    rw [hl]
    exact this)
  have HNZ := Lib.hid (show homeC L x y hx hy ≠ 0 → backL L (x, y) (hx, hy) = [] from fun h => by unfold backL; rw [if_neg h])
  obtain ⟨c, hc⟩ : ∃ c, homeC L x y hx hy = c := ⟨_, rfl⟩
  obtain ⟨A, hA⟩ : ∃ A, homeA L x y hx hy = A := ⟨_, rfl⟩
  obtain ⟨R, hR⟩ : ∃ R, backL L (x, y) (hx, hy) = R := ⟨_, rfl⟩
  rw [hc, hA] at HHF HCE
  rw [hc] at HNZ ⊢
  rw [hR] at HCE HNZ ⊢
  clear hc hA hR hL
  have k0 := ((Holds.new w L.cells 29).alloc (.cells #[.int .i8 hx, .int .i8 hy] 37)).alloc (.cells #[.int .i8 x, .int .i8 y] 37)
  have k2 := Holds.new' ((w.alloc (.cells L.cells 29)).alloc (.cells #[.int .i8 hx, .int .i8 hy] 37)) #[.int .i8 x, .int .i8 y] 37 (w.heap.size + 1 + 1) (by simp)
  have kb := (((Below.refl w.heap.size w).alloc (Nat.le_refl _) (.cells L.cells 29)).alloc (by simp) (.cells #[.int .i8 hx, .int .i8 hy] 37)).alloc (by simp; omega) (.cells #[.int .i8 x, .int .i8 y] 37)
  go_enter Try.func39, Try.ntmps39
  go_wp2_with fail
  refine (HHF.out _).mono ?_
  rintro e w1 ⟨rfl, hb1⟩
  have q0 := k0.below hb1 k0.lt
  have q2 := k2.below hb1 k2.lt
  have qb := below_onto kb hb1
  clear k0 k2 kb hb1
  by_cases hc0 : c = 0
  · subst hc0
    obtain ⟨r0, -⟩ := q0.facts
    obtain ⟨-, -, d2, -⟩ := q2.facts
    go_wp2_with fail
    refine (HCE.out trivial _).mono ?_
    rintro e w2 ⟨⟨v, rfl, ho⟩, hb2⟩
    have qb2 := below_onto qb hb2
    have HO := Lib.hid ho
    obtain ⟨a, cp, rfl⟩ := own_slice ho
    have hsz := qb.size
    clear ho hb2 q0 q2 qb r0 d2
    go_wp2_with fail
    go_ret2
    exact ⟨⟨_, rfl, ownsRow_low HO.out hsz⟩, qb2⟩
  · have hcn : (c == 0) = false := by simpa using hc0
    have HE := Lib.hid (HNZ.out hc0)
    clear hc0
    go_wp2_with fail
    go_ret2
    exact ⟨⟨_, rfl, by rw [HE.out]; exact World.ownsRow_nil _ _ _ _⟩, qb⟩
end Go.Proofs.Ytaeenkjbmlgcmaa
