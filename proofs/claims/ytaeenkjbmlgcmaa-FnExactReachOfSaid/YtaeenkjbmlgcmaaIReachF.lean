/- ReachOf, of the program. -/
import Derived.Test.YtaeenkjbmlgcmaaReachP
import Derived.Test.YtaeenkjbmlgcmaaOrdered
namespace Go.Proofs.Ytaeenkjbmlgcmaa
open Go.RowKit
set_option linter.unusedVariables false
set_option linter.unusedSimpArgs false
attribute [local go_sem ↓] loadRow loadGrid loadLawn loadMirror storeRow storeGrid storeLawn allocRow allocGrid allocLawn buildZero buildSides buildAsk3 buildRobot
attribute [local go_sem] buildAsk3_at buildRobot_at

set_option maxRecDepth 100000 in
set_option maxHeartbeats 2000000 in
theorem implReach_any (L : Lawn) (hL : L.Fits) (x y full : Int) (w : World) :
    Calls Try.prog 24 #[.agg L.cells, .agg #[.int .i8 x, .int .i8 y], .int .i64 full] w fun e w' => (∃ v, e = .returned (.tuple #[v, .int .i64 (askZ L [(x, y)] full 0)]) ∧ w'.ownsRow w.heap.size 37 2 v (reachL L x y full).length (flatV (reachL L x y full))) ∧ Below w.heap.size w w' := by
  have HCK := Lib.hid (fun (g : Nat) (w : World) (h : Holds w g #[.int .i8 x, .int .i8 y]) => askedCheck_any L hL [(x, y)] [] (by simp) (by simp) (.slice (some ⟨g, 0, none⟩) 1 1) (.slice none 0 0) full w
    (.inr ⟨g, 1, rfl, h.lt, fun w' hw' i u hu => by
      have k := h.below hw' h.lt
      match i, hu with
      | 0, hu => simp [flatP] at hu; subst hu; exact k.cell 0
      | 1, hu => simp [flatP] at hu; subst hu; exact k.cell 1⟩) (.inl ⟨rfl, rfl⟩))
  have HAR := Lib.hid (fun (h : askZ L [(x, y)] full 0 = 0) (w : World) => around_robot L hL (askZ_zero h).1 full x y (askZ_zero h).2.2.1 w)
  have HSO := Lib.hid (fun (h : askZ L [(x, y)] full 0 = 0) (l : Found) hp => reach_sorted (askZ_zero h).1 (s := (x, y)) (askZ_zero h).2.2.1 full (l := l) hp)
  have HLN := Lib.hid (fun (h : askZ L [(x, y)] full 0 = 0) => good_length (openP_near (askZ_zero h).1) (found_good (pass := openP L) (s := (x, y)) (askZ_zero h).2.2.1 100))
  have HRL : Hid (reachL L x y full = if askZ L [(x, y)] full 0 = 0 then (ofKind L L.wide.toNat L.high.toNat 0).filter (reachB L (found (openP L) (x, y) 100) full) else []) := Lib.hid rfl
  simp only [List.append_nil, List.length_nil] at HCK
  obtain ⟨C, hC⟩ : ∃ C, askZ L [(x, y)] full 0 = C := ⟨_, rfl⟩
  obtain ⟨R, hR⟩ : ∃ R, reachL L x y full = R := ⟨_, rfl⟩
  rw [hR] at HRL ⊢
  rw [hC] at HCK HAR HSO HLN HRL ⊢
  obtain ⟨F, hF⟩ : ∃ F, found (openP L) (x, y) 100 = F := ⟨_, rfl⟩
  rw [hF] at HAR HSO HLN HRL
  obtain ⟨s, hs⟩ : ∃ s, w.heap.size = s := ⟨_, rfl⟩
  obtain ⟨W0, hW0⟩ : ∃ W0, ((w.alloc (.cells L.cells 29)).alloc (.cells #[.int .i8 x, .int .i8 y] 37)).alloc (.cells #[.int .i8 x, .int .i8 y] 37) = W0 := ⟨_, rfl⟩
  have g0 : Holds W0 s L.cells := by rw [← hW0, ← hs]; exact ((Holds.new _ _ _).alloc _).alloc _
  have g1 : Holds W0 (s + 1) #[.int .i8 x, .int .i8 y] := by rw [← hW0, ← hs]; exact (Holds.new' _ _ _ _ (by simp)).alloc _
  have g2 : Holds W0 (s + 1 + 1) #[.int .i8 x, .int .i8 y] := by rw [← hW0, ← hs]; exact Holds.new' _ _ _ _ (by simp)
  have hb0 : Below s w W0 := by rw [← hW0, ← hs]; exact (((Below.refl w.heap.size w).alloc (Nat.le_refl _) _).alloc (by simp) _).alloc (by simp; omega) _
  have rr := ((Holds.new w L.cells 29).alloc (.cells #[.int .i8 x, .int .i8 y] 37)).row
  rw [hs]
  have HS := Lib.hid hs
  clear hC hR hF hL
  go_enter Try.func24, Try.ntmps24
  go_wp2_with fail
  try rw [hW0]
  try simp only [hs]
  clear hW0 rr hs
  refine (HCK.out _ _ g2).mono ?_
  rintro e w1 ⟨rfl, hb1⟩
  have k0 := g0.below hb1 g0.lt
  have k1 := g1.below hb1 g1.lt
  have hb2 := hb0.trans (hb1.mono (by have := g2.lt; omega))
  clear g0 g1 g2 hb0 hb1 HCK
  obtain ⟨r0, -, -, -, -⟩ := k0.facts
  have c0 : w1.cell? ⟨s + 1, 0, none⟩ = some (.int .i8 x) := k1.cell 0
  have c1 : w1.cell? ⟨s + 1, 1, none⟩ = some (.int .i8 y) := k1.cell 1
  by_cases hc : C = 0
  · subst hc
    have HR2 := HRL.out
    rw [if_pos rfl] at HR2
    have HAR2 := Lib.hid (HAR.out rfl)
    have HSO2 := Lib.hid (HSO.out rfl)
    have HLN2 := Lib.hid (HLN.out rfl)
    have HRR := Lib.hid HR2
    clear HR2 HRL HAR HSO HLN
    go_wp2_with fail
    refine (HAR2.out _).mono ?_
    rintro e w2 ⟨⟨b, l, rfl, hbl, hm, hp⟩, hb3⟩
    have hb4 := hb2.trans (hb3.mono (by have := hb2.size; have := HS.out; omega))
    have hl1 : l.length ≤ 100 := by
      have := hp.length_eq
      have := List.length_filter_le (reachQ L full) F
      have := HLN2.out
      omega
    have hsl := HSO2.out l hp
    rw [← HRR.out] at hsl
    have hl2 : l.length = R.length := by
      have h1 := (sortC_perm (l.map (·.1))).length_eq
      rw [hsl] at h1
      simpa using h1.symm
    have HOR := Lib.hid (show Calls _ _ _ _ fun e w' => (∃ v, e = .returned v ∧ w'.ownsRow w2.heap.size 37 2 v R.length (flatV R)) ∧ Below w2.heap.size w2 w' from by
      have := ordered_any b l hl1 w2 hm
      rw [hl2, hsl, flat_ptOf] at this
      exact this)
    have hsz := hb4.size
    clear k0 k1 hb2 hb3 r0 c0 c1 hm hp hsl hl1 hl2
    go_wp2_with fail
    refine HOR.out.mono ?_
    rintro e w3 ⟨⟨v, rfl, ho⟩, hb5⟩
    have hsz2 : s ≤ w2.heap.size := by rw [← HS.out]; exact hsz
    have HO := Lib.hid (ownsRow_low (A := s) ho hsz2)
    have hb6 := hb4.trans (hb5.mono hsz2)
    clear ho hb4 hb5
    obtain ⟨aA, cA, rfl⟩ := own_slice HO.out
    go_wp2_with fail
    go_ret2
    exact ⟨⟨_, rfl, HO.out⟩, hb6⟩
  · have hcd : (C != 0) = true := by simpa using hc
    have HR2 := HRL.out
    rw [if_neg hc] at HR2
    subst HR2
    clear HRL HAR HSO HLN hc
    go_wp2_with fail
    go_ret2
    exact ⟨⟨_, rfl, World.ownsRow_nil _ _ _ _⟩, hb2⟩
end Go.Proofs.Ytaeenkjbmlgcmaa
