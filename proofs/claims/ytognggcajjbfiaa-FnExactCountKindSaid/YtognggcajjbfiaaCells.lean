/- CountKind and CellsOf of the model. -/
import Derived.Test.YtognggcajjbfiaaAll
namespace Go.Proofs.Ytognggcajjbfiaa
open Go.RowKit
attribute [local go_sem ↓] loadRow loadGrid loadLawn loadMirror storeRow storeGrid storeLawn allocRow allocGrid allocLawn buildZero buildSides

/-- What CountKind answers. -/
def countV (L : Lawn) (K : Int) : Value :=
  if told (validB L) (inB K 0 3) = 0 then .tuple #[.int .i64 (ofKind L L.wide.toNat L.high.toNat K).length, .int .i64 0] else .tuple #[.int .i64 0, .int .i64 (told (validB L) (inB K 0 3))]
theorem valid_sides {L : Lawn} (h : validB L = true) : ∃ W H : Nat, (W ≤ 10 ∧ H ≤ 10) ∧ (1 ≤ W ∧ 1 ≤ H) ∧ L.wide = W ∧ L.high = H := by
  obtain ⟨h1, h2, -⟩ := validB_true h
  exact ⟨L.wide.toNat, L.high.toNat, by omega, by omega, by omega, by omega⟩

set_option maxRecDepth 100000 in
set_option maxHeartbeats 1000000 in
theorem specCount_any (L : Lawn) (hL : L.Fits) (K : Int) (w : World) :
    Calls Try.prog 47 #[.agg L.cells, .int .i64 K] w fun e w' => e = .returned (countV L K) ∧ Below w.heap.size w w' := by
  have HL := Lib.hid hL
  clear hL
  obtain ⟨v, hv⟩ : ∃ v, validB L = v := ⟨_, rfl⟩
  obtain ⟨f, hf⟩ : ∃ f, inB K 0 3 = f := ⟨_, rfl⟩
  have HV := Lib.hid hv
  have HF := Lib.hid hf
  have HK := Lib.hid (show countV L K = if told v f = 0 then .tuple #[.int .i64 (ofKind L L.wide.toNat L.high.toNat K).length, .int .i64 0] else .tuple #[.int .i64 0, .int .i64 (told v f)] by simp only [countV, hv, hf])
  clear hv hf
  go_enter Try.func47, Try.ntmps47
  go_wp2_with (go_at_call 88; refine (l01Kind_is _ _ HF.out _).mono ?_; rintro e w1 ⟨rfl, rfl⟩)
  have g0 : Holds (w.alloc (.cells L.cells 28)) w.heap.size L.cells := Holds.new _ _ _
  have hb : Below w.heap.size w (w.alloc (.cells L.cells 28)) := (Below.refl w.heap.size w).alloc (Nat.le_refl _) _
  obtain ⟨W0, hW⟩ : ∃ W0, w.alloc (.cells L.cells 28) = W0 := ⟨_, rfl⟩
  rw [hW] at g0 hb ⊢
  clear hW
  refine (told_any L HL.out w.heap.size _ g0 _).mono ?_
  rw [HV.out]
  rintro e w2 ⟨rfl, hb1⟩
  have g1 := g0.below hb1 g0.lt
  have hb2 := below_onto hb hb1
  clear g0 hb hb1 W0
  cases v <;> cases f
  case true.true =>
    obtain ⟨Wn, Hn, ⟨hW, hH⟩, ⟨hW1, hH1⟩, hLw, hLh⟩ := valid_sides HV.out
    have HC := Lib.hid (show (ofKind L L.wide.toNat L.high.toNat K).length = (ofKind L Wn Hn K).length by rw [hLw, hLh]; rfl)
    have hn : (ofKind L Wn Hn K).length ≤ 100 := by
      refine Nat.le_trans (List.length_filter_le _ _) ?_
      rw [allC_length]
      exact Nat.le_trans (Nat.mul_le_mul hH hW) (by omega)
    simp only [told, if_true]
    go_wp2_with fail
    refine (l01Cells_any Wn Hn hW hH hW1 hH1 L HL.out hLw hLh K w.heap.size _ g1).mono ?_
    rintro e w3 ⟨vA, rfl, hA, hb3⟩
    have hb4 := below_onto hb2 hb3
    obtain ⟨n, hnn⟩ : ∃ n, (ofKind L Wn Hn K).length = n := ⟨_, rfl⟩
    have HN := Lib.hid hnn
    rw [hnn] at hA hn
    have hform : ∃ a c, vA = .slice a n c := by
      rcases hA.2 with ⟨rfl, rfl⟩ | ⟨g, cap, cur, rfl, -⟩
      · exact ⟨_, _, rfl⟩
      · exact ⟨_, _, rfl⟩
    obtain ⟨a, c, rfl⟩ := hform
    clear hA hnn hLw hLh
    go_wp2_with fail
    go_ret2
    refine ⟨?_, hb4⟩
    rw [HK.out]
    simp [told, HC.out, HN.out]
  all_goals
    simp only [told, if_true, Bool.false_eq_true, if_false]
    go_wp2_with fail
    go_ret2
    exact ⟨by rw [HK.out]; rfl, hb2⟩
end Go.Proofs.Ytognggcajjbfiaa
