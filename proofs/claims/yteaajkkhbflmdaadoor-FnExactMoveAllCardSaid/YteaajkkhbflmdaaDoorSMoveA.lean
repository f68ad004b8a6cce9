/- A haul of the model, whatever it is. -/
import Derived.Test.YteaajkkhbflmdaaDoorSMoveR
import Derived.Test.YteaajkkhbflmdaaDoorMoveL
namespace Go.Proofs.YteaajkkhbflmdaaDoor
open Go.RowKit Go.Shelf
set_option linter.unusedVariables false

def hlC (L : Lawn) (g : Nat → Nat → Int) (h : Hl) : Int := match hlE5 L g h with | some k => errZ k | none => 0
def hlN (L : Lawn) (g : Nat → Nat → Int) (h : Hl) : Nat → Nat → Int := match hlE5 L g h with | some _ => g | none => hlG5 g h
def HlFits (h : Hl) : Prop := (-128 ≤ h.1 ∧ h.1 ≤ 127) ∧ (-128 ≤ h.2.1 ∧ h.2.1 ≤ 127) ∧ (-128 ≤ h.2.2.1 ∧ h.2.2.1 ≤ 127) ∧ (-128 ≤ h.2.2.2.1 ∧ h.2.2.2.1 ≤ 127) ∧ -128 ≤ h.2.2.2.2 ∧ h.2.2.2.2 ≤ 127

theorem smove_any (L : Lawn) (hL : L.Fits) (g : Nat → Nat → Int) (hv : levB L g = true) (b c : Nat) (hbc : b ≠ c) (h : Hl) (F : HlFits h) (N : Nat) (hN : N ≤ c) (w : World) (kb : Holds w b L.cells) (kc : Holds w c (levV g)) :
    Calls Tryd.prog 34 #[.pointer (some ⟨b, 0, none⟩), .pointer (some ⟨c, 0, none⟩), .agg (hlA h)] w fun e w' => e = .returned (.int .i64 (hlC L g h)) ∧ Holds w' b L.cells ∧ Holds w' c (levV (hlN L g h)) ∧ Only [c] w w' := by
  have hV := (levB_true hv).1
  obtain ⟨b1, b2, -⟩ := validB_true hV
  obtain ⟨fx, fy, tx, ty, n⟩ := h
  obtain ⟨Fa, Fb, Fc, Fd, Fe⟩ := F
  have hlc := kc.lt
  have bad : ∀ (k : Nat) (z : Int), hlE L g fx fy tx ty n = some k → errZ k = z → Calls Tryd.prog 34 #[.pointer (some ⟨b, 0, none⟩), .pointer (some ⟨c, 0, none⟩), .agg #[.int .i8 fx, .int .i8 fy, .int .i8 tx, .int .i8 ty, .int .i8 n]] w (fun e w' => e = .returned (.int .i64 z) ∧ Below w.heap.size w w') → Calls Tryd.prog 34 #[.pointer (some ⟨b, 0, none⟩), .pointer (some ⟨c, 0, none⟩), .agg (hlA (fx, fy, tx, ty, n))] w fun e w' => e = .returned (.int .i64 (hlC L g (fx, fy, tx, ty, n))) ∧ Holds w' b L.cells ∧ Holds w' c (levV (hlN L g (fx, fy, tx, ty, n))) ∧ Only [c] w w' := by
    intro k z hk hz hc
    have e1 : hlC L g (fx, fy, tx, ty, n) = z := by unfold hlC hlE5; simp only [hk]; exact hz
    have e2 : hlN L g (fx, fy, tx, ty, n) = g := by unfold hlN hlE5; simp only [hk]
    rw [e1, e2]
    refine hc.mono ?_
    rintro e w' ⟨rfl, hb⟩
    exact ⟨rfl, kb.below hb kb.lt, kc.below hb kc.lt, Only.ofBelow hb⟩
  cases hf : isB L fx fy with
  | false => exact bad 0 2 (by simp [hlE, hlOut, hf]) rfl (smove_out1 L hL hV b c fx fy tx ty n ⟨Fa, Fb, Fc, Fd, Fe⟩ w kb hf)
  | true =>
    cases ht : isB L tx ty with
    | false => exact bad 0 2 (by simp [hlE, hlOut, ht]) rfl (smove_out2 L hL hV b c fx fy tx ty n ⟨Fa, Fb, Fc, Fd, Fe⟩ w kb hf ht)
    | true =>
      cases hn : inB n 1 18 with
      | false =>
        refine bad 0 2 ?_ rfl (smove_out3 L hL hV b c fx fy tx ty n ⟨Fa, Fb, Fc, Fd, Fe⟩ w kb hf ht hn)
        simp only [inB, Bool.and_eq_false_iff, decide_eq_false_iff_not] at hn
        have : decide (n < 1) = true ∨ decide (18 < n) = true := by simp only [decide_eq_true_eq]; omega
        rcases this with h | h <;> simp [hlE, hlOut, h]
      | true =>
        have hn' := hn
        simp only [inB, Bool.and_eq_true, decide_eq_true_eq] at hn'
        have ho : hlOut L fx fy tx ty n = false := by simp [hlOut, hf, ht]; omega
        cases ha : grassB L fx fy with
        | false => exact bad 1 4 (by simp [hlE, ho, hlBare, ha]) rfl (smove_bare1 L hL hV b c fx fy tx ty n ⟨Fa, Fb, Fc, Fd, Fe⟩ w kb hf ht hn ha)
        | true =>
          cases hz : grassB L tx ty with
          | false => exact bad 1 4 (by simp [hlE, ho, hlBare, hz]) rfl (smove_bare2 L hL hV b c fx fy tx ty n ⟨Fa, Fb, Fc, Fd, Fe⟩ w kb hf ht hn ha hz)
          | true =>
            have hr : hlBare L fx fy tx ty = false := by simp [hlBare, ha, hz]
            by_cases hs : fx = tx ∧ fy = ty
            · obtain ⟨rfl, rfl⟩ := hs
              exact bad 2 4 (by simp [hlE, ho, hr]) rfl (smove_same L hL hV b c fx fy n ⟨Fa, Fb, Fe⟩ w kb hf hn ha)
            · have i1 := isB_in hf
              have i2 := isB_in ht
              obtain ⟨x1, rfl⟩ : ∃ k : Nat, fx = k := ⟨fx.toNat, by omega⟩
              obtain ⟨y1, rfl⟩ : ∃ k : Nat, fy = k := ⟨fy.toNat, by omega⟩
              obtain ⟨x2, rfl⟩ : ∃ k : Nat, tx = k := ⟨tx.toNat, by omega⟩
              obtain ⟨y2, rfl⟩ : ∃ k : Nat, ty = k := ⟨ty.toNat, by omega⟩
              have hne : ¬(y2 = y1 ∧ x2 = x1) := by omega
              have hG : upd (upd g y1 x1 (g y1 x1 - n)) y2 x2 (g y2 x2 + n) = hlG g x1 y1 x2 y2 n := by
                unfold hlG
                simp only [Int.toNat_natCast]
                congr 1
                unfold upd
                rw [if_neg hne]
              have hd : levB L (hlG g x1 y1 x2 y2 n) = (inB (g y1 x1 - n) (-9) 9 && inB (g y2 x2 + n) (-9) 9) := by
                rw [← hG]
                exact levB_upd2 hv y1 x1 y2 x2 _ _ (by omega) (by omega) (by omega) (by omega) ha hz (by omega)
              obtain ⟨p, hp⟩ : ∃ p, inB (g y1 x1 - n) (-9) 9 = p := ⟨_, rfl⟩
              obtain ⟨q, hq⟩ : ∃ q, inB (g y2 x2 + n) (-9) 9 = q := ⟨_, rfl⟩
              rw [hp, hq] at hd
              have e : hlE L g x1 y1 x2 y2 n = if p && q then none else some 3 := by simp only [hlE, ho, hr, hs, hd]; simp
              have eC : hlC L g ((x1 : Int), (y1 : Int), (x2 : Int), (y2 : Int), n) = if p && q then 0 else 4 := by
                unfold hlC hlE5
                simp only [e]
                cases p <;> cases q <;> rfl
              have eN : hlN L g ((x1 : Int), (y1 : Int), (x2 : Int), (y2 : Int), n) = fun y x => if p && q then hlG g x1 y1 x2 y2 n y x else g y x := by
                unfold hlN hlE5
                simp only [e]
                cases p <;> cases q <;> rfl
              rw [eC, eN]
              by_cases hx : x1 = x2
              · subst hx
                exact smove_runx L hL g hv b c hbc x1 y1 y2 n w kb kc N hN (by omega) (by omega) (by omega) ha hz (by omega) (by omega) (by omega) _ hG p q hp hq
              · exact smove_run L hL g hv b c hbc x1 y1 x2 y2 n w kb kc N hN (by omega) (by omega) (by omega) (by omega) ha hz (by omega) (by omega) hx _ hG p q hp hq
end Go.Proofs.YteaajkkhbflmdaaDoor
