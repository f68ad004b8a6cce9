/- StepsTo, of the program. -/
import Derived.Test.YtgmahakpmjfhhaaRRCheck2
import Derived.Test.YtgmahakpmjfhhaaRRIStepsFrom
import Derived.Test.YtgmahakpmjfhhaaRRStepsAt
import Derived.Test.YtgmahakpmjfhhaaRRGrowP
namespace Go.Proofs.YtgmahakpmjfhhaaRR
open Go.RowKit
set_option linter.unusedVariables false
attribute [local go_sem ↓] loadRow loadGrid loadLawn loadMirror storeRow storeGrid storeLawn allocRow allocGrid allocLawn buildZero buildSides

/-- What StepsTo answers: the steps, and the code. -/
def toR (L : Lawn) (x y x2 y2 : Int) : Option Int := alLook (found (openP L) (x, y) 100) (x2, y2)
def toC (L : Lawn) (x y x2 y2 : Int) : Int := if validB L then (if isB L x y && isB L x2 y2 then (if openB L x y && openB L x2 y2 then (if (toR L x y x2 y2).isSome then 0 else 6) else 4) else 2) else 1
def toN (L : Lawn) (x y x2 y2 : Int) : Int := if toC L x y x2 y2 = 0 then (toR L x y x2 y2).getD 0 else 0

set_option maxRecDepth 100000 in
set_option maxHeartbeats 2000000 in
theorem implStepsTo_any (L : Lawn) (hL : L.Fits) (x y x2 y2 : Int) (w : World) :
    Calls Try.prog 76 #[.agg L.cells, .agg #[.int .i8 x, .int .i8 y], .agg #[.int .i8 x2, .int .i8 y2]] w fun e w' => e = .returned (.tuple #[.int .i64 (toN L x y x2 y2), .int .i64 (toC L x y x2 y2)]) ∧ Below w.heap.size w w' := by
  obtain ⟨v, hv⟩ : ∃ v, validB L = v := ⟨_, rfl⟩
  obtain ⟨f, hf⟩ : ∃ f, (isB L x y && isB L x2 y2) = f := ⟨_, rfl⟩
  obtain ⟨o, ho⟩ : ∃ o, openB L x y = o := ⟨_, rfl⟩
  obtain ⟨o2, ho2⟩ : ∃ o, openB L x2 y2 = o := ⟨_, rfl⟩
  obtain ⟨r, hr⟩ : ∃ r, toR L x y x2 y2 = r := ⟨_, rfl⟩
  obtain ⟨c, hc⟩ : ∃ c, toC L x y x2 y2 = c := ⟨_, rfl⟩
  obtain ⟨n, hn⟩ : ∃ n, toN L x y x2 y2 = n := ⟨_, rfl⟩
  have HC := Lib.hid (show c = if v then (if f then (if o && o2 then (if r.isSome then 0 else 6) else 4) else 2) else 1 by rw [← hc]; unfold toC; rw [hv, hf, ho, ho2, hr])
  have HN := Lib.hid (show n = if c = 0 then r.getD 0 else 0 by rw [← hn]; unfold toN; rw [hc, hr])
  have HCK := Lib.hid (show ∀ (g : Nat) (w : World), Holds w g #[.int .i8 x, .int .i8 y, .int .i8 x2, .int .i8 y2] → Calls Try.prog 108 #[.agg L.cells, .slice (some ⟨g, 0, none⟩) 2 2] w fun e w' => e = .returned (.int .i64 (told v f)) ∧ Below w.heap.size w w' from fun g w h => by
    have := check2_any L hL x y x2 y2 g w h
    rwa [hv, hf] at this)
  have HOP := Lib.hid (show v = true → ∀ w, Calls Try.prog 144 #[.agg L.cells, .agg #[.int .i8 x, .int .i8 y]] w fun e w' => e = .returned (.bool o) ∧ Below w.heap.size w w' from fun h w => ho ▸ isOpen_any L (hv.trans h) hL x y w)
  have HOP2 := Lib.hid (show v = true → ∀ w, Calls Try.prog 144 #[.agg L.cells, .agg #[.int .i8 x2, .int .i8 y2]] w fun e w' => e = .returned (.bool o2) ∧ Below w.heap.size w w' from fun h w => ho2 ▸ isOpen_any L (hv.trans h) hL x2 y2 w)
  have HST := Lib.hid (show v = true → o = true → ∀ w, Calls Try.prog 145 #[.agg #[.int .i8 x, .int .i8 y], .func (.func 144) #[.agg L.cells] #[]] w fun e w' => (e = .returned (.map (some (w.heap.size + 1))) ∧ MapIs w' (w.heap.size + 1) cellK valI (found (openP L) (x, y) 100)) ∧ Below w.heap.size w w' from fun h h2 w =>
    steps_at L _ (openP L) (pass_isOpen L) (fun x y w => isOpen_any L (hv.trans h) hL x y w) (openP_near (hv.trans h)) (x, y) (ho.trans h2) w)
  have HR := Lib.hid (show alLook (found (openP L) (x, y) 100) (x2, y2) = r from hr)
  rw [hn, hc]
  clear hv hf ho ho2 hr hc hn hL
  go_enter Try.func76, Try.ntmps76
  go_wp2_with fail
  obtain ⟨W0, hW0⟩ : ∃ W0, (((w.alloc (.cells L.cells 28)).alloc (.cells #[.int .i8 x, .int .i8 y] 35)).alloc (.cells #[.int .i8 x2, .int .i8 y2] 35)).alloc (.cells #[.int .i8 x, .int .i8 y, .int .i8 x2, .int .i8 y2] 35) = W0 := ⟨_, rfl⟩
  have g0 : Holds W0 w.heap.size L.cells := by rw [← hW0]; exact (((Holds.new _ _ _).alloc _).alloc _).alloc _
  have c0 : Holds W0 (w.heap.size + 1) #[.int .i8 x, .int .i8 y] := by rw [← hW0]; exact ((Holds.new' _ _ _ _ (by simp)).alloc _).alloc _
  have b0 : Holds W0 (w.heap.size + 1 + 1) #[.int .i8 x2, .int .i8 y2] := by rw [← hW0]; exact (Holds.new' _ _ _ _ (by simp)).alloc _
  have s0 : Holds W0 (w.heap.size + 1 + 1 + 1) #[.int .i8 x, .int .i8 y, .int .i8 x2, .int .i8 y2] := by rw [← hW0]; exact Holds.new' _ _ _ _ (by simp)
  have hb : Below w.heap.size w W0 := by rw [← hW0]; exact ((((Below.refl w.heap.size w).alloc (Nat.le_refl _) _).alloc (by simp) _).alloc (by simp; omega) _).alloc (by simp; omega) _
  rw [hW0]
  clear hW0
  refine (HCK.out _ _ s0).mono ?_
  rintro e w1 ⟨rfl, hb1⟩
  have g1 := g0.below hb1 g0.lt
  have c1 := c0.below hb1 c0.lt
  have b1 := b0.below hb1 b0.lt
  have jB := below_onto hb hb1
  clear g0 c0 b0 s0 hb hb1
  cases v
  case false =>
    have HE := Lib.hid (show c = 1 ∧ n = 0 by have h1 := HC.out; have h2 := HN.out; simp at h1; subst h1; simpa using h2)
    simp only [told, Bool.false_eq_true, if_false]
    go_wp2_with fail
    go_ret2
    exact ⟨by rw [HE.out.1, HE.out.2]; rfl, jB⟩
  case true =>
    cases f
    case false =>
      have HE := Lib.hid (show c = 2 ∧ n = 0 by have h1 := HC.out; have h2 := HN.out; simp at h1; subst h1; simpa using h2)
      simp only [told, if_true, Bool.false_eq_true, if_false]
      go_wp2_with fail
      go_ret2
      exact ⟨by rw [HE.out.1, HE.out.2]; rfl, jB⟩
    case true =>
      simp only [told, if_true]
      obtain ⟨r1, -, -, -, l1⟩ := g1.facts
      obtain ⟨-, -, d1, -, -⟩ := c1.facts
      go_wp2_with fail
      refine (HOP.out trivial _).mono ?_
      rintro e w2 ⟨rfl, hb1⟩
      have g2 := g1.below hb1 g1.lt
      have c2 := c1.below hb1 c1.lt
      have b2 := b1.below hb1 b1.lt
      have jB2 := below_onto jB hb1
      clear g1 c1 b1 jB hb1 r1 d1
      cases o
      case false =>
        have HE := Lib.hid (show c = 4 ∧ n = 0 by have h1 := HC.out; have h2 := HN.out; simp at h1; subst h1; simpa using h2)
        go_wp2_with fail
        go_ret2
        exact ⟨by rw [HE.out.1, HE.out.2]; rfl, jB2⟩
      case true =>
        obtain ⟨r1, -, -, -, l1⟩ := g2.facts
        obtain ⟨-, -, d1, -, -⟩ := b2.facts
        go_wp2_with fail
        refine (HOP2.out trivial _).mono ?_
        rintro e w3 ⟨rfl, hb1⟩
        have g3 := g2.below hb1 g2.lt
        have c3 := c2.below hb1 c2.lt
        have b3 := b2.below hb1 b2.lt
        have jB3 := below_onto jB2 hb1
        clear g2 c2 b2 jB2 hb1 r1 d1
        cases o2
        case false =>
          have HE := Lib.hid (show c = 4 ∧ n = 0 by have h1 := HC.out; have h2 := HN.out; simp at h1; subst h1; simpa using h2)
          go_wp2_with fail
          go_ret2
          exact ⟨by rw [HE.out.1, HE.out.2]; rfl, jB3⟩
        case true =>
          have HST2 := Lib.hid (HST.out trivial trivial)
          have HB := Lib.hid (show ∀ w', Below w3.heap.size w3 w' → rowAt w' w.heap.size = L.cells ∧ (∀ j, w'.cell? ⟨w.heap.size + 1, j, none⟩ = #[Value.int .i8 x, .int .i8 y][j]?) ∧ ∀ j, w'.cell? ⟨w.heap.size + 1 + 1, j, none⟩ = #[Value.int .i8 x2, .int .i8 y2][j]? from fun w' hw' => ⟨(g3.below hw' g3.lt).row, (c3.below hw' c3.lt).cell, (b3.below hw' b3.lt).cell⟩)
          have lw := g3.lt
          obtain ⟨F, hF⟩ : ∃ F, found (openP L) (x, y) 100 = F := ⟨_, rfl⟩
          rw [hF] at HST2 HR
          clear g3 c3 b3 hF HST HOP HOP2 HCK
          go_wp2_with fail
          refine wp_region_growP 10 3 [5, 6, 7, 8, 9] (fun p w' => MapIs w' (p + 1) cellK valI F) (fun p w1 w2 h hb => h.below hb h.lt)
            (fun p => [.agg #[.int .i8 x, .int .i8 y], .agg L.cells, .func (.func 144) #[.agg L.cells] #[], .map (some (p + 1)), .agg #[.int .i8 x2, .int .i8 y2], .tuple #[.int .i64 (r.getD 0), .bool r.isSome], .tuple #[.int .i64 (r.getD 0), .bool r.isSome], .int .i64 (r.getD 0), .bool r.isSome, .int .i64 (r.getD 0)]) (by
              intro p p' j h1 h2
              match j with
              | 0 => rfl
              | 1 => rfl
              | 2 => rfl
              | 3 => exact absurd rfl h1
              | 4 => rfl
              | 5 => rfl
              | 6 => rfl
              | 7 => rfl
              | 8 => rfl
              | 9 => rfl
              | j + 10 => rfl) (by kernel_rfl) (by kernel_rfl) (by kernel_rfl) ?_
          intro p
          simp only [List.take_succ_cons, List.take_zero, List.drop_succ_cons, List.drop_zero]
          refine seqP_free (v := .agg #[.int .i8 x, .int .i8 y]) rfl rfl rfl rfl ?_ ?_
          · intro w' hw' K hK
            obtain ⟨r1, d1, d2⟩ := HB.out _ hw'
            go_wp2_with fail
            exact hK _ _ rfl (Below.refl _ _)
          simp only [Act.put, List.setIfInBounds_toArray, List.set_cons_succ, List.set_cons_zero]
          refine seqP_free (v := .agg L.cells) rfl rfl rfl rfl ?_ ?_
          · intro w' hw' K hK
            obtain ⟨r1, d1, d2⟩ := HB.out _ hw'
            go_wp2_with fail
            exact hK _ _ rfl (Below.refl _ _)
          simp only [Act.put, List.setIfInBounds_toArray, List.set_cons_succ, List.set_cons_zero]
          refine seqP_free (v := .func (.func 144) #[.agg L.cells] #[]) rfl rfl rfl rfl ?_ ?_
          · intro w' hw' K hK
            go_wp2_with fail
            exact hK _ _ rfl (Below.refl _ _)
          simp only [Act.put, List.setIfInBounds_toArray, List.set_cons_succ, List.set_cons_zero]
          refine seqP_call (v := .map (some (p + 1))) rfl rfl rfl ?_ ?_
          · intro w' hw' hp K hK
            go_wp2_with fail
            refine (HST2.out _).mono ?_
            rintro e w4 ⟨⟨rfl, hM⟩, hb4⟩
            exact hK _ _ (by rw [hp]; rfl) hb4 (by rw [hp]; exact hM)
          simp only [Act.put, List.setIfInBounds_toArray, List.set_cons_succ, List.set_cons_zero]
          refine seqP_free (v := .agg #[.int .i8 x2, .int .i8 y2]) rfl rfl rfl rfl ?_ ?_
          · intro w' hw' K hK
            obtain ⟨r1, d1, d2⟩ := HB.out _ hw'
            go_wp2_with fail
            exact hK _ _ rfl (Below.refl _ _)
          simp only [Act.put, List.setIfInBounds_toArray, List.set_cons_succ, List.set_cons_zero]
          refine seqP_dep (v := .tuple #[.int .i64 (r.getD 0), .bool r.isSome]) rfl rfl rfl rfl ?_ ?_
          · intro w' hw' hM K hK
            have hlk := (hM.look cellKey Try.underlying134 zero64 (x2, y2)).2
            rw [HR.out] at hlk
            simp only [cellK, cellV, valI] at hlk
            go_wp2_with fail
            exact hK _ _ rfl (Below.refl _ _)
          simp only [Act.put, List.setIfInBounds_toArray, List.set_cons_succ, List.set_cons_zero]
          refine seqP_dep (v := .tuple #[.int .i64 (r.getD 0), .bool r.isSome]) rfl rfl rfl rfl ?_ ?_
          · intro w' hw' hM K hK
            go_wp2_with fail
            exact hK _ _ rfl (Below.refl _ _)
          simp only [Act.put, List.setIfInBounds_toArray, List.set_cons_succ, List.set_cons_zero]
          refine seqP_dep (v := .int .i64 (r.getD 0)) rfl rfl rfl rfl ?_ ?_
          · intro w' hw' hM K hK
            go_wp2_with fail
            exact hK _ _ rfl (Below.refl _ _)
          simp only [Act.put, List.setIfInBounds_toArray, List.set_cons_succ, List.set_cons_zero]
          refine seqP_dep (v := .bool r.isSome) rfl rfl rfl rfl ?_ ?_
          · intro w' hw' hM K hK
            go_wp2_with fail
            exact hK _ _ rfl (Below.refl _ _)
          simp only [Act.put, List.setIfInBounds_toArray, List.set_cons_succ, List.set_cons_zero]
          refine seqP_dep (v := .int .i64 (r.getD 0)) rfl rfl rfl rfl ?_ ?_
          · intro w' hw' hM K hK
            go_wp2_with fail
            exact hK _ _ rfl (Below.refl _ _)
          simp only [Act.put, List.setIfInBounds_toArray, List.set_cons_succ, List.set_cons_zero]
          refine seqP_nil ?_
          intro w4 _ hb4 _
          have jB4 := below_onto jB3 hb4
          clear HB hb4 jB3
          cases r
          case none =>
            have HE := Lib.hid (show c = 6 ∧ n = 0 by have h1 := HC.out; have h2 := HN.out; simp at h1; subst h1; simpa using h2)
            simp only [Option.getD_none, Option.isSome_none]
            go_wp2_with fail
            go_ret2
            exact ⟨by rw [HE.out.1, HE.out.2]; rfl, jB4⟩
          case some u =>
            have HE := Lib.hid (show c = 0 ∧ n = u by have h1 := HC.out; have h2 := HN.out; simp at h1; subst h1; simpa using h2)
            simp only [Option.getD_some, Option.isSome_some]
            go_wp2_with fail
            go_ret2
            exact ⟨by rw [HE.out.1, HE.out.2]; rfl, jB4⟩
end Go.Proofs.YtgmahakpmjfhhaaRR
