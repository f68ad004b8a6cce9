/- l04Told of the model, over one cell that has to be open. -/
import Derived.Test.YtaeenkjbmlgcmaaJStepsFrom
import Derived.Test.YtaeenkjbmlgcmaaZG
namespace Go.Proofs.Ytaeenkjbmlgcmaa
open Go.RowKit
set_option linter.unusedVariables false
set_option linter.unusedSimpArgs false
attribute [local go_sem ↓] loadRow loadGrid loadLawn loadMirror storeRow storeGrid storeLawn allocRow allocGrid allocLawn buildZero buildSides

set_option maxRecDepth 100000 in
set_option maxHeartbeats 1000000 in
theorem l04Told_one (L : Lawn) (hL : L.Fits) (x y : Int) (x0 : -128 ≤ x) (x1 : x ≤ 127) (y0 : -128 ≤ y) (y1 : y ≤ 127) (b g : Nat) (w : World) (h : Holds w b L.cells) (hc : Holds w g #[.int .i8 x, .int .i8 y]) :
    Calls Try.prog 68 #[.pointer (some ⟨b, 0, none⟩), .slice (some ⟨g, 0, none⟩) 1 1, .bool true] w fun e w' => e = .returned (.int .i64 (stepsC L x y)) ∧ Below w.heap.size w w' := by
  obtain ⟨v, hv⟩ : ∃ v, validB L = v := ⟨_, rfl⟩
  obtain ⟨f, hf⟩ : ∃ f, isB L x y = f := ⟨_, rfl⟩
  obtain ⟨o, ho⟩ : ∃ o, openB L x y = o := ⟨_, rfl⟩
  obtain ⟨c, hcc⟩ : ∃ c, stepsC L x y = c := ⟨_, rfl⟩
  have HC := Lib.hid (show c = if v then (if f then (if o then 0 else 4) else 2) else 1 by rw [← hcc]; unfold stepsC; rw [hv, hf, ho])
  have HOK := Lib.hid (show ∀ w, Holds w b L.cells → Calls Try.prog 45 #[.pointer (some ⟨b, 0, none⟩)] w fun e w' => e = .returned (.bool v) ∧ Below w.heap.size w w' from fun w h => hv ▸ l01Ok_any L hL b w h)
  have HIS := Lib.hid (fun (w : World) (h : Holds w b L.cells) => l01Is_is L hL b x y w h x0 x1 y0 y1 f hf)
  have HOP := Lib.hid (show v = true → f = true → ∀ w, Holds w b L.cells → Calls Try.prog 59 #[.pointer (some ⟨b, 0, none⟩), .agg #[.int .i8 x, .int .i8 y]] w fun e w' => e = .returned (.bool o) ∧ Below w.heap.size w w' from fun h1 h2 w h => by
    have hxy := isB_near (hv.trans h1) (hf.trans h2)
    obtain ⟨a, rfl⟩ : ∃ a : Nat, x = a := ⟨x.toNat, by omega⟩
    obtain ⟨c, rfl⟩ : ∃ c : Nat, y = c := ⟨y.toNat, by omega⟩
    have := open_any L hL b a c (by omega) (by omega) w h
    rw [← ho]
    unfold openB
    rw [hf.trans h2]
    exact this)
  have hb0 := Below.refl w.heap.size w
  have hbl := h.lt
  have hgl := hc.lt
  rw [hcc]
  clear hv hf ho hcc hL x0 x1 y0 y1
  go_enter Try.func68, Try.ntmps68
  go_wp2_with fail
  refine (HOK.out _ h).mono ?_
  rintro e w1 ⟨rfl, hb1⟩
  have k0 := h.below hb1 h.lt
  have k1 := hc.below hb1 hc.lt
  clear h hc hb0 HOK
  cases v
  · have HC2 := HC.out
    simp only [Bool.false_eq_true, if_false] at HC2
    subst HC2
    go_wp2_with fail
    go_ret
    exact ⟨rfl, hb1⟩
  · have HOP2 := Lib.hid (HOP.out rfl)
    clear HOP
    go_wp2_with fail
    go_loopw [2, 7] (fun t i wr => ∃ k : Nat, k ≤ 1 ∧ i = .int .i64 k ∧ t = .bool (if k = 1 then f else true) ∧ Holds wr b L.cells ∧ Holds wr g #[.int .i8 x, .int .i8 y] ∧ Below w.heap.size w wr) (fun _ i _ => 1 - (intOf i).toNat)
    case atStart => exact ⟨0, by omega, rfl, rfl, k0, k1, hb1⟩
    case round =>
      obtain ⟨k, hk, rfl, rfl, j0, j1, hb⟩ := hrel
      clear k0 k1 hb1
      have q0 : wr.cell? ⟨g, 0, none⟩ = some (.int .i8 x) := j1.cell 0
      have q1 : wr.cell? ⟨g, 1, none⟩ = some (.int .i8 y) := j1.cell 1
      rcases (by omega : k = 0 ∨ k = 1) with rfl | rfl
      · simp only [Nat.zero_ne_one, if_false]
        go_wp2_with fail
        refine (HIS.out _ j0).mono ?_
        rintro e w5 ⟨rfl, hb5⟩
        have v0 := j0.below hb5 j0.lt
        have v1 := j1.below hb5 j1.lt
        have hb6 := below_onto hb hb5
        clear j0 j1 hb hb5 q0 q1
        go_wp2_with fail
        exact ⟨⟨1, by omega, rfl, rfl, v0, v1, hb6⟩, by simp [intOf]⟩
      · simp only [if_true]
        cases f
        · have HC2 := HC.out
          simp only [if_true, Bool.false_eq_true, if_false] at HC2
          subst HC2
          go_wp2_with fail
          go_ret
          exact ⟨rfl, hb⟩
        · have HOP3 := Lib.hid (HOP2.out rfl)
          clear HOP2 q0 q1
          go_wp2_with fail
          go_loopw [8] (fun i wr => ∃ k : Nat, k ≤ 1 ∧ i = .int .i64 k ∧ (k = 1 → o = true) ∧ Holds wr b L.cells ∧ Holds wr g #[.int .i8 x, .int .i8 y] ∧ Below w.heap.size w wr) (fun i _ => 1 - (intOf i).toNat)
          case atStart => exact ⟨0, by omega, rfl, fun h => absurd h (by decide), j0, j1, hb⟩
          case round =>
            obtain ⟨k, hk2, rfl, ho, j0, j1, hb⟩ := hrel
            have q0 : wr.cell? ⟨g, 0, none⟩ = some (.int .i8 x) := j1.cell 0
            have q1 : wr.cell? ⟨g, 1, none⟩ = some (.int .i8 y) := j1.cell 1
            rcases (by omega : k = 0 ∨ k = 1) with rfl | rfl
            · clear ho
              go_wp2_with fail
              refine (HOP3.out _ j0).mono ?_
              rintro e w5 ⟨rfl, hb5⟩
              have v0 := j0.below hb5 j0.lt
              have v1 := j1.below hb5 j1.lt
              have hb6 := below_onto hb hb5
              clear j0 j1 hb hb5 q0 q1
              have HC2 := HC.out
              cases o
              · simp only [if_true, Bool.false_eq_true, if_false] at HC2
                subst HC2
                go_wp2_with fail
                go_ret
                exact ⟨rfl, hb6⟩
              · go_wp2_with fail
                exact ⟨⟨1, by omega, rfl, fun _ => trivial, v0, v1, hb6⟩, by simp [intOf]⟩
            · have ho1 := ho rfl
              have HC2 := HC.out
              rw [ho1] at HC2
              simp only [if_true] at HC2
              subst HC2
              go_wp2_with fail
              go_ret
              exact ⟨rfl, hb⟩
end Go.Proofs.Ytaeenkjbmlgcmaa
