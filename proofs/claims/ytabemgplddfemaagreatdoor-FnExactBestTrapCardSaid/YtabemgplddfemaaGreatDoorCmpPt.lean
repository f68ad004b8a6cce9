/- Cell.compare of the program, in worlds of a sort. -/
import Derived.Test.YtabemgplddfemaaGreatDoorGrowD
import Derived.Test.YtabemgplddfemaaGreatDoorZL
import Derived.Shelf.SlSortCmp.InsertionK
namespace Go.Proofs.YtabemgplddfemaaGreatDoor
open Go.RowKit Go.Sort
set_option linter.unusedVariables false
attribute [local go_sem ↓] loadRow loadGrid loadLawn loadMirror storeRow storeGrid storeLawn allocRow allocGrid allocLawn buildZero buildSides

theorem isNaN8 (x : Int) (w : World) : Calls Tryz.prog 81 #[.int .i8 x] w fun e w' => e = .returned (.bool false) ∧ w' = w := by
  have h : ((x : Int) != x) = false := by simp
  go_enter Tryz.func81, Tryz.ntmps81
  go_wp2_with fail
  go_ret
  exact ⟨by simp, rfl⟩
theorem compare8 (x y : Int) (w : World) : Calls Tryz.prog 71 #[.int .i8 x, .int .i8 y] w fun e w' => e = .returned (.int .i64 (Lib.compareInt x y)) ∧ w' = w := by
  have HN := Lib.hid (fun (x : Int) (w : World) => isNaN8 x w)
  obtain ⟨c, hc⟩ : ∃ c, Lib.compareInt x y = c := ⟨_, rfl⟩
  have hcs := compareInt_cases x y
  rw [hc] at hcs ⊢
  clear hc
  go_enter Tryz.func71, Tryz.ntmps71
  go_wp2_with (first | (refine (HN.out _ _).mono ?_; rintro e w' ⟨rfl, rfl⟩))
  all_goals
    go_ret
    rcases hcs with ⟨h, rfl⟩ | ⟨h, rfl⟩ | ⟨h, rfl⟩ <;> first | exact ⟨rfl, rfl⟩ | (exfalso; omega)

theorem orInt (u v : Int) (g : Nat) (w : World) (h : Holds w g #[.int .i64 u, .int .i64 v]) : Calls Tryz.prog 70 #[.slice (some ⟨g, 0, none⟩) 2 2] w fun e w' => e = .returned (.int .i64 (if u = 0 then v else u)) ∧ w' = w := by
  have c0 := h.cell 0
  have c1 := h.cell 1
  simp only [List.getElem?_toArray, List.getElem?_cons_zero, List.getElem?_cons_succ] at c0 c1
  by_cases hu : u = 0
  · subst hu
    rw [if_pos rfl]
    have hu0 : ((0 : Int) != 0) = false := rfl
    by_cases hv : v = 0
    · subst hv
      go_enter Tryz.func70, Tryz.ntmps70
      go_wp2_with fail
      go_loopw [5, 8] (fun _ i wr => wr = w ∧ ∃ k : Nat, k ≤ 2 ∧ i = .int .i64 k) (fun _ i _ => 2 - (intOf i).toNat)
      case atStart => exact ⟨rfl, 0, by omega, rfl⟩
      case round =>
        obtain ⟨rfl, k, hk, rfl⟩ := hrel
        rcases (by omega : k = 0 ∨ k = 1 ∨ k = 2) with rfl | rfl | rfl
        · go_wp2_with fail
          go_roundw
          case rel => exact ⟨trivial, 1, by omega, by go_num⟩
          case measure => simp [intOf]
        · go_wp2_with fail
          go_roundw
          case rel => exact ⟨trivial, 2, by omega, by go_num⟩
          case measure => simp [intOf]
        · go_wp2_with fail
          go_ret
          exact ⟨rfl, rfl⟩
    · have hvn : (v != 0) = true := by simpa using hv
      go_enter Tryz.func70, Tryz.ntmps70
      go_wp2_with fail
      go_loopw [5, 8] (fun _ i wr => wr = w ∧ ∃ k : Nat, k ≤ 1 ∧ i = .int .i64 k) (fun _ i _ => 2 - (intOf i).toNat)
      case atStart => exact ⟨rfl, 0, by omega, rfl⟩
      case round =>
        obtain ⟨rfl, k, hk, rfl⟩ := hrel
        rcases (by omega : k = 0 ∨ k = 1) with rfl | rfl
        · go_wp2_with fail
          go_roundw
          case rel => exact ⟨trivial, 1, by omega, by go_num⟩
          case measure => simp [intOf]
        · go_wp2_with fail
          go_ret
          exact ⟨rfl, rfl⟩
  · have hun : (u != 0) = true := by simpa using hu
    rw [if_neg hu]
    go_enter Tryz.func70, Tryz.ntmps70
    go_wp2_with fail
    go_loopw [5, 8] (fun _ i wr => wr = w ∧ i = .int .i64 0) (fun _ i _ => 2 - (intOf i).toNat)
    case atStart => exact ⟨rfl, rfl⟩
    case round =>
      obtain ⟨rfl, rfl⟩ := hrel
      go_wp2_with fail
      go_ret
      exact ⟨rfl, rfl⟩

set_option maxRecDepth 100000 in
set_option maxHeartbeats 1000000 in
theorem comparePt (a b : Pt) (W : World) : Calls Tryz.prog 49 #[.agg #[.int .i8 a.1, .int .i8 a.2], .agg #[.int .i8 b.1, .int .i8 b.2]] W fun e w' => e = .returned (.int .i64 (cmpPt a b)) ∧ ∃ q os', w' = Sort.grow (W.drewN q) os' := by
  have HC := Lib.hid (fun (x y : Int) (w : World) => compare8 x y w)
  obtain ⟨ax, ay⟩ := a
  obtain ⟨bx, bb⟩ := b
  have HR : Hid (cmpPt (ax, ay) (bx, bb) = if Lib.compareInt ay bb = 0 then Lib.compareInt ax bx else Lib.compareInt ay bb) := Lib.hid rfl
  obtain ⟨u, hu⟩ : ∃ u, Lib.compareInt ay bb = u := ⟨_, rfl⟩
  obtain ⟨v, hv⟩ : ∃ v, Lib.compareInt ax bx = v := ⟨_, rfl⟩
  have HU := Lib.hid hu
  have HV := Lib.hid hv
  rw [hu, hv] at HR
  obtain ⟨r, hr⟩ : ∃ r, cmpPt (ax, ay) (bx, bb) = r := ⟨_, rfl⟩
  rw [hr] at HR ⊢
  have HO := Lib.hid (show ∀ (g : Nat) (w : World), Holds w g #[.int .i64 u, .int .i64 v] → Calls Tryz.prog 70 #[.slice (some ⟨g, 0, none⟩) 2 2] w fun e w' => e = .returned (.int .i64 r) ∧ w' = w from fun g w h => by rw [HR.out]; exact orInt u v g w h)
  clear hu hv hr
  dsimp only
  obtain ⟨W0, hW0⟩ : ∃ W0, (W.alloc (.cells #[.int .i8 ax, .int .i8 ay] 30)).alloc (.cells #[.int .i8 bx, .int .i8 bb] 30) = W0 := ⟨_, rfl⟩
  have g0 : Holds W0 W.heap.size #[.int .i8 ax, .int .i8 ay] := by rw [← hW0]; exact (Holds.new _ _ _).alloc _
  have g1 : Holds W0 (W.heap.size + 1) #[.int .i8 bx, .int .i8 bb] := by rw [← hW0]; exact Holds.new' _ _ _ _ (by simp)
  have hb0 : GD.GB W W0 := by rw [← hW0]; exact ⟨((Below.refl W.heap.size W).alloc (Nat.le_refl _) _).alloc (by simp) _, Nat.le_refl _⟩
  go_enter Tryz.func49, Tryz.ntmps49
  go_wp2_with fail
  try rw [hW0]
  clear hW0
  have HX := Lib.hid (show ∀ w', GD.GB W0 w' → w'.cell? ⟨W.heap.size, 0, none⟩ = some (.int .i8 ax) ∧ w'.cell? ⟨W.heap.size, 1, none⟩ = some (.int .i8 ay) ∧ w'.cell? ⟨W.heap.size + 1, 0, none⟩ = some (.int .i8 bx) ∧ w'.cell? ⟨W.heap.size + 1, 1, none⟩ = some (.int .i8 bb) from fun w' hw' => by
    have k0 := g0.below hw'.1 g0.lt
    have k1 := g1.below hw'.1 g1.lt
    exact ⟨k0.cell 0, k0.cell 1, k1.cell 0, k1.cell 1⟩)
  clear g0 g1
  refine GD.wp_region_stages 10 rfl rfl (by kernel_rfl) (by kernel_rfl) ?_
  simp only [List.take_succ_cons, List.take_zero, List.drop_succ_cons, List.drop_zero]
  iterate 10
    apply GD.wpGrow_plain rfl
    · intro w' hw' K hK
      obtain ⟨f1, f2, f3, f4⟩ := HX.out _ hw'
      go_wp2_with (first | (go_at_call 71; refine (compare8 _ _ _).mono ?_; rintro e w2 ⟨rfl, rfl⟩))
      exact hK _ _ rfl hw'
    simp only [Act.put, List.setIfInBounds_toArray, List.set_cons_succ, List.set_cons_zero]
  refine GD.wpGrow_nil ?_
  intro w2 hw2
  rw [HU.out, HV.out]
  go_wp2_with fail
  have g3 := Holds.new w2 #[.int .i64 u, .int .i64 v] 3
  have hb3 : GD.GB W (w2.alloc (.cells #[.int .i64 u, .int .i64 v] 3)) := ⟨(below_onto hb0.1 hw2.1).alloc (below_onto hb0.1 hw2.1).size _, Nat.le_trans hb0.2 hw2.2⟩
  clear HX hw2 hb0
  iterate 2
    apply GD.wpGrow_plain rfl
    · intro w' hw' K hK
      have k3 := g3.below hw'.1 g3.lt
      go_wp2_with (first | (go_at_call 70; refine (HO.out _ _ k3).mono ?_; rintro e w2 ⟨rfl, rfl⟩))
      exact hK _ _ rfl hw'
    simp only [Act.put, List.setIfInBounds_toArray, List.set_cons_succ, List.set_cons_zero]
  refine GD.wpGrow_nil ?_
  intro w3 hw3
  have hb4 : GD.GB W w3 := ⟨below_onto hb3.1 hw3.1, Nat.le_trans hb3.2 hw3.2⟩
  clear g3 hb3 hw3
  go_wp2_with fail
  go_ret
  exact ⟨rfl, hb4.grow⟩

theorem cmpLaysPt (blk off size : Nat) (w : World) : CmpLays Tryz.prog 49 #[] encP 2 cmpPt blk off size w :=
  fun _ _ _ _ x y => comparePt x y _
end Go.Proofs.YtabemgplddfemaaGreatDoor
