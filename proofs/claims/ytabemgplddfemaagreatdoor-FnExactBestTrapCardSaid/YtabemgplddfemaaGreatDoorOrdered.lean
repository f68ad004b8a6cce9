/- slices.SortedFunc and ordered over a map of cells, of the program. -/
import Derived.Test.YtabemgplddfemaaGreatDoorZM
import Derived.Test.YtabemgplddfemaaGreatDoorCmpPt
import Derived.Test.YtabemgplddfemaaGreatDoorShelf
namespace Go.Proofs.YtabemgplddfemaaGreatDoor
open Go.RowKit
set_option linter.unusedVariables false
attribute [local go_sem ↓] loadRow loadGrid loadLawn loadMirror storeRow storeGrid storeLawn allocRow allocGrid allocLawn buildZero buildSides

theorem collect_any (Bm b : Nat) (L : Found) (hLen : L.length ≤ 100) (w : World) (hm : Holds w Bm #[.map (some b)]) (hM : MapIs w b cellK valK L) :
    Calls Tryz.prog 78 #[.func (.func 80) #[] #[.pointer (some ⟨Bm, 0, none⟩)]] w fun e w' =>
      (∃ v ys, e = .returned v ∧ ys.Perm (L.map (·.1)) ∧ w'.ownsRow w.heap.size 30 2 v ys.length (flatP ys)) ∧ Below w.heap.size w w' := by
  have HA := Lib.hid (appendSeq_any Bm b L hLen w hm hM)
  clear hm hM hLen
  go_enter Tryz.func78, Tryz.ntmps78
  go_wp2_with fail
  refine HA.out.mono ?_
  rintro e w1 ⟨⟨v, ys, rfl, hp, ho⟩, hb⟩
  have HO := Lib.hid ho
  have HP := Lib.hid hp
  clear ho hp
  go_wp2_with fail
  go_ret
  exact ⟨⟨v, ys, rfl, HP.out, HO.out⟩, hb⟩

theorem sortFunc_own (base : Nat) (v : Value) (ys : List Pt) (hLen : ys.length ≤ 100) (w : World) (ho : w.ownsRow base 30 2 v ys.length (flatP ys)) (hbase : base ≤ w.heap.size) :
    Calls Tryz.prog 79 #[v, .func (.func 49) #[] #[]] w fun e w' => e = .returned (.tuple #[]) ∧ w'.ownsRow base 30 2 v ys.length (flatP (sortC ys)) ∧ Below base w w' := by
  have none_case : ∀ p cap, ys = [] → v = .slice p 0 cap → Calls Tryz.prog 79 #[v, .func (.func 49) #[] #[]] w fun e w' => e = .returned (.tuple #[]) ∧ w'.ownsRow base 30 2 v ys.length (flatP (sortC ys)) ∧ Below base w w' := by
    intro p cap hy hv
    subst hy
    have := Tryz.slices_SortFunc_none (α := Pt) p cap (.func (.func 49) #[] #[]) w
    rw [hv]
    refine this.mono ?_
    rintro e w' ⟨rfl, rfl⟩
    refine ⟨rfl, ?_, Below.refl _ _⟩
    have h0 : sortC [] = [] := by simp [sortC]
    rw [h0, ← hv]
    exact ho
  rcases ho.2 with ⟨hv, h0⟩ | ⟨g, cap, cur, hv, -⟩
  · exact none_case none 0 (List.eq_nil_of_length_eq_zero h0) hv
  · by_cases h0 : ys.length = 0
    · exact none_case (some ⟨g, 0, none⟩) cap (List.eq_nil_of_length_eq_zero h0) (by rw [hv, h0])
    · rw [hv] at ho ⊢
      obtain ⟨hH, hlt, hbg⟩ := own_holdsK ho
      have eg : ∀ args w, (callFunc 49 args).run Tryz.prog w = .ok (.enter 49 args) w := enters_of Tryz.func49 (by kernel_rfl) rfl
      have hc := Tryz.slices_SortFunc_total (α := Pt) 2 (fun w => by kernel_rfl) (fun w => by kernel_rfl) encP (fun _ => rfl) (fun x u hu => by simp [encP] at hu; rcases hu with rfl | rfl <;> rfl) cmpPt swoPt 49 #[] g 0 cap ys.toArray w eg (cmpLaysPt _ _ _ _) hH hlt (by simp; omega) totPt
      rw [List.size_toArray] at hc
      refine hc.mono ?_
      rintro e w' ⟨rfl, n, os, rfl⟩
      have he : (ys.toArray.toList.mergeSort fun x y => !(ltOf cmpPt) y x) = sortC ys := rfl
      rw [he]
      refine ⟨rfl, own_sortedK ho (sortC_perm ys).length_eq, ?_⟩
      exact (Below.refl base w).grown (grownBy_sortedK _) hbase (fun k e => by cases e; exact hbg)

theorem sortedFunc_any (Bm b : Nat) (L : Found) (hLen : L.length ≤ 100) (w : World) (hm : Holds w Bm #[.map (some b)]) (hM : MapIs w b cellK valK L) :
    Calls Tryz.prog 68 #[.func (.func 80) #[] #[.pointer (some ⟨Bm, 0, none⟩)], .func (.func 49) #[] #[]] w fun e w' =>
      (∃ v, e = .returned v ∧ w'.ownsRow w.heap.size 30 2 v L.length (flatP (sortC (L.map (·.1))))) ∧ Below w.heap.size w w' := by
  have HA := Lib.hid (collect_any Bm b L hLen w hm hM)
  have HL := Lib.hid hLen
  clear hm hM hLen
  go_enter Tryz.func68, Tryz.ntmps68
  go_wp2_with fail
  refine HA.out.mono ?_
  rintro e w1 ⟨⟨v, ys, rfl, hp, ho⟩, hb⟩
  have hlen : ys.length = L.length := by simpa using hp.length_eq
  have HS := Lib.hid (sortFunc_own w.heap.size v ys (by rw [hlen]; exact HL.out) w1 ho hb.size)
  rw [hlen, sortC_of_perm hp] at HS
  clear ho hp hlen
  go_wp2_with fail
  refine HS.out.mono ?_
  rintro e w2 ⟨rfl, ho, hb2⟩
  have HO := Lib.hid ho
  have hb3 := hb.trans hb2
  clear ho hb hb2
  go_wp2_with fail
  go_ret
  exact ⟨⟨v, rfl, HO.out⟩, hb3⟩

theorem ordered_any (b : Nat) (L : Found) (hLen : L.length ≤ 100) (w : World) (hM : MapIs w b cellK valK L) :
    Calls Tryz.prog 48 #[.map (some b), .func (.func 49) #[] #[]] w fun e w' =>
      (∃ v, e = .returned v ∧ w'.ownsRow w.heap.size 30 2 v L.length (flatP (sortC (L.map (·.1))))) ∧ Below w.heap.size w w' := by
  have HK := Lib.hid (keys_any b w)
  have HS := Lib.hid (sortedFunc_any w.heap.size b L hLen (w.alloc (.cells #[.map (some b)] 61)) (Holds.new _ _ _) (hM.alloc _))
  have hb0 := (Below.refl w.heap.size w).alloc (Nat.le_refl _) (.cells #[.map (some b)] 61)
  clear hM hLen
  go_enter Tryz.func48, Tryz.ntmps48
  go_wp2_with fail
  refine HK.out.mono ?_
  rintro e w1 ⟨rfl, rfl⟩
  go_wp2_with fail
  refine HS.out.mono ?_
  rintro e w2 ⟨⟨v, rfl, ho⟩, hb⟩
  have HO := Lib.hid (ownsRow_low (A := w.heap.size) ho (by simp))
  have hb2 := below_onto hb0 hb
  clear ho hb hb0
  go_wp2_with fail
  go_ret
  exact ⟨⟨v, rfl, HO.out⟩, hb2⟩
end Go.Proofs.YtabemgplddfemaaGreatDoor
