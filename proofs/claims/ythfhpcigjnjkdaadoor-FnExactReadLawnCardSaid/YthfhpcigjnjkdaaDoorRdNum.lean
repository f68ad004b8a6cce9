/- readNumber: a text read as a number of eight bits, or -1; ParseInt at 64 bits. -/
import Derived.Test.YthfhpcigjnjkdaaDoorTextLib
import Derived.Test.YthfhpcigjnjkdaaDoorArgs
namespace Go.Proofs.YthfhpcigjnjkdaaDoor
open Go.RowKit
set_option linter.unusedVariables false
set_option linter.unusedSimpArgs false

/-- The library's two errors lie in memory. -/
def ErrsUp (w : World) : Prop := (∃ e, w.cell? ⟨2, 0, none⟩ = some e ∧ (e = .nilIface ∨ ∃ te pe, e = .iface te pe)) ∧ ∃ e, w.cell? ⟨3, 0, none⟩ = some e ∧ (e = .nilIface ∨ ∃ te pe, e = .iface te pe)
theorem ErrsUp.below {w w' : World} {B : Nat} (h : ErrsUp w) (hb : Below B w w') (hB : w.heap.size ≤ B) : ErrsUp w' := by
  obtain ⟨⟨e, h1, h2⟩, e', h3, h4⟩ := h
  exact ⟨⟨e, by rw [World.cell?_of_block (hb.block _ (by have := cell_block h1; omega))]; exact h1, h2⟩, e', by rw [World.cell?_of_block (hb.block _ (by have := cell_block h3; omega))]; exact h3, h4⟩

theorem bytesW_below {w w' : World} {t : TypeId} (h : w' = w ∨ ∃ x, w' = Lib.bytesWorld w t x) : Below w.heap.size w w' := by
  rcases h with rfl | ⟨x, rfl⟩
  · exact Below.refl _ _
  · exact Lib.bytesWorld_below _ _ _

set_option maxRecDepth 100000 in
set_option maxHeartbeats 1000000 in
theorem readNumber_any (s : ByteArray) (hs : s.size ≤ 1048576) (w : World) (hE : ErrsUp w) :
    Calls Tryd.prog 74 #[.string s] w fun e w' => e = .returned (.int .i8 (rd8 s.data.toList)) ∧ Below w.heap.size w w' := by
  obtain ⟨⟨e1, h1, h2⟩, e2, h3, h4⟩ := hE
  cases hp : Lib.parseIntB 8 s.data.toList with
  | ok z =>
    have hr : rd8 s.data.toList = z := by unfold rd8; rw [hp]
    have hz := Lib.parseIntB_bounds hp
    have HP := Lib.hid (Tryd.strconv_ParseInt_10_at8_ok s (by omega) z hp w)
    rw [hr]
    clear hp hr h1 h2 h3 h4
    go_enter Tryd.func74, Tryd.ntmps74
    go_wp2_with fail
    refine HP.out.mono ?_
    rintro e w2 ⟨rfl, hb⟩
    have hb := bytesW_below hb
    go_wp2_with fail
    go_ret
    exact ⟨rfl, hb⟩
  | «syntax» =>
    have hr : rd8 s.data.toList = -1 := by unfold rd8; rw [hp]
    have HP := Lib.hid (Tryd.strconv_ParseInt_10_at8_syntax s (by omega) hp e1 w h1 h2)
    rw [hr]
    clear hp hr h1 h2 h3 h4
    go_enter Tryd.func74, Tryd.ntmps74
    go_wp2_with fail
    refine HP.out.mono ?_
    rintro e w2 ⟨N, rfl, -, -, hb⟩
    go_wp2_with fail
    go_ret
    exact ⟨rfl, hb⟩
  | range =>
    have hr : rd8 s.data.toList = -1 := by unfold rd8; rw [hp]
    have HP := Lib.hid (Tryd.strconv_ParseInt_10_at8_range s (by omega) hp e2 w h3 h4)
    rw [hr]
    clear hp hr h1 h2 h3 h4
    go_enter Tryd.func74, Tryd.ntmps74
    go_wp2_with fail
    refine HP.out.mono ?_
    rintro e w2 ⟨N, rfl, -, -, hb⟩
    go_wp2_with fail
    go_ret
    exact ⟨rfl, hb⟩
end Go.Proofs.YthfhpcigjnjkdaaDoor
