/- What the library answers to the texts' functions: SplitN and Cut at one letter, ParseInt as the program reads it. -/
import Derived.Test.YthfhpcigjnjkdaaDoorTextP
import Derived.Test.YthfhpcigjnjkdaaDoorShelf
import Derived.Test.YthfhpcigjnjkdaaDoorZB
import Derived.Shelf.Strings.SplitCore
namespace Go.Proofs.YthfhpcigjnjkdaaDoor
open Go.RowKit
set_option linter.unusedVariables false
set_option linter.unusedSimpArgs false

theorem splitB_list (c : UInt8) (k : Nat) (s : ByteArray) : (Lib.splitB ⟨#[c]⟩ 0 k s).map (·.data.toList) = Lib.splitK [c] 0 k s.data.toList := Lib.splitB_data ⟨#[c]⟩ 0 k s
theorem bytes_of (s : ByteArray) : s = ⟨s.data.toList.toArray⟩ := by obtain ⟨d⟩ := s; simp

set_option maxRecDepth 100000 in
set_option maxHeartbeats 1000000 in
theorem splitN_one (s : ByteArray) (hs : s.size ≤ 1048576) (c : UInt8) (n : Nat) (hn : 1 ≤ n) (hn2 : n ≤ 1000) (w : World) :
    Calls Tryd.prog 61 #[.string s, .string ⟨#[c]⟩, .int .i64 (n : Int)] w fun e w' => (∃ N, e = .returned (.slice (some ⟨w.heap.size, 0, none⟩) (Lib.splitK [c] 0 (min n (s.data.toList.length + 1) - 1) s.data.toList).length N) ∧ (Lib.splitK [c] 0 (min n (s.data.toList.length + 1) - 1) s.data.toList).length ≤ n ∧ ∀ (j : Nat) l, (Lib.splitK [c] 0 (min n (s.data.toList.length + 1) - 1) s.data.toList)[j]? = some l → w'.cell? ⟨w.heap.size, j, none⟩ = some (.string ⟨l.toArray⟩)) ∧ Below w.heap.size w w' := by
  have hlen : s.data.toList.length = s.size := by rw [Array.length_toList]; rfl
  have hG := Any.strings_genSplit_core Tryd.lays221 (by kernel_rfl) s ⟨#[c]⟩ 0 (n : Int) (min n (s.size + 1)) w (by omega) (by simp [ByteArray.size]) (Nat.zero_le _)
    (fun x cs hx => (Any.strings_Index_one { Tryd.lays221 with } x c _).mono fun e w' ⟨h1, h2⟩ => ⟨by rw [h1, Lib.indexB, Lib.index_one], h2⟩)
    (Any.strings_Count_one { Tryd.lays221 with } s c w |>.mono fun e w' ⟨h1, h2⟩ => ⟨by rw [h1, Lib.countB, Lib.count_one]; rfl, h2⟩)
    (by omega) (by omega) (by rw [if_neg (by omega)]; omega)
  have HG := Lib.hid (show Calls Tryd.prog 108 #[.string s, .string ⟨#[c]⟩, .int .i64 0, .int .i64 (n : Int)] w _ from hG)
  clear hG
  go_enter Tryd.func61, Tryd.ntmps61
  go_wp2_with fail
  refine HG.out.mono ?_
  rintro e w2 ⟨rfl, rfl⟩
  go_wp2_with fail
  go_ret
  have e := splitB_list c (min n (s.size + 1) - 1) s
  rw [hlen]
  have hl : (Lib.splitB ⟨#[c]⟩ 0 (min n (s.size + 1) - 1) s).length = (Lib.splitK [c] 0 (min n (s.size + 1) - 1) s.data.toList).length := by rw [← e, List.length_map]
  have hle := Lib.splitB_length_le ⟨#[c]⟩ 0 (min n (s.size + 1) - 1) s
  refine ⟨⟨min n (s.size + 1), by rw [hl]; rfl, by omega, fun j l hj => ?_⟩, (Below.refl _ _).alloc (Nat.le_refl _) _⟩
  rw [← e, List.getElem?_map, Option.map_eq_some_iff] at hj
  obtain ⟨x, hx, rfl⟩ := hj
  rw [← bytes_of, (Holds.new w _ _).cell]
  have hlt := (List.getElem?_eq_some_iff.1 hx).1
  simp only [Lib.cellsOf, List.getElem?_toArray]
  rw [List.getElem?_append_left (by simpa using hlt), List.getElem?_map, hx]
  rfl

set_option maxRecDepth 100000 in
set_option maxHeartbeats 1000000 in
theorem litecut_one (s : ByteArray) (hs : s.size ≤ 1048576) (c : UInt8) (w : World) :
    Calls Tryd.prog 117 #[.string s, .string ⟨#[c]⟩] w fun e w' => e = .returned (.tuple #[.string ⟨(Lib.cut s.data.toList [c]).1.toArray⟩, .string ⟨(Lib.cut s.data.toList [c]).2.1.toArray⟩, .bool (Lib.cut s.data.toList [c]).2.2]) ∧ Below w.heap.size w w' := by
  have HI := Lib.hid (show ∀ w, Calls Tryd.prog 145 #[.string s, .string ⟨#[c]⟩] w fun e w' => e = .returned (.int .i64 (Lib.indexB s ⟨#[c]⟩)) ∧ w' = w from fun w => (Any.stringslite_Index_one { Tryd.lays220 with } s c w).mono fun e w' ⟨h1, h2⟩ => ⟨by rw [h1, ← Lib.index_one], h2⟩)
  have hz : (⟨#[c]⟩ : ByteArray).size = 1 := rfl
  rcases Lib.indexB_cases s ⟨#[c]⟩ with hix | ⟨i, hix, hroom⟩
  · obtain ⟨e1, e2, e3⟩ := Lib.cutB_miss s ⟨#[c]⟩ hix
    simp only [show (⟨#[c]⟩ : ByteArray).data.toList = [c] from rfl] at e1 e2 e3
    rw [e1, e2, e3]
    rw [hix] at HI
    clear e1 e2 e3 hix
    go_enter Tryd.func117, Tryd.ntmps117
    go_wp2_with fail
    refine (HI.out _).mono ?_
    rintro e w2 ⟨rfl, hw2⟩
    rw [hw2]
    clear hw2
    go_wp2_with fail
    go_ret3
    exact ⟨rfl, Below.refl _ _⟩
  · obtain ⟨e1, e2, e3⟩ := Lib.cutB_hit s ⟨#[c]⟩ i hix
    simp only [show (⟨#[c]⟩ : ByteArray).data.toList = [c] from rfl] at e1 e2 e3
    rw [e1, e2, e3]
    rw [hix] at HI
    rw [hz] at hroom ⊢
    clear e1 e2 e3 hix
    have c1 : (0 : Int) ≤ (i : Int) := by omega
    have c2 : (i : Int) ≤ (s.size : Int) := by omega
    have c3 : (0 : Int) ≤ (i : Int) + 1 := by omega
    have c4 : (i : Int) + 1 ≤ (s.size : Int) := by omega
    have d0 : decide ((0 : Int) ≤ (i : Int)) = true := by simp
    go_enter Tryd.func117, Tryd.ntmps117
    go_wp2_with fail
    refine (HI.out _).mono ?_
    rintro e w2 ⟨rfl, hw2⟩
    rw [hw2]
    clear hw2
    go_wp2_with fail
    go_region_o
    go_wp2_with fail
    go_ret3
    exact ⟨rfl, ((Below.refl _ _).drew)⟩

set_option maxHeartbeats 1000000 in
theorem cut_one (s : ByteArray) (hs : s.size ≤ 1048576) (c : UInt8) (w : World) :
    Calls Tryd.prog 73 #[.string s, .string ⟨#[c]⟩] w fun e w' => e = .returned (.tuple #[.string ⟨(Lib.cut s.data.toList [c]).1.toArray⟩, .string ⟨(Lib.cut s.data.toList [c]).2.1.toArray⟩, .bool (Lib.cut s.data.toList [c]).2.2]) ∧ Below w.heap.size w w' := by
  have HC := Lib.hid (fun w => litecut_one s hs c w)
  go_enter Tryd.func73, Tryd.ntmps73
  go_wp2_with fail
  refine (HC.out _).mono ?_
  rintro e w2 ⟨rfl, hb⟩
  go_wp2_with fail
  go_ret3
  exact ⟨rfl, hb⟩
end Go.Proofs.YthfhpcigjnjkdaaDoor
