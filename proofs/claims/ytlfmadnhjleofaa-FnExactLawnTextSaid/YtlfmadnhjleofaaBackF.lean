/- BackAndForth: the way row by row. -/
import Derived.Test.YtlfmadnhjleofaaWrite
import Derived.Test.YtlfmadnhjleofaaShelf
import Derived.Test.YtlfmadnhjleofaaZE
import Derived.Test.YtlfmadnhjleofaaZI
import Derived.Test.YtlfmadnhjleofaaGrowV
namespace Go.Proofs.Ytlfmadnhjleofaa
open Go.RowKit
set_option linter.unusedVariables false
attribute [local go_sem ↓] loadRow loadGrid loadLawn loadMirror storeRow storeGrid storeLawn allocRow allocGrid allocLawn buildZero buildSides

/-- The letters of the first rows. -/
def backR (y : Nat) : UInt8 := if y % 2 = 1 then 87 else 69
def backL (W : Nat) : Nat → List UInt8
  | 0 => []
  | y + 1 => backL W y ++ (if 0 < y then [83] else []) ++ List.replicate (W - 1) (backR y)
theorem backL_length (W : Nat) (hW : W ≤ 10) : ∀ y, (backL W y).length ≤ y * 10
  | 0 => by simp [backL]
  | y + 1 => by
    have := backL_length W hW y
    simp only [backL, List.length_append, List.length_replicate]
    split <;> simp <;> omega
def backF (L : Lawn) : Bool := decide (((cellsL L 0).length : Int) = L.wide * L.high)
def backC (L : Lawn) : Int := if validB L then (if backF L then 0 else 4) else 1
def backS (L : Lawn) : ByteArray := if validB L && backF L then ⟨(backL L.wide.toNat L.high.toNat).toArray⟩ else ⟨#[]⟩
theorem repeat_one (c : UInt8) : ∀ k, Lib.repeatL [c] k = List.replicate k c
  | 0 => rfl
  | k + 1 => by rw [Lib.repeatL, repeat_one c k]; rfl
theorem str_snoc (l : List UInt8) (c : UInt8) : (⟨l.toArray⟩ : ByteArray) ++ ⟨#[c]⟩ = ⟨(l ++ [c]).toArray⟩ := by
  apply ByteArray.ext
  simp
theorem size_of_list (l : List UInt8) : (⟨l.toArray⟩ : ByteArray).size = l.length := by simp [ByteArray.size]
theorem back_next (W y : Nat) (h : ¬ y = 0) : Lib.byteCells (backL (W + 1) (y + 1)) = (Lib.byteCells (backL (W + 1) y) ++ [.int .u8 83]) ++ Lib.strCells ⟨(Lib.repeatL [backR y] W).toArray⟩ := by
  rw [Lib.strCells_eq, repeat_one]
  simp only [backL, if_pos (show 0 < y by omega), Lib.byteCells, List.map_append, Nat.add_sub_cancel]
  rfl
theorem back_first (W y : Nat) (h : y = 0) : Lib.byteCells (backL (W + 1) (y + 1)) = Lib.byteCells (backL (W + 1) y) ++ Lib.strCells ⟨(Lib.repeatL [backR y] W).toArray⟩ := by
  rw [Lib.strCells_eq, repeat_one]
  simp only [backL, if_neg (show ¬ 0 < y by omega), Lib.byteCells, List.map_append, Nat.add_sub_cancel, List.append_nil]
theorem ownF_below {w w' : World} {B : Nat} {e : TypeId} {size n : Nat} {v : Value} {xs : List Value} (h : w.ownsRowF B e size v n xs) (hb : Below w.heap.size w w') : w'.ownsRowF B e size v n xs := by
  obtain ⟨h1, h2⟩ := h
  refine ⟨h1, ?_⟩
  rcases h2 with h2 | ⟨g, cap, cur, fz, h3, h4, h5, h6⟩
  · exact .inl h2
  · exact .inr ⟨g, cap, cur, fz, h3, h4, by rw [hb.block g (Array.getElem?_eq_some_iff.1 h5).1]; exact h5, h6⟩
theorem bld_below {w w' : World} {B b : Nat} {bs : List Value} (h : Bld w B b bs) (hb : Below w.heap.size w w') : Bld w' B b bs := by
  rcases h with ⟨h1, v, h2, h3, h4⟩ | ⟨h1, v, h2, h3, h4⟩
  · exact .inl ⟨h1, v, by rw [hb.block b (Array.getElem?_eq_some_iff.1 h2).1]; exact h2, ownF_below h3 hb, h4⟩
  · exact .inr ⟨h1, v, by rw [hb.block b (Array.getElem?_eq_some_iff.1 h2).1]; exact h2, ownF_below h3 hb, h4⟩
theorem area_wrap {a b : Int} (ha : 0 ≤ a ∧ a ≤ 10) (hb : 0 ≤ b ∧ b ≤ 10) : 0 ≤ a * b ∧ a * b ≤ 100 := by
  refine ⟨Int.mul_nonneg ha.1 hb.1, ?_⟩
  have := Int.mul_le_mul ha.2 hb.2 hb.1 (by omega)
  omega

set_option maxRecDepth 100000 in
set_option maxHeartbeats 2000000 in
theorem implBackF_any (L : Lawn) (hL : L.Fits) (w : World) :
    Calls Try.prog 61 #[.agg L.cells] w fun e w' => e = .returned (.tuple #[.string (backS L), .int .i64 (backC L)]) ∧ Below w.heap.size w w' := by
  have HC := Lib.hid (implCount_any L hL 0)
  obtain ⟨n, c, hv⟩ : ∃ n c, countV L 0 = .tuple #[.int .i64 n, .int .i64 c] := by unfold countV; split <;> exact ⟨_, _, rfl⟩
  rw [hv] at HC
  have HB := Lib.hid (show backC L = (if validB L then (if backF L then 0 else 4) else 1) ∧ backS L = (if validB L && backF L then ⟨(backL L.wide.toNat L.high.toNat).toArray⟩ else ⟨#[]⟩) from ⟨rfl, rfl⟩)
  cases hvb : validB L
  case false =>
    have hc1 : c = 1 ∧ n = 0 := by
      unfold countV told at hv
      simp [hvb] at hv
      omega
    obtain ⟨rfl, rfl⟩ := hc1
    rw [hvb] at HB
    clear hL hv hvb
    go_enter Try.func61, Try.ntmps61
    have g0 := Holds.new w L.cells 28
    have hb0 := (Below.refl w.heap.size w).alloc (Nat.le_refl _) (.cells L.cells 28)
    go_wp2_with fail
    refine (HC.out _).mono ?_
    rintro e w1 ⟨rfl, hb1⟩
    have hb2 := below_onto hb0 hb1
    clear g0 hb0 hb1
    go_wp2_with fail
    go_ret2
    refine ⟨?_, hb2⟩
    rw [HB.out.1, HB.out.2]
    rfl
  case true =>
    obtain ⟨h1, h2, -⟩ := validB_true hvb
    have hc1 : c = 0 ∧ n = ((cellsL L 0).length : Int) := by
      unfold countV told at hv
      simp [hvb, show inB 0 0 3 = true by decide] at hv
      exact ⟨hv.2.symm, by rw [← hv.1]; simp [cellsL, told, hvb, show inB 0 0 3 = true by decide]⟩
    obtain ⟨rfl, hn⟩ := hc1
    have hbf : backF L = decide (n = L.wide * L.high) := by unfold backF; rw [hn]
    have har := area_wrap (a := L.wide) (b := L.high) (by omega) (by omega)
    obtain ⟨W, hW⟩ : ∃ W : Nat, L.wide = (W : Int) + 1 := ⟨(L.wide - 1).toNat, by omega⟩
    obtain ⟨H, hH⟩ : ∃ H : Nat, L.high = (H : Int) := ⟨L.high.toNat, by omega⟩
    have hWn : L.wide.toNat = W + 1 := by omega
    have hHn : L.high.toNat = H := by omega
    have hW9 : W ≤ 9 := by omega
    have hH10 : H ≤ 10 := by omega
    rw [hvb, hWn, hHn] at HB
    have HW := Lib.hid (show L.wide = (W : Int) + 1 ∧ L.high = (H : Int) from ⟨hW, hH⟩)
    obtain ⟨f, hf⟩ : ∃ f, backF L = f := ⟨_, rfl⟩
    rw [hf] at HB hbf
    have hne : (n != wrap64 (((W : Int) + 1) * (H : Int))) = !f := by
      rw [hW, hH] at har hbf
      obtain ⟨p, hp⟩ : ∃ p, ((W : Int) + 1) * (H : Int) = p := ⟨_, rfl⟩
      rw [hp] at har hbf ⊢
      rw [show wrap64 p = p by unfold wrap64; omega, hbf]
      by_cases e : n = p <;> simp [e]
    clear hL hv hvb hn hWn hHn h1 h2 hbf har hf
    go_enter Try.func61, Try.ntmps61
    have g0 := Holds.new w L.cells 28
    have hb0 := (Below.refl w.heap.size w).alloc (Nat.le_refl _) (.cells L.cells 28)
    go_wp2_with fail
    refine (HC.out _).mono ?_
    rintro e w1 ⟨rfl, hb1⟩
    have hb2 := below_onto hb0 hb1
    have g1 := g0.below hb1 g0.lt
    clear g0 hb0 hb1 HC
    obtain ⟨r1, -, c1, -, -⟩ := g1.facts
    cases f
    case false =>
      go_wp2_with fail
      go_ret2
      refine ⟨?_, hb2⟩
      rw [HB.out.1, HB.out.2]
      rfl
    case true =>
      have hle : w.heap.size + 1 ≤ w1.heap.size := g1.lt
      obtain ⟨-, -, c2, -, -⟩ := (g1.alloc (.cells #[.pointer none, .slice none 0 0] 169)).facts
      have hB : Bld (w1.alloc (.cells #[.pointer none, .slice none 0 0] 169)) (w.heap.size + 1) w1.heap.size (Lib.byteCells (backL (W + 1) 0)) := Bld.made w1 _ hle
      have HBD := Lib.hid hB
      have g2 := g1.alloc (.cells #[.pointer none, .slice none 0 0] 169)
      have hb3 := hb2.alloc hb2.size (.cells #[.pointer none, .slice none 0 0] 169)
      clear hB
      go_wp2_with fail
      obtain ⟨W0, hW0⟩ : ∃ W0, w1.alloc (.cells #[.pointer none, .slice none 0 0] 169) = W0 := ⟨_, rfl⟩
      obtain ⟨b, hbb⟩ : ∃ b, w1.heap.size = b := ⟨_, rfl⟩
      have hW0s : b < W0.heap.size := by rw [← hW0, ← hbb]; simp
      rw [hW0, hbb] at HBD
      rw [hW0] at g2 hb3
      rw [hW0, hbb]
      rw [hbb] at hle
      clear hW0 hbb c1 c2 r1 g1 hb2 hne
      go_loopw [29] (fun i wr => ∃ y : Nat, y ≤ H ∧ i = .int .i64 y ∧ Bld wr (w.heap.size + 1) b (Lib.byteCells (backL (W + 1) y)) ∧ Holds wr w.heap.size L.cells ∧ Below w.heap.size w wr) (fun i _ => H - (intOf i).toNat)
      case atStart => exact ⟨0, Nat.zero_le _, rfl, HBD.out, g2, hb3⟩
      case round =>
        obtain ⟨y, hy, rfl, hB, g4, hb⟩ := hrel
        have HB1 := Lib.hid hB
        have hlen := backL_length (W + 1) (by omega) y
        clear hB HBD g2 hb3
        by_cases hlt : y < H
        · have hd : decide ((y : Int) < (H : Int)) = true := by simp; omega
          have hwr := hb.size
          obtain ⟨r4, -, c4, -, -⟩ := g4.facts
          by_cases h0 : y = 0
          · have hd0 : decide ((0 : Int) < (y : Int)) = false := by simp; omega
            have g5 := g4
            have hb6 := hb
            obtain ⟨r5, -, c5, -, -⟩ := g5.facts
            clear hb r4 c4 g4
            have hq : ((y : Int) % 2 == 1) = false := by simp; omega
            go_wp2_with fail
            refine (Try.strings_Repeat ⟨#[69]⟩ W _ (by omega) (by simp [ByteArray.size]; omega)).mono ?_
            rintro e w6 ⟨rfl, hb7⟩
            have hz6 := hb7.size
            have HB6 := Lib.hid (bld_below HB1.out hb7)
            have g6 := g5.below hb7 g5.lt
            have hb8 := below_onto hb6 hb7
            clear HB1 hb7 g5 hb6 r5 c5
            go_wp2_with fail
            refine (writeString_any _ _ _ ⟨(Lib.repeatL [69] W).toArray⟩ _ HB6.out (by simp only [List.length_singleton, Lib.byteCells_length, size_of_list, Lib.repeatL_length]; simp; omega) (by have := g6.lt; omega)).mono ?_
            rintro e w7 ⟨rfl, hB7, hb9, -⟩
            have g7 := g6.below hb9 (by omega)
            have hb10 := hb8.trans (hb9.mono (by omega))
            have hbr : backR y = 69 := by unfold backR; rw [if_neg (by omega)]
            rw [← hbr, ← back_first W y h0] at hB7
            have HB7 := Lib.hid hB7
            clear hB7 hb9 hb8 g6 HB6
            go_wp2_with fail
            go_roundw
            case rel => exact ⟨y + 1, by omega, by go_num, HB7.out, g7, hb10⟩
            case measure => simp [intOf]; omega
          · have hd0 : decide ((0 : Int) < (y : Int)) = true := by simp; omega
            go_wp2_with fail
            refine (writeByte_any _ _ _ _ _ HB1.out (by rw [Lib.byteCells_length]; omega) (by have := g4.lt; omega)).mono ?_
            rintro e w5 ⟨rfl, hB5, hb5, -⟩
            have g5 := g4.below hb5 (by omega)
            have hb6 := hb.trans (hb5.mono (by omega))
            have HB5 := Lib.hid hB5
            clear hB5 hb5 hb HB1 r4 c4 g4
            obtain ⟨r5, -, c5, -, -⟩ := g5.facts
            by_cases hpar : y % 2 = 1
            · have hq : ((y : Int) % 2 == 1) = true := by simp; omega
              go_wp2_with fail
              refine (Try.strings_Repeat ⟨#[87]⟩ W _ (by omega) (by simp [ByteArray.size]; omega)).mono ?_
              rintro e w6 ⟨rfl, hb7⟩
              have hz6 := hb7.size
              have HB6 := Lib.hid (bld_below HB5.out hb7)
              have g6 := g5.below hb7 g5.lt
              have hb8 := below_onto hb6 hb7
              clear HB5 hb7 g5 hb6 r5 c5
              go_wp2_with fail
              refine (writeString_any _ _ _ ⟨(Lib.repeatL [87] W).toArray⟩ _ HB6.out (by simp only [List.length_append, List.length_singleton, Lib.byteCells_length, size_of_list, Lib.repeatL_length]; simp; omega) (by have := g6.lt; omega)).mono ?_
              rintro e w7 ⟨rfl, hB7, hb9, -⟩
              have g7 := g6.below hb9 (by omega)
              have hb10 := hb8.trans (hb9.mono (by omega))
              have hbr : backR y = 87 := by unfold backR; rw [if_pos (by omega)]
              rw [← hbr, ← back_next W y h0] at hB7
              have HB7 := Lib.hid hB7
              clear hB7 hb9 hb8 g6 HB6
              go_wp2_with fail
              go_roundw
              case rel => exact ⟨y + 1, by omega, by go_num, HB7.out, g7, hb10⟩
              case measure => simp [intOf]; omega
            · have hq : ((y : Int) % 2 == 1) = false := by simp; omega
              go_wp2_with fail
              refine (Try.strings_Repeat ⟨#[69]⟩ W _ (by omega) (by simp [ByteArray.size]; omega)).mono ?_
              rintro e w6 ⟨rfl, hb7⟩
              have hz6 := hb7.size
              have HB6 := Lib.hid (bld_below HB5.out hb7)
              have g6 := g5.below hb7 g5.lt
              have hb8 := below_onto hb6 hb7
              clear HB5 hb7 g5 hb6 r5 c5
              go_wp2_with fail
              refine (writeString_any _ _ _ ⟨(Lib.repeatL [69] W).toArray⟩ _ HB6.out (by simp only [List.length_append, List.length_singleton, Lib.byteCells_length, size_of_list, Lib.repeatL_length]; simp; omega) (by have := g6.lt; omega)).mono ?_
              rintro e w7 ⟨rfl, hB7, hb9, -⟩
              have g7 := g6.below hb9 (by omega)
              have hb10 := hb8.trans (hb9.mono (by omega))
              have hbr : backR y = 69 := by unfold backR; rw [if_neg (by omega)]
              rw [← hbr, ← back_next W y h0] at hB7
              have HB7 := Lib.hid hB7
              clear hB7 hb9 hb8 g6 HB6
              go_wp2_with fail
              go_roundw
              case rel => exact ⟨y + 1, by omega, by go_num, HB7.out, g7, hb10⟩
              case measure => simp [intOf]; omega
        · have hd : decide ((y : Int) < (H : Int)) = false := by simp; omega
          obtain rfl : y = H := by omega
          go_wp2_with fail
          refine (Try.Builder_String_any_k _ _ _ _ HB1.out (by have := g4.lt; omega)).mono ?_
          rintro e w5 ⟨rfl, hB5, hb5, hk5⟩
          have hb6 := hb.trans (hb5.mono (by omega))
          clear hB5 hk5 hb5 hb HB1 g4
          go_wp2_with fail
          go_ret2
          refine ⟨?_, hb6⟩
          rw [HB.out.1, HB.out.2]
          rfl

set_option maxRecDepth 100000 in
set_option maxHeartbeats 2000000 in
theorem specBackF_any (L : Lawn) (hL : L.Fits) (w : World) :
    Calls Try.prog 60 #[.agg L.cells] w fun e w' => e = .returned (.tuple #[.string (backS L), .int .i64 (backC L)]) ∧ Below w.heap.size w w' := by
  have HO := Lib.hid (fun (w' : World) (h : Holds w' w.heap.size L.cells) => l01Ok_any L hL w.heap.size w' h)
  have HB := Lib.hid (show backC L = (if validB L then (if backF L then 0 else 4) else 1) ∧ backS L = (if validB L && backF L then ⟨(backL L.wide.toNat L.high.toNat).toArray⟩ else ⟨#[]⟩) from ⟨rfl, rfl⟩)
  have g0 := Holds.new w L.cells 28
  have hb0 := (Below.refl w.heap.size w).alloc (Nat.le_refl _) (.cells L.cells 28)
  cases hvb : validB L
  case false =>
    rw [hvb] at HB HO
    clear hL hvb
    go_enter Try.func60, Try.ntmps60
    go_wp2_with fail
    refine (HO.out _ g0).mono ?_
    rintro e w1 ⟨rfl, hb1⟩
    have hb2 := below_onto hb0 hb1
    clear g0 hb0 hb1
    go_wp2_with fail
    go_ret2
    refine ⟨?_, hb2⟩
    rw [HB.out.1, HB.out.2]
    rfl
  case true =>
    obtain ⟨h1, h2, -⟩ := validB_true hvb
    have har := area_wrap (a := L.wide) (b := L.high) (by omega) (by omega)
    have HC := Lib.hid (fun (w' : World) (h : Holds w' w.heap.size L.cells) => l01Cells_any L.wide.toNat L.high.toNat (by omega) (by omega) (by omega) (by omega) L hL (by omega) (by omega) 0 w.heap.size w' h)
    have hcl : cellsL L 0 = ofKind L L.wide.toNat L.high.toNat 0 := by simp [cellsL, told, hvb, show inB 0 0 3 = true by decide]
    obtain ⟨n, hn⟩ : ∃ n, (ofKind L L.wide.toNat L.high.toNat 0).length = n := ⟨_, rfl⟩
    have hbf : backF L = decide ((n : Int) = L.wide * L.high) := by unfold backF; rw [hcl, hn]
    rw [hvb] at HB HO
    rw [hn] at HC
    obtain ⟨W, hW⟩ : ∃ W : Nat, L.wide = (W : Int) + 1 := ⟨(L.wide - 1).toNat, by omega⟩
    obtain ⟨H, hH⟩ : ∃ H : Nat, L.high = (H : Int) := ⟨L.high.toNat, by omega⟩
    have hWn : L.wide.toNat = W + 1 := by omega
    have hHn : L.high.toNat = H := by omega
    have hW9 : W ≤ 9 := by omega
    have hH10 : H ≤ 10 := by omega
    have hn1 : n ≤ 100 := by rw [← hn, ← hcl]; exact cellsL_le L 0
    rw [hWn, hHn] at HB
    have HW := Lib.hid (show L.wide = (W : Int) + 1 ∧ L.high = (H : Int) from ⟨hW, hH⟩)
    obtain ⟨f, hf⟩ : ∃ f, backF L = f := ⟨_, rfl⟩
    rw [hf] at HB hbf
    have hne : ((n : Int) != wrap64 (((W : Int) + 1) * (H : Int))) = !f := by
      rw [hW, hH] at har hbf
      obtain ⟨p, hp⟩ : ∃ p, ((W : Int) + 1) * (H : Int) = p := ⟨_, rfl⟩
      rw [hp] at har hbf ⊢
      rw [show wrap64 p = p by unfold wrap64; omega, hbf]
      by_cases e : (n : Int) = p <;> simp [e]
    clear hL hvb hn hWn hHn h1 h2 hbf har hf hcl
    go_enter Try.func60, Try.ntmps60
    go_wp2_with fail
    refine (HO.out _ g0).mono ?_
    rintro e w1 ⟨rfl, hb1⟩
    have hb2 := below_onto hb0 hb1
    have g1 := g0.below hb1 g0.lt
    clear g0 hb0 hb1 HO
    go_wp2_with fail
    have HX := Lib.hid (show ∀ w', Below w1.heap.size w1 w' → w'.cell? ⟨w.heap.size, 0, none⟩ = some (.int .i8 ((W : Int) + 1)) ∧ w'.cell? ⟨w.heap.size, 1, none⟩ = some (.int .i8 (H : Int)) from fun w' hw' => by
      have g := g1.below hw' g1.lt
      exact ⟨by rw [g.cell]; simp [Lawn.cells, hW], by rw [g.cell]; simp [Lawn.cells, hH]⟩)
    refine wp_region_growV 9 0 [1] (fun p w' => ∃ a c, p = .slice a n c) (fun p w1 w2 h hb => h)
      (fun p => [p, .int .i64 n, .pointer (some ⟨w.heap.size, 0, none⟩), .int .i8 ((W : Int) + 1), .int .i64 ((W : Int) + 1), .pointer (some ⟨w.heap.size, 1, none⟩), .int .i8 (H : Int), .int .i64 (H : Int), .int .i64 (wrap64 (((W : Int) + 1) * (H : Int)))]) (by
        intro p p' j h1 h2
        match j with
        | 0 => exact absurd rfl h1
        | 1 => rfl
        | 2 => rfl
        | 3 => rfl
        | 4 => rfl
        | 5 => rfl
        | 6 => rfl
        | 7 => rfl
        | 8 => rfl
        | j + 9 => rfl) (by kernel_rfl) (by kernel_rfl) (by kernel_rfl) ?_
    intro p
    simp only [List.take_succ_cons, List.take_zero, List.drop_succ_cons, List.drop_zero]
    refine seqV_call rfl rfl (fun q => rfl) ?_ ?_
    · intro w' hw' K hK
      go_wp2_with fail
      refine (HC.out _ (g1.below hw' g1.lt)).mono ?_
      rintro e w4 ⟨v, rfl, ho, hb4⟩
      obtain ⟨a, c, rfl⟩ := own_slice ho
      exact hK _ _ _ rfl hb4 ⟨a, c, rfl⟩
    simp only [Act.put, List.setIfInBounds_toArray, List.set_cons_succ, List.set_cons_zero]
    refine seqV_dep (v := .int .i64 n) rfl rfl rfl rfl ?_ ?_
    · rintro w' hw' ⟨a, c, rfl⟩ K hK
      go_wp2_with fail
      exact hK _ _ rfl (Below.refl _ _)
    simp only [Act.put, List.setIfInBounds_toArray, List.set_cons_succ, List.set_cons_zero]
    refine seqV_free (v := .pointer (some ⟨w.heap.size, 0, none⟩)) rfl rfl rfl rfl ?_ ?_
    · intro w' hw' K hK
      obtain ⟨c1, c2⟩ := HX.out _ hw'
      go_wp2_with fail
      exact hK _ _ rfl (Below.refl _ _)
    simp only [Act.put, List.setIfInBounds_toArray, List.set_cons_succ, List.set_cons_zero]
    refine seqV_free (v := .int .i8 ((W : Int) + 1)) rfl rfl rfl rfl ?_ ?_
    · intro w' hw' K hK
      obtain ⟨c1, c2⟩ := HX.out _ hw'
      go_wp2_with fail
      exact hK _ _ rfl (Below.refl _ _)
    simp only [Act.put, List.setIfInBounds_toArray, List.set_cons_succ, List.set_cons_zero]
    refine seqV_free (v := .int .i64 ((W : Int) + 1)) rfl rfl rfl rfl ?_ ?_
    · intro w' hw' K hK
      obtain ⟨c1, c2⟩ := HX.out _ hw'
      go_wp2_with fail
      exact hK _ _ rfl (Below.refl _ _)
    simp only [Act.put, List.setIfInBounds_toArray, List.set_cons_succ, List.set_cons_zero]
    refine seqV_free (v := .pointer (some ⟨w.heap.size, 1, none⟩)) rfl rfl rfl rfl ?_ ?_
    · intro w' hw' K hK
      obtain ⟨c1, c2⟩ := HX.out _ hw'
      go_wp2_with fail
      exact hK _ _ rfl (Below.refl _ _)
    simp only [Act.put, List.setIfInBounds_toArray, List.set_cons_succ, List.set_cons_zero]
    refine seqV_free (v := .int .i8 (H : Int)) rfl rfl rfl rfl ?_ ?_
    · intro w' hw' K hK
      obtain ⟨c1, c2⟩ := HX.out _ hw'
      go_wp2_with fail
      exact hK _ _ rfl (Below.refl _ _)
    simp only [Act.put, List.setIfInBounds_toArray, List.set_cons_succ, List.set_cons_zero]
    refine seqV_free (v := .int .i64 (H : Int)) rfl rfl rfl rfl ?_ ?_
    · intro w' hw' K hK
      obtain ⟨c1, c2⟩ := HX.out _ hw'
      go_wp2_with fail
      exact hK _ _ rfl (Below.refl _ _)
    simp only [Act.put, List.setIfInBounds_toArray, List.set_cons_succ, List.set_cons_zero]
    refine seqV_free (v := .int .i64 (wrap64 (((W : Int) + 1) * (H : Int)))) rfl rfl rfl rfl ?_ ?_
    · intro w' hw' K hK
      obtain ⟨c1, c2⟩ := HX.out _ hw'
      go_wp2_with fail
      exact hK _ _ rfl (Below.refl _ _)
    simp only [Act.put, List.setIfInBounds_toArray, List.set_cons_succ, List.set_cons_zero]
    refine seqV_nil ?_
    intro w3 hz3 hb3 _
    have g3 := g1.below hb3 g1.lt
    have hb4 := hb2.trans (hb3.mono hb2.size)
    clear HX HC hb2 g1 hb3 hz3
    cases f
    case false =>
      go_wp2_with fail
      go_ret2
      refine ⟨?_, hb4⟩
      rw [HB.out.1, HB.out.2]
      rfl
    case true =>
      obtain ⟨r3, -, c3, -, -⟩ := g3.facts
      go_wp2_with fail
      go_loopw [4, 5] (fun s i wr => ∃ y : Nat, y ≤ H ∧ i = .int .i8 y ∧ s = .string ⟨(backL (W + 1) y).toArray⟩ ∧ wr = w3) (fun _ i _ => H - (intOf i).toNat)
      case atStart => exact ⟨0, Nat.zero_le _, rfl, rfl, rfl⟩
      case round =>
        obtain ⟨y, hy, rfl, rfl, rfl⟩ := hrel
        by_cases hlt : y < H
        · have hd : decide ((y : Int) < (H : Int)) = true := by simp; omega
          have hlen := backL_length (W + 1) (by omega) y
          by_cases h0 : y = 0
          · have hd0 : decide ((0 : Int) < (y : Int)) = false := by simp; omega
            have hq : ((y : Int) % 2 == 0) = true := by simp; omega
            have hq2 : ¬ y % 2 = 1 := by omega
            have h02 : ¬ 0 < y := by omega
            go_wp2_with fail
            obtain ⟨pl, hpl⟩ : ∃ pl, backL (W + 1) y = pl := ⟨_, rfl⟩
            have HPL := Lib.hid hpl
            have hpll : pl.length ≤ 101 := by rw [← hpl]; omega
            clear hpl
            go_loopw [4, 6] (fun s x wr' => ∃ j : Nat, j ≤ W ∧ x = .int .i8 ((j + 1 : Nat) : Int) ∧ s = .string ⟨(pl ++ List.replicate j (69 : UInt8)).toArray⟩ ∧ wr' = wr) (fun _ x _ => W + 1 - (intOf x).toNat)
            case atStart => exact ⟨0, Nat.zero_le _, rfl, by rw [← HPL.out]; simp, rfl⟩
            case round =>
              obtain ⟨j, hj, rfl, rfl, rfl⟩ := hrel
              by_cases hlj : j < W
              · have hdj : decide (((j + 1 : Nat) : Int) < (W : Int) + 1) = true := by simp; omega
                go_wp2_with fail
                go_roundw
                case rel => exact ⟨j + 1, by omega, by go_num, by rw [str_snoc, List.append_assoc, ← List.replicate_succ'], trivial⟩
                case measure => simp [intOf]; omega
              · have hdj : decide (((j + 1 : Nat) : Int) < (W : Int) + 1) = false := by simp; omega
                obtain rfl : j = W := by omega
                go_wp2_with fail
                go_roundw
                case rel => exact ⟨y + 1, by omega, by go_num, by rw [← HPL.out]; simp only [backL, backR, hq2, h02, if_false, Nat.add_sub_cancel, List.append_nil], trivial⟩
                case measure => simp [intOf]; omega
          · have hd0 : decide ((0 : Int) < (y : Int)) = true := by simp; omega
            have h02 : 0 < y := by omega
            by_cases hpar : y % 2 = 1
            · have hq : ((y : Int) % 2 == 0) = false := by simp; omega
              go_wp2_with fail
              obtain ⟨pl, hpl⟩ : ∃ pl, backL (W + 1) y ++ [83] = pl := ⟨_, rfl⟩
              have HPL := Lib.hid hpl
              have hpll : pl.length ≤ 101 := by rw [← hpl]; simp only [List.length_append, List.length_singleton]; omega
              clear hpl
              go_loopw [4, 6] (fun s x wr' => ∃ j : Nat, j ≤ W ∧ x = .int .i8 ((j + 1 : Nat) : Int) ∧ s = .string ⟨(pl ++ List.replicate j (87 : UInt8)).toArray⟩ ∧ wr' = wr) (fun _ x _ => W + 1 - (intOf x).toNat)
              case atStart => exact ⟨0, Nat.zero_le _, rfl, by rw [← HPL.out]; simp [str_snoc], rfl⟩
              case round =>
                obtain ⟨j, hj, rfl, rfl, rfl⟩ := hrel
                by_cases hlj : j < W
                · have hdj : decide (((j + 1 : Nat) : Int) < (W : Int) + 1) = true := by simp; omega
                  go_wp2_with fail
                  go_roundw
                  case rel => exact ⟨j + 1, by omega, by go_num, by rw [str_snoc, List.append_assoc, ← List.replicate_succ'], trivial⟩
                  case measure => simp [intOf]; omega
                · have hdj : decide (((j + 1 : Nat) : Int) < (W : Int) + 1) = false := by simp; omega
                  obtain rfl : j = W := by omega
                  go_wp2_with fail
                  go_roundw
                  case rel => exact ⟨y + 1, by omega, by go_num, by rw [← HPL.out]; simp only [backL, backR, hpar, h02, if_true, Nat.add_sub_cancel], trivial⟩
                  case measure => simp [intOf]; omega
            · have hq : ((y : Int) % 2 == 0) = true := by simp; omega
              go_wp2_with fail
              obtain ⟨pl, hpl⟩ : ∃ pl, backL (W + 1) y ++ [83] = pl := ⟨_, rfl⟩
              have HPL := Lib.hid hpl
              have hpll : pl.length ≤ 101 := by rw [← hpl]; simp only [List.length_append, List.length_singleton]; omega
              clear hpl
              go_loopw [4, 6] (fun s x wr' => ∃ j : Nat, j ≤ W ∧ x = .int .i8 ((j + 1 : Nat) : Int) ∧ s = .string ⟨(pl ++ List.replicate j (69 : UInt8)).toArray⟩ ∧ wr' = wr) (fun _ x _ => W + 1 - (intOf x).toNat)
              case atStart => exact ⟨0, Nat.zero_le _, rfl, by rw [← HPL.out]; simp [str_snoc], rfl⟩
              case round =>
                obtain ⟨j, hj, rfl, rfl, rfl⟩ := hrel
                by_cases hlj : j < W
                · have hdj : decide (((j + 1 : Nat) : Int) < (W : Int) + 1) = true := by simp; omega
                  go_wp2_with fail
                  go_roundw
                  case rel => exact ⟨j + 1, by omega, by go_num, by rw [str_snoc, List.append_assoc, ← List.replicate_succ'], trivial⟩
                  case measure => simp [intOf]; omega
                · have hdj : decide (((j + 1 : Nat) : Int) < (W : Int) + 1) = false := by simp; omega
                  obtain rfl : j = W := by omega
                  go_wp2_with fail
                  go_roundw
                  case rel => exact ⟨y + 1, by omega, by go_num, by rw [← HPL.out]; simp only [backL, backR, hpar, h02, if_true, if_false, Nat.add_sub_cancel], trivial⟩
                  case measure => simp [intOf]; omega
        · have hd : decide ((y : Int) < (H : Int)) = false := by simp; omega
          obtain rfl : y = H := by omega
          go_wp2_with fail
          go_ret2
          refine ⟨?_, hb4⟩
          rw [HB.out.1, HB.out.2]
          rfl
end Go.Proofs.Ytlfmadnhjleofaa
