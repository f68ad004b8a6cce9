/- Where a way goes: the cells to which it comes, of the program. A way on a lawn: its code and its cells, of the program; CheckWay and EndOf. Where a way goes, of the model; CheckWay of the model. -/
import Derived.Test.YtaeenkjbmlgcmaaZG
import Derived.Test.YtaeenkjbmlgcmaaZI
namespace Go.Proofs.Ytaeenkjbmlgcmaa
open Go.RowKit
set_option linter.unusedVariables false
attribute [local go_sem ↓] loadRow loadGrid loadLawn loadMirror storeRow storeGrid storeLawn allocRow allocGrid allocLawn buildZero buildSides

/-- The cell beside one, in the way of a letter; the cell behind k letters. -/
def stepL (c : Pt) (b : UInt8) : Pt := if letN b = 0 then (c.1, c.2 - 1) else if letN b = 1 then (c.1 - 1, c.2) else if letN b = 2 then (c.1 + 1, c.2) else (c.1, c.2 + 1)
def posK (a : Pt) (l : List UInt8) : Nat → Pt
  | 0 => a
  | k + 1 => stepL (posK a l k) (l.getD k 0)
theorem stepP_beside {c : Pt} {b : UInt8} {k : Nat} (h : letN b = k) : (beside c)[k]? = some (stepL c b) := by
  have hr := letN_range b
  unfold stepL
  match k, h with
  | 0, h => simp [h, beside]
  | 1, h => simp [h, beside]
  | 2, h => simp [h, beside]
  | 3, h => simp [h, beside]
  | k + 4, h => omega
theorem posK_succ {a : Pt} {s : ByteArray} {k : Nat} (h : k < s.size) : posK a s.data.toList (k + 1) = stepL (posK a s.data.toList k) s[k] := by
  rw [posK, List.getD_eq_getElem?_getD, byte_get s k h]
  rfl
/-- The way comes to n cells that pass: to no more, or it ends there. -/
structure GoneIs (p : Nat → Bool) (N n : Nat) : Prop where
  le : n ≤ N + 1
  all : ∀ j, j < n → p j = true
  stop : n ≤ N → p n = false
theorem gone_ex (p : Nat → Bool) (N : Nat) : ∃ n, GoneIs p N n := by
  have key : ∀ m, m ≤ N + 1 → (∀ j, j < m → p j = true) ∨ ∃ n, GoneIs p N n := by
    intro m
    induction m with
    | zero => exact fun _ => .inl fun j hj => by omega
    | succ m ih =>
      intro hm
      rcases ih (by omega) with h | h
      · cases hp : p m with
        | true =>
          refine .inl fun j hj => ?_
          by_cases e : j = m
          · subst e; exact hp
          · exact h j (by omega)
        | false => exact .inr ⟨m, by omega, h, fun _ => hp⟩
      · exact .inr h
  rcases key (N + 1) (Nat.le_refl _) with h | h
  · exact ⟨N + 1, Nat.le_refl _, h, fun h => by omega⟩
  · exact h
theorem GoneIs.one {p : Nat → Bool} {N n m : Nat} (h : GoneIs p N n) (k : GoneIs p N m) : n = m := by
  rcases Nat.lt_trichotomy n m with hl | hl | hl
  · have h1 := h.stop (by have := k.le; omega)
    rw [k.all n hl] at h1; cases h1
  · exact hl
  · have h1 := k.stop (by have := h.le; omega)
    rw [h.all m hl] at h1; cases h1
/-- The first n cells. -/
def cellsK (a : Pt) (l : List UInt8) (n : Nat) : List Pt := (List.range n).map (posK a l)
theorem cellsK_succ (a : Pt) (l : List UInt8) (n : Nat) : cellsK a l (n + 1) = cellsK a l n ++ [posK a l n] := by simp [cellsK, List.range_succ]
theorem cellsK_get {a : Pt} {l : List UInt8} {n i : Nat} (h : i < n) : (cellsK a l n)[i]? = some (posK a l i) := by simp [cellsK, h]
theorem flatP_cellsK_len (a : Pt) (l : List UInt8) (n : Nat) : (flatP (cellsK a l n)).length = n * 2 := by rw [flatP_length]; simp [cellsK]
theorem wayC_zero {s : ByteArray} (h : wayC s = 0) {k : Nat} (hk : k < s.size) : ∃ j : Nat, j < 4 ∧ letN s[k] = j := by
  have hall : s.data.toList.all okB = true := by
    unfold wayC at h
    split at h
    · cases h
    · split at h
      · assumption
      · cases h
  have hm : okB s[k] = true := (List.all_eq_true.1 hall) _ (List.mem_of_getElem? (byte_get s k hk))
  have h0 := (okB_let s[k]).1 hm
  have h1 := letN_range s[k]
  exact ⟨(letN s[k]).toNat, by omega, by omega⟩

set_option maxRecDepth 100000 in
set_option maxHeartbeats 2000000 in
theorem cells_any (L : Lawn) (hL : L.Fits) (hV : validB L = true) (s : ByteArray) (hw : wayC s = 0) (x y : Int) (n : Nat) (hn : GoneIs (fun j => openP L (posK (x, y) s.data.toList j)) s.size n) (w : World) :
    Calls Try.prog 85 #[.string s, .agg #[.int .i8 x, .int .i8 y], .func (.func 78) #[.agg L.cells] #[]] w fun e w' => (∃ v, e = .returned v ∧ w'.ownsRow w.heap.size 37 2 v n (flatP (cellsK (x, y) s.data.toList n))) ∧ Below w.heap.size w w' := by
  have HP := Lib.hid (fun (c : Pt) (w : World) => isOpen_any L hV hL c.1 c.2 w)
  have hE := pass_isOpen L
  have HN := Lib.hid hn
  have HW := Lib.hid (fun k (hk : k < s.size) => wayC_zero hw hk)
  have HNE := Lib.hid (openP_near hV)
  have hsz := wayC_le hw
  obtain ⟨i0, hi, hz0, hz1, hz2⟩ := info_parts cellInfo
  have HI := Lib.hid (show Try.prog.info? 37 = some i0 ∧ i0.zero = some (.agg #[.int .i8 0, .int .i8 0]) ∧ i0.size = 2 ∧ i0.bytes = 2 from ⟨hi, hz0, hz1, hz2⟩)
  clear hn hw hV hL hi hz0 hz1 hz2
  go_enter Try.func85, Try.ntmps85
  go_wp2_with fail
  have c0 := Holds.new w #[.int .i8 x, .int .i8 y] 37
  have hb0 := (Below.refl w.heap.size w).alloc (Nat.le_refl _) (.cells #[.int .i8 x, .int .i8 y] 37)
  refine (HP.out (x, y) _).mono ?_
  obtain ⟨o, ho⟩ : ∃ o, openB L x y = o := ⟨_, rfl⟩
  simp only
  rw [ho]
  rintro e w1 ⟨rfl, hb1⟩
  have c1 := c0.below hb1 c0.lt
  have jB := below_onto hb0 hb1
  clear c0 hb0 hb1
  cases o
  case false =>
    have HZ := Lib.hid (show n = 0 by
      rcases Nat.eq_zero_or_pos n with h | h
      · exact h
      · have := HN.out.all 0 h
        simp only [posK, openP, ho] at this
        cases this)
    go_wp2_with fail
    go_ret
    refine ⟨⟨_, rfl, ?_⟩, jB⟩
    rw [HZ.out]
    exact World.ownsRow_nil _ _ _ _
  case true =>
    have HO := Lib.hid ho
    clear ho
    obtain ⟨-, -, d1, -, -⟩ := c1.facts
    go_wp2_with fail
    have hm : (w1.alloc (.cells #[.int .i8 x, .int .i8 y] 37)).ownsRow (w.heap.size + 1) 37 2 (.slice (some ⟨w1.heap.size, 0, none⟩) 1 1) 1 (flatP (cellsK (x, y) s.data.toList 1)) :=
      ⟨by simp [cellsK, flatP, posK], .inr ⟨w1.heap.size, 1, #[.int .i8 x, .int .i8 y], rfl, by have := c1.lt; omega, heap_alloc_new w1 _, by omega, by simp [maxLen], rfl, by simp [cellsK, flatP, posK]⟩⟩
    have hB0 := jB.alloc jB.size (.cells #[.int .i8 x, .int .i8 y] 37)
    obtain ⟨W0, hW0⟩ : ∃ W0, w1.alloc (.cells #[.int .i8 x, .int .i8 y] 37) = W0 := ⟨_, rfl⟩
    obtain ⟨B, hB⟩ : ∃ B, w.heap.size = B := ⟨_, rfl⟩
    have hw1 : B < w1.heap.size := by rw [← hB]; exact c1.lt
    rw [hW0, hB] at hm hB0
    rw [hW0]
    have HBB := Lib.hid hB
    rw [hB]
    clear hW0 hB c1 jB d1
    go_loopw [7, 19] (fun v i wr => ∃ k : Nat, k ≤ s.size ∧ i = .int .i64 k ∧ wr.ownsRow (B + 1) 37 2 v (k + 1) (flatP (cellsK (x, y) s.data.toList (k + 1))) ∧ (∀ j, j ≤ k → openP L (posK (x, y) s.data.toList j) = true) ∧ Below B w wr) (fun _ i _ => s.size - (intOf i).toNat)
    case atStart =>
      refine ⟨0, by omega, rfl, hm, fun j hj => ?_, hB0⟩
      obtain rfl : j = 0 := by omega
      exact HO.out
    case round =>
      obtain ⟨k, hk, rfl, hq, hall, hb⟩ := hrel
      have HALL := Lib.hid hall
      obtain ⟨⟨px, py⟩, hp⟩ : ∃ p, posK (x, y) s.data.toList k = p := ⟨_, rfl⟩
      have HPK := Lib.hid hp
      have hxy := HNE.out _ (hp ▸ hall k (Nat.le_refl _))
      obtain ⟨hxy0, hxy1⟩ := hxy
      simp only at hxy0 hxy1
      obtain ⟨g, cap, rfl, hgB, hgl⟩ := own_form hq (by omega)
      have HQ := Lib.hid hq
      have hgc : (cellsK (x, y) s.data.toList (k + 1))[k]? = some (px, py) := by rw [cellsK_get (by omega), hp]
      obtain ⟨fa, fb⟩ := flatP_get _ _ _ hgc
      have FX := Lib.hid (show ∀ w', Below wr.heap.size wr w' → w'.cell? ⟨g, k * 2, none⟩ = some (.int .i8 px) ∧ w'.cell? ⟨g, k * 2 + 1, none⟩ = some (.int .i8 py) from fun w' hw' => ⟨own_cell (own_below HQ.out hw') _ _ fa, own_cell (own_below HQ.out hw') _ _ fb⟩)
      clear hall hp hq hgc fa fb hm hB0
      by_cases hlt : k < s.size
      · have hdk : decide ((k : Int) < (s.size : Int)) = true := by simp; omega
        obtain ⟨kk, hkk, hlet⟩ := HW.out k hlt
        have hside := stepP_beside (c := (px, py)) hlet
        obtain ⟨⟨nx, ny⟩, hnx⟩ : ∃ q, stepL (px, py) s[k] = q := ⟨_, rfl⟩
        rw [hnx] at hside
        have HNX := Lib.hid (show posK (x, y) s.data.toList (k + 1) = (nx, ny) by rw [posK_succ hlt, HPK.out, hnx])
        have HSd := Lib.hid (side_any kk hkk (px, py) (nx, ny) hside ⟨hxy0, hxy1⟩)
        have HLT := Lib.hid (show ∀ w, Calls Try.prog 128 #[.string ⟨#[78, 87, 69, 83]⟩, .int .u8 (s[k].toNat : Int)] w fun e w' => e = .returned (.int .i64 (kk : Int)) ∧ w = w' from fun w => hlet ▸ letter_any s[k] w)
        have hix := fun w => sides_index kk hkk w
        have hEs := side_enters kk hkk
        clear hside hnx hlet
        go_wp2_with fail
        refine wp_region_grow 6 (by kernel_rfl) (by kernel_rfl) ?_
        simp only [List.take_succ_cons, List.take_zero, List.drop_succ_cons, List.drop_zero]
        refine wpGrow_plain (v := .agg sidesV) rfl ?_ ?_
        · intro w' hw' K hK
          go_wp2_with fail
          refine (sides_any _).mono ?_
          rintro e w2 ⟨rfl, hb2⟩
          exact hK _ _ rfl (below_onto hw' hb2)
        simp only [Act.put, List.setIfInBounds_toArray, List.set_cons_succ, List.set_cons_zero]
        iterate 2
          apply wpGrow_plain rfl
          · intro w' hw' K hK
            go_wp2_with fail
            exact hK _ _ rfl hw'
          simp only [Act.put, List.setIfInBounds_toArray, List.set_cons_succ, List.set_cons_zero]
        refine wpGrow_plain (v := .int .u8 ((s[k]'hlt).toNat : Int)) rfl ?_ ?_
        · intro w' hw' K hK
          go_wp2_with fail
          exact hK _ _ rfl hw'
        simp only [Act.put, List.setIfInBounds_toArray, List.set_cons_succ, List.set_cons_zero]
        refine wpGrow_plain (v := .int .i64 (kk : Int)) rfl ?_ ?_
        · intro w' hw' K hK
          go_wp2_with fail
          refine (HLT.out _).mono ?_
          rintro e w2 ⟨rfl, rfl⟩
          exact hK _ _ rfl hw'
        simp only [Act.put, List.setIfInBounds_toArray, List.set_cons_succ, List.set_cons_zero]
        refine wpGrow_plain (v := .func (.func (sideN kk)) #[] #[]) rfl ?_ ?_
        · intro w' hw' K hK
          go_wp2_with fail
          exact hK _ _ rfl hw'
        simp only [Act.put, List.setIfInBounds_toArray, List.set_cons_succ, List.set_cons_zero]
        refine wpGrow_nil ?_
        intro W2 hW2
        have HQ2 := Lib.hid (own_below HQ.out hW2)
        obtain ⟨e1, e2⟩ := FX.out _ hW2
        have hb2 : Below B w W2 := hb.trans (hW2.mono (by omega))
        have hBl : B < W2.heap.size := by have := hW2.size; omega
        clear hix hb HQ FX hW2
        go_wp2_with fail
        refine (HSd.out _).mono ?_
        rintro e w3 ⟨rfl, hb3⟩
        have HQ3 := Lib.hid (own_below HQ2.out hb3)
        have hb4 : Below B w w3 := hb2.trans (hb3.mono (by omega))
        have hBl3 : B < w3.heap.size := by have := hb3.size; omega
        have n3 := Holds.new w3 #[.int .i8 nx, .int .i8 ny] 37
        obtain ⟨-, -, d3, -, -⟩ := n3.facts
        clear HQ2 hb2 hb3 e1 e2 hEs
        go_wp2_with fail
        refine (HP.out (nx, ny) _).mono ?_
        obtain ⟨o, ho⟩ : ∃ o, openB L nx ny = o := ⟨_, rfl⟩
        simp only
        rw [ho]
        rintro e w4 ⟨rfl, hb5⟩
        have HO4 := Lib.hid ho
        have n4 := n3.below hb5 n3.lt
        have HQ4 := Lib.hid (own_below (HQ3.out.alloc (.cells #[.int .i8 nx, .int .i8 ny] 37)) hb5)
        have hb6 : Below B w w4 := (hb4.alloc (by omega) _).trans (hb5.mono (by simp; omega))
        have hBl4 : B < w4.heap.size := by have := hb5.size; simp at this; omega
        clear HQ3 hb4 hb5 n3 d3 ho
        cases o
        case false =>
          have HZ := Lib.hid (show n = k + 1 by
            refine HN.out.one ⟨by omega, fun j hj => HALL.out j (by omega), fun _ => ?_⟩
            simp only [HNX.out, openP, HO4.out])
          go_wp2_with fail
          go_ret
          refine ⟨⟨_, rfl, ?_⟩, HBB.out ▸ hb6⟩
          rw [HZ.out]
          exact ownsRow_low HQ4.out (by have := HBB.out; omega)
        case true =>
          obtain ⟨-, -, d4, -, -⟩ := n4.facts
          go_wp2_with (at_builtin; refine wpList_append_own_at _ rfl _ _ 45 rfl (B + 1) 37 i0 (.agg #[.int .i8 0, .int .i8 0]) 2 2 Try.underlying45 HI.out.1 HI.out.2.1 HI.out.2.2.1 HI.out.2.2.2 rfl (by decide) _ _ _ rfl (HQ4.out.alloc _) ⟨w4.heap.size, 0, none⟩ 1 1 [.int .i8 nx, .int .i8 ny] rfl rfl ?c1 ?c2 ?c3 ?c4 ?c5 ?_)
          case c1 =>
            intro m u hu
            match m, hu with
            | 0, hu => simp at hu; subst hu; exact (Holds.new w4 #[.int .i8 nx, .int .i8 ny] 37).cell 0
            | 1, hu => simp at hu; subst hu; exact (Holds.new w4 #[.int .i8 nx, .int .i8 ny] 37).cell 1
          case c2 => intro u hu; simp at hu; rcases hu with rfl | rfl <;> rfl
          case c3 => unfold maxLen; omega
          case c4 => omega
          case c5 => simp; omega
          intro v' w5 hown' hgrow _ hat
          have hb7 : Below B w w5 := (hb6.alloc (by omega) _).grown hgrow (by simp; omega) (fun k hk => by have := own_far HQ4.out k hk; omega)
          have ho5 : w5.ownsRow (B + 1) 37 2 v' (k + 1 + 1) (flatP (cellsK (x, y) s.data.toList (k + 1 + 1))) := by
            rw [cellsK_succ, HNX.out, flatP_append]
            exact hown'
          have HO5 := Lib.hid ho5
          have HALL5 := Lib.hid (show ∀ j, j ≤ k + 1 → openP L (posK (x, y) s.data.toList j) = true from fun j hj => by
            by_cases e : j = k + 1
            · subst e; rw [HNX.out]; exact HO4.out
            · exact HALL.out j (by omega))
          clear hown' hgrow hat ho5 n4 d4 hb6 HQ4
          go_wp2_with fail
          go_roundw
          case rel => exact ⟨k + 1, by omega, by go_num, HO5.out, HALL5.out, hb7⟩
          case measure => simp [intOf]; omega
      · have hks : k = s.size := by omega
        have hdk : decide ((k : Int) < (s.size : Int)) = false := by simp; omega
        have HZ := Lib.hid (show n = k + 1 from HN.out.one ⟨by omega, fun j hj => HALL.out j (by omega), fun h => by omega⟩)
        clear hks
        go_wp2_with fail
        go_ret
        refine ⟨⟨_, rfl, ?_⟩, HBB.out ▸ hb⟩
        rw [HZ.out]
        exact ownsRow_low HQ.out (by have := HBB.out; omega)
end Go.Proofs.Ytaeenkjbmlgcmaa

namespace Go.Proofs.Ytaeenkjbmlgcmaa
open Go.RowKit
set_option linter.unusedVariables false
attribute [local go_sem ↓] loadRow loadGrid loadLawn loadMirror storeRow storeGrid storeLawn allocRow allocGrid allocLawn buildZero buildSides

/-- The cells to which a way comes, n of them; the code of a way on a lawn. -/
abbrev Goes (L : Lawn) (x y : Int) (s : ByteArray) (n : Nat) : Prop := GoneIs (fun j => openP L (posK (x, y) s.data.toList j)) s.size n
def alongC (L : Lawn) (x y : Int) (s : ByteArray) (n : Nat) : Int := if validB L then (if isB L x y then (if wayC s = 0 then (if n ≤ s.size then 4 else 0) else wayC s) else 2) else 1
def alongM (L : Lawn) (x y : Int) (s : ByteArray) (n : Nat) : Nat := if alongC L x y s n = 0 then s.size + 1 else 0
def alongX (L : Lawn) (x y : Int) (s : ByteArray) (n : Nat) : List Value := if alongC L x y s n = 0 then flatP (cellsK (x, y) s.data.toList (s.size + 1)) else []
theorem alongC_range (L : Lawn) (x y : Int) (s : ByteArray) (n : Nat) : 0 ≤ alongC L x y s n ∧ alongC L x y s n ≤ 5 := by
  have := wayC_range s
  unfold alongC
  split
  · split
    · split
      · split <;> omega
      · omega
    · omega
  · omega
theorem alongC_zero {L : Lawn} {x y : Int} {s : ByteArray} {n : Nat} (h : alongC L x y s n = 0) : validB L = true ∧ isB L x y = true ∧ wayC s = 0 ∧ s.size < n := by
  unfold alongC at h
  split at h
  · rename_i h1
    split at h
    · rename_i h2
      split at h
      · rename_i h3
        split at h
        · cases h
        · exact ⟨h1, h2, h3, by omega⟩
      · rename_i h3; exact absurd h h3
    · cases h
  · cases h

set_option maxRecDepth 100000 in
set_option maxHeartbeats 2000000 in
theorem along_any (L : Lawn) (hL : L.Fits) (x y : Int) (s : ByteArray) (hs : s.size ≤ maxLen) (n : Nat) (hn : Goes L x y s n) (w : World) :
    Calls Try.prog 53 #[.agg L.cells, .agg #[.int .i8 x, .int .i8 y], .string s] w fun e w' => (∃ v, e = .returned (.tuple #[v, .int .i64 (alongC L x y s n)]) ∧ w'.ownsRow w.heap.size 37 2 v (alongM L x y s n) (alongX L x y s n)) ∧ Below w.heap.size w w' := by
  obtain ⟨v, hv⟩ : ∃ v, validB L = v := ⟨_, rfl⟩
  obtain ⟨f, hf⟩ : ∃ f, isB L x y = f := ⟨_, rfl⟩
  obtain ⟨cw, hcw⟩ : ∃ c, wayC s = c := ⟨_, rfl⟩
  obtain ⟨c, hc⟩ : ∃ c, alongC L x y s n = c := ⟨_, rfl⟩
  have h0 : c ≠ 0 → alongM L x y s n = 0 ∧ alongX L x y s n = [] := fun h => by
    constructor
    · unfold alongM; rw [hc, if_neg h]
    · unfold alongX; rw [hc, if_neg h]
  have H0 := Lib.hid h0
  have h1 : c = 0 → alongM L x y s n = s.size + 1 ∧ alongX L x y s n = flatP (cellsK (x, y) s.data.toList (s.size + 1)) := fun h => by
    constructor
    · unfold alongM; rw [hc, if_pos h]
    · unfold alongX; rw [hc, if_pos h]
  have H1 := Lib.hid h1
  have HC := Lib.hid (show c = if v then (if f then (if cw = 0 then (if n ≤ s.size then 4 else 0) else cw) else 2) else 1 by rw [← hc]; unfold alongC; rw [hv, hf, hcw])
  have HCK := Lib.hid (show ∀ (g : Nat) (w : World), Holds w g #[.int .i8 x, .int .i8 y] → Calls Try.prog 106 #[.agg L.cells, .slice (some ⟨g, 0, none⟩) 1 1] w fun e w' => e = .returned (.int .i64 (told v f)) ∧ Below w.heap.size w w' from fun g w h => by
    have := check_any L hL x y g w h
    rwa [hv, hf] at this)
  have HWY := Lib.hid (show ∀ w, Calls Try.prog 107 #[.string s] w fun e w' => e = .returned (.int .i64 cw) ∧ w = w' from fun w => hcw ▸ check_way s hs w)
  have HCE := Lib.hid (show v = true → cw = 0 → ∀ w, Calls Try.prog 85 #[.string s, .agg #[.int .i8 x, .int .i8 y], .func (.func 78) #[.agg L.cells] #[]] w fun e w' => (∃ v, e = .returned v ∧ w'.ownsRow w.heap.size 37 2 v n (flatP (cellsK (x, y) s.data.toList n))) ∧ Below w.heap.size w w' from
    fun h1 h2 w => cells_any L hL (hv.trans h1) s (hcw.trans h2) x y n hn w)
  have hle := hn.le
  have hsz : cw = 0 → s.size ≤ 200 := fun h => wayC_le (hcw.trans h)
  have HSZ := Lib.hid hsz
  rw [hc]
  clear hv hf hcw hc h0 h1 hn hL hs hsz
  go_enter Try.func53, Try.ntmps53
  go_wp2_with fail
  have g0 : Holds (((w.alloc (.cells L.cells 29)).alloc (.cells #[.int .i8 x, .int .i8 y] 37)).alloc (.cells #[.int .i8 x, .int .i8 y] 37)) w.heap.size L.cells := ((Holds.new _ _ _).alloc _).alloc _
  have c0 : Holds (((w.alloc (.cells L.cells 29)).alloc (.cells #[.int .i8 x, .int .i8 y] 37)).alloc (.cells #[.int .i8 x, .int .i8 y] 37)) (w.heap.size + 1) #[.int .i8 x, .int .i8 y] := (Holds.new' _ _ _ _ (by simp)).alloc _
  have s0 : Holds (((w.alloc (.cells L.cells 29)).alloc (.cells #[.int .i8 x, .int .i8 y] 37)).alloc (.cells #[.int .i8 x, .int .i8 y] 37)) (w.heap.size + 1 + 1) #[.int .i8 x, .int .i8 y] := Holds.new' _ _ _ _ (by simp)
  have hb : Below w.heap.size w (((w.alloc (.cells L.cells 29)).alloc (.cells #[.int .i8 x, .int .i8 y] 37)).alloc (.cells #[.int .i8 x, .int .i8 y] 37)) := (((Below.refl w.heap.size w).alloc (Nat.le_refl _) _).alloc (by simp) _).alloc (by simp; omega) _
  refine (HCK.out _ _ s0).mono ?_
  rintro e w1 ⟨rfl, hb1⟩
  have g1 := g0.below hb1 g0.lt
  have c1 := c0.below hb1 c0.lt
  have jB := below_onto hb hb1
  clear g0 c0 s0 hb hb1
  cases v
  case false =>
    have HE := Lib.hid (show c = 1 by have := HC.out; simpa using this)
    simp only [told, Bool.false_eq_true, if_false]
    go_wp2_with fail
    go_ret2
    obtain ⟨e1, e2⟩ := H0.out (by rw [HE.out]; decide)
    exact ⟨⟨_, by rw [HE.out]; rfl, by rw [e1, e2]; exact World.ownsRow_nil _ _ _ _⟩, jB⟩
  case true =>
    cases f
    case false =>
      have HE := Lib.hid (show c = 2 by have := HC.out; simpa using this)
      simp only [told, if_true, Bool.false_eq_true, if_false]
      go_wp2_with fail
      go_ret2
      obtain ⟨e1, e2⟩ := H0.out (by rw [HE.out]; decide)
      exact ⟨⟨_, by rw [HE.out]; rfl, by rw [e1, e2]; exact World.ownsRow_nil _ _ _ _⟩, jB⟩
    case true =>
      simp only [told, if_true]
      go_wp2_with fail
      refine (HWY.out _).mono ?_
      rintro e w2 ⟨rfl, rfl⟩
      by_cases hw : cw = 0
      · have HCE2 := Lib.hid (HCE.out trivial hw)
        have hs200 := HSZ.out hw
        have HE := Lib.hid (show c = if n ≤ s.size then 4 else 0 by have := HC.out; simpa [hw] using this)
        subst hw
        obtain ⟨r1, -, -, -, l1⟩ := g1.facts
        obtain ⟨-, -, d1, -, -⟩ := c1.facts
        go_wp2_with fail
        refine (HCE2.out _).mono ?_
        rintro e w3 ⟨⟨v, rfl, ho⟩, hb1⟩
        have jB3 := below_onto jB hb1
        have ho3 := ownsRow_low ho (Nat.le_of_lt g1.lt)
        have HO := Lib.hid ho3
        obtain ⟨av, cv, rfl⟩ := own_slice ho
        clear ho ho3 hb1 g1 c1 r1 d1 jB
        by_cases hns : n ≤ s.size
        · have HE4 := Lib.hid (show c = 4 by rw [HE.out, if_pos hns])
          have hd : decide ((n : Int) ≤ (s.size : Int)) = true := by simp; omega
          go_wp2_with fail
          go_ret2
          obtain ⟨e1, e2⟩ := H0.out (by rw [HE4.out]; decide)
          exact ⟨⟨_, by rw [HE4.out]; rfl, by rw [e1, e2]; exact World.ownsRow_nil _ _ _ _⟩, jB3⟩
        · have HE4 := Lib.hid (show c = 0 by rw [HE.out, if_neg hns])
          have hd : decide ((n : Int) ≤ (s.size : Int)) = false := by simp; omega
          have hne : n = s.size + 1 := by omega
          have HNE := Lib.hid hne
          clear hne
          go_wp2_with fail
          go_ret2
          obtain ⟨e1, e2⟩ := H1.out HE4.out
          refine ⟨⟨_, by rw [HE4.out]; rfl, ?_⟩, jB3⟩
          rw [e1, e2, ← HNE.out]
          exact HO.out
      · have HE := Lib.hid (show c = cw by have := HC.out; simpa [hw] using this)
        have hb1 : (cw != 0) = true := by simpa [bne] using hw
        go_wp2_with fail
        go_ret2
        obtain ⟨e1, e2⟩ := H0.out (by rw [HE.out]; exact hw)
        exact ⟨⟨_, by rw [HE.out]; rfl, by rw [e1, e2]; exact World.ownsRow_nil _ _ _ _⟩, jB⟩

/-- What CheckWay answers. -/
def checkR (L : Lawn) (x y : Int) (s : ByteArray) (n : Nat) : Bool := alongC L x y s n == 0
def checkC (L : Lawn) (x y : Int) (s : ByteArray) (n : Nat) : Int := if alongC L x y s n = 4 then 0 else alongC L x y s n
end Go.Proofs.Ytaeenkjbmlgcmaa

namespace Go.Proofs.Ytaeenkjbmlgcmaa
open Go.RowKit
set_option linter.unusedVariables false
attribute [local go_sem ↓] loadRow loadGrid loadLawn loadMirror storeRow storeGrid storeLawn allocRow allocGrid allocLawn buildZero buildSides

set_option maxRecDepth 100000 in
set_option maxHeartbeats 1000000 in
theorem l02Next_any (k : Nat) (hk : k < 4) (x y : Int) (d : Pt) (hd : (beside (x, y))[k]? = some d) (x0 : 0 ≤ x) (x1 : x < 10) (y0 : 0 ≤ y) (y1 : y < 10) (w : World) :
    Calls Try.prog 61 #[.agg #[.int .i8 x, .int .i8 y], .int .i64 k] w fun e w' => e = .returned (.agg #[.int .i8 d.1, .int .i8 d.2]) ∧ Below w.heap.size w w' := by
  have HD := Lib.hid hd
  obtain ⟨d1, d2⟩ := d
  have hcase : k = 0 ∨ k = 1 ∨ k = 2 ∨ k = 3 := by omega
  clear hd
  rcases hcase with rfl | rfl | rfl | rfl
  all_goals
    have hdd := HD.out
    simp only [beside, List.getElem?_cons_zero, List.getElem?_cons_succ, Option.some.injEq, Prod.mk.injEq] at hdd
    obtain ⟨rfl, rfl⟩ := hdd
    clear HD
    go_enter Try.func61, Try.ntmps61
    go_wp2_with fail
    exact bodyPost_ret (results_cell_holds (n := 2) rfl (by kernel_rfl) _ rfl (Holds.new' _ _ _ (w.heap.size + 1) (by simp)) rfl) rfl ⟨rfl, ((Below.refl _ _).alloc (Nat.le_refl _) _).alloc (by simp) _⟩

set_option maxRecDepth 100000 in
set_option maxHeartbeats 1000000 in
theorem l02Free_any (L : Lawn) (hL : L.Fits) (hV : validB L = true) (b : Nat) (x y : Int) (x0 : -128 ≤ x) (x1 : x ≤ 127) (y0 : -128 ≤ y) (y1 : y ≤ 127) (w : World) (h : Holds w b L.cells) :
    Calls Try.prog 62 #[.pointer (some ⟨b, 0, none⟩), .agg #[.int .i8 x, .int .i8 y]] w fun e w' => e = .returned (.bool (openB L x y)) ∧ Below w.heap.size w w' := by
  have h1 := h.alloc (.cells #[.int .i8 x, .int .i8 y] 37)
  have c1 := Holds.new w #[.int .i8 x, .int .i8 y] 37
  have hb := (Below.refl w.heap.size w).alloc (Nat.le_refl _) (.cells #[.int .i8 x, .int .i8 y] 37)
  cases hi : isB L x y
  case false =>
    have e : openB L x y = false := by simp [openB, hi]
    rw [e]
    have HI := Lib.hid hi
    have HL := Lib.hid hL
    clear e hi hV h hL
    go_enter Try.func62, Try.ntmps62
    go_wp2_with fail
    refine (l01Is_is L HL.out b _ _ _ h1 x0 x1 y0 y1 false HI.out).mono ?_
    rintro e w1 ⟨rfl, hb1⟩
    have hb2 := below_onto hb hb1
    clear hb hb1 h1 c1
    go_wp2_with fail
    go_ret
    exact ⟨rfl, hb2⟩
  case true =>
    have hxy := isB_near hV hi
    obtain ⟨i, rfl⟩ : ∃ i : Nat, x = i := ⟨x.toNat, by omega⟩
    obtain ⟨j, rfl⟩ : ∃ j : Nat, y = j := ⟨y.toNat, by omega⟩
    have e : openB L i j = (L.kind j i == 0 || L.kind j i == 3) := by simp only [openB, hi, Bool.true_and, Int.toNat_natCast]
    rw [e]
    have HI := Lib.hid hi
    have HL := Lib.hid hL
    have hi10 : i < 10 := by omega
    have hj10 : j < 10 := by omega
    have HO := Lib.hid (fun w h => open_any L hL b i j hi10 hj10 w h)
    clear e hi hV h hL hxy
    go_enter Try.func62, Try.ntmps62
    go_wp2_with fail
    refine (l01Is_is L HL.out b _ _ _ h1 x0 x1 y0 y1 true HI.out).mono ?_
    rintro e w1 ⟨rfl, hb1⟩
    have hb2 := below_onto hb hb1
    have h2 := h1.below hb1 h1.lt
    have c2 := c1.below hb1 c1.lt
    clear hb hb1 h1 c1
    obtain ⟨-, -, d2, -, -⟩ := c2.facts
    go_wp2_with fail
    refine (HO.out _ h2).mono ?_
    rintro e w2 ⟨rfl, hb1⟩
    have hb3 := below_onto hb2 hb1
    clear hb2 hb1 h2 c2 d2
    go_wp2_with fail
    go_ret
    exact ⟨rfl, hb3⟩

set_option maxRecDepth 100000 in
set_option maxHeartbeats 2000000 in
theorem l02Come_any (L : Lawn) (hL : L.Fits) (hV : validB L = true) (b : Nat) (s : ByteArray) (hw : wayC s = 0) (x y : Int) (x0 : -128 ≤ x) (x1 : x ≤ 127) (y0 : -128 ≤ y) (y1 : y ≤ 127) (n : Nat) (hn : Goes L x y s n) (w : World) (h : Holds w b L.cells) :
    Calls Try.prog 105 #[.pointer (some ⟨b, 0, none⟩), .agg #[.int .i8 x, .int .i8 y], .string s] w fun e w' => (∃ v, e = .returned (.tuple #[v, .bool (decide (s.size < n))]) ∧ (s.size < n → w'.ownsRow w.heap.size 37 2 v (s.size + 1) (flatP (cellsK (x, y) s.data.toList (s.size + 1))))) ∧ Below w.heap.size w w' := by
  have HF := Lib.hid (fun (x y : Int) (x0 : -128 ≤ x) (x1 : x ≤ 127) (y0 : -128 ≤ y) (y1 : y ≤ 127) (w : World) (h : Holds w b L.cells) => l02Free_any L hL hV b x y x0 x1 y0 y1 w h)
  have HN := Lib.hid hn
  have HW := Lib.hid (fun k (hk : k < s.size) => wayC_zero hw hk)
  have HNE := Lib.hid (openP_near hV)
  have hsz := wayC_le hw
  obtain ⟨i0, hi, hz0, hz1, hz2⟩ := info_parts cellInfo
  have HI := Lib.hid (show Try.prog.info? 37 = some i0 ∧ i0.zero = some (.agg #[.int .i8 0, .int .i8 0]) ∧ i0.size = 2 ∧ i0.bytes = 2 from ⟨hi, hz0, hz1, hz2⟩)
  have H0 := Lib.hid h
  have hbw := h.lt
  clear hn hw hV hL hi hz0 hz1 hz2 h
  go_enter Try.func105, Try.ntmps105
  go_wp2_with fail
  obtain ⟨B, hB⟩ : ∃ B, w.heap.size = B := ⟨_, rfl⟩
  obtain ⟨W0, hW0⟩ : ∃ W0, (w.alloc (.cells #[.int .i8 x, .int .i8 y] 37)).alloc (.cells #[.int .i8 x, .int .i8 y] 37) = W0 := ⟨_, rfl⟩
  have h0 : Holds W0 b L.cells := by rw [← hW0]; exact (H0.out.alloc _).alloc _
  have c0 : Holds W0 B #[.int .i8 x, .int .i8 y] := by rw [← hW0]; exact (Holds.new' _ _ _ _ hB.symm).alloc _
  have hb0 : Below B w W0 := by rw [← hW0]; exact ((Below.refl B w).alloc (by omega) _).alloc (by simp; omega) _
  have hm : W0.ownsRow (B + 1) 37 2 (.slice (some ⟨B + 1, 0, none⟩) 1 1) 1 (flatP (cellsK (x, y) s.data.toList 1)) :=
    ⟨by simp [cellsK, flatP, posK], .inr ⟨B + 1, 1, #[.int .i8 x, .int .i8 y], rfl, by omega, by
      rw [← hW0]
      have := heap_alloc_new (w.alloc (.cells #[.int .i8 x, .int .i8 y] 37)) (.cells #[.int .i8 x, .int .i8 y] 37)
      simpa [hB] using this, by omega, by simp [maxLen], rfl, by simp [cellsK, flatP, posK]⟩⟩
  have HBB := Lib.hid hB
  rw [hW0, hB]
  rw [hB] at hbw
  clear hW0 hB H0
  refine (HF.out x y x0 x1 y0 y1 _ h0).mono ?_
  obtain ⟨o, ho⟩ : ∃ o, openB L x y = o := ⟨_, rfl⟩
  rw [ho]
  rintro e w1 ⟨rfl, hb1⟩
  have h1 := h0.below hb1 h0.lt
  have c1 := c0.below hb1 c0.lt
  have hm1 := own_below hm hb1
  have jB : Below B w w1 := hb0.trans (hb1.mono (by have := c0.lt; omega))
  clear h0 c0 hb0 hb1 hm
  cases o
  case false =>
    have HZ := Lib.hid (show n = 0 by
      rcases Nat.eq_zero_or_pos n with h | h
      · exact h
      · have := HN.out.all 0 h
        simp only [posK, openP, ho] at this
        cases this)
    clear hm1
    go_wp2_with fail
    go_ret2
    refine ⟨⟨_, by rw [HZ.out]; rfl, fun h => by rw [HZ.out] at h; omega⟩, HBB.out ▸ jB⟩
  case true =>
    have HO := Lib.hid ho
    have HM := Lib.hid hm1
    clear ho hm1
    go_wp2_with fail
    go_loopw [8, 9] (fun v i wr => ∃ k : Nat, k ≤ s.size ∧ i = .int .i64 k ∧ wr.ownsRow (B + 1) 37 2 v (k + 1) (flatP (cellsK (x, y) s.data.toList (k + 1))) ∧ (∀ j, j ≤ k → openP L (posK (x, y) s.data.toList j) = true) ∧ Holds wr B #[.int .i8 (posK (x, y) s.data.toList k).1, .int .i8 (posK (x, y) s.data.toList k).2] ∧ Holds wr b L.cells ∧ Below B w wr) (fun _ i _ => s.size - (intOf i).toNat)
    case atStart =>
      refine ⟨0, by omega, rfl, HM.out, fun j hj => ?_, c1, h1, jB⟩
      obtain rfl : j = 0 := by omega
      exact HO.out
    case round =>
      obtain ⟨k, hk, rfl, hq, hall, hc, hl, hb⟩ := hrel
      have HALL := Lib.hid hall
      obtain ⟨⟨px, py⟩, hp⟩ : ∃ p, posK (x, y) s.data.toList k = p := ⟨_, rfl⟩
      have HPK := Lib.hid hp
      have hxy := HNE.out _ (hp ▸ hall k (Nat.le_refl _))
      obtain ⟨⟨hx0, hx1⟩, hy0, hy1⟩ := hxy
      simp only at hx0 hx1 hy0 hy1
      rw [hp] at hc
      simp only at hc
      have HQ := Lib.hid hq
      obtain ⟨av, cv, rfl⟩ := own_slice hq
      have hcl := hc.lt
      clear hall hp hq h1 c1 jB
      by_cases hlt : k < s.size
      · have hdk : decide ((k : Int) < (s.size : Int)) = true := by simp; omega
        obtain ⟨kk, hkk, hlet⟩ := HW.out k hlt
        have hside := stepP_beside (c := (px, py)) hlet
        obtain ⟨⟨nx, ny⟩, hnx⟩ : ∃ q, stepL (px, py) s[k] = q := ⟨_, rfl⟩
        rw [hnx] at hside
        have hnb : (-1 ≤ nx ∧ nx ≤ 10) ∧ -1 ≤ ny ∧ ny ≤ 10 := beside_far (c := (px, py)) ⟨⟨hx0, hx1⟩, hy0, hy1⟩ (List.mem_of_getElem? hside)
        obtain ⟨⟨hn1, hn2⟩, hn3, hn4⟩ := hnb
        have HNX := Lib.hid (show posK (x, y) s.data.toList (k + 1) = (nx, ny) by rw [posK_succ hlt, HPK.out, hnx])
        have HSd := Lib.hid (l02Next_any kk hkk px py (nx, ny) hside hx0 hx1 hy0 hy1)
        have HLT := Lib.hid (show ∀ w, Calls Try.prog 140 #[.int .u8 (s[k].toNat : Int)] w fun e w' => e = .returned (.int .i64 (kk : Int)) ∧ w = w' from fun w => hlet ▸ l02Letter_any s[k] w)
        have cl := hc.later.2
        clear hside hnx hlet
        go_wp2_with fail
        refine wp_region_grow 6 (by kernel_rfl) (by kernel_rfl) ?_
        simp only [List.take_succ_cons, List.take_zero, List.drop_succ_cons, List.drop_zero]
        iterate 3
          apply wpGrow_plain rfl
          · intro w' hw' K hK
            have e1 := cl _ hw'
            go_wp2_with fail
            exact hK _ _ rfl hw'
          simp only [Act.put, List.setIfInBounds_toArray, List.set_cons_succ, List.set_cons_zero]
        refine wpGrow_plain (v := .int .u8 ((s[k]'hlt).toNat : Int)) rfl ?_ ?_
        · intro w' hw' K hK
          go_wp2_with fail
          exact hK _ _ rfl hw'
        simp only [Act.put, List.setIfInBounds_toArray, List.set_cons_succ, List.set_cons_zero]
        refine wpGrow_plain (v := .int .i64 (kk : Int)) rfl ?_ ?_
        · intro w' hw' K hK
          go_wp2_with fail
          refine (HLT.out _).mono ?_
          rintro e w2 ⟨rfl, rfl⟩
          exact hK _ _ rfl hw'
        simp only [Act.put, List.setIfInBounds_toArray, List.set_cons_succ, List.set_cons_zero]
        refine wpGrow_plain (v := .agg #[.int .i8 nx, .int .i8 ny]) rfl ?_ ?_
        · intro w' hw' K hK
          go_wp2_with fail
          refine (HSd.out _).mono ?_
          rintro e w2 ⟨rfl, hb2⟩
          exact hK _ _ rfl (below_onto hw' hb2)
        simp only [Act.put, List.setIfInBounds_toArray, List.set_cons_succ, List.set_cons_zero]
        refine wpGrow_nil ?_
        intro W2 hW2
        have HQ2 := Lib.hid (own_below HQ.out hW2)
        have hc2 := hc.below hW2 hc.lt
        have hl2 := hl.below hW2 hl.lt
        have hb2 : Below B w W2 := hb.trans (hW2.mono (by omega))
        have hBl : B < W2.heap.size := hc2.lt
        clear hb HQ hW2 hc hl cl
        obtain ⟨-, -, c2, z2, l2⟩ := hc2.facts
        have hc3 := (hc2.setCell 0 (.int .i8 nx)).setCell 1 (.int .i8 ny)
        have hl3 := (hl2.setCell_other ⟨B, 0, none⟩ (.int .i8 nx) (by dsimp only; omega)).setCell_other ⟨B, 1, none⟩ (.int .i8 ny) (by dsimp only; omega)
        have HQ3 := Lib.hid ((HQ2.out.kept (grown_set (grown_refl W2 (some B)) 0 (.int .i8 nx)) (.inr (fun e => by have := (HQ2.out.lt _ e).1; omega))).kept (grown_set (grown_refl (W2.setCell ⟨B, 0, none⟩ (.int .i8 nx)) (some B)) 1 (.int .i8 ny)) (.inr (fun e => by have := (HQ2.out.lt _ e).1; omega)))
        have hb3 := (hb2.setCell (p := ⟨B, 0, none⟩) (by dsimp only; omega) (.int .i8 nx)).setCell (p := ⟨B, 1, none⟩) (by dsimp only; omega) (.int .i8 ny)
        have hs3 : ((W2.setCell ⟨B, 0, none⟩ (.int .i8 nx)).setCell ⟨B, 1, none⟩ (.int .i8 ny)).heap.size = W2.heap.size := by simp
        simp only [Array.setIfInBounds, List.size_toArray, List.length_cons, List.length_nil] at hc3
        obtain ⟨W3, hW3⟩ : ∃ W3, (W2.setCell ⟨B, 0, none⟩ (.int .i8 nx)).setCell ⟨B, 1, none⟩ (.int .i8 ny) = W3 := ⟨_, rfl⟩
        rw [hW3] at hc3 hl3 HQ3 hb3 hs3
        have HW3 := Lib.hid hW3
        have hc3 : Holds W3 B #[.int .i8 nx, .int .i8 ny] := hc3
        have HC3 := Lib.hid hc3
        have HL3 := Lib.hid hl3
        have HB3 := Lib.hid hb3
        clear hc3 hl3 hb3 hs3 hW3 HQ2 hl2 hb2
        go_wp2_with fail
        rw [HW3.out]
        refine (HF.out nx ny (by omega) (by omega) (by omega) (by omega) _ HL3.out).mono ?_
        obtain ⟨o, ho⟩ : ∃ o, openB L nx ny = o := ⟨_, rfl⟩
        rw [ho]
        rintro e w4 ⟨rfl, hb5⟩
        have HO4 := Lib.hid ho
        have n4 := HC3.out.below hb5 HC3.out.lt
        have l4 := HL3.out.below hb5 HL3.out.lt
        have HQ4 := Lib.hid (own_below HQ3.out hb5)
        have hb6 : Below B w w4 := HB3.out.trans (hb5.mono (by have := HC3.out.lt; omega))
        have hBl4 : B < w4.heap.size := n4.lt
        clear HQ3 hb5 ho HW3 HC3 HL3 HB3 c2 z2 l2 hc2
        cases o
        case false =>
          have HZ := Lib.hid (show n = k + 1 by
            refine HN.out.one ⟨by omega, fun j hj => HALL.out j (by omega), fun _ => ?_⟩
            simp only [HNX.out, openP, HO4.out])
          have hdn : decide (s.size < n) = false := by rw [HZ.out]; simp; omega
          have HDN := Lib.hid hdn
          clear hdn
          go_wp2_with fail
          go_ret2
          exact ⟨⟨_, by rw [HDN.out]; rfl, fun h => by rw [HZ.out] at h; omega⟩, HBB.out ▸ hb6⟩
        case true =>
          obtain ⟨-, -, d4, -, -⟩ := n4.facts
          go_wp2_with (at_builtin; refine wpList_append_own_at _ rfl _ _ 45 rfl (B + 1) 37 i0 (.agg #[.int .i8 0, .int .i8 0]) 2 2 Try.underlying45 HI.out.1 HI.out.2.1 HI.out.2.2.1 HI.out.2.2.2 rfl (by decide) _ _ _ rfl (HQ4.out.alloc _) ⟨w4.heap.size, 0, none⟩ 1 1 [.int .i8 nx, .int .i8 ny] rfl rfl ?c1 ?c2 ?c3 ?c4 ?c5 ?_)
          case c1 =>
            intro m u hu
            match m, hu with
            | 0, hu => simp at hu; subst hu; exact (Holds.new w4 #[.int .i8 nx, .int .i8 ny] 37).cell 0
            | 1, hu => simp at hu; subst hu; exact (Holds.new w4 #[.int .i8 nx, .int .i8 ny] 37).cell 1
          case c2 => intro u hu; simp at hu; rcases hu with rfl | rfl <;> rfl
          case c3 => unfold maxLen; omega
          case c4 => omega
          case c5 => simp; omega
          intro v' w5 hown' hgrow _ hat
          have hb7 : Below B w w5 := (hb6.alloc (by omega) _).grown hgrow (by simp; omega) (fun k hk => by have := own_far HQ4.out k hk; omega)
          have n5 := held_grown (n4.alloc (.cells #[.int .i8 nx, .int .i8 ny] 37)) (HQ4.out.alloc _) hgrow (by omega)
          have l5 := held_grown (l4.alloc (.cells #[.int .i8 nx, .int .i8 ny] 37)) (HQ4.out.alloc _) hgrow (by omega)
          have ho5 : w5.ownsRow (B + 1) 37 2 v' (k + 1 + 1) (flatP (cellsK (x, y) s.data.toList (k + 1 + 1))) := by
            rw [cellsK_succ, HNX.out, flatP_append]
            exact hown'
          have HO5 := Lib.hid ho5
          have HALL5 := Lib.hid (show ∀ j, j ≤ k + 1 → openP L (posK (x, y) s.data.toList j) = true from fun j hj => by
            by_cases e : j = k + 1
            · subst e; rw [HNX.out]; exact HO4.out
            · exact HALL.out j (by omega))
          clear hown' hgrow hat ho5 n4 d4 hb6 HQ4 l4
          go_wp2_with fail
          go_roundw
          case rel => exact ⟨k + 1, by omega, by go_num, HO5.out, HALL5.out, by rw [HNX.out]; exact n5, l5, hb7⟩
          case measure => simp [intOf]; omega
      · have hdk : decide ((k : Int) < (s.size : Int)) = false := by simp; omega
        have HZ := Lib.hid (show n = k + 1 from HN.out.one ⟨by omega, fun j hj => HALL.out j (by omega), fun h => by omega⟩)
        have HKS := Lib.hid (show k = s.size by omega)
        have HDN := Lib.hid (show decide (s.size < n) = true by rw [HZ.out]; simp; omega)
        go_wp2_with fail
        go_ret2
        refine ⟨⟨_, by rw [HDN.out]; rfl, fun _ => ?_⟩, HBB.out ▸ hb⟩
        rw [← HKS.out]
        exact ownsRow_low HQ.out (by have := HBB.out; omega)

set_option maxRecDepth 100000 in
set_option maxHeartbeats 1000000 in
/-- The code of a lawn, a cell and a way. -/
def toldWay (L : Lawn) (x y : Int) (s : ByteArray) : Int := if validB L then (if isB L x y then wayC s else 2) else 1
set_option maxRecDepth 100000 in
set_option maxHeartbeats 1000000 in
theorem l02Told_any (L : Lawn) (hL : L.Fits) (b : Nat) (s : ByteArray) (hs : s.size ≤ maxLen) (x y : Int) (x0 : -128 ≤ x) (x1 : x ≤ 127) (y0 : -128 ≤ y) (y1 : y ≤ 127) (w : World) (h : Holds w b L.cells) :
    Calls Try.prog 104 #[.pointer (some ⟨b, 0, none⟩), .agg #[.int .i8 x, .int .i8 y], .string s] w fun e w' => e = .returned (.int .i64 (toldWay L x y s)) ∧ Below w.heap.size w w' := by
  have HT := Lib.hid (fun (f : Bool) (w : World) (h : Holds w b L.cells) => told_any L hL b w h f)
  obtain ⟨v, hv⟩ : ∃ v, validB L = v := ⟨_, rfl⟩
  obtain ⟨f, hf⟩ : ∃ f, isB L x y = f := ⟨_, rfl⟩
  have HF := Lib.hid hf
  have HL := Lib.hid hL
  have HWY := Lib.hid (fun w => l02Way_any s hs w)
  have HC := Lib.hid (show toldWay L x y s = if v then (if f then wayC s else 2) else 1 by unfold toldWay; rw [hv, hf])
  rw [hv] at HT
  have h1 := h.alloc (.cells #[.int .i8 x, .int .i8 y] 37)
  have hb := (Below.refl w.heap.size w).alloc (Nat.le_refl _) (.cells #[.int .i8 x, .int .i8 y] 37)
  clear hv hf h hL hs
  go_enter Try.func104, Try.ntmps104
  go_wp2_with fail
  refine (l01Is_is L HL.out b _ _ _ h1 x0 x1 y0 y1 f HF.out).mono ?_
  rintro e w1 ⟨rfl, hb1⟩
  have hb2 := below_onto hb hb1
  have h2 := h1.below hb1 h1.lt
  clear hb hb1 h1
  go_wp2_with fail
  refine (HT.out f _ h2).mono ?_
  rintro e w2 ⟨rfl, hb1⟩
  have hb3 := below_onto hb2 hb1
  clear hb2 hb1 h2
  cases v
  case false =>
    simp only [told, Bool.false_eq_true, if_false]
    go_wp2_with fail
    go_ret
    exact ⟨by rw [HC.out]; rfl, hb3⟩
  case true =>
    cases f
    case false =>
      simp only [told, if_true, Bool.false_eq_true, if_false]
      go_wp2_with fail
      go_ret
      exact ⟨by rw [HC.out]; rfl, hb3⟩
    case true =>
      simp only [told, if_true]
      go_wp2_with fail
      refine (HWY.out _).mono ?_
      rintro e w3 ⟨rfl, rfl⟩
      go_wp2_with fail
      go_ret
      exact ⟨by rw [HC.out]; rfl, hb3⟩

theorem toldWay_along {L : Lawn} {x y : Int} {s : ByteArray} {n : Nat} : (toldWay L x y s ≠ 0 → alongC L x y s n = toldWay L x y s ∧ alongC L x y s n ≠ 4) ∧ (toldWay L x y s = 0 → validB L = true ∧ isB L x y = true ∧ wayC s = 0 ∧ alongC L x y s n = if n ≤ s.size then 4 else 0) := by
  have hw : wayC s = 0 ∨ wayC s = 3 ∨ wayC s = 5 := by
    unfold wayC
    split
    · exact .inr (.inl rfl)
    · split
      · exact .inl rfl
      · exact .inr (.inr rfl)
  unfold toldWay alongC
  cases validB L <;> cases isB L x y <;> rcases hw with h | h | h <;> simp [h]


set_option maxRecDepth 100000 in
set_option maxHeartbeats 1000000 in
/-- The cells of a way and its code, of the model. -/
theorem l02Gone_any (L : Lawn) (hL : L.Fits) (b : Nat) (x y : Int) (x0 : -128 ≤ x) (x1 : x ≤ 127) (y0 : -128 ≤ y) (y1 : y ≤ 127) (s : ByteArray) (hs : s.size ≤ maxLen) (n : Nat) (hn : Goes L x y s n) (w : World) (h : Holds w b L.cells) :
    Calls Try.prog 51 #[.pointer (some ⟨b, 0, none⟩), .agg #[.int .i8 x, .int .i8 y], .string s] w fun e w' => (∃ v, e = .returned (.tuple #[v, .int .i64 (alongC L x y s n)]) ∧ w'.ownsRow w.heap.size 37 2 v (alongM L x y s n) (alongX L x y s n)) ∧ Below w.heap.size w w' := by
  obtain ⟨ta, tb⟩ := toldWay_along (L := L) (x := x) (y := y) (s := s) (n := n)
  obtain ⟨c, hc⟩ : ∃ c, toldWay L x y s = c := ⟨_, rfl⟩
  have HT := Lib.hid (show ∀ w' : World, Holds w' b L.cells → Calls Try.prog 104 #[.pointer (some ⟨b, 0, none⟩), .agg #[.int .i8 x, .int .i8 y], .string s] w' fun e w'' => e = .returned (.int .i64 c) ∧ Below w'.heap.size w' w'' from fun w' h => hc ▸ l02Told_any L hL b s hs x y x0 x1 y0 y1 w' h)
  rw [hc] at ta tb
  have TA := Lib.hid ta
  have TB := Lib.hid tb
  have HL := Lib.hid hL
  have HN := Lib.hid hn
  have H0 := Lib.hid (show alongC L x y s n ≠ 0 → alongM L x y s n = 0 ∧ alongX L x y s n = [] from fun h => ⟨by unfold alongM; rw [if_neg h], by unfold alongX; rw [if_neg h]⟩)
  have H1 := Lib.hid (show alongC L x y s n = 0 → alongM L x y s n = s.size + 1 ∧ alongX L x y s n = flatP (cellsK (x, y) s.data.toList (s.size + 1)) from fun h => ⟨by unfold alongM; rw [if_pos h], by unfold alongX; rw [if_pos h]⟩)
  have g0 := h.alloc (.cells #[.int .i8 x, .int .i8 y] 37)
  have c0 := Holds.new w #[.int .i8 x, .int .i8 y] 37
  have hb0 := (Below.refl w.heap.size w).alloc (Nat.le_refl _) (.cells #[.int .i8 x, .int .i8 y] 37)
  clear ta tb hc hL hs hn h
  by_cases h0 : c = 0
  · obtain ⟨hV, hI, hW, hA⟩ := TB.out h0
    have HCM := Lib.hid (fun (w' : World) (h : Holds w' b L.cells) => l02Come_any L HL.out hV b s hW x y x0 x1 y0 y1 n HN.out w' h)
    have hle := HN.out.le
    have HA := Lib.hid hA
    subst h0
    clear hV hI hW hA
    go_enter Try.func51, Try.ntmps51
    go_wp2_with fail
    refine (HT.out _ g0).mono ?_
    rintro e w1 ⟨rfl, hb1⟩
    have hb2 := below_onto hb0 hb1
    have g1 := g0.below hb1 g0.lt
    have c1 := c0.below hb1 c0.lt
    clear g0 c0 hb0 hb1
    obtain ⟨-, -, d1, -, -⟩ := c1.facts
    go_wp2_with fail
    refine (HCM.out _ g1).mono ?_
    obtain ⟨r, hr⟩ : ∃ r, decide (s.size < n) = r := ⟨_, rfl⟩
    have HRR := Lib.hid hr
    rw [hr]
    rintro e w2 ⟨⟨v, rfl, hov⟩, hb1⟩
    have HOV := Lib.hid hov
    have hb3 := below_onto hb2 hb1
    have hsz := c1.lt
    clear g1 c1 hb2 hb1 d1 hr hov
    cases r
    case false =>
      have hns : ¬ s.size < n := by simpa using HRR.out
      have HC4 := Lib.hid (show alongC L x y s n = 4 by rw [HA.out, if_pos (by omega)])
      go_wp2_with fail
      go_ret2
      obtain ⟨e1, e2⟩ := H0.out (by rw [HC4.out]; decide)
      exact ⟨⟨_, by rw [HC4.out]; rfl, by rw [e1, e2]; exact ownsRow_low (World.ownsRow_made w2 #[] 0 (Nat.le_refl _) (by simp [maxLen]) (by simp)) hb3.size⟩, hb3.alloc hb3.size _⟩
    case true =>
      have hns : s.size < n := by simpa using HRR.out
      have HC4 := Lib.hid (show alongC L x y s n = 0 by rw [HA.out, if_neg (by omega)])
      have HO := Lib.hid (ownsRow_low (HOV.out hns) (Nat.le_of_lt hsz))
      go_wp2_with fail
      go_ret2
      obtain ⟨e1, e2⟩ := H1.out HC4.out
      exact ⟨⟨_, by rw [HC4.out]; rfl, by rw [e1, e2]; exact HO.out⟩, hb3⟩
  · obtain ⟨h1, h2⟩ := TA.out h0
    have HE := Lib.hid h1
    have hb1 : (c != 0) = true := by simpa [bne] using h0
    have HNE := Lib.hid h0
    clear h1 h2 h0
    go_enter Try.func51, Try.ntmps51
    go_wp2_with fail
    refine (HT.out _ g0).mono ?_
    rintro e w1 ⟨rfl, hb1⟩
    have hb2 := below_onto hb0 hb1
    clear g0 c0 hb0 hb1
    go_wp2_with fail
    go_ret2
    obtain ⟨e1, e2⟩ := H0.out (by rw [HE.out]; exact HNE.out)
    exact ⟨⟨_, by rw [HE.out]; rfl, by rw [e1, e2]; exact ownsRow_low (World.ownsRow_made w1 #[] 0 (Nat.le_refl _) (by simp [maxLen]) (by simp)) hb2.size⟩, hb2.alloc hb2.size _⟩
end Go.Proofs.Ytaeenkjbmlgcmaa
