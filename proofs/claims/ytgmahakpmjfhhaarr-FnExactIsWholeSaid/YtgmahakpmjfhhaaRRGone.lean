/- Where a way goes: the cells to which it comes, of the program. -/
import Derived.Test.YtgmahakpmjfhhaaRRSteps
import Derived.Test.YtgmahakpmjfhhaaRRIStepsFrom
import Derived.Test.YtgmahakpmjfhhaaRRTurns
namespace Go.Proofs.YtgmahakpmjfhhaaRR
open Go.RowKit
set_option linter.unusedVariables false
attribute [local go_sem ↓] loadRow loadGrid loadLawn loadMirror storeRow storeGrid storeLawn allocRow allocGrid allocLawn buildZero buildSides

/-- The cell beside one, in the way of a letter; the cell behind k letters. -/
def stepP (c : Pt) (b : UInt8) : Pt := if letN b = 0 then (c.1, c.2 - 1) else if letN b = 1 then (c.1 - 1, c.2) else if letN b = 2 then (c.1 + 1, c.2) else (c.1, c.2 + 1)
def posK (a : Pt) (l : List UInt8) : Nat → Pt
  | 0 => a
  | k + 1 => stepP (posK a l k) (l.getD k 0)
theorem stepP_beside {c : Pt} {b : UInt8} {k : Nat} (h : letN b = k) : (beside c)[k]? = some (stepP c b) := by
  have hr := letN_range b
  unfold stepP
  match k, h with
  | 0, h => simp [h, beside]
  | 1, h => simp [h, beside]
  | 2, h => simp [h, beside]
  | 3, h => simp [h, beside]
  | k + 4, h => omega
theorem posK_succ {a : Pt} {s : ByteArray} {k : Nat} (h : k < s.size) : posK a s.data.toList (k + 1) = stepP (posK a s.data.toList k) s[k] := by
  rw [posK, List.getD_eq_getElem?_getD, byte_get s k h]
  rfl
/-- The way comes to n cells that pass: to no more, or it ends there. -/
structure GoneIs (p : Nat → Bool) (N n : Nat) : Prop where
  le : n ≤ N + 1
  all : ∀ j, j < n → p j = true
  stop : n ≤ N → p n = false
theorem gone_ex (p : Nat → Bool) (N : Nat) : ∃ n, GoneIs p N n := by
  have key : ∀ m, m ≤ N + 1 → (∀ j, j < m → p j = true) ∨ ∃ n, GoneIs p N n := by
    intro m
    induction m with
    | zero => exact fun _ => .inl fun j hj => by omega
    | succ m ih =>
      intro hm
      rcases ih (by omega) with h | h
      · cases hp : p m with
        | true =>
          refine .inl fun j hj => ?_
          by_cases e : j = m
          · subst e; exact hp
          · exact h j (by omega)
        | false => exact .inr ⟨m, by omega, h, fun _ => hp⟩
      · exact .inr h
  rcases key (N + 1) (Nat.le_refl _) with h | h
  · exact ⟨N + 1, Nat.le_refl _, h, fun h => by omega⟩
  · exact h
theorem GoneIs.one {p : Nat → Bool} {N n m : Nat} (h : GoneIs p N n) (k : GoneIs p N m) : n = m := by
  rcases Nat.lt_trichotomy n m with hl | hl | hl
  · have h1 := h.stop (by have := k.le; omega)
    rw [k.all n hl] at h1; cases h1
  · exact hl
  · have h1 := k.stop (by have := h.le; omega)
    rw [h.all m hl] at h1; cases h1
/-- The first n cells. -/
def cellsK (a : Pt) (l : List UInt8) (n : Nat) : List Pt := (List.range n).map (posK a l)
theorem cellsK_succ (a : Pt) (l : List UInt8) (n : Nat) : cellsK a l (n + 1) = cellsK a l n ++ [posK a l n] := by simp [cellsK, List.range_succ]
theorem cellsK_get {a : Pt} {l : List UInt8} {n i : Nat} (h : i < n) : (cellsK a l n)[i]? = some (posK a l i) := by simp [cellsK, h]
theorem flatP_cellsK_len (a : Pt) (l : List UInt8) (n : Nat) : (flatP (cellsK a l n)).length = n * 2 := by rw [flatP_length]; simp [cellsK]
theorem wayC_zero {s : ByteArray} (h : wayC s = 0) {k : Nat} (hk : k < s.size) : ∃ j : Nat, j < 4 ∧ letN s[k] = j := by
  have hall : s.data.toList.all okB = true := by
    unfold wayC at h
    split at h
    · cases h
    · split at h
      · assumption
      · cases h
  have hm : okB s[k] = true := (List.all_eq_true.1 hall) _ (List.mem_of_getElem? (byte_get s k hk))
  have h0 := (okB_let s[k]).1 hm
  have h1 := letN_range s[k]
  exact ⟨(letN s[k]).toNat, by omega, by omega⟩

set_option maxRecDepth 100000 in
set_option maxHeartbeats 2000000 in
theorem cells_any (L : Lawn) (hL : L.Fits) (hV : validB L = true) (s : ByteArray) (hw : wayC s = 0) (x y : Int) (n : Nat) (hn : GoneIs (fun j => openP L (posK (x, y) s.data.toList j)) s.size n) (w : World) :
    Calls Try.prog 175 #[.string s, .agg #[.int .i8 x, .int .i8 y], .func (.func 144) #[.agg L.cells] #[]] w fun e w' => (∃ v, e = .returned v ∧ w'.ownsRow w.heap.size 35 2 v n (flatP (cellsK (x, y) s.data.toList n))) ∧ Below w.heap.size w w' := by
  have HP := Lib.hid (fun (c : Pt) (w : World) => isOpen_any L hV hL c.1 c.2 w)
  have hE := pass_isOpen L
  have HN := Lib.hid hn
  have HW := Lib.hid (fun k (hk : k < s.size) => wayC_zero hw hk)
  have HNE := Lib.hid (openP_near hV)
  have hsz := wayC_le hw
  obtain ⟨i0, hi, hz0, hz1, hz2⟩ := info_parts cellInfo
  have HI := Lib.hid (show Try.prog.info? 35 = some i0 ∧ i0.zero = some (.agg #[.int .i8 0, .int .i8 0]) ∧ i0.size = 2 ∧ i0.bytes = 2 from ⟨hi, hz0, hz1, hz2⟩)
  clear hn hw hV hL hi hz0 hz1 hz2
  go_enter Try.func175, Try.ntmps175
  go_wp2_with fail
  have c0 := Holds.new w #[.int .i8 x, .int .i8 y] 35
  have hb0 := (Below.refl w.heap.size w).alloc (Nat.le_refl _) (.cells #[.int .i8 x, .int .i8 y] 35)
  refine (HP.out (x, y) _).mono ?_
  obtain ⟨o, ho⟩ : ∃ o, openB L x y = o := ⟨_, rfl⟩
  simp only
  rw [ho]
  rintro e w1 ⟨rfl, hb1⟩
  have c1 := c0.below hb1 c0.lt
  have jB := below_onto hb0 hb1
  clear c0 hb0 hb1
  cases o
  case false =>
    have HZ := Lib.hid (show n = 0 by
      rcases Nat.eq_zero_or_pos n with h | h
      · exact h
      · have := HN.out.all 0 h
        simp only [posK, openP, ho] at this
        cases this)
    go_wp2_with fail
    go_ret
    refine ⟨⟨_, rfl, ?_⟩, jB⟩
    rw [HZ.out]
    exact World.ownsRow_nil _ _ _ _
  case true =>
    have HO := Lib.hid ho
    clear ho
    obtain ⟨-, -, d1, -, -⟩ := c1.facts
    go_wp2_with fail
    have hm : (w1.alloc (.cells #[.int .i8 x, .int .i8 y] 35)).ownsRow (w.heap.size + 1) 35 2 (.slice (some ⟨w1.heap.size, 0, none⟩) 1 1) 1 (flatP (cellsK (x, y) s.data.toList 1)) :=
      ⟨by simp [cellsK, flatP, posK], .inr ⟨w1.heap.size, 1, #[.int .i8 x, .int .i8 y], rfl, by have := c1.lt; omega, heap_alloc_new w1 _, by omega, by simp [maxLen], rfl, by simp [cellsK, flatP, posK]⟩⟩
    have hB0 := jB.alloc jB.size (.cells #[.int .i8 x, .int .i8 y] 35)
    obtain ⟨W0, hW0⟩ : ∃ W0, w1.alloc (.cells #[.int .i8 x, .int .i8 y] 35) = W0 := ⟨_, rfl⟩
    obtain ⟨B, hB⟩ : ∃ B, w.heap.size = B := ⟨_, rfl⟩
    have hw1 : B < w1.heap.size := by rw [← hB]; exact c1.lt
    rw [hW0, hB] at hm hB0
    rw [hW0]
    have HBB := Lib.hid hB
    rw [hB]
    clear hW0 hB c1 jB d1
    go_loopw [7, 19] (fun v i wr => ∃ k : Nat, k ≤ s.size ∧ i = .int .i64 k ∧ wr.ownsRow (B + 1) 35 2 v (k + 1) (flatP (cellsK (x, y) s.data.toList (k + 1))) ∧ (∀ j, j ≤ k → openP L (posK (x, y) s.data.toList j) = true) ∧ Below B w wr) (fun _ i _ => s.size - (intOf i).toNat)
    case atStart =>
      refine ⟨0, by omega, rfl, hm, fun j hj => ?_, hB0⟩
      obtain rfl : j = 0 := by omega
      exact HO.out
    case round =>
      obtain ⟨k, hk, rfl, hq, hall, hb⟩ := hrel
      have HALL := Lib.hid hall
      obtain ⟨⟨px, py⟩, hp⟩ : ∃ p, posK (x, y) s.data.toList k = p := ⟨_, rfl⟩
      have HPK := Lib.hid hp
      have hxy := HNE.out _ (hp ▸ hall k (Nat.le_refl _))
      obtain ⟨hxy0, hxy1⟩ := hxy
      simp only at hxy0 hxy1
      obtain ⟨g, cap, rfl, hgB, hgl⟩ := own_form hq (by omega)
      have HQ := Lib.hid hq
      have hgc : (cellsK (x, y) s.data.toList (k + 1))[k]? = some (px, py) := by rw [cellsK_get (by omega), hp]
      obtain ⟨fa, fb⟩ := flatP_get _ _ _ hgc
      have FX := Lib.hid (show ∀ w', Below wr.heap.size wr w' → w'.cell? ⟨g, k * 2, none⟩ = some (.int .i8 px) ∧ w'.cell? ⟨g, k * 2 + 1, none⟩ = some (.int .i8 py) from fun w' hw' => ⟨own_cell (own_below HQ.out hw') _ _ fa, own_cell (own_below HQ.out hw') _ _ fb⟩)
      clear hall hp hq hgc fa fb hm hB0
      by_cases hlt : k < s.size
      · have hdk : decide ((k : Int) < (s.size : Int)) = true := by simp; omega
        obtain ⟨kk, hkk, hlet⟩ := HW.out k hlt
        have hside := stepP_beside (c := (px, py)) hlet
        obtain ⟨⟨nx, ny⟩, hnx⟩ : ∃ q, stepP (px, py) s[k] = q := ⟨_, rfl⟩
        rw [hnx] at hside
        have HNX := Lib.hid (show posK (x, y) s.data.toList (k + 1) = (nx, ny) by rw [posK_succ hlt, HPK.out, hnx])
        have HSd := Lib.hid (side_any kk hkk (px, py) (nx, ny) hside ⟨hxy0, hxy1⟩)
        have HLT := Lib.hid (show ∀ w, Calls Try.prog 189 #[.string ⟨#[78, 87, 69, 83]⟩, .int .u8 (s[k].toNat : Int)] w fun e w' => e = .returned (.int .i64 (kk : Int)) ∧ w = w' from fun w => hlet ▸ letter_any s[k] w)
        have hix := fun w => sides_index kk hkk w
        have hEs := side_enters kk hkk
        clear hside hnx hlet
        go_wp2_with fail
        refine wp_region_grow 6 (by kernel_rfl) (by kernel_rfl) ?_
        simp only [List.take_succ_cons, List.take_zero, List.drop_succ_cons, List.drop_zero]
        refine wpGrow_plain (v := .agg sidesV) rfl ?_ ?_
        · intro w' hw' K hK
          go_wp2_with fail
          refine (sides_any _).mono ?_
          rintro e w2 ⟨rfl, hb2⟩
          exact hK _ _ rfl (below_onto hw' hb2)
        simp only [Act.put, List.setIfInBounds_toArray, List.set_cons_succ, List.set_cons_zero]
        iterate 2
          apply wpGrow_plain rfl
          · intro w' hw' K hK
            go_wp2_with fail
            exact hK _ _ rfl hw'
          simp only [Act.put, List.setIfInBounds_toArray, List.set_cons_succ, List.set_cons_zero]
        refine wpGrow_plain (v := .int .u8 ((s[k]'hlt).toNat : Int)) rfl ?_ ?_
        · intro w' hw' K hK
          go_wp2_with fail
          exact hK _ _ rfl hw'
        simp only [Act.put, List.setIfInBounds_toArray, List.set_cons_succ, List.set_cons_zero]
        refine wpGrow_plain (v := .int .i64 (kk : Int)) rfl ?_ ?_
        · intro w' hw' K hK
          go_wp2_with fail
          refine (HLT.out _).mono ?_
          rintro e w2 ⟨rfl, rfl⟩
          exact hK _ _ rfl hw'
        simp only [Act.put, List.setIfInBounds_toArray, List.set_cons_succ, List.set_cons_zero]
        refine wpGrow_plain (v := .func (.func (sideN kk)) #[] #[]) rfl ?_ ?_
        · intro w' hw' K hK
          go_wp2_with fail
          exact hK _ _ rfl hw'
        simp only [Act.put, List.setIfInBounds_toArray, List.set_cons_succ, List.set_cons_zero]
        refine wpGrow_nil ?_
        intro W2 hW2
        have HQ2 := Lib.hid (own_below HQ.out hW2)
        obtain ⟨e1, e2⟩ := FX.out _ hW2
        have hb2 : Below B w W2 := hb.trans (hW2.mono (by omega))
        have hBl : B < W2.heap.size := by have := hW2.size; omega
        clear hix hb HQ FX hW2
        go_wp2_with fail
        refine (HSd.out _).mono ?_
        rintro e w3 ⟨rfl, hb3⟩
        have HQ3 := Lib.hid (own_below HQ2.out hb3)
        have hb4 : Below B w w3 := hb2.trans (hb3.mono (by omega))
        have hBl3 : B < w3.heap.size := by have := hb3.size; omega
        have n3 := Holds.new w3 #[.int .i8 nx, .int .i8 ny] 35
        obtain ⟨-, -, d3, -, -⟩ := n3.facts
        clear HQ2 hb2 hb3 e1 e2 hEs
        go_wp2_with fail
        refine (HP.out (nx, ny) _).mono ?_
        obtain ⟨o, ho⟩ : ∃ o, openB L nx ny = o := ⟨_, rfl⟩
        simp only
        rw [ho]
        rintro e w4 ⟨rfl, hb5⟩
        have HO4 := Lib.hid ho
        have n4 := n3.below hb5 n3.lt
        have HQ4 := Lib.hid (own_below (HQ3.out.alloc (.cells #[.int .i8 nx, .int .i8 ny] 35)) hb5)
        have hb6 : Below B w w4 := (hb4.alloc (by omega) _).trans (hb5.mono (by simp; omega))
        have hBl4 : B < w4.heap.size := by have := hb5.size; simp at this; omega
        clear HQ3 hb4 hb5 n3 d3 ho
        cases o
        case false =>
          have HZ := Lib.hid (show n = k + 1 by
            refine HN.out.one ⟨by omega, fun j hj => HALL.out j (by omega), fun _ => ?_⟩
            simp only [HNX.out, openP, HO4.out])
          go_wp2_with fail
          go_ret
          refine ⟨⟨_, rfl, ?_⟩, HBB.out ▸ hb6⟩
          rw [HZ.out]
          exact ownsRow_low HQ4.out (by have := HBB.out; omega)
        case true =>
          obtain ⟨-, -, d4, -, -⟩ := n4.facts
          go_wp2_with (at_builtin; refine wpList_append_own_at _ rfl _ _ 42 rfl (B + 1) 35 i0 (.agg #[.int .i8 0, .int .i8 0]) 2 2 Try.underlying42 HI.out.1 HI.out.2.1 HI.out.2.2.1 HI.out.2.2.2 rfl (by decide) _ _ _ rfl (HQ4.out.alloc _) ⟨w4.heap.size, 0, none⟩ 1 1 [.int .i8 nx, .int .i8 ny] rfl rfl ?c1 ?c2 ?c3 ?c4 ?c5 ?_)
          case c1 =>
            intro m u hu
            match m, hu with
            | 0, hu => simp at hu; subst hu; exact (Holds.new w4 #[.int .i8 nx, .int .i8 ny] 35).cell 0
            | 1, hu => simp at hu; subst hu; exact (Holds.new w4 #[.int .i8 nx, .int .i8 ny] 35).cell 1
          case c2 => intro u hu; simp at hu; rcases hu with rfl | rfl <;> rfl
          case c3 => unfold maxLen; omega
          case c4 => omega
          case c5 => simp; omega
          intro v' w5 hown' hgrow _ hat
          have hb7 : Below B w w5 := (hb6.alloc (by omega) _).grown hgrow (by simp; omega) (fun k hk => by have := own_far HQ4.out k hk; omega)
          have ho5 : w5.ownsRow (B + 1) 35 2 v' (k + 1 + 1) (flatP (cellsK (x, y) s.data.toList (k + 1 + 1))) := by
            rw [cellsK_succ, HNX.out, flatP_append]
            exact hown'
          have HO5 := Lib.hid ho5
          have HALL5 := Lib.hid (show ∀ j, j ≤ k + 1 → openP L (posK (x, y) s.data.toList j) = true from fun j hj => by
            by_cases e : j = k + 1
            · subst e; rw [HNX.out]; exact HO4.out
            · exact HALL.out j (by omega))
          clear hown' hgrow hat ho5 n4 d4 hb6 HQ4
          go_wp2_with fail
          go_roundw
          case rel => exact ⟨k + 1, by omega, by go_num, HO5.out, HALL5.out, hb7⟩
          case measure => simp [intOf]; omega
      · have hks : k = s.size := by omega
        have hdk : decide ((k : Int) < (s.size : Int)) = false := by simp; omega
        have HZ := Lib.hid (show n = k + 1 from HN.out.one ⟨by omega, fun j hj => HALL.out j (by omega), fun h => by omega⟩)
        clear hks
        go_wp2_with fail
        go_ret
        refine ⟨⟨_, rfl, ?_⟩, HBB.out ▸ hb⟩
        rw [HZ.out]
        exact ownsRow_low HQ.out (by have := HBB.out; omega)
end Go.Proofs.YtgmahakpmjfhhaaRR
