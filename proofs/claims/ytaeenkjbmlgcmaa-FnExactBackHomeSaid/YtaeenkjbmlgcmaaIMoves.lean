/- The moves of a mower over one step, of the program. -/
import Derived.Test.YtaeenkjbmlgcmaaProgK
import Derived.Test.YtaeenkjbmlgcmaaGrowMP
namespace Go.Proofs.Ytaeenkjbmlgcmaa
open Go.RowKit
set_option linter.unusedVariables false
set_option linter.unusedSimpArgs false

@[go_sem] theorem wideMow : wideB Try.prog 95 103 = true := by kernel_rfl
section
variable (ρ : Operand → Value) (dst : Option Tmp) (x y : Operand) (t : TypeId) (pos : String) (aft : Array Edge) (g : Option (Nat × Bool)) (w : World)
theorem loadMow : (execOp ρ ⟨dst, .load 95 x, t, pos, aft, g⟩).run Try.prog w = opLoad Try.prog 95 103 (ρ x) w := rfl
theorem loadMow' (q : Option Nat) : (Oper.semAt q ρ ⟨dst, .load 95 x, t, pos, aft, g⟩).run Try.prog w = opLoad Try.prog 95 103 (ρ x) w := by
  have h : Oper.semAt q ρ ⟨dst, .load 95 x, t, pos, aft, g⟩ = execOp ρ ⟨dst, .load 95 x, t, pos, aft, g⟩ := by cases q <;> rfl
  rw [h, loadMow]
end
attribute [local go_sem ↓] loadRow loadGrid loadLawn loadMirror storeRow storeGrid storeLawn allocRow allocGrid allocLawn buildZero buildSides loadMow

theorem mowA_lawn (L : Lawn) : (mowA L).extract 0 102 = L.cells := by
  unfold mowA
  apply Array.ext_getElem?
  intro j
  rw [Array.getElem?_extract]
  by_cases h : j < 102
  · rw [if_pos (by simp; omega), Array.getElem?_push, if_neg (by simp; omega)]; simp
  · rw [if_neg (by simp; omega), Array.getElem?_eq_none (by simp; omega)]
theorem moveInfo : (Try.prog.info? 174).map (fun i => (i.zero, i.size, i.bytes)) = some (some (.agg #[.int .i8 0, .int .i8 0, .int .u16 0, .string ⟨#[]⟩]), 4, 24) := by kernel_rfl
theorem nwes_n0 (w : World) : (Instr.slice 9 (.string ⟨#[78, 87, 69, 83]⟩) (some (.int .i64 ((0 : Nat) : Int))) (some (.int .i64 (((0 : Nat) : Int) + 1))) none).run Try.prog w = .ok (.string ⟨#[letB 0]⟩) w := by kernel_rfl
theorem nwes_n1 (w : World) : (Instr.slice 9 (.string ⟨#[78, 87, 69, 83]⟩) (some (.int .i64 ((1 : Nat) : Int))) (some (.int .i64 (((1 : Nat) : Int) + 1))) none).run Try.prog w = .ok (.string ⟨#[letB 1]⟩) w := by kernel_rfl
theorem nwes_n2 (w : World) : (Instr.slice 9 (.string ⟨#[78, 87, 69, 83]⟩) (some (.int .i64 ((2 : Nat) : Int))) (some (.int .i64 (((2 : Nat) : Int) + 1))) none).run Try.prog w = .ok (.string ⟨#[letB 2]⟩) w := by kernel_rfl
theorem nwes_n3 (w : World) : (Instr.slice 9 (.string ⟨#[78, 87, 69, 83]⟩) (some (.int .i64 ((3 : Nat) : Int))) (some (.int .i64 (((3 : Nat) : Int) + 1))) none).run Try.prog w = .ok (.string ⟨#[letB 3]⟩) w := by kernel_rfl
theorem nwes_at (k : Nat) (hk : k < 4) (w : World) : (Instr.slice 9 (.string ⟨#[78, 87, 69, 83]⟩) (some (.int .i64 (k : Int))) (some (.int .i64 ((k : Int) + 1))) none).run Try.prog w = .ok (.string ⟨#[letB k]⟩) w := by
  have : k = 0 ∨ k = 1 ∨ k = 2 ∨ k = 3 := by omega
  rcases this with rfl | rfl | rfl | rfl
  · exact nwes_n0 w
  · exact nwes_n1 w
  · exact nwes_n2 w
  · exact nwes_n3 w
def moveC (kc : Nat × Pt) : List Value := [.int .i8 kc.2.1, .int .i8 kc.2.2, .int .u16 0, .string ⟨#[letB kc.1]⟩]
def movesV (l : List (Nat × Pt)) : List Value := l.flatMap moveC
theorem movesV_app (l m : List (Nat × Pt)) : movesV (l ++ m) = movesV l ++ movesV m := by simp [movesV]
theorem movesV_len (l : List (Nat × Pt)) : (movesV l).length = l.length * 4 := by
  induction l with
  | nil => rfl
  | cons a l ih => simp only [movesV, List.flatMap_cons, List.length_append] at ih ⊢; rw [ih]; simp [moveC]; omega
/-- The open ones of the first k sides. -/
def opK (L : Lawn) (c : Pt) (k : Nat) : List (Nat × Pt) := ((sidesW c).take k).filter fun kc => openP L kc.2
theorem opK_zero (L : Lawn) (c : Pt) : opK L c 0 = [] := by simp [opK]
theorem opK_four (L : Lawn) (c : Pt) : opK L c 4 = opensW L c := by simp [opK, opensW, sidesW]
theorem opK_succ {L : Lawn} {c d : Pt} {k : Nat} (hd : (beside c)[k]? = some d) : opK L c (k + 1) = opK L c k ++ if openP L d then [(k, d)] else [] := by
  have hs : (sidesW c)[k]? = some (k, d) := by
    match k, hd with
    | 0, hd => simpa [beside, sidesW] using hd
    | 1, hd => simpa [beside, sidesW] using hd
    | 2, hd => simpa [beside, sidesW] using hd
    | 3, hd => simpa [beside, sidesW] using hd
    | k + 4, hd => simp [beside] at hd
  unfold opK
  rw [List.take_add_one, hs, Option.toList_some, List.filter_append]
  congr 1
  cases h : openP L d <;> simp [h]
theorem opK_len (L : Lawn) (c : Pt) (k : Nat) : (opK L c k).length ≤ 4 := by
  have := List.length_filter_le (fun kc : Nat × Pt => openP L kc.2) ((sidesW c).take k)
  have h2 : ((sidesW c).take k).length ≤ 4 := by rw [List.length_take]; simp [sidesW]; omega
  unfold opK
  omega

set_option maxRecDepth 100000 in
set_option maxHeartbeats 2000000 in
theorem moves_any (L : Lawn) (hL : L.Fits) (hV : validB L = true) (c : Pt) (hc : (0 ≤ c.1 ∧ c.1 < 10) ∧ 0 ≤ c.2 ∧ c.2 < 10) (w : World) :
    Calls Try.prog 66 #[.agg (mowA L), progK c] w fun e w' => (∃ v, e = .returned v ∧ w'.ownsRow w.heap.size 174 4 v (opensW L c).length (movesV (opensW L c))) ∧ Below w.heap.size w w' := by
  have HOP := Lib.hid (fun (x y : Int) (w : World) => isOpen_any L hV hL x y w)
  have HCM := Lib.hid (fun (x y : Int) (w : World) => come_any L x y w)
  obtain ⟨i0, hi, hz0, hz1, hz2⟩ := info_parts moveInfo
  have HI := Lib.hid (show Try.prog.info? 174 = some i0 ∧ i0.zero = some (.agg #[.int .i8 0, .int .i8 0, .int .u16 0, .string ⟨#[]⟩]) ∧ i0.size = 4 ∧ i0.bytes = 24 from ⟨hi, hz0, hz1, hz2⟩)
  clear hi hz0 hz1 hz2
  have hM1 := mowA_size L
  have hM2 := mowA_lawn L
  obtain ⟨M, hM⟩ : ∃ M, mowA L = M := ⟨_, rfl⟩
  rw [hM] at HCM hM1 hM2 ⊢
  have hld : ∀ (g : Nat) (w : World), opLoadRow Try.prog 29 102 g 0 M w = .ok (.value (.agg L.cells)) w := fun g w => by rw [opLoadRow_at _ _ _ _ _ _ _ wideLawn (by omega), Nat.zero_add, hM2]
  have hlm : ∀ (g : Nat) (w : World), opLoadRow Try.prog 95 103 g 0 M w = .ok (.value (.agg M)) w := fun g w => by rw [opLoadRow_at _ _ _ _ _ _ _ wideMow (by omega), Nat.zero_add, ← hM1, Array.extract_size]
  have HMS := Lib.hid hM1
  clear hM1 hM2 hM
  obtain ⟨cx, cy⟩ := c
  obtain ⟨hx, hy⟩ := hc
  dsimp only at hx hy
  unfold progK
  obtain ⟨s, hs⟩ : ∃ s, w.heap.size = s := ⟨_, rfl⟩
  obtain ⟨W0, hW0⟩ : ∃ W0, (w.alloc (.cells M 95)).alloc (.cells #[.int .i8 cx, .int .i8 cy, .int .u16 0] 101) = W0 := ⟨_, rfl⟩
  have g0 : Holds W0 s M := by rw [← hW0, ← hs]; exact (Holds.new _ _ _).alloc _
  have g1 : Holds W0 (s + 1) #[.int .i8 cx, .int .i8 cy, .int .u16 0] := by rw [← hW0, ← hs]; exact Holds.new' _ _ _ _ (by simp)
  have hb0 : Below s w W0 := by rw [← hW0, ← hs]; exact ((Below.refl w.heap.size w).alloc (Nat.le_refl _) _).alloc (by simp) _
  have hsz : W0.heap.size = s + 2 := by rw [← hW0, ← hs]; simp
  have G0 := Lib.hid g0
  have G1 := Lib.hid g1
  have HB0 := Lib.hid hb0
  have HZ := Lib.hid hsz
  rw [hs]
  dsimp only
  clear g0 g1 hb0 hsz
  go_enter Try.func66, Try.ntmps66
  go_wp2_with fail
  try simp only [hs]
  try rw [hW0]
  have hE0 := HB0.out
  refine (sides_any _).mono ?_
  rintro e w5 ⟨rfl, hb1⟩
  have jA := G0.out.below hb1 G0.out.lt
  have jC := G1.out.below hb1 G1.out.lt
  have hb2 : Below s w w5 := hE0.trans (hb1.mono (by have := HZ.out; omega))
  have hs5 : s + 2 ≤ w5.heap.size := by have := hb1.size; have := HZ.out; omega
  clear hb1 hE0 hW0 hs
  go_wp2_with fail
  go_loopw [5, 10] (fun q x wk => ∃ k n : Nat, k ≤ 4 ∧ x = .int .i64 k ∧ n = (opK L (cx, cy) k).length ∧ wk.ownsRow (s + 2) 174 4 q n (movesV (opK L (cx, cy) k)) ∧ Holds wk s M ∧ Holds wk (s + 1) #[.int .i8 cx, .int .i8 cy, .int .u16 0] ∧ Below s w wk) (fun _ x _ => 4 - (intOf x).toNat)
  case atStart => exact ⟨0, 0, by omega, rfl, by simp [opK_zero], by rw [opK_zero]; exact World.ownsRow_nil _ _ _ _, jA, jC, hb2⟩
  case round =>
    obtain ⟨k, n, hk, rfl, hn, io, hA, hC, hb⟩ := hrel
    clear jA jC hb2 hs5
    have IO := Lib.hid io
    obtain ⟨qa, qc, rfl⟩ := own_slice io
    have HN := Lib.hid hn
    have hn4 : n ≤ 4 := by rw [hn]; exact opK_len L _ k
    clear io hn
    by_cases hlt : k < 4
    · have hdk : decide ((k : Int) < (4 : Int)) = true := by simp; omega
      obtain ⟨d, hd⟩ : ∃ d, (beside (cx, cy))[k]? = some d := ⟨_, List.getElem?_eq_getElem (by simpa [beside] using hlt)⟩
      have HD := Lib.hid hd
      have HSd := Lib.hid (side_any k hlt (cx, cy) d hd ⟨hx, hy⟩)
      obtain ⟨dx, dy⟩ := d
      have hix := fun w => sides_index k hlt w
      have hEs := side_enters k hlt
      obtain ⟨-, -, dA, -, -⟩ := hC.facts
      clear hd
      go_wp2_with fail
      refine (HSd.out _).mono ?_
      rintro e w6 ⟨rfl, hb6⟩
      have hA6 := (hA.below hb6 hA.lt).alloc (.cells #[.int .i8 dx, .int .i8 dy] 37)
      have hC6 := (hC.below hb6 hC.lt).alloc (.cells #[.int .i8 dx, .int .i8 dy] 37)
      have hD6 := Holds.new w6 #[.int .i8 dx, .int .i8 dy] 37
      have hs6 : s + 2 ≤ w6.heap.size := by have := hb6.size; have := hC.lt; omega
      have IO6 := Lib.hid (own_below (own_below IO.out hb6) ((Below.refl _ _).alloc (Nat.le_refl _) (.cells #[.int .i8 dx, .int .i8 dy] 37)))
      have hB6 : Below s w (w6.alloc (.cells #[.int .i8 dx, .int .i8 dy] 37)) := (hb.trans (hb6.mono (by have := hC.lt; omega))).alloc (by omega) _
      have hz6 : (w6.alloc (.cells #[.int .i8 dx, .int .i8 dy] 37)).heap.size = w6.heap.size + 1 := by simp
      obtain ⟨nb, hnb⟩ : ∃ nb, w6.heap.size = nb := ⟨_, rfl⟩
      obtain ⟨W6, hW6⟩ : ∃ W, w6.alloc (.cells #[.int .i8 dx, .int .i8 dy] 37) = W := ⟨_, rfl⟩
      rw [hW6] at hA6 hC6 hD6 IO6 hB6 hz6
      rw [hnb] at hD6 hs6 hz6
      clear hA hC hb hb6 dA hix hEs IO
      obtain ⟨r6, f6, -, -, l6⟩ := hA6.facts
      obtain ⟨-, -, d6, -, -⟩ := hD6.facts
      go_wp2_with fail
      refine (HOP.out dx dy _).mono ?_
      obtain ⟨o, ho⟩ : ∃ o, openB L dx dy = o := ⟨_, rfl⟩
      rw [ho]
      have HO := Lib.hid (show openP L (dx, dy) = o from ho)
      rintro e w7 ⟨rfl, hb7⟩
      have hA7 := hA6.below hb7 hA6.lt
      have hC7 := hC6.below hb7 hC6.lt
      have hD7 := hD6.below hb7 hD6.lt
      have IO7 := Lib.hid (own_below IO6.out hb7)
      have hB7 : Below s w w7 := hB6.trans (hb7.mono (by have := hC6.lt; omega))
      have HOS := Lib.hid (opK_succ (L := L) HD.out)
      rw [HO.out] at HOS
      clear ho hW6 hnb hz6 r6 f6 l6 d6 hA6 hC6 hD6 IO6 hB6 hb7
      cases o
      case false =>
        simp only [Bool.false_eq_true, if_false, List.append_nil] at HOS
        go_wp2_with fail
        go_roundw
        case rel => exact ⟨k + 1, n, by omega, by go_num, by rw [HOS.out, ← HN.out], by rw [HOS.out]; exact IO7.out, hA7, hC7, hB7⟩
        case measure => simp [intOf]; omega
      case true =>
        simp only [if_true] at HOS
        obtain ⟨l0, -⟩ := hA7.later
        obtain ⟨-, c0⟩ := hC7.later
        obtain ⟨-, d0⟩ := hD7.later
        have hnw := nwes_at k hlt
        have hlD := hD7.lt
        go_wp2_with fail
        refine wp_region_growMP 12 11 [] (fun p w' => w7.heap.size ≤ p ∧ Holds w' p #[.int .i8 dx, .int .i8 dy, .int .u16 0, .string ⟨#[letB k]⟩]) (fun p a b h hb => ⟨h.1, h.2.below hb h.2.lt⟩)
          (fun p => [.slice qa n qc, .agg M, .agg #[.int .i8 dx, .int .i8 dy], .pointer (some ⟨s + 1, 2, none⟩), .int .u16 0, .agg #[.int .i8 dx, .int .i8 dy, .int .u16 0], .int .i64 k, .int .i64 k, .int .i64 ((k : Int) + 1), .string ⟨#[letB k]⟩, .agg #[.int .i8 dx, .int .i8 dy, .int .u16 0, .string ⟨#[letB k]⟩], .slice (some ⟨p, 0, none⟩) 1 1]) ?hv (by kernel_rfl) (by decide) (by kernel_rfl) (by kernel_rfl) (by kernel_rfl) ?_
        case hv =>
          intro p p' j h1 h2
          match j with
          | 0 => rfl
          | 1 => rfl
          | 2 => rfl
          | 3 => rfl
          | 4 => rfl
          | 5 => rfl
          | 6 => rfl
          | 7 => rfl
          | 8 => rfl
          | 9 => rfl
          | 10 => rfl
          | 11 => exact absurd rfl h1
          | j + 12 => rfl
        intro p
        simp only [List.take_succ_cons, List.take_zero, List.drop_succ_cons, List.drop_zero]
        iterate 5
          refine seqP_free rfl rfl rfl rfl ?_ ?_
          · intro w' hw' K hK
            have e0 := l0 _ hw'
            have e1 := c0 _ hw'
            have e2 := d0 _ hw'
            go_wp2_with fail
            exact hK _ _ rfl (Below.refl _ _)
          simp only [Act.put, List.setIfInBounds_toArray, List.set_cons_succ, List.set_cons_zero]
        refine seqP_free rfl rfl rfl rfl ?_ ?_
        · intro w' hw' K hK
          go_wp2_with fail
          refine (HCM.out dx dy _).mono ?_
          rintro e w5 ⟨rfl, hb5⟩
          go_wp2_with fail
          exact hK _ _ rfl hb5
        simp only [Act.put, List.setIfInBounds_toArray, List.set_cons_succ, List.set_cons_zero]
        iterate 5
          refine seqP_free rfl rfl rfl rfl ?_ ?_
          · intro w' hw' K hK
            go_wp2_with fail
            exact hK _ _ rfl (Below.refl _ _)
          simp only [Act.put, List.setIfInBounds_toArray, List.set_cons_succ, List.set_cons_zero]
        refine seqP_call rfl rfl rfl ?_ ?_
        · rintro w' hw' rfl K hK
          go_wp2_with fail
          exact hK _ _ rfl ((Below.refl _ _).alloc (Nat.le_refl _) _) ⟨hw'.size, Holds.new _ _ _⟩
        simp only [Act.put, List.setIfInBounds_toArray, List.set_cons_succ, List.set_cons_zero]
        refine seqP_nil ?_
        rintro W8 - hW8 ⟨hp, hP⟩
        have hA8 := hA7.below hW8 hA7.lt
        have hC8 := hC7.below hW8 hC7.lt
        have IO8 := Lib.hid (own_below IO7.out hW8)
        have hB8 : Below s w W8 := hB7.trans (hW8.mono (by have := hC7.lt; omega))
        have hPc : ∀ j, W8.cell? ⟨p, j, none⟩ = #[Value.int .i8 dx, Value.int .i8 dy, .int .u16 0, .string ⟨#[letB k]⟩][j]? := hP.cell
        have HPC := Lib.hid hPc
        have hpl := hP.lt
        clear hW8 hA7 hC7 hD7 IO7 hB7 l0 c0 d0 hnw hlD hPc hP
        go_wp2_with (at_builtin; refine wpList_append_own_at _ rfl _ _ 172 rfl (s + 2) 174 i0 (.agg #[.int .i8 0, .int .i8 0, .int .u16 0, .string ⟨#[]⟩]) 4 24 Try.underlying172 HI.out.1 HI.out.2.1 HI.out.2.2.1 HI.out.2.2.2 rfl (by decide) _ _ _ rfl IO8.out ⟨p, 0, none⟩ 1 1 (moveC (k, (dx, dy))) rfl rfl ?c1 ?c2 ?c3 ?c4 ?c5 ?_)
        case c1 =>
          intro m z hz
          match m, hz with
          | 0, hz => simp [moveC] at hz; subst hz; exact HPC.out 0
          | 1, hz => simp [moveC] at hz; subst hz; exact HPC.out 1
          | 2, hz => simp [moveC] at hz; subst hz; exact HPC.out 2
          | 3, hz => simp [moveC] at hz; subst hz; exact HPC.out 3
        case c2 => intro z hz; simp [moveC] at hz; rcases hz with rfl | rfl | rfl | rfl <;> rfl
        case c3 => unfold maxLen; omega
        case c4 => omega
        case c5 => have := hC8.lt; omega
        intro v' w9 hown' hgrow _ hat
        have ho9 : w9.ownsRow (s + 2) 174 4 v' (n + 1) (movesV (opK L (cx, cy) (k + 1))) := by
          rw [HOS.out, movesV_app]
          simpa [movesV] using hown'
        have hA9 := held_grown hA8 IO8.out hgrow (by omega)
        have hC9 := held_grown hC8 IO8.out hgrow (by omega)
        have hB9 : Below s w w9 := hB8.grown hgrow (by have := hC8.lt; omega) (fun b e => by have := own_far IO8.out b e; omega)
        have HO9 := Lib.hid ho9
        have HLN := Lib.hid (show n + 1 = (opK L (cx, cy) (k + 1)).length by rw [HOS.out, List.length_append, ← HN.out]; rfl)
        clear hown' hgrow hat ho9 hA8 hC8 hB8 IO8 HPC
        go_wp2_with fail
        go_roundw
        case rel => exact ⟨k + 1, n + 1, by omega, by go_num, HLN.out, HO9.out, hA9, hC9, hB9⟩
        case measure => simp [intOf]; omega
    · obtain rfl : k = 4 := by omega
      have hdk : decide (((4 : Nat) : Int) < (4 : Int)) = false := by decide
      have HF := Lib.hid (show n = (opensW L (cx, cy)).length by rw [HN.out, opK_four])
      go_wp2_with fail
      go_ret
      rw [opK_four] at IO
      exact ⟨⟨_, rfl, by rw [← HF.out]; exact ownsRow_low IO.out (by omega)⟩, hb⟩
end Go.Proofs.Ytaeenkjbmlgcmaa
