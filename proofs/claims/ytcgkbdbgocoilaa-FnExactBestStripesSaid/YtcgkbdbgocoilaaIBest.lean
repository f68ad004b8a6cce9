/- BestStripes, of the program. -/
import Derived.Test.YtcgkbdbgocoilaaBest
namespace Go.Proofs.Ytcgkbdbgocoilaa
open Go.RowKit
set_option linter.unusedVariables false
attribute [local go_sem ↓] loadRow loadGrid loadLawn loadMirror storeRow storeGrid storeLawn allocRow allocGrid allocLawn buildZero buildSides

/-- Two lawns in an array. -/
def twoV (A B : Lawn) : Value := .agg (A.cells ++ B.cells)
section
variable (ρ : Operand → Value) (dst : Option Tmp) (x y : Operand) (t : TypeId) (pos : String) (aft : Array Edge) (g : Option (Nat × Bool)) (w : World)
theorem buildTwo : (execOp ρ ⟨dst, .build 114 #[(0, x), (1, y)], t, pos, aft, g⟩).run Try.prog w = opBuild Try.prog 114 #[(0, ρ x), (1, ρ y)] w := by kernel_rfl
def opIndex (P : Program) (ty : TypeId) (v i : Value) (w : World) : Result Next := Sem.run P (do let r ← Instr.index ty v i; pure (Next.value r)) w
theorem indexTwo : (execOp ρ ⟨dst, .index 114 x y, t, pos, aft, g⟩).run Try.prog w = opIndex Try.prog 114 (ρ x) (ρ y) w := rfl
end
theorem buildTwo_at (A B : Lawn) (w : World) : opBuild Try.prog 114 #[(0, .agg A.cells), (1, .agg B.cells)] w = .ok (.value (twoV A B)) w := opBuild_of (by kernel_rfl) w
theorem cellsLawn : Try.prog.cellsOf 30 = 102 := by kernel_rfl
theorem indexTwo_at (A B : Lawn) (i : Nat) (hi : i < 2) (w : World) : opIndex Try.prog 114 (twoV A B) (.int .i64 i) w = .ok (.value (.agg (if i = 0 then A else B).cells)) w := by
  obtain ⟨iu, hiu⟩ := info_of_underlying Try.underlying30
  unfold opIndex twoV Instr.index
  have h0 : (0 : Int) ≤ i ∧ (i : Int) < (2 : Nat) := by omega
  have hp : (part 30 (A.cells ++ B.cells) (i * 102)).run Try.prog w = .ok (.agg (if i = 0 then A else B).cells) w := by
    rw [run_part_wide w wideLawn]
    have : i = 0 ∨ i = 1 := by omega
    rcases this with rfl | rfl
    · rw [Array.extract_append, Array.extract_eq_self_of_le (by simp)]
      simp
    · rw [Array.extract_append, show A.cells.extract (1 * 102) (1 * 102 + 102) = #[] from Array.extract_empty_of_size_le_start (by simp), show B.cells.extract (1 * 102 - A.cells.size) (1 * 102 + 102 - A.cells.size) = B.cells by rw [Lawn.cells_size]; exact Array.extract_eq_self_of_le (by simp)]
      simp
  simp only [asIntOf, Sem.run_bind, Sem.run_pure, Result.andThen_ok, run_underlying Try.underlying114 w, if_pos h0, run_sizeOf w hiu, cellsLawn, Int.toNat_natCast, hp]

def valI (i : Int) : Value := .int .i64 i
theorem zero64 (w : World) : (zeroValue 2).run Try.prog w = .ok (valI 0) w := by kernel_rfl
theorem Only.putT {T : List Nat} {w0 w : World} (h : Only T w0 w) {l : Nat} (hl : l ∈ T) (o : Obj) : Only T w0 (w.putObj l o) :=
  ⟨h.os, h.tape, h.output, by simpa using h.size, fun k hk hT => (World.putObj_heap_other (fun e => hT (by rw [e]; exact hl))).trans (h.block k hk hT)⟩
attribute [local go_sem ↓] buildTwo indexTwo
set_option maxRecDepth 100000 in
set_option maxHeartbeats 1000000 in
theorem implBestK {κ : Type} [DecidableEq κ] (enc : κ → Value) (K : KeyOk Try.prog 30 enc) (k0 k1 : κ) (L T : Lawn) (hT : turnLawnR L = T) (hv : validB L = true) (hvT : validB T = true) (e0 : enc k0 = .agg L.cells) (e1 : enc k1 = .agg T.cells)
    (n m : Nat) (hn : (runsC L true).length = n) (hm : (runsC T true).length = m) (hk : k1 = k0 → n = m) (q : Int) (hq : (if (m : Int) < n then (m : Int) else n) = q) (w : World) :
    Calls Try.prog 44 #[.agg L.cells] w fun e w' => e = .returned (.tuple #[.bool (decide ((n : Int) ≤ m)), .int .i64 q, .int .i64 0]) ∧ Below w.heap.size w w' := by
  have HTL := Lib.hid (fun w => implTurnLawn_any L (fits_of_valid hv) w)
  have HM0 := Lib.hid (show turnLawnM L = 0 by simp [turnLawnM, hv])
  rw [hT] at HTL
  have HR0 := Lib.hid (fun w => implRuns_any L (fits_of_valid hv) true w)
  have HR1 := Lib.hid (fun w => implRuns_any T (fits_of_valid hvT) true w)
  have HV := Lib.hid hv
  have HVT := Lib.hid hvT
  have HN := Lib.hid hn
  have HM := Lib.hid hm
  have HK := Lib.hid hk
  have HQ := Lib.hid hq
  have E0 := Lib.hid e0
  have E1 := Lib.hid e1
  have KK := Lib.hid K
  have g0 := Holds.new w L.cells 30
  have hb0 := (Below.refl w.heap.size w).alloc (Nat.le_refl _) (.cells L.cells 30)
  clear hT hv hvT hn hm hk hq e0 e1 K
  go_enter Try.func44, Try.ntmps44
  go_wp2_with fail
  refine (HTL.out _).mono ?_
  rw [HM0.out]
  rintro e w1 ⟨rfl, hb1⟩
  have j0 := g0.below hb1 g0.lt
  have jB := below_onto hb0 hb1
  have hmk := fun w => run_makeMap (P := Try.prog) 113 w
  have hbt := buildTwo_at
  have r1 : rowAt ((w1.alloc (.cells T.cells 30)).alloc (.map #[] 0)) w.heap.size = L.cells := ((j0.alloc _).alloc _).row
  have r2 : rowAt ((w1.alloc (.cells T.cells 30)).alloc (.map #[] 0)) w1.heap.size = T.cells := ((Holds.new w1 T.cells 30).alloc _).row
  clear g0 hb0 hb1 HTL HM0
  go_wp2_with fail
  clear r1 r2
  have jT : Holds ((w1.alloc (.cells T.cells 30)).alloc (.map #[] 0)) w1.heap.size T.cells := (Holds.new _ _ _).alloc _
  have jL : Holds ((w1.alloc (.cells T.cells 30)).alloc (.map #[] 0)) w.heap.size L.cells := (j0.alloc _).alloc _
  have jM : MapIs ((w1.alloc (.cells T.cells 30)).alloc (.map #[] 0)) (w1.heap.size + 1) enc valI [] := by
    have := MapIs.made (enc := enc) (val := valI) (w1.alloc (.cells T.cells 30))
    simpa using this
  have kB := (jB.alloc jB.size (.cells T.cells 30)).alloc (by have := jB.size; simp; omega) (.map #[] 0)
  have hs1 := jB.size
  have hs2 : ((w1.alloc (.cells T.cells 30)).alloc (.map #[] 0)).heap.size = w1.heap.size + 2 := by simp
  have l0 := j0.lt
  obtain ⟨W0, hW0⟩ : ∃ W0, (w1.alloc (.cells T.cells 30)).alloc (.map #[] 0) = W0 := ⟨_, rfl⟩
  obtain ⟨B, hB⟩ : ∃ B, w1.heap.size = B := ⟨_, rfl⟩
  rw [hW0] at jT jL jM kB hs2 ⊢
  rw [hB] at jT jM hs1 hs2 l0 ⊢
  have h1 := Lib.hid hs1
  have h2 := Lib.hid hs2
  have h0 := Lib.hid l0
  clear hW0 hB j0 jB hmk hs1 hs2 l0 hbt
  go_loopw [28] (fun x wr => Only [B + 1] W0 wr ∧ ∃ l : List (κ × Int), MapIs wr (B + 1) enc valI l ∧ (x = .int .i64 0 ∧ alLook l k0 = none ∧ alLook l k1 = none ∨ x = .int .i64 1 ∧ alLook l k0 = some (n : Int) ∧ alLook l k1 = (if k1 = k0 then some (n : Int) else none) ∨ x = .int .i64 2 ∧ alLook l k0 = some (n : Int) ∧ alLook l k1 = some (m : Int))) (fun x _ => 2 - (intOf x).toNat)
  case atStart => exact ⟨Only.refl _ _, [], jM, .inl ⟨rfl, rfl, rfl⟩⟩
  case round =>
    obtain ⟨hO, l, hM, hc⟩ := hrel
    have hsz := hM.lt
    have hz := fun w => zero64 w
    rcases hc with ⟨rfl, c0, c1⟩ | ⟨rfl, c0, c1⟩ | ⟨rfl, c0, c1⟩
    · have hix := fun w => indexTwo_at L T 0 (by omega) w
      have hlk := ((hM.alloc (.cells L.cells 30)).look KK.out Try.underlying113 zero64 k0).2
      rw [E0.out, c0] at hlk
      simp only [if_true, Int.ofNat_zero, Option.getD_none, Option.isSome_none, valI] at hix hlk
      go_wp2_with fail
      refine (HR0.out _).mono ?_
      rintro e w5 ⟨⟨v, rfl, ho⟩, hb1⟩
      rw [HN.out] at ho
      obtain ⟨av, cv, rfl⟩ := own_slice ho
      have hM5 := (hM.alloc (.cells L.cells 30)).below hb1 (by simp; omega)
      have h9 : Holds w5 wr.heap.size L.cells := (Holds.new wr L.cells 30).below hb1 (by simp)
      obtain ⟨o, hput, hM6⟩ := hM5.put KK.out Try.underlying113 k0 (n : Int)
      rw [E0.out] at hput
      simp only [valI] at hput
      have r9 := h9.row
      have hO5 := (hO.alloc (.cells L.cells 30)).onto hb1
      clear hix hlk ho hz
      go_wp2_with fail
      go_roundw
      case rel =>
        refine ⟨(hO5.putT (by simp) _), _, hM6, .inr (.inl ⟨rfl, by rw [alLook_put]; simp, by rw [alLook_put, c1]⟩)⟩
      case measure => simp [intOf]
    · have hix := fun w => indexTwo_at L T 1 (by omega) w
      have hlk := ((hM.alloc (.cells T.cells 30)).look KK.out Try.underlying113 zero64 k1).2
      rw [E1.out, c1] at hlk
      by_cases hkk : k1 = k0
      · have hnm := HK.out hkk
        rw [if_pos hkk] at hlk c1
        rw [hnm] at c1
        simp only [Nat.one_ne_zero, if_false, Int.ofNat_one, Option.getD_some, Option.isSome_some, valI] at hix hlk
        clear hkk hz
        go_wp2_with fail
        go_roundw
        case rel => exact ⟨hO.alloc _, l, hM.alloc _, .inr (.inr ⟨rfl, c0, c1⟩)⟩
        case measure => simp [intOf]
      · rw [if_neg hkk] at hlk c1
        simp only [Nat.one_ne_zero, if_false, Int.ofNat_one, Option.getD_none, Option.isSome_none, valI] at hix hlk
        go_wp2_with fail
        refine (HR1.out _).mono ?_
        rintro e w5 ⟨⟨v, rfl, ho⟩, hb1⟩
        rw [HM.out] at ho
        obtain ⟨av, cv, rfl⟩ := own_slice ho
        have hM5 := (hM.alloc (.cells T.cells 30)).below hb1 (by simp; omega)
        have h9 : Holds w5 wr.heap.size T.cells := (Holds.new wr T.cells 30).below hb1 (by simp)
        obtain ⟨o, hput, hM6⟩ := hM5.put KK.out Try.underlying113 k1 (m : Int)
        rw [E1.out] at hput
        simp only [valI] at hput
        have r9 := h9.row
        have hO5 := (hO.alloc (.cells T.cells 30)).onto hb1
        clear hix hlk ho hz
        go_wp2_with fail
        go_roundw
        case rel =>
          refine ⟨(hO5.putT (by simp) _), _, hM6, .inr (.inr ⟨rfl, by rw [alLook_put, if_neg (fun e => hkk e.symm), c0], by rw [alLook_put, if_pos rfl]⟩)⟩
        case measure => simp [intOf]
    · have hlk0 := fun k => ((hM.block (w' := wr.drewN k) rfl).look KK.out Try.underlying113 zero64 k0).1
      have hlk1 := fun k => ((hM.block (w' := wr.drewN k) rfl).look KK.out Try.underlying113 zero64 k1).1
      rw [E0.out, c0] at hlk0
      rw [E1.out, c1] at hlk1
      simp only [Option.getD_some, valI] at hlk0 hlk1
      have iL := hO.holds jL (by have := h0.out; simp; omega)
      have iT := hO.holds jT (by simp)
      have rL := iL.row
      have rT := iT.row
      have iB := kB.trans (hO.toBelow (by have := h1.out; simp; omega) kB.size)
      clear hz
      go_wp2_with fail
      go_quiet (fail)
      go_wp2_with fail
      all_goals
        have iB2 : Below w.heap.size w (wr.drewN nq) := ⟨iB.os, iB.tape, iB.output, iB.size, iB.block⟩
        go_ret3
        first
          | (have e : q = (m : Int) := by
               have := HQ.out
               split at this <;> omega
             exact ⟨by rw [e]; rfl, iB2⟩)
          | (have e : q = (n : Int) := by
               have := HQ.out
               split at this <;> omega
             exact ⟨by rw [e]; rfl, iB2⟩)

set_option maxRecDepth 100000 in
set_option maxHeartbeats 1000000 in
theorem implBest_any (L : Lawn) (hL : L.Fits) (w : World) :
    Calls Try.prog 44 #[.agg L.cells] w fun e w' => e = .returned (.tuple #[.bool (bestB L), .int .i64 (bestN L), .int .i64 (validC L)]) ∧ Below w.heap.size w w' := by
  cases hv : validB L
  case true =>
    have hvT := turn_valid hv
    have ht := turn_runs hv hvT
    have e1 : bestB L = decide (((runsC L true).length : Int) ≤ (runsC L false).length) := by simp only [bestB, hv, Bool.true_and]
    have e2 : bestN L = (if ((runsC L false).length : Int) < (runsC L true).length then ((runsC L false).length : Int) else (runsC L true).length) := by simp only [bestN, hv, if_true]
    have e3 : validC L = 0 := by simp [validC, hv]
    rw [e1, e2, e3]
    cases he : lawnEq L (turnLawnR L)
    case true =>
      exact implBestK (oneK L) (oneKey L) () () L (turnLawnR L) rfl hv hvT rfl (by rw [← lawnEq_cells he]; rfl) _ _ rfl ht (fun _ => by rw [← ht]; exact (runs_eq he hv hvT true).symm) _ rfl w
    case false =>
      exact implBestK (twoK L (turnLawnR L)) (twoKey he) false true L (turnLawnR L) rfl hv hvT rfl rfl _ _ rfl ht (fun h => by cases h) _ rfl w
  case false =>
    have e1 : bestB L = false := by simp [bestB, hv]
    have e2 : bestN L = 0 := by simp [bestN, hv]
    have e3 : validC L = 1 := by simp [validC, hv]
    rw [e1, e2, e3]
    have HTL := Lib.hid (fun w => implTurnLawn_any L hL w)
    have HM0 := Lib.hid (show turnLawnM L = 1 by simp [turnLawnM, hv])
    have hb0 := (Below.refl w.heap.size w).alloc (Nat.le_refl _) (.cells L.cells 30)
    clear hv e1 e2 e3
    go_enter Try.func44, Try.ntmps44
    go_wp2_with fail
    refine (HTL.out _).mono ?_
    rw [HM0.out]
    rintro e w1 ⟨rfl, hb1⟩
    have jB := below_onto hb0 hb1
    have jB2 := jB.alloc jB.size (.cells (turnLawnR L).cells 30)
    clear hb0 hb1 HTL HM0
    go_wp2_with fail
    go_ret3
    exact ⟨rfl, jB2⟩
end Go.Proofs.Ytcgkbdbgocoilaa
