/- checkRounds: refuses rounds with a row that a lawn has not, and then too many; a row that is none panics, and is recovered. -/
import Derived.Test.YtemjppchnhemjaaDoorCheckW
import Derived.Test.YtemjppchnhemjaaDoorTaken
import Derived.RecoverIn
import Derived.Laws.Pointers
namespace Go.Proofs.YtemjppchnhemjaaDoor
open Go.RowKit Go.Stop
set_option linter.unusedVariables false
set_option linter.unusedSimpArgs false
attribute [local go_sem] Oper.semAt_some
attribute [local go_sem ↓] loadRow loadGrid loadLawn loadMirror storeRow storeGrid storeLawn allocRow allocGrid allocLawn buildZero buildSides loadRow' loadGrid' loadLawn' loadMirror' storeRow' storeGrid' storeLawn' allocRow' allocGrid' allocLawn' buildZero' buildSides'

/-- What a row that is none panics with. -/
def rowPanic (r : Int) : List PanicEntry := [{ v := .iface 156 (.int .i64 r), recovered := false }]
theorem assertRow (v : Value) (xT : TypeId) (w : World) : (Instr.typeAssert (.iface 156 v) xT 121 true).run Tryd.prog w = .ok (.tuple #[.iface 156 v, .bool true]) w :=
  run_typeAssert_hasB Tryd.underlying121 (by kernel_rfl) v xT w
theorem assertNil (xT : TypeId) (w : World) : (Instr.typeAssert .nilIface xT 121 true).run Tryd.prog w = .ok (.tuple #[.nilIface, .bool false]) w := by kernel_rfl

set_option maxRecDepth 100000 in
set_option maxHeartbeats 1000000 in
theorem catchR_panicking {n : Nat} (p : Nat) (x : Value) (r : Int) (older : List PanicEntry) (w : World) (hp : Holds w p #[x]) :
    CallsDIn Fence.wide n Tryd.prog 73 #[.pointer (some ⟨p, 0, none⟩)] (.panicking ({ v := .iface 156 (.int .i64 r), recovered := false } :: older)) w fun e u' w' =>
      e = .returned (.tuple #[]) ∧ u' = .panicking ({ v := .iface 156 (.int .i64 r), recovered := true } :: older) ∧ w' = w.setCell ⟨p, 0, none⟩ (.iface 156 (.int .i64 r)) := by
  obtain ⟨-, fp, cp, zp, lp⟩ := hp.facts
  have ht := assertRow
  refine callsDIn_of_wpSIn Tryd.func73 rfl trivial fun c₀ cs hu => ?_
  apply wpSIn_seq
  apply wpSIn_region
  simp [wpOpsSIn, go_sem, recoverD, hu, Tryd.ntmps73, Exit.thenS, ht]
  apply wpSIn_seq
  apply wpSIn_region
  simp [wpOpsSIn, go_sem, Exit.thenS]
  refine wpSIn_cond (t := true) (by simp [Act.eval, Array.replicate]) ?_
  simp only [if_true]
  apply wpSIn_region
  simp [wpOpsSIn, go_sem, cp, zp, bodyPostS, results, Tryd.results73]

set_option maxRecDepth 100000 in
set_option maxHeartbeats 1000000 in
theorem catchR_idle {n : Nat} (p : Nat) (w : World) :
    CallsDIn Fence.wide n Tryd.prog 73 #[.pointer (some ⟨p, 0, none⟩)] .returning w fun e u' w' =>
      e = .returned (.tuple #[]) ∧ u' = .returning ∧ w' = w := by
  have ht := assertNil
  refine callsDIn_of_wpSIn Tryd.func73 rfl trivial fun c₀ cs hu => ?_
  apply wpSIn_seq
  apply wpSIn_region
  simp [wpOpsSIn, go_sem, recoverD, hu, Tryd.ntmps73, Exit.thenS, ht]
  apply wpSIn_seq
  apply wpSIn_region
  simp [wpOpsSIn, go_sem, Exit.thenS]
  refine wpSIn_cond (t := false) (by simp [Act.eval, Array.replicate]) ?_
  simp only [Bool.false_eq_true, if_false]
  refine wpSIn_of_wpIn rfl ?_
  apply wpIn_skip
  cases c₀
  simp_all [bodyPostS, results, Tryd.results73]

set_option maxRecDepth 100000 in
set_option maxHeartbeats 1000000 in
theorem in_bad (L : Lawn) (hL : L.Fits) (r : Int) (hr : upZ r (L.high - 1) = false) (w : World) :
    Calls Tryd.prog 74 #[.int .i64 r, .agg L.cells] w fun e w' => e = .panicked (rowPanic r) ∧ Below w.heap.size w w' := by
  obtain ⟨-, -, lh0, lh1, -, -⟩ := hL
  have HU := Lib.hid (fun w => upTo64_is _ _ _ hr w)
  have e4 : IntKind.i64.wrap L.high = L.high := IntWalk.i64_in _ (by omega)
  have e6 : IntKind.i64.wrap (L.high - 1) = L.high - 1 := IntWalk.i64_in _ (by omega)
  clear hr
  go_enter Tryd.func74, Tryd.ntmps74
  go_wp2_with fail
  refine (HU.out _).mono ?_
  rintro e w2 ⟨rfl, hw2⟩
  rw [hw2]
  clear hw2
  go_wp2_with fail
  exact ⟨rfl, rfl, (Below.refl _ _).alloc (Nat.le_refl _) _⟩

theorem RefP.row (n : Int) : RefP (.iface 156 (.int .i64 n)) 2 := .inr ⟨by decide, _, _, rfl, refusedR n⟩
theorem RefP.many (n : Int) : RefP (.iface 133 (.int .i64 n)) 3 := .inr ⟨by decide, _, _, rfl, refusedT n⟩
/-- Whether a lawn has the rows of all rounds; the code of rounds. -/
def rowsB (L : Lawn) (rs : List (Int × Bool)) : Bool := rs.all fun r => upZ r.1 (L.high - 1)
def roundsC (L : Lawn) (rs : List (Int × Bool)) : Int := if rowsB L rs then (if 60 < rs.length then 3 else 0) else 2

set_option maxRecDepth 100000 in
set_option maxHeartbeats 4000000 in
theorem checkRounds_any (L : Lawn) (hL : L.Fits) (rs : List (Int × Bool)) (hn : rs.length ≤ maxLen) (g cap : Nat) (w : World) (hg : g < w.heap.size)
    (hc : ∀ W, Below w.heap.size w W → ∀ k r, rs[k]? = some r → W.cell? ⟨g, k * 2, none⟩ = some (.int .i64 r.1) ∧ W.cell? ⟨g, k * 2 + 1, none⟩ = some (.bool r.2)) :
    Calls Tryd.prog 55 #[.agg L.cells, .slice (some ⟨g, 0, none⟩) rs.length cap] w fun e w' => (∃ v, e = .returned v ∧ RefP v (roundsC L rs)) ∧ Below w.heap.size w w' := by
  have HIG := Lib.hid (fun (r : Int) (h : upZ r (L.high - 1) = true) w => show Calls Tryd.prog 74 #[.int .i64 r, .agg L.cells] w fun e w' => (∃ v, e = .returned v) ∧ Below w.heap.size w w' from by
    have h' : 0 ≤ r ∧ r ≤ L.high - 1 := by simpa [upZ] using h
    have := in_row L hL r.toNat (by omega) w
    rw [show ((r.toNat : Nat) : Int) = r by omega] at this
    exact this.mono fun e w' h => ⟨⟨_, h.1⟩, h.2⟩)
  have HIB := Lib.hid (fun (r : Int) (h : upZ r (L.high - 1) = false) w => in_bad L hL r h w)
  obtain ⟨u, hu⟩ : ∃ u, w.heap.size = u := ⟨_, rfl⟩
  obtain ⟨W1, hW1⟩ : ∃ W1, (w.alloc (.cells L.cells 31)).alloc (.cells #[.nilIface] 67) = W1 := ⟨_, rfl⟩
  have g0 : Holds W1 u L.cells := by rw [← hW1]; exact (Holds.new' _ _ _ _ hu.symm).alloc _
  have g1 : Holds W1 (u + 1) #[.nilIface] := by rw [← hW1]; exact Holds.new' _ _ _ _ (by simp; omega)
  have hB1 : Below u w W1 := by rw [← hW1]; exact ((Below.refl u w).alloc (by omega) _).alloc (by simp; omega) _
  rw [hu] at hc hg
  have HU := Lib.hid hu
  have HC := Lib.hid hc
  have HRC := Lib.hid (show roundsC L rs = if rowsB L rs then (if 60 < rs.length then 3 else 0) else 2 from rfl)
  have hk64 : (rs.length : Int) ≤ 9223372036854775807 := by unfold maxLen at hn; omega
  clear hL hc
  refine (callsIn_wide (n := 9)).1 ?_
  refine callsIn_of_wp_marks Tryd.func55 rfl trivial ?_ rfl
  simp only [Tryd.ntmps55, List.size_toArray, List.length_cons, List.length_nil, Nat.reduceAdd, Nat.reduceSub, Array.replicate_succ, Array.replicate_zero, List.push_toArray, List.append_toArray, List.nil_append, List.cons_append]
  gi_wp2_with fail
  try simp only [hu, Nat.add_assoc, Nat.reduceAdd]
  try rw [hW1]
  clear hW1 hu
  gi_loopw [6, 10] (fun _ x wr => ∃ k : Nat, k ≤ rs.length ∧ x = .int .i64 k ∧ Below (u + 2) W1 wr ∧ ∀ m, m < k → ∀ r, rs[m]? = some r → upZ r.1 (L.high - 1) = true) (fun _ x _ => rs.length - (intOf x).toNat)
  case atStart => exact ⟨0, by omega, rfl, Below.refl _ _, fun m hm => by omega⟩
  case round =>
    obtain ⟨k, hk, rfl, hb, hall⟩ := hrel
    have HALL := Lib.hid hall
    clear hall
    have h0 := g0.below hb (by omega)
    have h1 := g1.below hb (by omega)
    have hB : Below u w wr := hB1.trans (hb.mono (by omega))
    by_cases hlt : k < rs.length
    · have hd : decide ((k : Int) < (rs.length : Int)) = true := by simp; omega
      obtain ⟨r, hr⟩ : ∃ r, rs[k]? = some r := ⟨_, List.getElem?_eq_getElem hlt⟩
      obtain ⟨c0, c1⟩ := HC.out wr hB k r hr
      have HR := Lib.hid hr
      obtain ⟨r0, -, -, -, l0⟩ := h0.facts
      obtain ⟨a, b⟩ := r
      dsimp only at c0 c1
      obtain ⟨v, hv⟩ : ∃ v, upZ a (L.high - 1) = v := ⟨_, rfl⟩
      have HV := Lib.hid hv
      clear hr
      cases v
      · have HIx := Lib.hid (HIB.out a hv)
        clear hv
        gi_wp2_with fail
        refine ⟨trivial, (callsIn_wide.2 (HIx.out _)).mono ?_⟩
        rintro e w3 ⟨rfl, hb3⟩
        have j1 := (h1.alloc (.cells #[.int .i64 a, .bool b] 102)).below hb3 (by have := h1.lt; simp; omega)
        have hB3 : Below u w w3 := (hB.alloc (by have := h1.lt; omega) _).trans (hb3.mono (by have := h1.lt; simp; omega))
        have HRB := Lib.hid (show rowsB L rs = false from by
          cases h : rowsB L rs with
          | false => rfl
          | true => have := List.all_eq_true.1 h _ (List.mem_of_getElem? HR.out); rw [HV.out] at this; cases this)
        clear hb3 h0 h1 hB
        gi_wp2_with fail
        refine ⟨by simp [rowPanic], .inr ⟨fun _ => by omega, _, _, 73, #[.pointer (some ⟨u + 1, 0, none⟩)], rfl, by simp [invoke, go_sem], fun _ _ => trivial, ?_⟩⟩
        refine (catchR_panicking (u + 1) _ a [] _ j1).mono ?_
        rintro e u' w'' ⟨rfl, rfl, rfl⟩
        have k1 := j1.setCell 0 (.iface 156 (.int .i64 a))
        have hB4 := hB3.setCell (p := ⟨u + 1, 0, none⟩) (by simp) (.iface 156 (.int .i64 a))
        obtain ⟨-, -, d1, -, -⟩ := k1.facts
        simp only [settle, List.dropWhile]
        refine ⟨.iface 156 (.int .i64 a), by simp [results, Tryd.f55, go_sem, d1], ⟨_, rfl, ?_⟩, by rw [HU.out]; exact hB4⟩
        rw [HRC.out, HRB.out]
        exact RefP.row a
      · have HIx := Lib.hid (HIG.out a hv)
        clear hv
        gi_wp2_with fail
        refine ⟨trivial, (callsIn_wide.2 (HIx.out _)).mono ?_⟩
        rintro e w3 ⟨⟨z, rfl⟩, hb3⟩
        have HN := Lib.hid (show ∀ m, m < k + 1 → ∀ r, rs[m]? = some r → upZ r.1 (L.high - 1) = true from fun m hm r hr => by
          rcases Nat.lt_or_ge m k with h | h
          · exact HALL.out m h r hr
          · obtain rfl : m = k := by omega
            rw [HR.out] at hr
            obtain rfl := Option.some.inj hr
            exact HV.out)
        have hb4 : Below (u + 2) W1 w3 := (hb.alloc (by have := h1.lt; omega) _).trans (hb3.mono (by have := h1.lt; simp; omega))
        clear hb3 h0 h1 hB
        gi_wp2_with fail
        go_roundw
        case rel => exact ⟨k + 1, by omega, by go_num, hb4, HN.out⟩
        case measure => simp [intOf]; omega
    · obtain rfl : k = rs.length := by omega
      have hd : decide ((rs.length : Int) < (rs.length : Int)) = false := by simp
      have HRB := Lib.hid (show rowsB L rs = true from List.all_eq_true.2 fun r hm => by
        obtain ⟨m, hm⟩ := List.getElem?_of_mem hm
        exact HALL.out m (by have := (List.getElem?_eq_some_iff.1 hm).1; omega) r hm)
      by_cases h60 : 60 < rs.length
      · have hd6 : decide ((60 : Int) < (rs.length : Int)) = true := by simp; omega
        obtain ⟨-, f1, c1, z1, l1⟩ := h1.facts
        have j1 := h1.setCell 0 (.iface 133 (.int .i64 rs.length))
        have hB3 := hB.setCell (p := ⟨u + 1, 0, none⟩) (by simp) (.iface 133 (.int .i64 rs.length))
        gi_wp2_with fail
        refine ⟨by simp, .inr ⟨fun _ => by omega, _, _, 73, #[.pointer (some ⟨u + 1, 0, none⟩)], rfl, by simp [invoke, go_sem], fun _ _ => trivial, ?_⟩⟩
        refine (catchR_idle (u + 1) _).mono ?_
        rintro e u' w'' ⟨rfl, rfl, rfl⟩
        obtain ⟨-, -, d1, -, -⟩ := j1.facts
        refine ⟨.iface 133 (.int .i64 rs.length), by simp [results, Tryd.f55, go_sem, d1], ⟨_, rfl, ?_⟩, by rw [HU.out]; exact hB3⟩
        rw [HRC.out, HRB.out, if_pos rfl, if_pos h60]
        exact RefP.many _
      · have hd6 : decide ((60 : Int) < (rs.length : Int)) = false := by simp; omega
        obtain ⟨-, f1, c1, z1, l1⟩ := h1.facts
        have j1 := h1.setCell 0 .nilIface
        have hB3 := hB.setCell (p := ⟨u + 1, 0, none⟩) (by simp) .nilIface
        gi_wp2_with fail
        refine ⟨by simp, .inr ⟨fun _ => by omega, _, _, 73, #[.pointer (some ⟨u + 1, 0, none⟩)], rfl, by simp [invoke, go_sem], fun _ _ => trivial, ?_⟩⟩
        refine (catchR_idle (u + 1) _).mono ?_
        rintro e u' w'' ⟨rfl, rfl, rfl⟩
        obtain ⟨-, -, d1, -, -⟩ := j1.facts
        refine ⟨.nilIface, by simp [results, Tryd.f55, go_sem, d1], ⟨_, rfl, ?_⟩, by rw [HU.out]; exact hB3⟩
        rw [HRC.out, HRB.out, if_pos rfl, if_neg h60]
        exact RefP.none
end Go.Proofs.YtemjppchnhemjaaDoor
