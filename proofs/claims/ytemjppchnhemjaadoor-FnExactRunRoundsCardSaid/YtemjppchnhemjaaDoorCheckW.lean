/- checkWeeds: refuses weeds that are not valid, and then numbers that are out of range. -/
import Derived.Test.YtemjppchnhemjaaDoorVWeed
import Derived.Test.YtemjppchnhemjaaDoorRefuse
import Derived.Test.YtemjppchnhemjaaDoorZC
namespace Go.Proofs.YtemjppchnhemjaaDoor
open Go.RowKit
set_option linter.unusedVariables false
set_option linter.unusedSimpArgs false
attribute [local go_sem ↓] loadRow loadGrid loadLawn loadMirror storeRow storeGrid storeLawn allocRow allocGrid allocLawn buildZero buildSides loadWd storeWd allocWd buildZWd eqlWd

/-- An error, and its code: none, or a refusal that tells it. -/
def RefP (v : Value) (c : Int) : Prop := (v = .nilIface ∧ c = 0) ∨ (c ≠ 0 ∧ ∃ t a, v = .iface t a ∧ ∀ w, Calls Tryd.prog 38 #[.iface t a] w fun e w' => e = .returned (.int .i64 c) ∧ Below w.heap.size w w')
theorem RefP.weeds (s : Nat → Nat → Bool) : RefP (.iface 118 (.agg (bV 10 s))) 1 := .inr ⟨by decide, _, _, rfl, refusedW s⟩
theorem RefP.number (n : Int) : RefP (.iface 119 (.int .i64 n)) 2 := .inr ⟨by decide, _, _, rfl, refusedN n⟩
theorem RefP.none : RefP .nilIface 0 := .inl ⟨rfl, rfl⟩

/-- Numbers with the least and the most that each may be. -/
def limV (ns : List (Int × Int × Int)) : Array Value := (ns.flatMap fun n => [Value.int .i64 n.1, Value.int .i64 n.2.1, Value.int .i64 n.2.2]).toArray
theorem limV_get (ns : List (Int × Int × Int)) (i j : Nat) (hj : j < 3) : (limV ns)[i * 3 + j]? = (ns[i]?).bind fun n => [Value.int .i64 n.1, Value.int .i64 n.2.1, Value.int .i64 n.2.2][j]? := by
  simp only [limV, List.getElem?_toArray]
  exact flat_get 3 _ ns (fun n _ => rfl) i j hj
def limB (n : Int × Int × Int) : Bool := inB n.1 n.2.1 n.2.2

set_option maxRecDepth 100000 in
set_option maxHeartbeats 2000000 in
theorem checkWeeds_any (L : Lawn) (hL : L.Fits) (s : Nat → Nat → Bool) (ns : List (Int × Int × Int)) (hn : ns.length ≤ 10) (g : Nat) (w : World) (h : Holds w g (limV ns)) :
    Calls Tryd.prog 36 #[.agg L.cells, .agg (bV 10 s), .slice (some ⟨g, 0, none⟩) ns.length ns.length] w fun e w' => (∃ v, e = .returned v ∧ RefP v (told (weedB L s) (ns.all limB))) ∧ Below w.heap.size w w' := by
  have HV := Lib.hid (implWeeds_any L hL s)
  have HT := Lib.hid (show told (weedB L s) (ns.all limB) = if weedB L s then (if ns.all limB then 0 else 2) else 1 from rfl)
  generalize weedB L s = v at HV HT
  have g1 := Holds.new' (w.alloc (.cells L.cells 31)) (bV 10 s) 33 (w.heap.size + 1) (by simp)
  have hb0 := ((Below.refl w.heap.size w).alloc (Nat.le_refl _) (.cells L.cells 31)).alloc (by simp) (.cells (bV 10 s) 33)
  have gg := (h.alloc (.cells L.cells 31)).alloc (.cells (bV 10 s) 33)
  clear hL h
  go_enter Tryd.func36, Tryd.ntmps36
  go_wp2_with fail
  refine (HV.out _).mono ?_
  rintro e w1 ⟨rfl, hb1⟩
  have g2 := g1.below hb1 g1.lt
  have gg2 := gg.below hb1 gg.lt
  have hb2 := below_onto hb0 hb1
  clear hb0 hb1 g1 gg
  cases v
  · obtain ⟨r2, -, -, -, -⟩ := g2.facts
    go_wp2_with fail
    go_ret
    exact ⟨⟨_, rfl, by rw [HT.out]; exact RefP.weeds s⟩, hb2⟩
  · go_wp2_with fail
    clear g2 HV
    go_loopw [17] (fun i wr => ∃ k : Nat, k ≤ ns.length ∧ i = .int .i64 k ∧ Below w1.heap.size w1 wr ∧ ∀ m, m < k → ∀ n, ns[m]? = some n → limB n = true) (fun i _ => ns.length - (intOf i).toNat)
    case atStart => exact ⟨0, by omega, rfl, Below.refl _ _, fun m hm => by omega⟩
    case round =>
      obtain ⟨k, hk, rfl, hb, hall⟩ := hrel
      have HALL := Lib.hid hall
      clear hall
      by_cases hlt : k < ns.length
      · have hd : decide ((k : Int) < (ns.length : Int)) = true := by simp; omega
        have hgr := gg2.below hb gg2.lt
        obtain ⟨-, -, c, -, l⟩ := hgr.facts
        obtain ⟨n, hnk⟩ : ∃ n, ns[k]? = some n := ⟨_, List.getElem?_eq_getElem hlt⟩
        have c0 : wr.cell? ⟨g, k * 3, none⟩ = some (.int .i64 n.1) := by rw [c, show k * 3 = k * 3 + 0 by rfl, limV_get _ _ _ (by omega), hnk]; rfl
        have c1 : wr.cell? ⟨g, k * 3 + 1, none⟩ = some (.int .i64 n.2.1) := by rw [c, limV_get _ _ _ (by omega), hnk]; rfl
        have c2 : wr.cell? ⟨g, k * 3 + 2, none⟩ = some (.int .i64 n.2.2) := by rw [c, limV_get _ _ _ (by omega), hnk]; rfl
        have HN := Lib.hid (show limB n = true → ∀ m, m < k + 1 → ∀ n, ns[m]? = some n → limB n = true from fun hl m hm n' hn' => by
          rcases Nat.lt_or_ge m k with h | h
          · exact HALL.out m h n' hn'
          · obtain rfl : m = k := by omega
            rw [hnk] at hn'
            obtain rfl := Option.some.inj hn'
            exact hl)
        have HF := Lib.hid (show limB n = false → ns.all limB = false from fun hl => by
          cases ha : ns.all limB with
          | false => rfl
          | true => have := List.all_eq_true.1 ha n (List.mem_of_getElem? hnk); rw [hl] at this; cases this)
        obtain ⟨a, lo, hi⟩ := n
        have HLB := Lib.hid (show limB (a, lo, hi) = (decide (lo ≤ a) && decide (a ≤ hi)) from rfl)
        dsimp only at c0 c1 c2
        clear c hnk
        by_cases h1 : a < lo
        · have d1 : decide (a < lo) = true := by simpa using h1
          have HE := Lib.hid (HF.out (by rw [HLB.out]; simp; omega))
          clear h1 HN HF HLB
          go_wp2_with fail
          go_ret
          exact ⟨⟨_, rfl, by rw [HT.out, HE.out]; exact RefP.number a⟩, (below_onto hb2 hb).alloc (below_onto hb2 hb).size _⟩
        · have d1 : decide (a < lo) = false := by simpa using h1
          by_cases h2 : hi < a
          · have d2 : decide (hi < a) = true := by simpa using h2
            have HE := Lib.hid (HF.out (by rw [HLB.out]; simp; omega))
            clear h1 h2 HN HF HLB
            go_wp2_with fail
            go_ret
            exact ⟨⟨_, rfl, by rw [HT.out, HE.out]; exact RefP.number a⟩, (below_onto hb2 hb).alloc (below_onto hb2 hb).size _⟩
          · have d2 : decide (hi < a) = false := by simpa using h2
            have HE := Lib.hid (HN.out (by rw [HLB.out]; simp; omega))
            clear h1 h2 HN HF HLB
            go_wp2_with fail
            go_roundw
            case rel => exact ⟨k + 1, by omega, by go_num, hb.alloc hb.size _, HE.out⟩
            case measure => simp [intOf]; omega
      · have hd : decide ((k : Int) < (ns.length : Int)) = false := by simp; omega
        have HE := Lib.hid (show ns.all limB = true from List.all_eq_true.2 fun n hm => by
          obtain ⟨m, hm⟩ := List.getElem?_of_mem hm
          exact HALL.out m (by have := (List.getElem?_eq_some_iff.1 hm).1; omega) n hm)
        go_wp2_with fail
        go_ret
        exact ⟨⟨_, rfl, by rw [HT.out, HE.out]; exact RefP.none⟩, below_onto hb2 hb⟩

set_option maxRecDepth 100000 in
set_option maxHeartbeats 2000000 in
theorem checkWeeds_nil (L : Lawn) (hL : L.Fits) (s : Nat → Nat → Bool) (w : World) :
    Calls Tryd.prog 36 #[.agg L.cells, .agg (bV 10 s), .slice none 0 0] w fun e w' => (∃ v, e = .returned v ∧ RefP v (told (weedB L s) true)) ∧ Below w.heap.size w w' := by
  have HV := Lib.hid (implWeeds_any L hL s)
  have HT := Lib.hid (show told (weedB L s) true = if weedB L s then 0 else 1 from rfl)
  generalize weedB L s = v at HV HT
  have g1 := Holds.new' (w.alloc (.cells L.cells 31)) (bV 10 s) 33 (w.heap.size + 1) (by simp)
  have hb0 := ((Below.refl w.heap.size w).alloc (Nat.le_refl _) (.cells L.cells 31)).alloc (by simp) (.cells (bV 10 s) 33)
  clear hL
  go_enter Tryd.func36, Tryd.ntmps36
  go_wp2_with fail
  refine (HV.out _).mono ?_
  rintro e w1 ⟨rfl, hb1⟩
  have g2 := g1.below hb1 g1.lt
  have hb2 := below_onto hb0 hb1
  clear hb0 hb1 g1
  cases v
  · obtain ⟨r2, -, -, -, -⟩ := g2.facts
    go_wp2_with fail
    go_ret
    exact ⟨⟨_, rfl, by rw [HT.out]; exact RefP.weeds s⟩, hb2⟩
  · go_wp2_with fail
    clear g2 HV
    go_loopw [17] (fun i wr => i = .int .i64 0 ∧ wr = w1) (fun i _ => 0)
    case atStart => exact ⟨rfl, rfl⟩
    case round =>
      obtain ⟨rfl, rfl⟩ := hrel
      go_wp2_with fail
      go_ret
      exact ⟨⟨_, rfl, by rw [HT.out]; exact RefP.none⟩, hb2⟩
end Go.Proofs.YtemjppchnhemjaaDoor
