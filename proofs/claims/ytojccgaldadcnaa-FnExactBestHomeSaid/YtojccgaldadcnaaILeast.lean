/- LeastBattery, of the program. -/
import Derived.Test.YtojccgaldadcnaaAround
import Derived.Test.YtojccgaldadcnaaIReach4
import Derived.Test.YtojccgaldadcnaaChkO
namespace Go.Proofs.Ytojccgaldadcnaa
open Go.RowKit
set_option linter.unusedVariables false
set_option linter.unusedSimpArgs false
attribute [local go_sem ↓] loadRow loadGrid loadLawn loadMirror storeRow storeGrid storeLawn allocRow allocGrid allocLawn buildZero buildSides

/-- The greatest number of a list of pairs, or zero. -/
def mostZ (l : Found) : Int := l.foldr (fun p m => if m < p.2 then p.2 else m) 0
theorem mostZ_is : ∀ l : Found, MostIs l (mostZ l)
  | [] => ⟨(fun p hp => by cases hp), .inl rfl⟩
  | p :: l => by
    have ih := mostZ_is l
    have e : mostZ (p :: l) = if mostZ l < p.2 then p.2 else mostZ l := rfl
    rw [e]
    constructor
    · intro q hq
      rcases List.mem_cons.1 hq with rfl | hq
      · split <;> omega
      · have := ih.1 q hq; split <;> omega
    · split
      · exact .inr ⟨p, by simp, rfl⟩
      · exact ih.2.imp id fun ⟨q, hq, e⟩ => ⟨q, by simp [hq], e⟩
theorem MostIs.perm {l l' : Found} {d : Int} (h : MostIs l d) (hp : l'.Perm l) : MostIs l' d :=
  ⟨fun p hm => h.1 p (hp.mem_iff.1 hm), h.2.imp id fun ⟨q, hq, e⟩ => ⟨q, hp.mem_iff.2 hq, e⟩⟩
/-- The grass found around a home; the charge for it. -/
def aroundL (L : Lawn) (x y : Int) : Found := (found (openP L) (x, y) 100).filter fun p => grassP L p.1
def batN (L : Lawn) (x y : Int) : Int := if stepsC L x y = 0 then 2 * mostZ (aroundL L x y) else 0
theorem stepsC_zero {L : Lawn} {x y : Int} (h : stepsC L x y = 0) : validB L = true ∧ isB L x y = true ∧ openB L x y = true := by
  unfold stepsC at h
  split at h
  · split at h
    · split at h
      · simp_all
      · cases h
    · cases h
  · cases h
theorem around_val {L : Lawn} {x y : Int} (hv : validB L = true) (ho : openB L x y = true) : ∀ p ∈ aroundL L x y, 0 ≤ p.2 ∧ p.2 < 100 := by
  intro p hp
  unfold aroundL at hp
  have hp := (List.mem_filter.1 hp).1
  have hg := found_good (pass := openP L) (s := (x, y)) ho 100
  have hl := good_length (openP_near hv) hg
  obtain ⟨j, hj, rfl⟩ := List.getElem_of_mem hp
  have := hg.val j _ (List.getElem?_eq_getElem hj)
  omega

set_option maxRecDepth 100000 in
set_option maxHeartbeats 1000000 in
theorem implLeast_any (L : Lawn) (hL : L.Fits) (x y : Int) (w : World) :
    Calls Try.prog 20 #[.agg L.cells, .agg #[.int .i8 x, .int .i8 y]] w fun e w' => e = .returned (.tuple #[.int .i64 (batN L x y), .int .i64 (stepsC L x y)]) ∧ Below w.heap.size w w' := by
  have HC := Lib.hid (checkOpen_one L hL x y)
  have HA := Lib.hid (fun (h : stepsC L x y = 0) (w : World) => around_lawn L hL (stepsC_zero h).1 x y (stepsC_zero h).2.2 w)
  have HV := Lib.hid (fun (h : stepsC L x y = 0) => around_val (stepsC_zero h).1 (stepsC_zero h).2.2)
  have HN := Lib.hid (show batN L x y = if stepsC L x y = 0 then 2 * mostZ (aroundL L x y) else 0 from rfl)
  have HAL := Lib.hid (show (found (openP L) (x, y) 100).filter (fun p => grassP L p.1) = aroundL L x y from rfl)
  obtain ⟨c, hc⟩ : ∃ c, stepsC L x y = c := ⟨_, rfl⟩
  obtain ⟨n, hn⟩ : ∃ n, batN L x y = n := ⟨_, rfl⟩
  rw [hn, hc] at HN
  rw [hc] at HC HA HV
  rw [HAL.out] at HA
  rw [hn, hc]
  obtain ⟨al, hal⟩ : ∃ al, aroundL L x y = al := ⟨_, rfl⟩
  rw [hal] at HA HV HN
  clear hc hn hL hal HAL
  obtain ⟨W0, hW0⟩ : ∃ W0, ((w.alloc (.cells L.cells 30)).alloc (.cells #[.int .i8 x, .int .i8 y] 43)).alloc (.cells #[.int .i8 x, .int .i8 y] 43) = W0 := ⟨_, rfl⟩
  have g0 : Holds W0 w.heap.size L.cells := by rw [← hW0]; exact ((Holds.new _ _ _).alloc _).alloc _
  have g1 : Holds W0 (w.heap.size + 1) #[.int .i8 x, .int .i8 y] := by rw [← hW0]; exact (Holds.new' _ _ _ _ (by simp)).alloc _
  have g2 : Holds W0 (w.heap.size + 1 + 1) #[.int .i8 x, .int .i8 y] := by rw [← hW0]; exact Holds.new' _ _ _ _ (by simp)
  have hb0 : Below w.heap.size w W0 := by rw [← hW0]; exact (((Below.refl w.heap.size w).alloc (Nat.le_refl _) _).alloc (by simp) _).alloc (by simp; omega) _
  go_enter Try.func20, Try.ntmps20
  go_wp2_with fail
  try rw [hW0]
  clear hW0
  refine (HC.out _ _ g2).mono ?_
  rintro e w1 ⟨rfl, hb1⟩
  have k0 := g0.below hb1 g0.lt
  have k1 := g1.below hb1 g1.lt
  have hb2 := below_onto hb0 hb1
  clear g0 g1 g2 hb0 hb1
  obtain ⟨r0, -, -, -, -⟩ := k0.facts
  have c0 : w1.cell? ⟨w.heap.size + 1, 0, none⟩ = some (.int .i8 x) := k1.cell 0
  have c1 : w1.cell? ⟨w.heap.size + 1, 1, none⟩ = some (.int .i8 y) := k1.cell 1
  by_cases hc : c = 0
  · subst hc
    have HN2 := Lib.hid (show n = 2 * mostZ al by rw [HN.out, if_pos rfl])
    have HA2 := Lib.hid (HA.out rfl)
    have HV2 := Lib.hid (HV.out rfl)
    clear HN HA HV
    go_wp2_with fail
    refine (HA2.out _).mono ?_
    rintro e w2 ⟨⟨b, l, rfl, hbl, hm, hp⟩, hb3⟩
    have hb4 := below_onto hb2 hb3
    have hch := charge_any l (fun p hm => HV2.out p (hp.mem_iff.1 hm)) _ ((mostZ_is al).perm hp) b w2 hm
    have HCH := Lib.hid hch
    rw [← HN2.out] at HCH
    clear k0 k1 hb2 hb3 r0 c0 c1 hch hp hm
    go_wp2_with fail
    refine HCH.out.mono ?_
    rintro e w3 ⟨rfl, hb5⟩
    have hb6 := below_onto hb4 hb5
    go_wp2_with fail
    go_ret2
    exact ⟨rfl, hb6⟩
  · have hne : (c != 0) = true := by simpa [bne] using hc
    have hn0 : n = 0 := by rw [HN.out, if_neg hc]
    subst hn0
    go_wp2_with fail
    go_ret2
    exact ⟨rfl, hb2⟩
end Go.Proofs.Ytojccgaldadcnaa
