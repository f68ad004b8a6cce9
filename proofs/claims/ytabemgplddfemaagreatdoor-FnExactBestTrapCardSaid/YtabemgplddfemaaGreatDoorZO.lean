/- Numbers from 0 up to a bound. checkMoles, of the program. What a check that finds nothing says. l06Below, of the model. -/
import Derived.Test.YtabemgplddfemaaGreatDoorZA
import Derived.Test.YtabemgplddfemaaGreatDoorMoleP
import Derived.Test.YtabemgplddfemaaGreatDoorVLev
import Derived.Test.YtabemgplddfemaaGreatDoorErrs
import Derived.Test.YtabemgplddfemaaGreatDoorZG
import Derived.BigQuiet
namespace Go.Proofs.YtabemgplddfemaaGreatDoor
open Go.RowKit
set_option linter.unusedVariables false

def upZ (n m : Int) : Bool := decide (0 ≤ n) && decide (n ≤ m)
theorem upZ_in (n m : Int) : upZ n m = inB n 0 m := rfl
theorem upTo64_is (n m : Int) (v : Bool) (h : upZ n m = v) (w : World) :
    Calls Tryz.prog 37 #[.int .i64 n, .int .i64 m] w fun e w' => e = .returned (.bool v) ∧ w' = w := by
  have H := Lib.hid h
  by_cases h1 : 0 ≤ n
  · have d1 : decide (0 ≤ n) = true := by simpa using h1
    obtain ⟨d, hd⟩ : ∃ d, decide (n ≤ m) = d := ⟨_, rfl⟩
    have HV := Lib.hid (show v = d by rw [← h, upZ, d1, hd, Bool.true_and])
    clear h
    go_enter Tryz.func37, Tryz.ntmps37
    go_wp2
    go_ret
    exact ⟨by rw [HV.out, ← hd]; rfl, rfl⟩
  · have d1 : decide (0 ≤ n) = false := by simpa using h1
    have HV := Lib.hid (show v = false by rw [← h, upZ, d1, Bool.false_and])
    clear h
    go_enter Tryz.func37, Tryz.ntmps37
    go_wp2
    go_ret
    exact ⟨by rw [HV.out]; rfl, rfl⟩

end Go.Proofs.YtabemgplddfemaaGreatDoor

namespace Go.Proofs.YtabemgplddfemaaGreatDoor
open Go.RowKit Go.Shelf
set_option linter.unusedVariables false
set_option linter.unusedSimpArgs false
attribute [local go_sem ↓] loadRow loadGrid loadLawn loadMirror storeRow storeGrid storeLawn allocRow allocGrid allocLawn buildZero buildSides loadR8 loadL8 loadLv storeR8 storeLv allocR8 allocLv buildZLv

set_option maxRecDepth 100000 in
set_option maxHeartbeats 2000000 in
theorem indexFP_any (bad : Pt → Bool) (f : Nat) (caps : Array Value) (hE : ∀ args w, (callFunc f args).run Tryz.prog w = .ok (.enter f args) w) (B n : Nat) (v : Value) (hn : n ≤ 100) (l : List Pt) (hl : l.length = n)
    (w : World) (ho : w.ownsRow B 30 2 v n (flatP l)) (hC : ∀ (d : Pt) (w1 : World), d ∈ l → Below w.heap.size w w1 → Calls Tryz.prog f (#[.agg #[.int .i8 d.1, .int .i8 d.2]] ++ caps) w1 fun e w' => e = .returned (.bool (bad d)) ∧ Below w1.heap.size w1 w') :
    Calls Tryz.prog 59 #[v, .func (.func f) #[] caps] w fun e w' => (∃ x : Int, e = .returned (.int .i64 x) ∧ decide (0 ≤ x) = l.any bad) ∧ Below w.heap.size w w' := by
  obtain ⟨av, cv, rfl⟩ := own_slice ho
  have HIN := Lib.hid hC
  have HO := Lib.hid ho
  have HL := Lib.hid hl
  clear ho hC hl
  go_enter Tryz.func59, Tryz.ntmps59
  go_wp2_with fail
  go_loopw [8] (fun i wr => ∃ k : Nat, k ≤ n ∧ i = .int .i64 k ∧ (∀ j z, j < k → l[j]? = some z → bad z = false) ∧ Below w.heap.size w wr) (fun i _ => n - (intOf i).toNat)
  case atStart => exact ⟨0, by omega, rfl, fun j z h _ => by omega, Below.refl _ _⟩
  case round =>
    obtain ⟨k, hk, rfl, hall, hbk⟩ := hrel
    have HA := Lib.hid hall
    clear hall
    by_cases hlt : k < n
    · have hd : decide ((k : Int) < (n : Int)) = true := by simp; omega
      obtain ⟨d, hdk⟩ : ∃ d, l[k]? = some d := ⟨_, List.getElem?_eq_getElem (by rw [HL.out]; exact hlt)⟩
      have HD := Lib.hid hdk
      obtain ⟨fa, fb⟩ := flatP_get _ _ _ hdk
      have ho := own_below HO.out hbk
      obtain ⟨ga, cap, he, hBg, hg⟩ := own_form ho (by omega)
      simp only [Value.slice.injEq, true_and] at he
      obtain ⟨rfl, rfl⟩ := he
      have ca := own_cell ho _ _ fa
      have cb := own_cell ho _ _ fb
      clear ho fa fb
      obtain ⟨r, hr⟩ : ∃ r, bad d = r := ⟨_, rfl⟩
      have HR := Lib.hid (fun w1 hb => HIN.out d w1 (List.mem_of_getElem? hdk) hb)
      rw [hr] at HR
      have HKP := Lib.hid hr
      clear hr hdk
      go_wp2_with fail
      refine (HR.out _ hbk).mono ?_
      rintro e w2 ⟨rfl, hb1⟩
      have hb2 := below_onto hbk hb1
      clear hb1 ca cb hbk
      cases r
      · have HA2 := Lib.hid (show ∀ j z, j < k + 1 → l[j]? = some z → bad z = false from fun j z hj hz => by
          by_cases e : j = k
          · subst e; rw [HD.out] at hz; cases hz; exact HKP.out
          · exact HA.out j z (by omega) hz)
        go_wp2_with fail
        go_roundw
        case rel => exact ⟨k + 1, by omega, by go_num, HA2.out, hb2⟩
        case measure => simp [intOf]; omega
      · have HF := Lib.hid (show l.any bad = true from List.any_eq_true.2 ⟨d, List.mem_of_getElem? HD.out, HKP.out⟩)
        go_wp2_with fail
        go_ret
        exact ⟨⟨k, rfl, by rw [HF.out]; simp⟩, hb2⟩
    · have hd : decide ((k : Int) < (n : Int)) = false := by simp; omega
      have HF := Lib.hid (show l.any bad = false by
        rw [List.any_eq_false]
        intro z hz
        obtain ⟨j, hj⟩ := List.mem_iff_getElem?.1 hz
        have hjl := (List.getElem?_eq_some_iff.1 hj).1
        rw [HL.out] at hjl
        rw [HA.out j z (by omega) hj]
        simp)
      go_wp2_with fail
      go_ret
      exact ⟨⟨-1, rfl, by rw [HF.out]; rfl⟩, hbk⟩

theorem containsFP_any (bad : Pt → Bool) (f : Nat) (caps : Array Value) (hE : ∀ args w, (callFunc f args).run Tryz.prog w = .ok (.enter f args) w) (B n : Nat) (v : Value) (hn : n ≤ 100) (l : List Pt) (hl : l.length = n) (c : Bool) (hc : l.any bad = c)
    (w : World) (ho : w.ownsRow B 30 2 v n (flatP l)) (hC : ∀ (d : Pt) (w1 : World), d ∈ l → Below w.heap.size w w1 → Calls Tryz.prog f (#[.agg #[.int .i8 d.1, .int .i8 d.2]] ++ caps) w1 fun e w' => e = .returned (.bool (bad d)) ∧ Below w1.heap.size w1 w') :
    Calls Tryz.prog 38 #[v, .func (.func f) #[] caps] w fun e w' => e = .returned (.bool c) ∧ Below w.heap.size w w' := by
  have HI := Lib.hid (indexFP_any bad f caps hE B n v hn l hl w ho hC)
  obtain ⟨av, cv, rfl⟩ := own_slice ho
  have HC := Lib.hid hc
  clear ho hC hl hc
  go_enter Tryz.func38, Tryz.ntmps38
  go_wp2_with fail
  refine HI.out.mono ?_
  rintro e w2 ⟨⟨x, rfl, hx⟩, hb2⟩
  rw [HC.out] at hx
  go_wp2_with fail
  go_ret
  first
    | exact ⟨rfl, hb2⟩
    | exact ⟨by rw [← hx]; rfl, hb2⟩

set_option maxRecDepth 100000 in
theorem out_is (L : Lawn) (hL : L.Fits) (b : Nat) (x y : Int) (w : World) (hb : Holds w b L.cells) :
    Calls Tryz.prog 35 #[.agg #[.int .i8 x, .int .i8 y], .pointer (some ⟨b, 0, none⟩)] w fun e w' => e = .returned (.bool (!isB L x y)) ∧ Below w.heap.size w w' := by
  have HH := Lib.hid (fun w => has_any L x y w)
  have k0 := hb.alloc (.cells #[.int .i8 x, .int .i8 y] 30)
  have hb0 : Below w.heap.size w (w.alloc (.cells #[.int .i8 x, .int .i8 y] 30)) := (Below.refl _ _).alloc (Nat.le_refl _) _
  obtain ⟨r0, -, -, -, l0⟩ := k0.facts
  clear hb
  go_enter Tryz.func35, Tryz.ntmps35
  go_wp2_with fail
  refine (HH.out _).mono ?_
  rintro e w2 ⟨rfl, hb2⟩
  have hb3 := below_onto hb0 hb2
  go_wp2_with fail
  go_ret
  exact ⟨rfl, hb3⟩
set_option maxRecDepth 100000 in
theorem bare_is (L : Lawn) (hL : L.Fits) (hV : validB L = true) (b : Nat) (x y : Int) (w : World) (hb : Holds w b L.cells) :
    Calls Tryz.prog 39 #[.agg #[.int .i8 x, .int .i8 y], .pointer (some ⟨b, 0, none⟩)] w fun e w' => e = .returned (.bool (!grassB L x y)) ∧ Below w.heap.size w w' := by
  have HH := Lib.hid (fun w => isGrass_any L hV hL x y w)
  have k0 := hb.alloc (.cells #[.int .i8 x, .int .i8 y] 30)
  have hb0 : Below w.heap.size w (w.alloc (.cells #[.int .i8 x, .int .i8 y] 30)) := (Below.refl _ _).alloc (Nat.le_refl _) _
  obtain ⟨r0, -, -, -, l0⟩ := k0.facts
  clear hb
  go_enter Tryz.func39, Tryz.ntmps39
  go_wp2_with fail
  refine (HH.out _).mono ?_
  rintro e w2 ⟨rfl, hb2⟩
  have hb3 := below_onto hb0 hb2
  go_wp2_with fail
  go_ret
  exact ⟨rfl, hb3⟩

/-- Which error is met. -/
def chkE (L : Lawn) (g : Nat → Nat → Int) (fine : Bool) (cs : List Pt) : Option Nat :=
  if !levB L g then some 4 else if !fine || cs.any (fun c => !isB L c.1 c.2) then some 0 else if cs.any (fun c => !grassB L c.1 c.2) then some 1 else none
def errM (a0 a1 a4 : Addr) : Option Nat → Value
  | none => .nilIface
  | some 0 => .iface 159 (.pointer (some a0))
  | some 1 => .iface 159 (.pointer (some a1))
  | some _ => .iface 159 (.pointer (some a4))
def chkC (L : Lawn) (g : Nat → Nat → Int) (fine : Bool) (cs : List Pt) : Int := match chkE L g fine cs with | none => 0 | some k => errZ k
theorem chk_code {a0 a1 a2 a3 a4 : Addr} {L : Lawn} {g : Nat → Nat → Int} {fine : Bool} {cs : List Pt} {k : Nat} (h : chkE L g fine cs = some k) : ∃ a : Addr, errM a0 a1 a4 (some k) = .iface 159 (.pointer (some a)) ∧ ∀ w, ErrsIn w a0 a1 a2 a3 a4 → Calls Tryz.prog 20 #[.iface 159 (.pointer (some a))] w fun e w' => e = .returned (.int .i64 (errZ k)) ∧ w' = w := by
  have : k = 4 ∨ k = 0 ∨ k = 1 := by
    unfold chkE at h
    split at h
    · cases h; simp
    split at h
    · cases h; simp
    split at h
    · cases h; simp
    · cases h
  rcases this with rfl | rfl | rfl
  · exact ⟨a4, rfl, fun w h => codeOf_4 w h⟩
  · exact ⟨a0, rfl, fun w h => codeOf_0 w h⟩
  · exact ⟨a1, rfl, fun w h => codeOf_1 w h⟩

set_option maxRecDepth 100000 in
set_option maxHeartbeats 4000000 in
theorem checkMoles_any (L : Lawn) (hL : L.Fits) (g : Nat → Nat → Int) (nights : Int) (B n : Nat) (v : Value) (hn : n ≤ 100) (cs : List Pt) (hl : cs.length = n) {a0 a1 a2 a3 a4 : Addr} (w : World) (hE : ErrsIn w a0 a1 a2 a3 a4) (ho : w.ownsRow B 30 2 v n (flatP cs)) :
    Calls Tryz.prog 19 #[.agg L.cells, .agg (levV g), .int .i64 nights, v] w fun e w' => e = .returned (errM a0 a1 a4 (chkE L g (upZ nights 60) cs)) ∧ Below w.heap.size w w' := by
  obtain ⟨s, hs⟩ : ∃ s, w.heap.size = s := ⟨_, rfl⟩
  have HVL := Lib.hid (fun w => implLevels_any L hL g w)
  have HUP := Lib.hid (show ∀ w, Calls Tryz.prog 37 #[.int .i64 nights, .int .i64 60] w fun e w' => e = .returned (.bool (upZ nights 60)) ∧ w' = w from fun w => upTo64_is nights 60 _ rfl w)
  have HC1 := Lib.hid (show ∀ w', Holds w' s L.cells → w'.ownsRow B 30 2 v n (flatP cs) → Calls Tryz.prog 38 #[v, .func (.func 35) #[] #[.pointer (some ⟨s, 0, none⟩)]] w' fun e w'' => e = .returned (.bool (cs.any (fun c => !isB L c.1 c.2))) ∧ Below w'.heap.size w' w'' from fun w' h1 h2 =>
    containsFP_any (fun c => !isB L c.1 c.2) _ #[.pointer (some ⟨s, 0, none⟩)] (fun args w => enters_of Tryz.func35 (by kernel_rfl) rfl args w) B n v hn cs hl _ rfl w' h2 (fun d w1 _ hb => out_is L hL s d.1 d.2 w1 (h1.below hb h1.lt)))
  have HO := Lib.hid ho
  have HE := Lib.hid hE
  obtain ⟨av, cv, rfl⟩ := own_slice ho
  obtain ⟨W0, hW0⟩ : ∃ W0, (w.alloc (.cells L.cells 33)).alloc (.cells (levV g) 35) = W0 := ⟨_, rfl⟩
  have g0 : Holds W0 s L.cells := by rw [← hW0]; exact (Holds.new' _ _ _ _ hs.symm).alloc _
  have g1 : Holds W0 (s + 1) (levV g) := by rw [← hW0]; exact Holds.new' _ _ _ _ (by simp; omega)
  have hb : Below s w W0 := by rw [← hW0]; exact ((Below.refl s w).alloc (by omega) _).alloc (by simp; omega) _
  have HS := Lib.hid hs
  rw [hs]
  obtain ⟨r0, -, -, -, l0⟩ := g0.facts
  obtain ⟨r1, -, -, -, l1⟩ := g1.facts
  unfold chkE
  cases hv : levB L g
  · rw [hv] at HVL
    simp only [Bool.not_false, if_true]
    clear hL hl ho hE hv
    go_enter Tryz.func19, Tryz.ntmps19
    go_wp2_with fail
    clear hW0
    refine (HVL.out _).mono ?_
    rintro e w1 ⟨rfl, hb1⟩
    have hb2 : Below s w w1 := hb.trans (hb1.mono (by omega))
    have v4 := (HE.out.below (HS.out.symm ▸ hb2)).v4
    clear r0 r1
    go_wp2_with fail
    go_ret
    exact ⟨rfl, hb2⟩
  · have hV := (levB_true hv).1
    have HC2 := Lib.hid (show ∀ w', Holds w' s L.cells → w'.ownsRow B 30 2 (.slice av n cv) n (flatP cs) → Calls Tryz.prog 38 #[.slice av n cv, .func (.func 39) #[] #[.pointer (some ⟨s, 0, none⟩)]] w' fun e w'' => e = .returned (.bool (cs.any (fun c => !grassB L c.1 c.2))) ∧ Below w'.heap.size w' w'' from fun w' h1 h2 =>
      containsFP_any (fun c => !grassB L c.1 c.2) _ #[.pointer (some ⟨s, 0, none⟩)] (fun args w => enters_of Tryz.func39 (by kernel_rfl) rfl args w) B n _ hn cs hl _ rfl w' h2 (fun d w1 _ hb => bare_is L hL hV s d.1 d.2 w1 (h1.below hb h1.lt)))
    rw [hv] at HVL
    obtain ⟨f, hf⟩ : ∃ f, upZ nights 60 = f := ⟨_, rfl⟩
    obtain ⟨p, hp⟩ : ∃ p, cs.any (fun c => !isB L c.1 c.2) = p := ⟨_, rfl⟩
    obtain ⟨q, hq⟩ : ∃ q, cs.any (fun c => !grassB L c.1 c.2) = q := ⟨_, rfl⟩
    rw [hf] at HUP ⊢
    rw [hp] at HC1 ⊢
    rw [hq] at HC2 ⊢
    simp only [Bool.not_true, Bool.false_eq_true, if_false]
    clear hL hl ho hE hv hV hf hp hq
    go_enter Tryz.func19, Tryz.ntmps19
    go_wp2_with fail
    clear hW0
    refine (HVL.out _).mono ?_
    rintro e w1 ⟨rfl, hb1⟩
    have k0 := g0.below hb1 g0.lt
    have hb2 : Below s w w1 := hb.trans (hb1.mono (by omega))
    have HO1 := Lib.hid (own_below HO.out (HS.out.symm ▸ hb2))
    clear r0 r1 g0 g1 hb hb1
    cases f
    · have v0 := (HE.out.below (HS.out.symm ▸ hb2)).v0
      go_wp2_with (go_at_call 37; refine (HUP.out _).mono ?_; rintro e w9 ⟨rfl, hw9⟩; rw [hw9]; clear hw9)
      go_ret
      exact ⟨rfl, hb2⟩
    · go_wp2_with (go_at_call 37; refine (HUP.out _).mono ?_; rintro e w9 ⟨rfl, hw9⟩; rw [hw9]; clear hw9)
      refine (HC1.out _ k0 HO1.out).mono ?_
      rintro e w2 ⟨rfl, hb3⟩
      have m0 := k0.below hb3 k0.lt
      have hb4 : Below s w w2 := hb2.trans (hb3.mono (by have := k0.lt; omega))
      have HO2 := Lib.hid (own_below HO1.out hb3)
      have v0 := (HE.out.below (HS.out.symm ▸ hb4)).v0
      clear hb3 hb2 k0 HO1
      cases p
      · go_wp2_with fail
        refine (HC2.out _ m0 HO2.out).mono ?_
        rintro e w3 ⟨rfl, hb5⟩
        have hb6 : Below s w w3 := hb4.trans (hb5.mono (by have := m0.lt; omega))
        have v1 := (HE.out.below (HS.out.symm ▸ hb6)).v1
        clear v0 hb5
        cases q
        · go_wp2_with fail
          go_ret
          exact ⟨rfl, hb6⟩
        · go_wp2_with fail
          go_ret
          exact ⟨rfl, hb6⟩
      · go_wp2_with fail
        go_ret
        exact ⟨rfl, hb4⟩
end Go.Proofs.YtabemgplddfemaaGreatDoor

namespace Go.Proofs.YtabemgplddfemaaGreatDoor
open Go.RowKit
set_option linter.unusedVariables false
theorem chkE_none {L : Lawn} {g : Nat → Nat → Int} {fine : Bool} {cs : List Pt} (h : chkE L g fine cs = none) : levB L g = true ∧ ∀ c ∈ cs, grassP L c = true := by
  unfold chkE at h
  split at h
  · cases h
  rename_i h1
  split at h
  · cases h
  split at h
  · cases h
  rename_i h3
  refine ⟨by simpa using h1, fun c hc => ?_⟩
  have h4 : cs.any (fun c => !grassB L c.1 c.2) = false := by simpa using h3
  have := List.any_eq_false.1 h4 c hc
  simpa [grassP] using this
theorem errZ_ne (k : Nat) : errZ k ≠ 0 := by
  unfold errZ
  split
  · decide
  · split <;> decide
theorem cell_Q {L : Lawn} (hv : validB L = true) {x y : Int} (h : grassP L (x, y) = true) : ∃ q : Q10, x = (q.1.val : Int) ∧ y = (q.2.val : Int) ∧ grassP L (ptQ q) = true := by
  have h1 := ptQ_toQ (grassP_near hv (x, y) h)
  have h2 : ((toQ (x, y)).1.val : Int) = x := congrArg Prod.fst h1
  have h3 : ((toQ (x, y)).2.val : Int) = y := congrArg Prod.snd h1
  exact ⟨toQ (x, y), h2.symm, h3.symm, by rw [h1]; exact h⟩
end Go.Proofs.YtabemgplddfemaaGreatDoor

namespace Go.Proofs.YtabemgplddfemaaGreatDoor
open Go.RowKit Go.Shelf
set_option linter.unusedVariables false
set_option linter.unusedSimpArgs false
attribute [local go_sem ↓] loadRow loadGrid loadLawn loadMirror storeRow storeGrid storeLawn allocRow allocGrid allocLawn buildZero buildSides loadR8 loadL8 loadLv storeR8 storeLv allocR8 allocLv buildZLv

theorem chkC_is (L : Lawn) (g : Nat → Nat → Int) (fine : Bool) (cs : List Pt) : chkC L g fine cs = if levB L g = false then 1 else if (fine && cs.all fun c => isB L c.1 c.2) = false then 2 else if (cs.all fun c => grassB L c.1 c.2) = false then 4 else 0 := by
  have e1 : cs.any (fun c => !isB L c.1 c.2) = !(cs.all fun c => isB L c.1 c.2) := by rw [List.not_all_eq_any_not]
  have e2 : cs.any (fun c => !grassB L c.1 c.2) = !(cs.all fun c => grassB L c.1 c.2) := by rw [List.not_all_eq_any_not]
  unfold chkC chkE
  rw [e1, e2]
  cases levB L g <;> cases fine <;> cases cs.all (fun c => isB L c.1 c.2) <;> cases cs.all (fun c => grassB L c.1 c.2) <;> rfl
set_option maxRecDepth 100000 in
set_option maxHeartbeats 2000000 in
theorem sbelow_any (L : Lawn) (hL : L.Fits) (g : Nat → Nat → Int) (hg : LevFits g) (a b : Nat) (fine : Bool) (B n : Nat) (v : Value) (hn : n ≤ 100) (cs : List Pt) (hl : cs.length = n) (hf : ∀ c ∈ cs, (-128 ≤ c.1 ∧ c.1 ≤ 127) ∧ -128 ≤ c.2 ∧ c.2 ≤ 127) (w : World) (h : Holds w a L.cells) (hh : Holds w b (levV g)) (ho : w.ownsRow B 30 2 v n (flatP cs)) :
    Calls Tryz.prog 31 #[.pointer (some ⟨a, 0, none⟩), .pointer (some ⟨b, 0, none⟩), v, .bool fine] w fun e w' => e = .returned (.int .i64 (chkC L g fine cs)) ∧ Below w.heap.size w w' := by
  have HOK := Lib.hid (l06Ok_any L hL g hg a b w h hh)
  have HC := Lib.hid (chkC_is L g fine cs)
  have HIS := Lib.hid (fun (x y : Int) (h1 : (-128 ≤ x ∧ x ≤ 127) ∧ -128 ≤ y ∧ y ≤ 127) (w : World) (h : Holds w a L.cells) => l01Is_any L hL a x y w h h1.1.1 h1.1.2 h1.2.1 h1.2.2)
  have HGR := Lib.hid (fun (hv : validB L = true) (x y : Int) (h1 : (-128 ≤ x ∧ x ≤ 127) ∧ -128 ≤ y ∧ y ≤ 127) (w : World) (h : Holds w a L.cells) => grass_any L hv hL a x y h1.1.1 h1.1.2 h1.2.1 h1.2.2 w h)
  have HV := Lib.hid (fun h : levB L g = true => (levB_true h).1)
  have HF := Lib.hid hf
  have HL := Lib.hid hl
  obtain ⟨FA, hFA⟩ : ∃ F : Nat → Bool, (fun i => fine && (cs.take i).all fun c => isB L c.1 c.2) = F := ⟨_, rfl⟩
  have HA0 : Hid (FA 0 = fine) := Lib.hid (by rw [← hFA]; simp)
  have HAS := Lib.hid (show ∀ i c, cs[i]? = some c → FA (i + 1) = (FA i && isB L c.1 c.2) from fun i c h => by
    rw [← hFA]
    show (fine && (cs.take (i + 1)).all _) = (fine && (cs.take i).all _ && _)
    rw [List.take_add_one, h, Option.toList_some, List.all_append]
    simp [Bool.and_assoc])
  have HAN : Hid (FA n = (fine && cs.all fun c => isB L c.1 c.2)) := Lib.hid (by rw [← hFA]; show (fine && (cs.take n).all _) = _; rw [List.take_of_length_le (by omega)])
  obtain ⟨av, cv, rfl⟩ := own_slice ho
  have HO := Lib.hid ho
  generalize levB L g = lv at HOK HC HV
  clear hL hg hl hf ho hFA
  go_enter Tryz.func31, Tryz.ntmps31
  go_wp2_with fail
  refine HOK.out.mono ?_
  rintro e w1 ⟨rfl, hb1⟩
  have ka := h.below hb1 h.lt
  have ho1 := own_below HO.out hb1
  have HO1 := Lib.hid ho1
  clear HOK h hh HO ho1
  cases lv
  case false =>
    go_wp2_with fail
    go_ret
    exact ⟨by rw [HC.out]; rfl, hb1⟩
  case true =>
    have HVV := Lib.hid (HV.out rfl)
    clear HV
    go_wp2_with fail
    go_loopw [3, 9] (fun f x wr => ∃ i : Nat, i ≤ n ∧ x = .int .i64 i ∧ f = .bool (FA i) ∧ Below w1.heap.size w1 wr) (fun _ x _ => n - (intOf x).toNat)
    case atStart => exact ⟨0, by omega, rfl, by rw [HA0.out], Below.refl _ _⟩
    case round =>
      obtain ⟨i, hi, rfl, rfl, hb⟩ := hrel
      by_cases hlt : i < n
      · have hd : decide ((i : Int) < (n : Int)) = true := by simp; omega
        obtain ⟨⟨cx, cy⟩, hc⟩ : ∃ c, cs[i]? = some c := ⟨_, List.getElem?_eq_getElem (by rw [HL.out]; exact hlt)⟩
        have HCR := Lib.hid (HF.out _ (List.mem_of_getElem? hc))
        have hac := HAS.out i _ hc
        have oa := own_below HO1.out hb
        obtain ⟨ga, cap, he, hBg, hgw⟩ := own_form oa (by omega)
        simp only [Value.slice.injEq, true_and] at he
        obtain ⟨rfl, rfl⟩ := he
        obtain ⟨fa, fb⟩ := flatP_get _ _ _ hc
        have ca := own_cell oa _ _ fa
        have cb := own_cell oa _ _ fb
        dsimp only at ca cb
        have kA := ka.below hb ka.lt
        obtain ⟨z, hz⟩ : ∃ z, FA i = z := ⟨_, rfl⟩
        rw [hz] at hac
        rw [hz]
        have HAC := Lib.hid hac
        clear hac hz fa fb hc oa
        cases z
        case false =>
          go_wp2_with fail
          go_roundw
          case rel => exact ⟨i + 1, by omega, by go_num, by rw [HAC.out]; rfl, hb⟩
          case measure => simp [intOf]; omega
        case true =>
          go_wp2_with fail
          refine (HIS.out cx cy HCR.out _ kA).mono ?_
          rintro e w2 ⟨rfl, hb2⟩
          have hb3 := below_onto hb hb2
          clear hb hb2 ca cb kA
          go_wp2_with fail
          go_roundw
          case rel => exact ⟨i + 1, by omega, by go_num, by rw [HAC.out, Bool.true_and], hb3⟩
          case measure => simp [intOf]; omega
      · have hd : decide ((i : Int) < (n : Int)) = false := by simp; omega
        obtain rfl : i = n := by omega
        rw [HAN.out]
        obtain ⟨fn, hfn⟩ : ∃ fn, (fine && cs.all fun c => isB L c.1 c.2) = fn := ⟨_, rfl⟩
        have HC2 := Lib.hid HC.out
        rw [hfn] at HC2
        rw [hfn]
        clear hfn HC HA0 HAS HAN
        cases fn
        case false =>
          go_wp2_with fail
          go_ret
          exact ⟨by rw [HC2.out]; rfl, below_onto hb1 hb⟩
        case true =>
          have hb4 := below_onto hb1 hb
          have kA := ka.below hb ka.lt
          have HO2 := Lib.hid (own_below HO1.out hb)
          have HN : Hid ((cs.take i).all (fun c => grassB L c.1 c.2) = cs.all fun c => grassB L c.1 c.2) := Lib.hid (by rw [List.take_of_length_le (by rw [HL.out]; exact Nat.le_refl _)])
          clear hb hb1 ka HO1 hd hlt
          go_wp2_with fail
          go_loopw [10] (fun x wr2 => ∃ j : Nat, j ≤ i ∧ x = .int .i64 j ∧ (cs.take j).all (fun c => grassB L c.1 c.2) = true ∧ Below wr.heap.size wr wr2) (fun x _ => i - (intOf x).toNat)
          case atStart => exact ⟨0, by omega, rfl, by simp, Below.refl _ _⟩
          case round =>
            obtain ⟨j, hj, rfl, hall, hb⟩ := hrel
            have HALL := Lib.hid hall
            clear hall
            by_cases hlt : j < i
            · have hd : decide ((j : Int) < (i : Int)) = true := by simp; omega
              obtain ⟨⟨cx, cy⟩, hc⟩ : ∃ c, cs[j]? = some c := ⟨_, List.getElem?_eq_getElem (by rw [HL.out]; exact hlt)⟩
              have HCR := Lib.hid (HF.out _ (List.mem_of_getElem? hc))
              have oa := own_below HO2.out hb
              obtain ⟨ga, cap, he, hBg, hgw⟩ := own_form oa (by omega)
              simp only [Value.slice.injEq, true_and] at he
              obtain ⟨rfl, rfl⟩ := he
              obtain ⟨fa, fb⟩ := flatP_get _ _ _ hc
              have ca := own_cell oa _ _ fa
              have cb := own_cell oa _ _ fb
              dsimp only at ca cb
              have kB := kA.below hb kA.lt
              obtain ⟨z, hz⟩ : ∃ z, grassB L cx cy = z := ⟨_, rfl⟩
              have HG := Lib.hid (HGR.out HVV.out cx cy HCR.out _ kB)
              rw [hz] at HG
              have HAJ : Hid ((cs.take (j + 1)).all (fun c => grassB L c.1 c.2) = z) := Lib.hid (by rw [List.take_add_one, hc, Option.toList_some, List.all_append, HALL.out]; simp [hz])
              have HAF : Hid (z = false → (cs.all fun c => grassB L c.1 c.2) = false) := Lib.hid (fun h => by
                rw [List.all_eq_false]
                exact ⟨_, List.mem_of_getElem? hc, by simp [hz, h]⟩)
              clear hz fa fb hc oa
              go_wp2_with fail
              refine HG.out.mono ?_
              rintro e w2 ⟨rfl, hb2⟩
              have hb3 := below_onto hb hb2
              clear hb hb2 ca cb HG kB
              cases z
              case false =>
                have HAF2 := Lib.hid (HAF.out rfl)
                clear HAF
                go_wp2_with fail
                go_ret
                exact ⟨by rw [HC2.out, HAF2.out]; rfl, below_onto hb4 hb3⟩
              case true =>
                go_wp2_with fail
                go_roundw
                case rel => exact ⟨j + 1, by omega, by go_num, HAJ.out, hb3⟩
                case measure => simp [intOf]; omega
            · have hd : decide ((j : Int) < (i : Int)) = false := by simp; omega
              obtain rfl : j = i := by omega
              have HZ := Lib.hid (HN.out.symm.trans HALL.out)
              go_wp2_with fail
              go_ret
              exact ⟨by rw [HC2.out, HZ.out]; rfl, below_onto hb4 hb⟩
end Go.Proofs.YtabemgplddfemaaGreatDoor
