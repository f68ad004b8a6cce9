/- checkMoles, of the program. -/
import Derived.Test.YteaajkkhbflmdaaDoorMoleP
import Derived.Test.YteaajkkhbflmdaaDoorVLev
import Derived.Test.YteaajkkhbflmdaaDoorUpTo
import Derived.Test.YteaajkkhbflmdaaDoorErrs
namespace Go.Proofs.YteaajkkhbflmdaaDoor
open Go.RowKit Go.Shelf
set_option linter.unusedVariables false
set_option linter.unusedSimpArgs false
attribute [local go_sem ↓] loadRow loadGrid loadLawn loadMirror storeRow storeGrid storeLawn allocRow allocGrid allocLawn buildZero buildSides loadR8 loadL8 loadLv storeR8 storeLv allocR8 allocLv buildZLv

set_option maxRecDepth 100000 in
set_option maxHeartbeats 2000000 in
theorem indexFP_any (bad : Pt → Bool) (f : Nat) (caps : Array Value) (hE : ∀ args w, (callFunc f args).run Tryd.prog w = .ok (.enter f args) w) (B n : Nat) (v : Value) (hn : n ≤ 100) (l : List Pt) (hl : l.length = n)
    (w : World) (ho : w.ownsRow B 39 2 v n (flatP l)) (hC : ∀ (d : Pt) (w1 : World), d ∈ l → Below w.heap.size w w1 → Calls Tryd.prog f (#[.agg #[.int .i8 d.1, .int .i8 d.2]] ++ caps) w1 fun e w' => e = .returned (.bool (bad d)) ∧ Below w1.heap.size w1 w') :
    Calls Tryd.prog 75 #[v, .func (.func f) #[] caps] w fun e w' => (∃ x : Int, e = .returned (.int .i64 x) ∧ decide (0 ≤ x) = l.any bad) ∧ Below w.heap.size w w' := by
  obtain ⟨av, cv, rfl⟩ := own_slice ho
  have HIN := Lib.hid hC
  have HO := Lib.hid ho
  have HL := Lib.hid hl
  clear ho hC hl
  go_enter Tryd.func75, Tryd.ntmps75
  go_wp2_with fail
  go_loopw [8] (fun i wr => ∃ k : Nat, k ≤ n ∧ i = .int .i64 k ∧ (∀ j z, j < k → l[j]? = some z → bad z = false) ∧ Below w.heap.size w wr) (fun i _ => n - (intOf i).toNat)
  case atStart => exact ⟨0, by omega, rfl, fun j z h _ => by omega, Below.refl _ _⟩
  case round =>
    obtain ⟨k, hk, rfl, hall, hbk⟩ := hrel
    have HA := Lib.hid hall
    clear hall
    by_cases hlt : k < n
    · have hd : decide ((k : Int) < (n : Int)) = true := by simp; omega
      obtain ⟨d, hdk⟩ : ∃ d, l[k]? = some d := ⟨_, List.getElem?_eq_getElem (by rw [HL.out]; exact hlt)⟩
      have HD := Lib.hid hdk
      obtain ⟨fa, fb⟩ := flatP_get _ _ _ hdk
      have ho := own_below HO.out hbk
      obtain ⟨ga, cap, he, hBg, hg⟩ := own_form ho (by omega)
      simp only [Value.slice.injEq, true_and] at he
      obtain ⟨rfl, rfl⟩ := he
      have ca := own_cell ho _ _ fa
      have cb := own_cell ho _ _ fb
      clear ho fa fb
      obtain ⟨r, hr⟩ : ∃ r, bad d = r := ⟨_, rfl⟩
      have HR := Lib.hid (fun w1 hb => HIN.out d w1 (List.mem_of_getElem? hdk) hb)
      rw [hr] at HR
      have HKP := Lib.hid hr
      clear hr hdk
      go_wp2_with fail
      refine (HR.out _ hbk).mono ?_
      rintro e w2 ⟨rfl, hb1⟩
      have hb2 := below_onto hbk hb1
      clear hb1 ca cb hbk
      cases r
      · have HA2 := Lib.hid (show ∀ j z, j < k + 1 → l[j]? = some z → bad z = false from fun j z hj hz => by
          by_cases e : j = k
          · subst e; rw [HD.out] at hz; cases hz; exact HKP.out
          · exact HA.out j z (by omega) hz)
        go_wp2_with fail
        go_roundw
        case rel => exact ⟨k + 1, by omega, by go_num, HA2.out, hb2⟩
        case measure => simp [intOf]; omega
      · have HF := Lib.hid (show l.any bad = true from List.any_eq_true.2 ⟨d, List.mem_of_getElem? HD.out, HKP.out⟩)
        go_wp2_with fail
        go_ret
        exact ⟨⟨k, rfl, by rw [HF.out]; simp⟩, hb2⟩
    · have hd : decide ((k : Int) < (n : Int)) = false := by simp; omega
      have HF := Lib.hid (show l.any bad = false by
        rw [List.any_eq_false]
        intro z hz
        obtain ⟨j, hj⟩ := List.mem_iff_getElem?.1 hz
        have hjl := (List.getElem?_eq_some_iff.1 hj).1
        rw [HL.out] at hjl
        rw [HA.out j z (by omega) hj]
        simp)
      go_wp2_with fail
      go_ret
      exact ⟨⟨-1, rfl, by rw [HF.out]; rfl⟩, hbk⟩

theorem containsFP_any (bad : Pt → Bool) (f : Nat) (caps : Array Value) (hE : ∀ args w, (callFunc f args).run Tryd.prog w = .ok (.enter f args) w) (B n : Nat) (v : Value) (hn : n ≤ 100) (l : List Pt) (hl : l.length = n) (c : Bool) (hc : l.any bad = c)
    (w : World) (ho : w.ownsRow B 39 2 v n (flatP l)) (hC : ∀ (d : Pt) (w1 : World), d ∈ l → Below w.heap.size w w1 → Calls Tryd.prog f (#[.agg #[.int .i8 d.1, .int .i8 d.2]] ++ caps) w1 fun e w' => e = .returned (.bool (bad d)) ∧ Below w1.heap.size w1 w') :
    Calls Tryd.prog 63 #[v, .func (.func f) #[] caps] w fun e w' => e = .returned (.bool c) ∧ Below w.heap.size w w' := by
  have HI := Lib.hid (indexFP_any bad f caps hE B n v hn l hl w ho hC)
  obtain ⟨av, cv, rfl⟩ := own_slice ho
  have HC := Lib.hid hc
  clear ho hC hl hc
  go_enter Tryd.func63, Tryd.ntmps63
  go_wp2_with fail
  refine HI.out.mono ?_
  rintro e w2 ⟨⟨x, rfl, hx⟩, hb2⟩
  rw [HC.out] at hx
  go_wp2_with fail
  go_ret
  first
    | exact ⟨rfl, hb2⟩
    | exact ⟨by rw [← hx]; rfl, hb2⟩

set_option maxRecDepth 100000 in
theorem out_is (L : Lawn) (hL : L.Fits) (b : Nat) (x y : Int) (w : World) (hb : Holds w b L.cells) :
    Calls Tryd.prog 61 #[.agg #[.int .i8 x, .int .i8 y], .pointer (some ⟨b, 0, none⟩)] w fun e w' => e = .returned (.bool (!isB L x y)) ∧ Below w.heap.size w w' := by
  have HH := Lib.hid (fun w => has_any L x y w)
  have k0 := hb.alloc (.cells #[.int .i8 x, .int .i8 y] 39)
  have hb0 : Below w.heap.size w (w.alloc (.cells #[.int .i8 x, .int .i8 y] 39)) := (Below.refl _ _).alloc (Nat.le_refl _) _
  obtain ⟨r0, -, -, -, l0⟩ := k0.facts
  clear hb
  go_enter Tryd.func61, Tryd.ntmps61
  go_wp2_with fail
  refine (HH.out _).mono ?_
  rintro e w2 ⟨rfl, hb2⟩
  have hb3 := below_onto hb0 hb2
  go_wp2_with fail
  go_ret
  exact ⟨rfl, hb3⟩
set_option maxRecDepth 100000 in
theorem bare_is (L : Lawn) (hL : L.Fits) (hV : validB L = true) (b : Nat) (x y : Int) (w : World) (hb : Holds w b L.cells) :
    Calls Tryd.prog 64 #[.agg #[.int .i8 x, .int .i8 y], .pointer (some ⟨b, 0, none⟩)] w fun e w' => e = .returned (.bool (!grassB L x y)) ∧ Below w.heap.size w w' := by
  have HH := Lib.hid (fun w => isGrass_any L hV hL x y w)
  have k0 := hb.alloc (.cells #[.int .i8 x, .int .i8 y] 39)
  have hb0 : Below w.heap.size w (w.alloc (.cells #[.int .i8 x, .int .i8 y] 39)) := (Below.refl _ _).alloc (Nat.le_refl _) _
  obtain ⟨r0, -, -, -, l0⟩ := k0.facts
  clear hb
  go_enter Tryd.func64, Tryd.ntmps64
  go_wp2_with fail
  refine (HH.out _).mono ?_
  rintro e w2 ⟨rfl, hb2⟩
  have hb3 := below_onto hb0 hb2
  go_wp2_with fail
  go_ret
  exact ⟨rfl, hb3⟩

/-- Which error is met. -/
def chkE (L : Lawn) (g : Nat → Nat → Int) (fine : Bool) (cs : List Pt) : Option Nat :=
  if !levB L g then some 4 else if !fine || cs.any (fun c => !isB L c.1 c.2) then some 0 else if cs.any (fun c => !grassB L c.1 c.2) then some 1 else none
def errM (a0 a1 a4 : Addr) : Option Nat → Value
  | none => .nilIface
  | some 0 => .iface 137 (.pointer (some a0))
  | some 1 => .iface 137 (.pointer (some a1))
  | some _ => .iface 137 (.pointer (some a4))
def chkC (L : Lawn) (g : Nat → Nat → Int) (fine : Bool) (cs : List Pt) : Int := match chkE L g fine cs with | none => 0 | some k => errZ k
theorem chk_code {a0 a1 a2 a3 a4 : Addr} {L : Lawn} {g : Nat → Nat → Int} {fine : Bool} {cs : List Pt} {k : Nat} (h : chkE L g fine cs = some k) : ∃ a : Addr, errM a0 a1 a4 (some k) = .iface 137 (.pointer (some a)) ∧ ∀ w, ErrsIn w a0 a1 a2 a3 a4 → Calls Tryd.prog 37 #[.iface 137 (.pointer (some a))] w fun e w' => e = .returned (.int .i64 (errZ k)) ∧ w' = w := by
  have : k = 4 ∨ k = 0 ∨ k = 1 := by
    unfold chkE at h
    split at h
    · cases h; simp
    split at h
    · cases h; simp
    split at h
    · cases h; simp
    · cases h
  rcases this with rfl | rfl | rfl
  · exact ⟨a4, rfl, fun w h => codeOf_4 w h⟩
  · exact ⟨a0, rfl, fun w h => codeOf_0 w h⟩
  · exact ⟨a1, rfl, fun w h => codeOf_1 w h⟩

set_option maxRecDepth 100000 in
set_option maxHeartbeats 4000000 in
theorem checkMoles_any (L : Lawn) (hL : L.Fits) (g : Nat → Nat → Int) (nights : Int) (B n : Nat) (v : Value) (hn : n ≤ 100) (cs : List Pt) (hl : cs.length = n) {a0 a1 a2 a3 a4 : Addr} (w : World) (hE : ErrsIn w a0 a1 a2 a3 a4) (ho : w.ownsRow B 39 2 v n (flatP cs)) :
    Calls Tryd.prog 41 #[.agg L.cells, .agg (levV g), .int .i64 nights, v] w fun e w' => e = .returned (errM a0 a1 a4 (chkE L g (upZ nights 60) cs)) ∧ Below w.heap.size w w' := by
  obtain ⟨s, hs⟩ : ∃ s, w.heap.size = s := ⟨_, rfl⟩
  have HVL := Lib.hid (fun w => implLevels_any L hL g w)
  have HUP := Lib.hid (show ∀ w, Calls Tryd.prog 62 #[.int .i64 nights, .int .i64 60] w fun e w' => e = .returned (.bool (upZ nights 60)) ∧ w' = w from fun w => upTo64_is nights 60 _ rfl w)
  have HC1 := Lib.hid (show ∀ w', Holds w' s L.cells → w'.ownsRow B 39 2 v n (flatP cs) → Calls Tryd.prog 63 #[v, .func (.func 61) #[] #[.pointer (some ⟨s, 0, none⟩)]] w' fun e w'' => e = .returned (.bool (cs.any (fun c => !isB L c.1 c.2))) ∧ Below w'.heap.size w' w'' from fun w' h1 h2 =>
    containsFP_any (fun c => !isB L c.1 c.2) _ #[.pointer (some ⟨s, 0, none⟩)] (fun args w => enters_of Tryd.func61 (by kernel_rfl) rfl args w) B n v hn cs hl _ rfl w' h2 (fun d w1 _ hb => out_is L hL s d.1 d.2 w1 (h1.below hb h1.lt)))
  have HO := Lib.hid ho
  have HE := Lib.hid hE
  obtain ⟨av, cv, rfl⟩ := own_slice ho
  obtain ⟨W0, hW0⟩ : ∃ W0, (w.alloc (.cells L.cells 36)).alloc (.cells (levV g) 33) = W0 := ⟨_, rfl⟩
  have g0 : Holds W0 s L.cells := by rw [← hW0]; exact (Holds.new' _ _ _ _ hs.symm).alloc _
  have g1 : Holds W0 (s + 1) (levV g) := by rw [← hW0]; exact Holds.new' _ _ _ _ (by simp; omega)
  have hb : Below s w W0 := by rw [← hW0]; exact ((Below.refl s w).alloc (by omega) _).alloc (by simp; omega) _
  have HS := Lib.hid hs
  rw [hs]
  obtain ⟨r0, -, -, -, l0⟩ := g0.facts
  obtain ⟨r1, -, -, -, l1⟩ := g1.facts
  unfold chkE
  cases hv : levB L g
  · rw [hv] at HVL
    simp only [Bool.not_false, if_true]
    clear hL hl ho hE hv
    go_enter Tryd.func41, Tryd.ntmps41
    go_wp2_with fail
    clear hW0
    refine (HVL.out _).mono ?_
    rintro e w1 ⟨rfl, hb1⟩
    have hb2 : Below s w w1 := hb.trans (hb1.mono (by omega))
    have v4 := (HE.out.below (HS.out.symm ▸ hb2)).v4
    clear r0 r1
    go_wp2_with fail
    go_ret
    exact ⟨rfl, hb2⟩
  · have hV := (levB_true hv).1
    have HC2 := Lib.hid (show ∀ w', Holds w' s L.cells → w'.ownsRow B 39 2 (.slice av n cv) n (flatP cs) → Calls Tryd.prog 63 #[.slice av n cv, .func (.func 64) #[] #[.pointer (some ⟨s, 0, none⟩)]] w' fun e w'' => e = .returned (.bool (cs.any (fun c => !grassB L c.1 c.2))) ∧ Below w'.heap.size w' w'' from fun w' h1 h2 =>
      containsFP_any (fun c => !grassB L c.1 c.2) _ #[.pointer (some ⟨s, 0, none⟩)] (fun args w => enters_of Tryd.func64 (by kernel_rfl) rfl args w) B n _ hn cs hl _ rfl w' h2 (fun d w1 _ hb => bare_is L hL hV s d.1 d.2 w1 (h1.below hb h1.lt)))
    rw [hv] at HVL
    obtain ⟨f, hf⟩ : ∃ f, upZ nights 60 = f := ⟨_, rfl⟩
    obtain ⟨p, hp⟩ : ∃ p, cs.any (fun c => !isB L c.1 c.2) = p := ⟨_, rfl⟩
    obtain ⟨q, hq⟩ : ∃ q, cs.any (fun c => !grassB L c.1 c.2) = q := ⟨_, rfl⟩
    rw [hf] at HUP ⊢
    rw [hp] at HC1 ⊢
    rw [hq] at HC2 ⊢
    simp only [Bool.not_true, Bool.false_eq_true, if_false]
    clear hL hl ho hE hv hV hf hp hq
    go_enter Tryd.func41, Tryd.ntmps41
    go_wp2_with fail
    clear hW0
    refine (HVL.out _).mono ?_
    rintro e w1 ⟨rfl, hb1⟩
    have k0 := g0.below hb1 g0.lt
    have hb2 : Below s w w1 := hb.trans (hb1.mono (by omega))
    have HO1 := Lib.hid (own_below HO.out (HS.out.symm ▸ hb2))
    clear r0 r1 g0 g1 hb hb1
    cases f
    · have v0 := (HE.out.below (HS.out.symm ▸ hb2)).v0
      go_wp2_with (go_at_call 62; refine (HUP.out _).mono ?_; rintro e w9 ⟨rfl, hw9⟩; rw [hw9]; clear hw9)
      go_ret
      exact ⟨rfl, hb2⟩
    · go_wp2_with (go_at_call 62; refine (HUP.out _).mono ?_; rintro e w9 ⟨rfl, hw9⟩; rw [hw9]; clear hw9)
      refine (HC1.out _ k0 HO1.out).mono ?_
      rintro e w2 ⟨rfl, hb3⟩
      have m0 := k0.below hb3 k0.lt
      have hb4 : Below s w w2 := hb2.trans (hb3.mono (by have := k0.lt; omega))
      have HO2 := Lib.hid (own_below HO1.out hb3)
      have v0 := (HE.out.below (HS.out.symm ▸ hb4)).v0
      clear hb3 hb2 k0 HO1
      cases p
      · go_wp2_with fail
        refine (HC2.out _ m0 HO2.out).mono ?_
        rintro e w3 ⟨rfl, hb5⟩
        have hb6 : Below s w w3 := hb4.trans (hb5.mono (by have := m0.lt; omega))
        have v1 := (HE.out.below (HS.out.symm ▸ hb6)).v1
        clear v0 hb5
        cases q
        · go_wp2_with fail
          go_ret
          exact ⟨rfl, hb6⟩
        · go_wp2_with fail
          go_ret
          exact ⟨rfl, hb6⟩
      · go_wp2_with fail
        go_ret
        exact ⟨rfl, hb4⟩
end Go.Proofs.YteaajkkhbflmdaaDoor
