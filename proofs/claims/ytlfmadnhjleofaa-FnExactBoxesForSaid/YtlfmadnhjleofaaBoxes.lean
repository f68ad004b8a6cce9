/- BoxesFor, of the program and of the model. -/
import Derived.Test.YtlfmadnhjleofaaAsked
import Derived.Test.YtlfmadnhjleofaaZC
namespace Go.Proofs.Ytlfmadnhjleofaa
open Go.RowKit
set_option linter.unusedVariables false
set_option linter.unusedSimpArgs false

theorem ceil_is (a b : Int) (hb : 1 ≤ b) : (a + b - 1) / b = (if 0 < a % b then a / b + 1 else a / b) := by
  have h1 := Int.emod_nonneg a (show b ≠ 0 by omega)
  have h2 := Int.emod_lt_of_pos a (show 0 < b by omega)
  have h3 := Int.mul_ediv_add_emod a b
  obtain ⟨q, hq⟩ : ∃ q, a / b = q := ⟨_, rfl⟩
  obtain ⟨r, hr⟩ : ∃ r, a % b = r := ⟨_, rfl⟩
  rw [hq, hr] at h3
  rw [hr] at h1 h2
  rw [hq, hr]
  have hb0 : b ≠ 0 := by omega
  split
  · rename_i h
    rw [show a + b - 1 = (r - 1) + b * (q + 1) by rw [Int.mul_add]; omega, Int.add_mul_ediv_left _ _ hb0, Int.ediv_eq_zero_of_lt (by omega) (by omega)]
    omega
  · rename_i h
    rw [show a + b - 1 = (b - 1) + b * q by omega, Int.add_mul_ediv_left _ _ hb0, Int.ediv_eq_zero_of_lt (by omega) (by omega)]
    omega

set_option maxRecDepth 100000 in
theorem boxes_any (a b : Int) (ha : 0 ≤ a ∧ a ≤ 1000000) (hb : 1 ≤ b ∧ b ≤ 1000000) (w : World) :
    Calls Try.prog 153 #[.int .i64 a, .int .i64 b] w fun e w' => e = .returned (.int .i64 ((a + b - 1) / b)) ∧ w' = w := by
  have h0 : 0 ≤ a / b ∧ a / b ≤ a := ⟨Int.ediv_nonneg ha.1 (by omega), Int.ediv_le_self _ ha.1⟩
  have hr1 := Int.emod_nonneg a (show b ≠ 0 by omega)
  have hr2 := Int.emod_lt_of_pos a (show 0 < b by omega)
  have e1 : wrap64 (a.tdiv b) = a / b := by rw [Int.tdiv_eq_ediv_of_nonneg ha.1]; unfold wrap64; omega
  have HT := Lib.hid (Int.tmod_eq_emod_of_nonneg (b := b) ha.1)
  have e3 : wrap64 (a / b + 1) = a / b + 1 := by unfold wrap64; omega
  have hz : (b == 0) = false := by simp; omega
  have hz2 : decide (b = 0) = false := by simp; omega
  have hz3 : ¬ b = 0 := by omega
  by_cases hr : 0 < a % b
  · have hd : decide (0 < a.tmod b) = true := by rw [HT.out]; simpa using hr
    have HV := Lib.hid (show (a + b - 1) / b = a / b + 1 by rw [ceil_is a b hb.1, if_pos hr])
    clear ha hb h0 hr1 hr2 hr
    go_enter Try.func153, Try.ntmps153
    go_wp2_with fail
    go_ret
    exact ⟨by rw [HV.out]; show Ending.returned (.int .i64 (wrap64 (a / b + 1))) = _; rw [e3], rfl⟩
  · have hd : decide (0 < a.tmod b) = false := by rw [HT.out]; simpa using hr
    have HV := Lib.hid (show (a + b - 1) / b = a / b by rw [ceil_is a b hb.1, if_neg hr])
    clear ha hb h0 hr1 hr2 hr
    go_enter Try.func153, Try.ntmps153
    go_wp2_with fail
    go_ret
    exact ⟨by rw [HV.out]; show Ending.returned (.int .i64 (wrap64 (a.tdiv b))) = _; rw [e1], rfl⟩

theorem wrongClip_is (x : Int) (d : Bool) (hd : upB x 200 = d) (w : World) :
    Calls Try.prog 150 #[.int .i64 x] w fun e w' => e = .returned (.bool (!d)) ∧ w' = w := by
  have HD := Lib.hid hd
  clear hd
  go_enter Try.func150, Try.ntmps150
  go_wp2_with fail
  refine (upto64_is x 200 d HD.out _).mono ?_
  rintro e w2 ⟨rfl, rfl⟩
  go_wp2_with fail
  go_ret
  exact ⟨rfl, rfl⟩

set_option maxRecDepth 100000 in
theorem indexClip_any (B H : Nat) (v : Value) (hH : H ≤ 2000000) (ps : List Int) (hl : ps.length = H) (w : World) (ho : w.ownsRow B 2 1 v H (intsV .i64 ps)) :
    Calls Try.prog 187 #[v, .func (.func 150) #[] #[]] w fun e w' => (∃ x : Int, e = .returned (.int .i64 x) ∧ decide (0 ≤ x) = !ps.all (upB · 200)) ∧ w' = w := by
  obtain ⟨av, cv, rfl⟩ := own_slice ho
  have HO := Lib.hid ho
  clear ho
  go_enter Try.func187, Try.ntmps187
  go_wp2_with fail
  go_loopw [8] (fun i wr => ∃ k : Nat, k ≤ H ∧ i = .int .i64 k ∧ (∀ j z, j < k → ps[j]? = some z → upB z 200 = true) ∧ wr = w) (fun i _ => H - (intOf i).toNat)
  case atStart => exact ⟨0, by omega, rfl, fun j z h _ => by omega, rfl⟩
  case round =>
    obtain ⟨k, hk, rfl, hall, rfl⟩ := hrel
    have HL := Lib.hid hall
    clear hall
    by_cases hlt : k < H
    · have hd : decide ((k : Int) < (H : Int)) = true := by simp; omega
      obtain ⟨z, hzk⟩ : ∃ z, ps[k]? = some z := ⟨_, List.getElem?_eq_getElem (by omega)⟩
      have HZ := Lib.hid hzk
      have ho := HO.out
      obtain ⟨ga, cap, he, hBg, hg⟩ := own_form ho (by omega)
      simp only [Value.slice.injEq, true_and] at he
      obtain ⟨rfl, rfl⟩ := he
      have c0 := own_cell ho _ _ (intsV_get (k := .i64) hzk)
      clear ho hzk
      obtain ⟨d, hdz⟩ : ∃ d, upB z 200 = d := ⟨_, rfl⟩
      have HD := Lib.hid hdz
      go_wp2_with fail
      refine (wrongClip_is z d hdz _).mono ?_
      rintro e w2 ⟨rfl, rfl⟩
      clear hdz
      cases d
      · have HF := Lib.hid (show ps.all (upB · 200) = false by
          rw [List.all_eq_false]
          exact ⟨z, List.mem_of_getElem? HZ.out, by rw [HD.out]; decide⟩)
        go_wp2_with fail
        go_ret
        exact ⟨⟨k, rfl, by rw [HF.out]; simp⟩, rfl⟩
      · go_wp2_with fail
        go_roundw
        case rel => exact ⟨k + 1, by omega, by go_num, fun j y hj hy => by
          by_cases e : j = k
          · subst e; rw [HZ.out] at hy; cases hy; exact HD.out
          · exact HL.out j y (by omega) hy, trivial⟩
        case measure => simp [intOf]; omega
    · have hd : decide ((k : Int) < (H : Int)) = false := by simp; omega
      obtain rfl : k = H := by omega
      have HF := Lib.hid (show ps.all (upB · 200) = true by
        rw [List.all_eq_true]
        intro x hx
        obtain ⟨j, hj⟩ := List.mem_iff_getElem?.1 hx
        exact HL.out j x (by have := (List.getElem?_eq_some_iff.1 hj).1; omega) hj)
      go_wp2_with fail
      go_ret
      exact ⟨⟨-1, rfl, by rw [HF.out]; rfl⟩, rfl⟩
theorem wrongClips_any (B H : Nat) (v : Value) (hH : H ≤ 2000000) (ps : List Int) (hl : ps.length = H) (d : Bool) (hd : ps.all (upB · 200) = d) (w : World) (ho : w.ownsRow B 2 1 v H (intsV .i64 ps)) :
    Calls Try.prog 152 #[v, .func (.func 150) #[] #[]] w fun e w' => e = .returned (.bool (!d)) ∧ w' = w := by
  have HI := Lib.hid (indexClip_any B H v hH ps hl w ho)
  obtain ⟨av, cv, rfl⟩ := own_slice ho
  have HD := Lib.hid hd
  clear ho hd hl
  go_enter Try.func152, Try.ntmps152
  go_wp2_with fail
  refine HI.out.mono ?_
  rintro e w2 ⟨⟨x, rfl, hx⟩, rfl⟩
  rw [HD.out] at hx
  go_wp2_with fail
  go_ret
  first
    | exact ⟨rfl, rfl⟩
    | exact ⟨by rw [← hx]; rfl, rfl⟩

theorem own_apart_low1 {W : World} {A : Nat} {e : TypeId} {size n : Nat} {xs : List Value} {r : Value} (hr : W.ownsRow A e size r n xs) {v : Value} (hv : ∀ k, v.ownBlock = some k → k < A) : v.ownBlock = none ∨ v.ownBlock ≠ r.ownBlock := by
  cases h : v.ownBlock with
  | none => exact .inl rfl
  | some k => exact .inr fun e => by have := (hr.lt k e.symm).1; have := hv k h; omega
def fineB (ps : List Int) (cells box : Int) : Bool := ps.all (upB · 200) && (upB cells 100 && (decide (1 ≤ box) && decide (box ≤ 10000)))
def boxC (H : Nat) (f : Bool) : Int := if f then (if H ≤ 30 then 0 else 3) else 2
def boxG (H : Nat) (f : Bool) : Bool := f && decide (H ≤ 30)
def boxL (ps : List Int) (cells box : Int) (n : Nat) : List Int := (List.range n).map fun k => (ps.getD k 0 * cells + box - 1) / box
theorem boxL_succ (ps : List Int) (cells box : Int) (k : Nat) : boxL ps cells box (k + 1) = boxL ps cells box k ++ [(ps.getD k 0 * cells + box - 1) / box] := by simp [boxL, List.range_succ]
theorem boxL_length (ps : List Int) (cells box : Int) (k : Nat) : (boxL ps cells box k).length = k := by simp [boxL]
theorem fine_range {ps : List Int} {cells box : Int} (h : fineB ps cells box = true) : (∀ (j : Nat) (z : Int), ps[j]? = some z → 0 ≤ z ∧ z ≤ 200) ∧ (0 ≤ cells ∧ cells ≤ 100) ∧ 1 ≤ box ∧ box ≤ 10000 := by
  simp only [fineB, upB, Bool.and_eq_true, decide_eq_true_eq, List.all_eq_true] at h
  exact ⟨fun j z hz => h.1 z (List.mem_of_getElem? hz), h.2.1, h.2.2⟩
theorem clip_prod {z c : Int} (h1 : 0 ≤ z ∧ z ≤ 200) (h2 : 0 ≤ c ∧ c ≤ 100) : 0 ≤ z * c ∧ z * c ≤ 20000 := by
  refine ⟨Int.mul_nonneg h1.1 h2.1, ?_⟩
  have := Int.mul_le_mul h1.2 h2.2 h2.1 (by omega)
  omega

set_option maxRecDepth 100000 in
set_option maxHeartbeats 4000000 in
theorem implBoxes_bad (B H : Nat) (v : Value) (hH : H ≤ 2000000) (ps : List Int) (hl : ps.length = H) (cells box : Int) (hf : fineB ps cells box = false) (w : World) (ho : w.ownsRow B 2 1 v H (intsV .i64 ps)) :
    Calls Try.prog 78 #[v, .int .i64 cells, .int .i64 box] w fun e w' => (∃ u, e = .returned (.tuple #[u, .int .i64 2]) ∧ w'.ownsRow w.heap.size 2 1 u 0 []) ∧ Below w.heap.size w w' := by
  have HC := Lib.hid (fun d hd => wrongClips_any B H v hH ps hl d hd w ho)
  obtain ⟨av, cv, rfl⟩ := own_slice ho
  clear ho hl
  unfold fineB at hf
  have b1 : decide (box < 1) = !decide (1 ≤ box) := by rw [← decide_not]; exact decide_eq_decide.2 (by omega)
  have b2 : decide (10000 < box) = !decide (box ≤ 10000) := by rw [← decide_not]; exact decide_eq_decide.2 (by omega)
  cases h1 : ps.all (upB · 200) <;> cases h2 : upB cells 100 <;> cases h3 : decide (1 ≤ box) <;> cases h4 : decide (box ≤ 10000) <;> rw [h1, h2, h3, h4] at hf <;> rw [h3] at b1 <;> rw [h4] at b2 <;> first | exact absurd hf (by decide) | skip
  all_goals
    have H1 := Lib.hid h1
    clear hf h1 h3 h4
    go_enter Try.func78, Try.ntmps78
    go_wp2_with (first | (go_at_call 152; (refine (HC.out _ H1.out).mono ?_; rintro e w2 ⟨rfl, rfl⟩)) | (go_at_call 151; ((with_reducible refine (upto64_is cells _ _ h2 _).mono ?_); rintro e w2 ⟨rfl, rfl⟩)))
    go_ret2
    exact ⟨⟨_, rfl, World.ownsRow_nil _ _ _ _⟩, Below.refl _ _⟩

set_option maxRecDepth 100000 in
set_option maxHeartbeats 4000000 in
theorem implBoxes_long (B H : Nat) (v : Value) (hH : H ≤ 2000000) (ps : List Int) (hl : ps.length = H) (cells box : Int) (hf : fineB ps cells box = true) (h30 : 30 < H) (w : World) (ho : w.ownsRow B 2 1 v H (intsV .i64 ps)) :
    Calls Try.prog 78 #[v, .int .i64 cells, .int .i64 box] w fun e w' => (∃ u, e = .returned (.tuple #[u, .int .i64 3]) ∧ w'.ownsRow w.heap.size 2 1 u 0 []) ∧ Below w.heap.size w w' := by
  simp only [fineB, Bool.and_eq_true, decide_eq_true_eq] at hf
  obtain ⟨h1, h2, h3, h4⟩ := hf
  have HC := Lib.hid (wrongClips_any B H v hH ps hl true h1 w ho)
  obtain ⟨av, cv, rfl⟩ := own_slice ho
  clear ho hl h1
  have b1 : decide (box < 1) = false := by simp; omega
  have b2 : decide (10000 < box) = false := by simp; omega
  have b3 : decide ((30 : Int) < (H : Int)) = true := by simp; omega
  clear h3 h4 h30
  go_enter Try.func78, Try.ntmps78
  go_wp2_with (first | (go_at_call 152; (refine HC.out.mono ?_; rintro e w2 ⟨rfl, rfl⟩)) | (go_at_call 151; ((with_reducible refine (upto64_is cells _ _ h2 _).mono ?_); rintro e w2 ⟨rfl, rfl⟩)))
  go_ret2
  exact ⟨⟨_, rfl, World.ownsRow_nil _ _ _ _⟩, Below.refl _ _⟩

set_option maxRecDepth 100000 in
set_option maxHeartbeats 4000000 in
theorem implBoxes_any (B H : Nat) (v : Value) (ps : List Int) (hl : ps.length = H) (cells box : Int) (hf : fineB ps cells box = true) (h30 : H ≤ 30) (w : World) (ho : w.ownsRow B 2 1 v H (intsV .i64 ps)) :
    Calls Try.prog 78 #[v, .int .i64 cells, .int .i64 box] w fun e w' => (∃ u, e = .returned (.tuple #[u, .int .i64 0]) ∧ w'.ownsRow w.heap.size 2 1 u H (intsV .i64 (boxL ps cells box H))) ∧ Below w.heap.size w w' := by
  have HR := Lib.hid (fine_range hf)
  simp only [fineB, Bool.and_eq_true, decide_eq_true_eq] at hf
  obtain ⟨h1, h2, h3, h4⟩ := hf
  have HC := Lib.hid (wrongClips_any B H v (by omega) ps hl true h1 w ho)
  have HO := Lib.hid ho
  have hlw := fun k (hk : v.ownBlock = some k) => (ho.lt k hk).2
  obtain ⟨av, cv, rfl⟩ := own_slice ho
  have HLW := Lib.hid hlw
  clear ho h1 hlw
  have b1 : decide (box < 1) = false := by simp; omega
  have b2 : decide (10000 < box) = false := by simp; omega
  have b3 : decide ((30 : Int) < (H : Int)) = false := by simp; omega
  clear h3 h4
  obtain ⟨i0, hi, hq0, hq1, hq2⟩ := info_parts i64Info
  go_enter Try.func78, Try.ntmps78
  go_wp2_with (first | (go_at_call 152; (refine HC.out.mono ?_; rintro e w2 ⟨rfl, rfl⟩)) | (go_at_call 151; ((with_reducible refine (upto64_is cells _ _ h2 _).mono ?_); rintro e w2 ⟨rfl, rfl⟩)))
  clear h2 b1 b2 b3
  go_loopw [9, 33] (fun u i wr => ∃ k : Nat, k ≤ H ∧ i = .int .i64 k ∧ wr.ownsRow w2.heap.size 2 1 u k (intsV .i64 (boxL ps cells box k)) ∧ wr.ownsRow B 2 1 (.slice av H cv) H (intsV .i64 ps) ∧ Below w2.heap.size w2 wr) (fun _ i _ => H - (intOf i).toNat)
  case atStart => exact ⟨0, by omega, rfl, World.ownsRow_nil _ _ _ _, HO.out, Below.refl _ _⟩
  case round =>
    obtain ⟨k, hk, rfl, hu, ho, hb⟩ := hrel
    have HU := Lib.hid hu
    have HO1 := Lib.hid ho
    clear hu HO HC
    by_cases hlt : k < H
    · have hd : decide ((k : Int) < (H : Int)) = true := by simp; omega
      have hzk : ps[k]? = some (ps.getD k 0) := by simp [List.getElem?_eq_getElem (show k < ps.length by omega)]
      have hzr := HR.out.1 k _ hzk
      have hS := boxL_succ ps cells box k
      obtain ⟨z, hz⟩ : ∃ z, ps.getD k 0 = z := ⟨_, rfl⟩
      rw [hz] at hzk hzr hS
      have hpr := clip_prod hzr HR.out.2.1
      obtain ⟨pr, hprd⟩ : ∃ pr, z * cells = pr := ⟨_, rfl⟩
      have hw : wrap64 (z * cells) = pr := by rw [hprd] at hpr ⊢; unfold wrap64; omega
      rw [hprd] at hpr hS
      have HPR := Lib.hid hpr
      have HS := Lib.hid hS
      obtain ⟨g, cap, he, hBg, hg⟩ := own_form ho (by omega)
      simp only [Value.slice.injEq, true_and] at he
      obtain ⟨rfl, rfl⟩ := he
      have c0 := own_cell ho _ _ (intsV_get (k := .i64) hzk)
      clear ho hzk hzr hS hz hprd hpr
      go_wp2_with fail
      refine (boxes_any pr box (by have := HPR.out; omega) (by have := HR.out.2.2; omega) _).mono ?_
      rintro e w3 ⟨rfl, rfl⟩
      obtain ⟨bz, hbz⟩ : ∃ bz, (pr + box - 1) / box = bz := ⟨_, rfl⟩
      rw [hbz] at HS ⊢
      clear c0 hbz hw
      go_wp2_with (at_builtin; refine wpList_append_own_at _ rfl _ _ 59 rfl w2.heap.size 2 i0 (.int .i64 0) 1 8 Try.underlying59 hi hq0 hq1 hq2 rfl (by decide) _ _ _ rfl (HU.out.alloc _) ⟨w3.heap.size, 0, none⟩ 1 1 [.int .i64 bz] rfl rfl ?c1 ?c2 ?c3 ?c4 ?c5 ?_)
      case c1 =>
        intro j z hj
        match j, hj with
        | 0, hj => simp at hj; subst hj; exact (Holds.new w3 #[.int .i64 bz] 2).cell 0
      case c2 => intro z hz; simp at hz; subst hz; rfl
      case c3 => unfold maxLen; omega
      case c4 => omega
      case c5 => have := hb.size; simp; omega
      intro u9 w9 hown9 hgrow9 _ hat9
      have hb9 := (hb.alloc hb.size (.cells #[.int .i64 bz] 2)).grown hgrow9 (by have := hb.size; simp; omega) (fun k hk => by have := own_far HU.out k hk; omega)
      have HO9 := Lib.hid ((HO1.out.alloc (.cells #[.int .i64 bz] 2)).kept hgrow9 (own_apart_low1 HU.out HLW.out))
      have HR9 := Lib.hid (show w9.ownsRow w2.heap.size 2 1 u9 (k + 1) (intsV .i64 (boxL ps cells box k ++ [bz])) by simpa [intsV] using hown9)
      clear hown9 hgrow9 hat9 HU HO1 hb
      go_wp2_with fail
      go_roundw
      case rel => exact ⟨k + 1, by omega, by go_num, by rw [HS.out]; exact HR9.out, HO9.out, hb9⟩
      case measure => simp [intOf]; omega
    · have hd : decide ((k : Int) < (H : Int)) = false := by simp; omega
      obtain rfl : k = H := by omega
      obtain ⟨au, cu, rfl⟩ := own_slice HU.out
      clear ho HO1
      go_wp2_with fail
      go_ret2
      exact ⟨⟨_, rfl, HU.out⟩, hb⟩

def boxN (H : Nat) (f : Bool) : Nat := if boxG H f then H else 0
def boxV (ps : List Int) (cells box : Int) (H : Nat) (f : Bool) : List Value := if boxG H f then intsV .i64 (boxL ps cells box H) else []
def takeB (ps : List Int) (f : Bool) (k : Nat) : Bool := f && (ps.take k).all (upB · 200)
theorem takeB_succ {ps : List Int} {f : Bool} {k : Nat} {z : Int} (hz : ps[k]? = some z) : takeB ps f (k + 1) = (takeB ps f k && upB z 200) := by
  simp [takeB, List.take_add_one, hz, Bool.and_assoc]
theorem takeB_all {ps : List Int} {f : Bool} {H : Nat} (hl : ps.length = H) : takeB ps f H = (f && ps.all (upB · 200)) := by
  rw [takeB, List.take_of_length_le (by omega)]

set_option maxRecDepth 100000 in
set_option maxHeartbeats 8000000 in
theorem specBoxes_any (B H : Nat) (v : Value) (hH : H ≤ 2000000) (ps : List Int) (hl : ps.length = H) (cells box : Int) (w : World) (ho : w.ownsRow B 2 1 v H (intsV .i64 ps)) :
    Calls Try.prog 76 #[v, .int .i64 cells, .int .i64 box] w fun e w' => (∃ u, e = .returned (.tuple #[u, .int .i64 (boxC H (fineB ps cells box))]) ∧ w'.ownsRow w.heap.size 2 1 u (boxN H (fineB ps cells box)) (boxV ps cells box H (fineB ps cells box))) ∧ Below w.heap.size w w' := by
  have hlw := fun k (hk : v.ownBlock = some k) => (ho.lt k hk).2
  obtain ⟨W, hW⟩ : ∃ W, w.alloc (.cells #[] 2) = W := ⟨_, rfl⟩
  have hb0 : Below w.heap.size w W := by rw [← hW]; exact (Below.refl _ _).alloc (Nat.le_refl _) _
  have HO := Lib.hid (own_below ho hb0)
  have HM := Lib.hid (show W.ownsRow w.heap.size 2 1 (.slice (some ⟨w.heap.size, 0, none⟩) 0 0) 0 [] by rw [← hW]; exact World.ownsRow_made w #[] 0 (Nat.le_refl _) (by simp [maxLen]) rfl)
  obtain ⟨av, cv, rfl⟩ := own_slice ho
  have HLW := Lib.hid hlw
  clear ho hlw
  obtain ⟨i0, hi, hq0, hq1, hq2⟩ := info_parts i64Info
  obtain ⟨f0, hf0⟩ : ∃ f0, (upB cells 100 && (decide (1 ≤ box) && decide (box ≤ 10000))) = f0 := ⟨_, rfl⟩
  have hfb : fineB ps cells box = takeB ps f0 H := by rw [takeB_all hl, ← hf0, fineB, Bool.and_comm]
  have HFB := Lib.hid hfb
  have k1 : ∀ v, upB cells 100 = v → (decide (0 ≤ cells) && decide (cells ≤ 100)) = v := fun v h => h
  cases h1 : upB cells 100
  all_goals
    rw [h1] at hf0
    obtain ⟨d, hd⟩ : ∃ d, (decide (1 ≤ box) && decide (box ≤ 10000)) = d := ⟨_, rfl⟩
    rw [hd] at hf0
    simp only [Bool.false_and, Bool.true_and] at hf0
    have HF0 := Lib.hid hf0
    clear hf0 hfb
    go_enter Try.func76, Try.ntmps76
    go_wp2_with (first | (go_at_call 148; ((with_reducible refine (l00In_is cells _ _ _ (k1 _ h1) _).mono ?_); rintro e w2 ⟨rfl, rfl⟩)) | (go_at_call 148; ((with_reducible refine (l00In_is box _ _ _ hd _).mono ?_); rintro e w2 ⟨rfl, rfl⟩)))
    clear hW hd h1 k1
    go_loopw [9, 10] (fun f i wr => ∃ k : Nat, k ≤ H ∧ i = .int .i64 k ∧ f = .bool (takeB ps f0 k) ∧ wr = w2) (fun _ i _ => H - (intOf i).toNat)
    case atStart => exact ⟨0, by omega, rfl, by rw [← HF0.out]; simp [takeB], rfl⟩
    case round =>
      obtain ⟨k, hk, rfl, rfl, rfl⟩ := hrel
      by_cases hlt : k < H
      · have hd : decide ((k : Int) < (H : Int)) = true := by simp; omega
        obtain ⟨z, hzk⟩ : ∃ z, ps[k]? = some z := ⟨_, List.getElem?_eq_getElem (by omega)⟩
        have hts := takeB_succ (f := f0) hzk
        have ho := HO.out
        obtain ⟨ga, cap, he, hBg, hg⟩ := own_form ho (by omega)
        simp only [Value.slice.injEq, true_and] at he
        obtain ⟨rfl, rfl⟩ := he
        have c0 := own_cell ho _ _ (intsV_get (k := .i64) hzk)
        clear ho hzk
        cases htk : takeB ps f0 k
        · rw [htk, Bool.false_and] at hts
          have HTS := Lib.hid hts
          clear hts htk
          go_wp2_with fail
          go_roundw
          case rel => exact ⟨k + 1, by omega, by go_num, by rw [HTS.out], trivial⟩
          case measure => simp [intOf]; omega
        · rw [htk, Bool.true_and] at hts
          obtain ⟨d2, hd2⟩ : ∃ d2, upB z 200 = d2 := ⟨_, rfl⟩
          rw [hd2] at hts
          have HTS := Lib.hid hts
          clear hts htk
          go_wp2_with fail
          refine (l03High_is z d2 hd2 _).mono ?_
          rintro e w3 ⟨rfl, rfl⟩
          clear hd2
          go_wp2_with fail
          go_roundw
          case rel => exact ⟨k + 1, by omega, by go_num, by rw [HTS.out], trivial⟩
          case measure => simp [intOf]; omega
      · have hd : decide ((k : Int) < (H : Int)) = false := by simp; omega
        obtain rfl : k = H := by omega
        cases htk : takeB ps f0 k
        · have HC := Lib.hid (show boxC k (fineB ps cells box) = 2 ∧ boxN k (fineB ps cells box) = 0 ∧ boxV ps cells box k (fineB ps cells box) = [] by
            rw [HFB.out, htk]; exact ⟨rfl, rfl, rfl⟩)
          clear htk
          go_wp2_with fail
          go_ret2
          rw [HC.out.1, HC.out.2.1, HC.out.2.2]
          exact ⟨⟨_, rfl, HM.out⟩, hb0⟩
        · by_cases h30 : k ≤ 30
          · have HC := Lib.hid (show boxC k (fineB ps cells box) = 0 ∧ boxN k (fineB ps cells box) = k ∧ boxV ps cells box k (fineB ps cells box) = intsV .i64 (boxL ps cells box k) by
              rw [HFB.out, htk]; simp [boxC, boxN, boxV, boxG, h30])
            have HR := Lib.hid (fine_range (show fineB ps cells box = true by rw [HFB.out, htk]))
            have b3 : decide ((30 : Int) < (k : Int)) = false := by simp; omega
            clear htk hd
            go_wp2_with fail
            clear b3
            go_loopw [8, 11] (fun u i wr => ∃ j : Nat, j ≤ k ∧ i = .int .i64 j ∧ wr.ownsRow w.heap.size 2 1 u j (intsV .i64 (boxL ps cells box j)) ∧ wr.ownsRow B 2 1 (.slice av k cv) k (intsV .i64 ps) ∧ Below w.heap.size w wr) (fun _ i _ => k - (intOf i).toNat)
            case atStart => exact ⟨0, by omega, rfl, HM.out, HO.out, hb0⟩
            case round =>
              obtain ⟨j, hj, rfl, hu, ho, hb⟩ := hrel
              have HU := Lib.hid hu
              have HO1 := Lib.hid ho
              clear hu HO HM hb0
              by_cases hlt : j < k
              · have hd : decide ((j : Int) < (k : Int)) = true := by simp; omega
                have hzk : ps[j]? = some (ps.getD j 0) := by simp [List.getElem?_eq_getElem (show j < ps.length by omega)]
                have hzr := HR.out.1 j _ hzk
                have hS := boxL_succ ps cells box j
                obtain ⟨z, hz⟩ : ∃ z, ps.getD j 0 = z := ⟨_, rfl⟩
                rw [hz] at hzk hzr hS
                have hpr := clip_prod hzr HR.out.2.1
                obtain ⟨pr, hprd⟩ : ∃ pr, z * cells = pr := ⟨_, rfl⟩
                have hw : wrap64 (z * cells) = pr := by rw [hprd] at hpr ⊢; unfold wrap64; omega
                rw [hprd] at hpr hS
                have hbx := HR.out.2.2
                have hw2 : wrap64 (pr + box) = pr + box := by unfold wrap64; omega
                have hw3 : wrap64 (pr + box - 1) = pr + box - 1 := by unfold wrap64; omega
                obtain ⟨bz, hbz⟩ : ∃ bz, (pr + box - 1) / box = bz := ⟨_, rfl⟩
                have hw4 : wrap64 ((pr + box - 1).tdiv box) = bz := by
                  rw [Int.tdiv_eq_ediv_of_nonneg (by omega), hbz]
                  have h1 : 0 ≤ bz := by rw [← hbz]; exact Int.ediv_nonneg (by omega) (by omega)
                  have h2 : bz ≤ pr + box - 1 := by rw [← hbz]; exact Int.ediv_le_self _ (by omega)
                  unfold wrap64; omega
                have hz0 : (box == 0) = false := by simp; omega
                have hz2 : decide (box = 0) = false := by simp; omega
                have hz3 : ¬ box = 0 := by omega
                rw [hbz] at hS
                have HS := Lib.hid hS
                obtain ⟨g, cap, he, hBg, hg⟩ := own_form ho (by omega)
                simp only [Value.slice.injEq, true_and] at he
                obtain ⟨rfl, rfl⟩ := he
                have c0 := own_cell ho _ _ (intsV_get (k := .i64) hzk)
                clear ho hzk hzr hS hz hprd hpr hbz hbx
                go_wp2_with (at_builtin; refine wpList_append_own_at _ rfl _ _ 59 rfl w.heap.size 2 i0 (.int .i64 0) 1 8 Try.underlying59 hi hq0 hq1 hq2 rfl (by decide) _ _ _ rfl (HU.out.alloc _) ⟨wr.heap.size, 0, none⟩ 1 1 [.int .i64 bz] rfl rfl ?c1 ?c2 ?c3 ?c4 ?c5 ?_)
                case c1 =>
                  intro j z hj
                  match j, hj with
                  | 0, hj => simp at hj; subst hj; exact (Holds.new wr #[.int .i64 bz] 2).cell 0
                case c2 => intro z hz; simp at hz; subst hz; rfl
                case c3 => unfold maxLen; omega
                case c4 => omega
                case c5 => have := hb.size; simp; omega
                intro u9 w9 hown9 hgrow9 _ hat9
                have hb9 := (hb.alloc hb.size (.cells #[.int .i64 bz] 2)).grown hgrow9 (by have := hb.size; simp; omega) (fun k hk => by have := own_far HU.out k hk; omega)
                have HO9 := Lib.hid ((HO1.out.alloc (.cells #[.int .i64 bz] 2)).kept hgrow9 (own_apart_low1 HU.out HLW.out))
                have HR9 := Lib.hid (show w9.ownsRow w.heap.size 2 1 u9 (j + 1) (intsV .i64 (boxL ps cells box j ++ [bz])) by simpa [intsV] using hown9)
                clear hown9 hgrow9 hat9 HU HO1 hb
                go_wp2_with fail
                go_roundw
                case rel => exact ⟨j + 1, by omega, by go_num, by rw [HS.out]; exact HR9.out, HO9.out, hb9⟩
                case measure => simp [intOf]; omega
              · have hd : decide ((j : Int) < (k : Int)) = false := by simp; omega
                obtain rfl : j = k := by omega
                obtain ⟨au, cu, rfl⟩ := own_slice HU.out
                clear ho HO1
                go_wp2_with fail
                go_ret2
                rw [HC.out.1, HC.out.2.1, HC.out.2.2]
                exact ⟨⟨_, rfl, HU.out⟩, hb⟩
          · have HC := Lib.hid (show boxC k (fineB ps cells box) = 3 ∧ boxN k (fineB ps cells box) = 0 ∧ boxV ps cells box k (fineB ps cells box) = [] by
              rw [HFB.out, htk]; simp [boxC, boxN, boxV, boxG, h30])
            have b3 : decide ((30 : Int) < (k : Int)) = true := by simp; omega
            clear htk
            go_wp2_with fail
            go_ret2
            rw [HC.out.1, HC.out.2.1, HC.out.2.2]
            exact ⟨⟨_, rfl, HM.out⟩, hb0⟩

theorem implBoxes_all (B H : Nat) (v : Value) (hH : H ≤ 2000000) (ps : List Int) (hl : ps.length = H) (cells box : Int) (w : World) (ho : w.ownsRow B 2 1 v H (intsV .i64 ps)) :
    Calls Try.prog 78 #[v, .int .i64 cells, .int .i64 box] w fun e w' => (∃ u, e = .returned (.tuple #[u, .int .i64 (boxC H (fineB ps cells box))]) ∧ w'.ownsRow w.heap.size 2 1 u (boxN H (fineB ps cells box)) (boxV ps cells box H (fineB ps cells box))) ∧ Below w.heap.size w w' := by
  cases hf : fineB ps cells box
  · exact implBoxes_bad B H v hH ps hl cells box hf w ho
  · by_cases h30 : H ≤ 30
    · simp only [boxC, boxN, boxV, boxG, h30, if_true, decide_true, Bool.and_self]
      exact implBoxes_any B H v ps hl cells box hf h30 w ho
    · simp only [boxC, boxN, boxV, boxG, h30, if_true, if_false, decide_false, Bool.and_false, Bool.false_eq_true]
      exact implBoxes_long B H v hH ps hl cells box hf (by omega) w ho
end Go.Proofs.Ytlfmadnhjleofaa
