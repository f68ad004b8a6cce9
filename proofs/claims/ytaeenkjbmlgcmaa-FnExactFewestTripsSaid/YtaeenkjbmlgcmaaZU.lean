/- The model's search for the best order. The model's tables of 6 by 6 numbers, and its best order of some targets. -/
import Derived.Test.YtaeenkjbmlgcmaaZS
import Derived.Test.YtaeenkjbmlgcmaaZT
import Derived.Deep.CutRange
namespace Go.Proofs.Ytaeenkjbmlgcmaa
open Go.RowKit
set_option linter.unusedVariables false
set_option linter.unusedSimpArgs false

def tabL (f : Nat → Nat → Int) : List Value := (List.range 36).map fun k => .int .i64 (f (k / 6) (k % 6))
@[simp] theorem tabL_len (f : Nat → Nat → Int) : (tabL f).length = 36 := by simp [tabL]
def tripA (f : Nat → Nat → Int) (h : Nat) (sv bv : Value) (L : Int) (F : Bool) : Array Value := (tabL f ++ [.int .i64 h, sv, bv, .int .i64 L, .bool F]).toArray
theorem tripA_tab (f : Nat → Nat → Int) (h : Nat) (sv bv : Value) (L : Int) (F : Bool) {i j : Nat} (hi : i < 6) (hj : j < 6) : (tripA f h sv bv L F)[i * 6 + j]? = some (.int .i64 (f i j)) := by
  unfold tripA
  rw [List.getElem?_toArray, List.getElem?_append_left (by rw [tabL_len]; omega)]
  unfold tabL
  rw [List.getElem?_map, List.getElem?_range (by omega)]
  have h1 : (i * 6 + j) / 6 = i := by omega
  have h2 : (i * 6 + j) % 6 = j := by omega
  simp [h1, h2]
theorem tripA_at (f : Nat → Nat → Int) (h : Nat) (sv bv : Value) (L : Int) (F : Bool) : (tripA f h sv bv L F)[36]? = some (.int .i64 h) ∧ (tripA f h sv bv L F)[37]? = some sv ∧ (tripA f h sv bv L F)[38]? = some bv ∧ (tripA f h sv bv L F)[39]? = some (.int .i64 L) ∧ (tripA f h sv bv L F)[40]? = some (.bool F) := by
  unfold tripA
  simp only [List.getElem?_toArray]
  refine ⟨?_, ?_, ?_, ?_, ?_⟩ <;> rw [List.getElem?_append_right (by simp)] <;> simp
theorem tripA_set (f : Nat → Nat → Int) (h : Nat) (sv bv : Value) (L : Int) (F : Bool) (bv' : Value) (L' : Int) (F' : Bool) : (((tripA f h sv bv L F).setIfInBounds 38 bv').setIfInBounds 39 (.int .i64 L')).setIfInBounds 40 (.bool F') = tripA f h sv bv' L' F' := by
  unfold tripA
  simp only [List.setIfInBounds_toArray]
  congr 1
@[simp] theorem tripA_size (f : Nat → Nat → Int) (h : Nat) (sv bv : Value) (L : Int) (F : Bool) : (tripA f h sv bv L F).size = 41 := by simp [tripA]

/-- What the search knows: the table, home, the targets, and the best order so far. -/
def TripSt (w : World) (p : Nat) (f : Nat → Nat → Int) (h : Nat) (sv : Value) (b : Option (List Nat × Int)) : Prop := ∃ bv L F, Holds w p (tripA f h sv bv L F) ∧ (match b with
  | none => F = false
  | some (q, S) => F = true ∧ L = S ∧ w.ownsRow (p + 1) 2 1 bv q.length (ordV q))

theorem goT_boundH {tb : Nat → Nat → Int} {h : Nat} (hb : ∀ i j, i < 6 → j < 6 → 0 ≤ tb i j ∧ tb i j < 100) (hh : h ≤ 5) : ∀ (m : Nat) (o : List Nat), o.length = m → (∀ k ∈ o, k ≤ 5) → (goT tb h o).2 ≤ 5 ∧ 0 ≤ (goT tb h o).1 ∧ (goT tb h o).1 ≤ 100 * m
  | 0, o, hm, _ => by
    rw [List.length_eq_zero_iff.1 hm]
    simp [goT]; omega
  | m + 1, o, hm, h1 => by
    rcases List.eq_nil_or_concat o with rfl | ⟨q, k, rfl⟩
    · simp at hm
    · rw [List.concat_eq_append] at hm h1 ⊢
      obtain ⟨a1, a2, a3⟩ := goT_boundH hb hh m q (by simpa using hm) fun x hx => h1 x (by simp [hx])
      have hk := h1 k (by simp)
      rw [goT_snoc]
      have := hb _ _ (by omega : (goT tb h q).2 < 6) (by omega : k < 6)
      dsimp only
      omega

theorem TripSt.below {w w' : World} {p : Nat} {f : Nat → Nat → Int} {h : Nat} {sv : Value} {b : Option (List Nat × Int)} (hs : TripSt w p f h sv b) (hb : Below w.heap.size w w') : TripSt w' p f h sv b := by
  obtain ⟨bv, L, F, h1, h2⟩ := hs
  refine ⟨bv, L, F, h1.below hb h1.lt, ?_⟩
  cases b with
  | none => exact h2
  | some q => exact ⟨h2.1, h2.2.1, own_below h2.2.2 hb⟩
def stepF (f : Nat → Nat → Int) (h : Nat) (sm : List Nat) (left : Nat) (o : List Nat) (b : Option (List Nat × Int)) (k : Nat) : Option (List Nat × Int) := if o.contains k then b else fromT f h sm left (o ++ [k]) b

set_option maxRecDepth 100000 in
set_option maxHeartbeats 4000000 in
theorem from_any (f : Nat → Nat → Int) (h : Nat) (hh : h ≤ 5) (hf : ∀ i j, i < 6 → j < 6 → 0 ≤ f i j ∧ f i j < 100) (sm : List Nat) (n : Nat) (hn : sm.length = n) (hn5 : n ≤ 5) (hsm : ∀ x ∈ sm, x ≤ 5) (p : Nat) (sv : Value) (Bs : Nat) :
    ∀ (left : Nat) (o : List Nat) (hol : o.length + left = n) (ho : ∀ x ∈ o, x ≤ 5) (b : Option (List Nat × Int)) (gv cv : Nat) (Bo : Nat) (w : World) (hst : TripSt w p f h sv b) (hsv : w.ownsRow Bs 2 1 sv n (ordV sm)) (hsp : ∀ k, sv.ownBlock = some k → k ≠ p) (hv : w.ownsRow Bo 2 1 (.slice (some ⟨gv, 0, none⟩) o.length cv) o.length (ordV o)) (hvp : gv ≠ p),
    Calls Try.prog 124 #[.pointer (some ⟨p, 0, none⟩), .slice (some ⟨gv, 0, none⟩) o.length cv, .int .i64 (goT f h o).1] w fun e w' => (∃ u, e = .returned u) ∧ Only [p] w w' ∧ TripSt w' p f h sv (fromT f h sm left o b) := by
  intro left
  induction left with
  | zero =>
    intro o hol ho b gv cv Bo w hst hsv hsp hv hvp
    obtain ⟨asv, csv, rfl⟩ := own_slice hsv
    have hom : o.length = n := by omega
    rw [hom] at hv ⊢
    obtain ⟨bv, L, F, hH, hbm⟩ := hst
    have HH := Lib.hid hH
    have HBM := Lib.hid hbm
    have HV := Lib.hid hv
    have HSV := Lib.hid hsv
    have HVP := Lib.hid hvp
    have HO := Lib.hid ho
    obtain ⟨x36, x37, x38, x39, x40⟩ := tripA_at f h (.slice asv n csv) bv L F
    have c36 : w.cell? ⟨p, 36, none⟩ = some (.int .i64 h) := (hH.cell 36).trans x36
    have c37 : w.cell? ⟨p, 37, none⟩ = some (.slice asv n csv) := (hH.cell 37).trans x37
    have c39 : w.cell? ⟨p, 39, none⟩ = some (.int .i64 L) := (hH.cell 39).trans x39
    have c40 : w.cell? ⟨p, 40, none⟩ = some (.bool F) := (hH.cell 40).trans x40
    obtain ⟨A, hA⟩ : ∃ A, (goT f h o).2 = A := ⟨_, rfl⟩
    obtain ⟨S0, hS0⟩ : ∃ S, (goT f h o).1 = S := ⟨_, rfl⟩
    rw [hS0]
    have HA := Lib.hid hA
    have HS0 := Lib.hid hS0
    have hGL := goT_last f h o
    rw [hA] at hGL
    have HGL := Lib.hid hGL
    clear hH hbm hv hsv hvp ho hA hS0 hGL x36 x37 x38 x39 x40
    go_enter Try.func124, Try.ntmps124
    go_upto_if 16 with fail
    go_cut [6] from 17 to 22 (fun x wx => x = .int .i64 A ∧ wx = w)
    case first =>
      rcases Nat.eq_zero_or_pos n with h0 | h0
      · subst h0
        have hd : decide ((0 : Int) < ((0 : Nat) : Int)) = false := by simp
        have HAE := Lib.hid (show (h : Int) = (A : Int) by
          have := HGL.out
          rw [List.length_eq_zero_iff.1 hom] at this
          rw [this]; rfl)
        go_wp2_with fail
        go_meet
        case rel => exact ⟨by rw [HAE.out], rfl⟩
      · obtain ⟨k, rfl⟩ : ∃ k, n = k + 1 := ⟨n - 1, by omega⟩
        have hd : decide ((0 : Int) < ((k + 1 : Nat) : Int)) = true := decide_eq_true (by omega)
        have e0 : w.cell? ⟨gv, k, none⟩ = some (.int .i64 A) := own_cell HV.out _ _ (by
          unfold ordV
          have h1 : o[k]? = some A := by
            have := HGL.out
            rw [List.getLast?_eq_getElem?, hom] at this
            have hk : o[k]? = some (o[k]'(by omega)) := List.getElem?_eq_getElem (by omega)
            rw [show k + 1 - 1 = k by omega, hk] at this
            rw [hk, this]; rfl
          rw [List.getElem?_map, h1]; rfl)
        have hw1 : wrap64 (((k + 1 : Nat) : Int) - 1) = (k : Int) := by unfold wrap64; omega
        go_wp2_with fail
        go_meet
        case rel => exact ⟨rfl, rfl⟩
    case rest =>
      obtain ⟨rfl, rfl⟩ := hcut
      have hA5 : A ≤ 5 := by
        rw [HGL.out]
        cases hl : o.getLast? with
        | none => simpa using hh
        | some x => exact HO.out x (List.mem_of_getLast? hl)
      have htb := hf A h (by omega) (by omega)
      obtain ⟨D, hD⟩ : ∃ D, f A h = D := ⟨_, rfl⟩
      rw [hD] at htb
      have HDD := Lib.hid hD
      have hgb := goT_boundH hf hh n o hom HO.out
      rw [HS0.out] at hgb
      have hwS : wrap64 (S0 + D) = S0 + D := by unfold wrap64; omega
      have HT := Lib.hid (show tripT f h o = S0 + D by unfold tripT; rw [HS0.out, HA.out, HDD.out])
      have hA6 : (A : Int) < 6 := by omega
      have hh6 : (h : Int) < 6 := by omega
      have hA0 : (0 : Int) ≤ (A : Int) := by omega
      have hh0 : (0 : Int) ≤ (h : Int) := by omega
      have HX := Lib.hid (show ∀ w', Below wc.heap.size wc w' → w'.cell? ⟨p, 36, none⟩ = some (.int .i64 h) ∧ w'.cell? ⟨p, A * 6 + h, none⟩ = some (.int .i64 D) from fun w' hw' =>
        have hk := HH.out.below hw' HH.out.lt
        ⟨(hk.cell 36).trans (tripA_at _ _ _ _ _ _).1, (hk.cell (A * 6 + h)).trans (by rw [tripA_tab _ _ _ _ _ _ (by omega) (by omega), HDD.out])⟩)
      clear hD htb
      go_wp2_with fail
      refine wp_region_grow 13 (by kernel_rfl) (by kernel_rfl) ?_
      simp only [List.take_succ_cons, List.take_zero, List.drop_succ_cons, List.drop_zero]
      iterate 13
        apply wpGrow_plain rfl
        · intro w' hw' K hK
          obtain ⟨f1, f2⟩ := HX.out _ hw'
          go_wp2_with fail
          exact hK _ _ rfl hw'
        simp only [Act.put, List.setIfInBounds_toArray, List.set_cons_succ, List.set_cons_zero]
      refine wpGrow_nil ?_
      intro W5 hW5
      have HN5 := Lib.hid (HH.out.below hW5 HH.out.lt)
      have HO5 := Lib.hid ((Only.refl [p] wc).onto hW5)
      have HV5 := Lib.hid (own_below HV.out hW5)
      have HST5 := Lib.hid (TripSt.below ⟨bv, L, F, HH.out, HBM.out⟩ hW5)
      obtain ⟨T, hT⟩ : ∃ T, S0 + D = T := ⟨_, rfl⟩
      rw [hT] at HT hwS ⊢
      have HTT := Lib.hid hT
      have d40 : W5.cell? ⟨p, 40, none⟩ = some (.bool F) := (HN5.out.cell 40).trans (tripA_at _ _ _ _ _ _).2.2.2.2
      have d39 : W5.cell? ⟨p, 39, none⟩ = some (.int .i64 L) := (HN5.out.cell 39).trans (tripA_at _ _ _ _ _ _).2.2.2.1
      have hcond : F = false ∨ (F = true ∧ decide (T < L) = true) ∨ (F = true ∧ decide (T < L) = false) := by
        cases F
        · exact .inl rfl
        · cases decide (T < L)
          · exact .inr (.inr ⟨rfl, rfl⟩)
          · exact .inr (.inl ⟨rfl, rfl⟩)
      obtain ⟨ci, hci, hz0, hz1, hz2⟩ := info_parts i64I
      have HCI := Lib.hid (show Try.prog.info? 2 = some ci ∧ ci.zero = some (.int .i64 0) ∧ ci.size = 1 ∧ ci.bytes = 8 from ⟨hci, hz0, hz1, hz2⟩)
      have HM1 := Lib.hid (ownsRow_low (World.ownsRow_made (e := 2) (size := 1) W5 #[] 0 (Nat.le_refl W5.heap.size) (by simp [maxLen]) rfl) (show p + 1 ≤ W5.heap.size from HN5.out.lt))
      have HOL := Lib.hid (show (ordV o).length = n * 1 by unfold ordV; rw [List.length_map, hom]; omega)
      have hO5 := HO5.out
      clear hW5 HX c36 c37 c39 c40 hci hz0 hz1 hz2 hT hwS
      rcases hcond with rfl | ⟨rfl, hlt⟩ | ⟨rfl, hlt⟩
      · have hpl := HN5.out.lt
        go_wp2_with (at_builtin; refine wpList_append_own_at _ rfl _ _ 56 rfl (p + 1) 2 ci (.int .i64 0) 1 8 Try.underlying56 HCI.out.1 HCI.out.2.1 HCI.out.2.2.1 HCI.out.2.2.2 rfl (by decide) _ _ _ rfl HM1.out ⟨gv, 0, none⟩ n cv (ordV o) rfl HOL.out ?c1 ?c2 ?c3 ?c4 ?c5 ?_)
        case c1 => exact fun j u hu => by have h9 := own_cell (HV5.out.alloc (.cells #[] 2)) j u hu; by_cases h0 : j = 0 <;> simpa [Addr.add, h0] using h9
        case c2 => intro z hz; unfold ordV at hz; simp only [List.mem_map] at hz; obtain ⟨y, -, rfl⟩ := hz; rfl
        case c3 => unfold maxLen; omega
        case c4 => omega
        case c5 => first | omega | (simp; omega)
        intro v' w9 hown hgrow _ hat
        have hown' : w9.ownsRow (p + 1) 2 1 v' n (ordV o) := by simpa using hown
        obtain ⟨av', cv', rfl⟩ := own_slice hown'
        have hO9 : Only [p] wc w9 := (hO5.alloc _).grown hgrow (fun k hk => .inr (by simp [Value.ownBlock] at hk; have := hO5.size; omega))
        have hB9 : Below (p + 1) W5 w9 := ((Below.refl (p + 1) W5).alloc (by omega) _).grown hgrow (by simp; omega) (fun k hk => by simp [Value.ownBlock] at hk; omega)
        have k9 : Holds w9 p (tripA f h (.slice asv n csv) bv L false) := HN5.out.below hB9 (by omega)
        obtain ⟨-, ff, -, z2, l2⟩ := k9.facts
        have d38 : w9.cell? ⟨p, 38, none⟩ = some bv := (k9.cell 38).trans (tripA_at _ _ _ _ _ _).2.2.1
        have d39' : w9.cell? ⟨p, 39, none⟩ = some (.int .i64 L) := (k9.cell 39).trans (tripA_at _ _ _ _ _ _).2.2.2.1
        have d40' : w9.cell? ⟨p, 40, none⟩ = some (.bool false) := (k9.cell 40).trans (tripA_at _ _ _ _ _ _).2.2.2.2
        have m9 := ((k9.setCell 38 (.slice av' n cv')).setCell 39 (.int .i64 T)).setCell 40 (.bool true)
        rw [tripA_set] at m9
        have mO := ((hO9.setCell (a := ⟨p, 38, none⟩) (.inl (by simp)) (.slice av' n cv')).setCell (a := ⟨p, 39, none⟩) (.inl (by simp)) (.int .i64 T)).setCell (a := ⟨p, 40, none⟩) (.inl (by simp)) (.bool true)
        have hne : (Value.slice av' n cv').ownBlock ≠ some p := fun e => by have := own_far hown' p e; omega
        have mown := ownsRow_setCell_other (ownsRow_setCell_other (ownsRow_setCell_other hown' (a := ⟨p, 38, none⟩) hne (.slice av' n cv')) (a := ⟨p, 39, none⟩) hne (.int .i64 T)) (a := ⟨p, 40, none⟩) hne (.bool true)
        have HF := Lib.hid (And.intro m9 (And.intro mO mown))
        clear hown hown' hgrow hat hO9 hB9 k9 m9 mO mown hO5 d40 d39
        go_wp2_with fail
        refine bodyPost_ret (results_none rfl _ _ _) rfl ⟨⟨_, rfl⟩, HF.out.2.1, ?_⟩
        have hbm := HBM.out
        cases b with
        | some q => cases hbm.1
        | none =>
          show TripSt _ _ _ _ _ (some (o, tripT f h o))
          exact ⟨_, T, true, HF.out.1, rfl, HT.out.symm, by rw [hom]; exact HF.out.2.2⟩
      · have hpl := HN5.out.lt
        go_wp2_with (at_builtin; refine wpList_append_own_at _ rfl _ _ 56 rfl (p + 1) 2 ci (.int .i64 0) 1 8 Try.underlying56 HCI.out.1 HCI.out.2.1 HCI.out.2.2.1 HCI.out.2.2.2 rfl (by decide) _ _ _ rfl HM1.out ⟨gv, 0, none⟩ n cv (ordV o) rfl HOL.out ?c1 ?c2 ?c3 ?c4 ?c5 ?_)
        case c1 => exact fun j u hu => by have h9 := own_cell (HV5.out.alloc (.cells #[] 2)) j u hu; by_cases h0 : j = 0 <;> simpa [Addr.add, h0] using h9
        case c2 => intro z hz; unfold ordV at hz; simp only [List.mem_map] at hz; obtain ⟨y, -, rfl⟩ := hz; rfl
        case c3 => unfold maxLen; omega
        case c4 => omega
        case c5 => first | omega | (simp; omega)
        intro v' w9 hown hgrow _ hat
        have hown' : w9.ownsRow (p + 1) 2 1 v' n (ordV o) := by simpa using hown
        obtain ⟨av', cv', rfl⟩ := own_slice hown'
        have hO9 : Only [p] wc w9 := (hO5.alloc _).grown hgrow (fun k hk => .inr (by simp [Value.ownBlock] at hk; have := hO5.size; omega))
        have hB9 : Below (p + 1) W5 w9 := ((Below.refl (p + 1) W5).alloc (by omega) _).grown hgrow (by simp; omega) (fun k hk => by simp [Value.ownBlock] at hk; omega)
        have k9 : Holds w9 p (tripA f h (.slice asv n csv) bv L true) := HN5.out.below hB9 (by omega)
        obtain ⟨-, ff, -, z2, l2⟩ := k9.facts
        have d38 : w9.cell? ⟨p, 38, none⟩ = some bv := (k9.cell 38).trans (tripA_at _ _ _ _ _ _).2.2.1
        have d39' : w9.cell? ⟨p, 39, none⟩ = some (.int .i64 L) := (k9.cell 39).trans (tripA_at _ _ _ _ _ _).2.2.2.1
        have d40' : w9.cell? ⟨p, 40, none⟩ = some (.bool true) := (k9.cell 40).trans (tripA_at _ _ _ _ _ _).2.2.2.2
        have m9 := ((k9.setCell 38 (.slice av' n cv')).setCell 39 (.int .i64 T)).setCell 40 (.bool true)
        rw [tripA_set] at m9
        have mO := ((hO9.setCell (a := ⟨p, 38, none⟩) (.inl (by simp)) (.slice av' n cv')).setCell (a := ⟨p, 39, none⟩) (.inl (by simp)) (.int .i64 T)).setCell (a := ⟨p, 40, none⟩) (.inl (by simp)) (.bool true)
        have hne : (Value.slice av' n cv').ownBlock ≠ some p := fun e => by have := own_far hown' p e; omega
        have mown := ownsRow_setCell_other (ownsRow_setCell_other (ownsRow_setCell_other hown' (a := ⟨p, 38, none⟩) hne (.slice av' n cv')) (a := ⟨p, 39, none⟩) hne (.int .i64 T)) (a := ⟨p, 40, none⟩) hne (.bool true)
        have HF := Lib.hid (And.intro m9 (And.intro mO mown))
        clear hown hown' hgrow hat hO9 hB9 k9 m9 mO mown hO5 d40 d39
        go_wp2_with fail
        refine bodyPost_ret (results_none rfl _ _ _) rfl ⟨⟨_, rfl⟩, HF.out.2.1, ?_⟩
        have hbm := HBM.out
        cases b with
        | none => cases hbm
        | some q =>
          obtain ⟨q, S⟩ := q
          have hlt' : tripT f h o < S := by rw [HT.out, ← hbm.2.1]; exact of_decide_eq_true hlt
          show TripSt _ _ _ _ _ (if tripT f h o < S then some (o, tripT f h o) else some (q, S))
          rw [if_pos hlt']
          exact ⟨_, T, true, HF.out.1, rfl, HT.out.symm, by rw [hom]; exact HF.out.2.2⟩
      · skip
        go_wp2_with fail
        refine bodyPost_ret (results_none rfl _ _ _) rfl ⟨⟨_, rfl⟩, hO5, ?_⟩
        have hbm := HBM.out
        cases b with
        | none => cases hbm
        | some q =>
          obtain ⟨q, S⟩ := q
          have hlt' : ¬ tripT f h o < S := by rw [HT.out, ← hbm.2.1]; exact of_decide_eq_false hlt
          show TripSt _ _ _ _ _ (if tripT f h o < S then some (o, tripT f h o) else some (q, S))
          rw [if_neg hlt']
          exact HST5.out
  | succ left ih =>
    intro o hol ho b gv cv Bo w hst hsv hsp hv hvp
    obtain ⟨asv, csv, rfl⟩ := own_slice hsv
    obtain ⟨m, hom⟩ : ∃ m, o.length = m := ⟨_, rfl⟩
    rw [hom] at hv ⊢
    have hmn : m < n := by omega
    obtain ⟨bv, L, F, hH, hbm⟩ := hst
    have HH := Lib.hid hH
    have HBM := Lib.hid hbm
    have HV := Lib.hid hv
    have HSV := Lib.hid hsv
    have HVP := Lib.hid hvp
    have HO := Lib.hid ho
    obtain ⟨x36, x37, x38, x39, x40⟩ := tripA_at f h (.slice asv n csv) bv L F
    have c36 : w.cell? ⟨p, 36, none⟩ = some (.int .i64 h) := (hH.cell 36).trans x36
    have c37 : w.cell? ⟨p, 37, none⟩ = some (.slice asv n csv) := (hH.cell 37).trans x37
    have c39 : w.cell? ⟨p, 39, none⟩ = some (.int .i64 L) := (hH.cell 39).trans x39
    have c40 : w.cell? ⟨p, 40, none⟩ = some (.bool F) := (hH.cell 40).trans x40
    obtain ⟨A, hA⟩ : ∃ A, (goT f h o).2 = A := ⟨_, rfl⟩
    obtain ⟨S0, hS0⟩ : ∃ S, (goT f h o).1 = S := ⟨_, rfl⟩
    rw [hS0]
    have HA := Lib.hid hA
    have HS0 := Lib.hid hS0
    have hGL := goT_last f h o
    rw [hA] at hGL
    have HGL := Lib.hid hGL
    clear hH hbm hv hsv hvp ho hA hS0 hGL x36 x37 x38 x39 x40
    go_enter Try.func124, Try.ntmps124
    go_upto_if 16 with fail
    go_cut [6] from 17 to 22 (fun x wx => x = .int .i64 A ∧ wx = w)
    case first =>
      rcases Nat.eq_zero_or_pos m with h0 | h0
      · subst h0
        have hd : decide ((0 : Int) < ((0 : Nat) : Int)) = false := by simp
        have HAE := Lib.hid (show (h : Int) = (A : Int) by
          have := HGL.out
          rw [List.length_eq_zero_iff.1 hom] at this
          rw [this]; rfl)
        go_wp2_with fail
        go_meet
        case rel => exact ⟨by rw [HAE.out], rfl⟩
      · obtain ⟨k, rfl⟩ : ∃ k, m = k + 1 := ⟨m - 1, by omega⟩
        have hd : decide ((0 : Int) < ((k + 1 : Nat) : Int)) = true := decide_eq_true (by omega)
        have e0 : w.cell? ⟨gv, k, none⟩ = some (.int .i64 A) := own_cell HV.out _ _ (by
          unfold ordV
          have h1 : o[k]? = some A := by
            have := HGL.out
            rw [List.getLast?_eq_getElem?, hom] at this
            have hk : o[k]? = some (o[k]'(by omega)) := List.getElem?_eq_getElem (by omega)
            rw [show k + 1 - 1 = k by omega, hk] at this
            rw [hk, this]; rfl
          rw [List.getElem?_map, h1]; rfl)
        have hw1 : wrap64 (((k + 1 : Nat) : Int) - 1) = (k : Int) := by unfold wrap64; omega
        go_wp2_with fail
        go_meet
        case rel => exact ⟨rfl, rfl⟩
    case rest =>
      obtain ⟨rfl, rfl⟩ := hcut
      have hA5 : A ≤ 5 := by
        rw [HGL.out]
        cases hl : o.getLast? with
        | none => simpa using hh
        | some x => exact HO.out x (List.mem_of_getLast? hl)
      have hneq : ((m : Int) == (n : Int)) = false := by simp; omega
      have hgb := goT_boundH hf hh m o hom HO.out
      rw [HS0.out] at hgb
      have HIH := Lib.hid ih
      have HF0 := Lib.hid (show fromT f h sm (left + 1) o b = sm.foldl (stepF f h sm left o) b from rfl)
      have HST := Lib.hid (show TripSt wc p f h (.slice asv n csv) b from ⟨bv, L, F, HH.out, HBM.out⟩)
      have HSM := Lib.hid hsm
      have HN := Lib.hid hn
      have HSP := Lib.hid hsp
      have HHF := Lib.hid hf
      have HPL := Lib.hid HH.out.lt
      clear ih c36 c39 c40 HH HBM hsm hn hsp hf
      go_wp2_with fail
      go_loopw [8, 9] (fun j _ wr => ∃ i : Nat, i ≤ n ∧ j = .int .i64 i ∧ Only [p] wc wr ∧ TripSt wr p f h (.slice asv n csv) ((sm.take i).foldl (stepF f h sm left o) b)) (fun j _ _ => n - (intOf j).toNat)
      case atStart => exact ⟨0, by omega, rfl, Only.refl _ _, by rw [List.take_zero]; exact HST.out⟩
      case round =>
        obtain ⟨i, hi, rfl, hO, hst⟩ := hrel
        clear c37
        obtain ⟨b', hb'⟩ : ∃ b', (sm.take i).foldl (stepF f h sm left o) b = b' := ⟨_, rfl⟩
        rw [hb'] at hst
        have HB' := Lib.hid hb'
        have HSTW := Lib.hid hst
        obtain ⟨bv', L', F', hH, hbm⟩ := hst
        have HO1 := Lib.hid hO
        have HH := Lib.hid hH
        have c37 : wr.cell? ⟨p, 37, none⟩ = some (.slice asv n csv) := (hH.cell 37).trans (tripA_at _ _ _ _ _ _).2.1
        clear hb' hO hH hbm
        by_cases hlt : i < n
        · have hd : decide ((i : Int) < (n : Int)) = true := by simp; omega
          obtain ⟨x, hx⟩ : ∃ x, sm[i]? = some x := ⟨_, List.getElem?_eq_getElem (by rw [HN.out]; exact hlt)⟩
          have hx5 := HSM.out x (List.mem_of_getElem? hx)
          have hstep : (sm.take (i + 1)).foldl (stepF f h sm left o) b = stepF f h sm left o b' x := by
            rw [List.take_add_one, hx, List.foldl_append, HB'.out]; rfl
          have HSTEP := Lib.hid hstep
          have hSVw := HO1.out.own HSV.out (fun z hz => by have := HSP.out z hz; simp; exact this)
          have hVw := HO1.out.own HV.out (fun z hz => by simp [Value.ownBlock] at hz; have := HVP.out; simp; omega)
          obtain ⟨gs, cs', he, -, -⟩ := own_form hSVw (by omega)
          simp only [Value.slice.injEq] at he
          obtain ⟨rfl, -, rfl⟩ := he
          have e0 : wr.cell? ⟨gs, i, none⟩ = some (.int .i64 x) := own_cell hSVw _ _ (by unfold ordV; rw [List.getElem?_map, hx]; rfl)
          have HHAS := Lib.hid (l00Has_any o x m hom (by omega) (by omega) (fun y hy => by have := HO.out y hy; omega) Bo _ wr hVw)
          have HVW := Lib.hid hVw
          have HSVW := Lib.hid hSVw
          clear hx hstep hSVw hVw
          go_wp2_with fail
          refine HHAS.out.mono ?_
          rintro e w2 ⟨rfl, hw2⟩
          rw [hw2]
          clear hw2 w2
          by_cases hc : o.contains x = true
          · have HS2 := Lib.hid (show (sm.take (i + 1)).foldl (stepF f h sm left o) b = b' by rw [HSTEP.out]; unfold stepF; rw [if_pos hc])
            simp only [hc]
            clear hc
            go_wp2_with fail
            go_roundw
            case rel => exact ⟨i + 1, by omega, by go_num, HO1.out, by rw [HS2.out]; exact HSTW.out⟩
            case measure => simp [intOf]; omega
          · have hcf : o.contains x = false := by simpa using hc
            have HS2 := Lib.hid (show (sm.take (i + 1)).foldl (stepF f h sm left o) b = fromT f h sm left (o ++ [x]) b' by rw [HSTEP.out]; unfold stepF; rw [if_neg hc])
            simp only [hcf]
            clear hc hcf
            go_wp2_with fail
            have htb := HHF.out A x (by omega) (by omega)
            obtain ⟨D, hD⟩ : ∃ D, f A x = D := ⟨_, rfl⟩
            rw [hD] at htb
            have HDD := Lib.hid hD
            have hwS : wrap64 (S0 + D) = S0 + D := by unfold wrap64; omega
            have HT := Lib.hid (show (goT f h (o ++ [x])).1 = S0 + D by rw [goT_snoc, HS0.out, HA.out, HDD.out])
            have hA6 : (A : Int) < 6 := by omega
            have hx6 : (x : Int) < 6 := by omega
            have hA0 : (0 : Int) ≤ (A : Int) := by omega
            have hx0 : (0 : Int) ≤ (x : Int) := by omega
            have HX := Lib.hid (show ∀ w', Below wr.heap.size wr w' → w'.cell? ⟨p, A * 6 + x, none⟩ = some (.int .i64 D) from fun w' hw' =>
              ((HH.out.below hw' HH.out.lt).cell (A * 6 + x)).trans (by rw [tripA_tab _ _ _ _ _ _ (by omega) (by omega), HDD.out]))
            obtain ⟨ci, hci, hz0, hz1, hz2⟩ := info_parts i64I
            have HCI := Lib.hid (show Try.prog.info? 2 = some ci ∧ ci.zero = some (.int .i64 0) ∧ ci.size = 1 ∧ ci.bytes = 8 from ⟨hci, hz0, hz1, hz2⟩)
            have HOL := Lib.hid (show (ordV o).length = m * 1 by unfold ordV; rw [List.length_map, hom]; omega)
            have HOX := Lib.hid (show ordV (o ++ [x]) = ordV o ++ [.int .i64 x] by simp [ordV])
            clear hD htb hci hz0 hz1 hz2 c37 e0 hneq
            refine wp_region_growW 17 6 [fun _ => .pointer (some ⟨p, 0, none⟩), fun q => q, fun _ => .slice (some ⟨gv, 0, none⟩) m cv, fun q => q, fun _ => .int .i64 x, fun q => q, fun q => q, fun _ => .int .i64 S0, fun _ => .pointer (some ⟨p, 0, none⟩), fun _ => .int .i64 A, fun _ => .int .i64 x, fun _ => .pointer (some ⟨p, 0, none⟩), fun _ => .pointer (some ⟨p, 0, none⟩), fun _ => .pointer (some ⟨p, A * 6, none⟩), fun _ => .pointer (some ⟨p, A * 6 + x, none⟩), fun _ => .int .i64 D, fun _ => .int .i64 (S0 + D)]
              [fun _ _ => True, fun q w' => ∃ g, q = .slice (some ⟨g, 0, none⟩) 0 0 ∧ w'.ownsRow wr.heap.size 2 1 q 0 [], fun _ _ => True, fun q w' => w'.ownsRow wr.heap.size 2 1 q m (ordV o), fun _ _ => True, fun q w' => ∃ g, q = .slice (some ⟨g, 0, none⟩) 1 1 ∧ Holds w' g #[.int .i64 x], fun q w' => w'.ownsRow wr.heap.size 2 1 q (m + 1) (ordV (o ++ [x]))]
              [[], [], [], [1], [], [], [3, 5]] ?_ (by kernel_rfl) (by kernel_rfl) (by kernel_rfl) (by kernel_rfl) ?_
            · intro j q w1 w2 h1 hb
              match j with
              | 0 => trivial
              | 1 => obtain ⟨g, e, ho⟩ := h1; exact ⟨g, e, own_below ho hb⟩
              | 2 => trivial
              | 3 => exact own_below h1 hb
              | 4 => trivial
              | 5 => obtain ⟨g, e, ho⟩ := h1; exact ⟨g, e, ho.below hb ho.lt⟩
              | 6 => exact own_below h1 hb
              | j + 7 => exact trivial
            intro sv
            simp only [List.take_succ_cons, List.take_zero, List.drop_succ_cons, List.drop_zero]
            refine seqW_lit rfl rfl (fun _ => rfl) (fun _ _ => trivial) ?_ ?_
            · intro w' hw' _ K hK
              go_wp2_with fail
              exact hK _ _ rfl (Below.refl _ _)
            simp only [Act.put, List.setIfInBounds_toArray, List.set_cons_succ, List.set_cons_zero]
            refine seqW_val rfl rfl (fun _ => rfl) ?_ ?_
            · intro w' hw' _ K hK
              have HM1 := Lib.hid (ownsRow_low (World.ownsRow_made (e := 2) (size := 1) w' #[] 0 (Nat.le_refl w'.heap.size) (by simp [maxLen]) rfl) hw'.size)
              go_wp2_with fail
              exact hK _ _ _ rfl ((Below.refl _ _).alloc (Nat.le_refl _) _) ⟨_, rfl, HM1.out⟩
            simp only [Act.put, List.setIfInBounds_toArray, List.set_cons_succ, List.set_cons_zero]
            refine seqW_lit rfl rfl (fun _ => rfl) (fun _ _ => trivial) ?_ ?_
            · intro w' hw' _ K hK
              go_wp2_with fail
              exact hK _ _ rfl (Below.refl _ _)
            simp only [Act.put, List.setIfInBounds_toArray, List.set_cons_succ, List.set_cons_zero]
            refine seqW_val rfl rfl (fun _ => rfl) ?_ ?_
            · intro w' hw' hd K hK
              obtain ⟨g, e, ho⟩ := hd 1 (by simp)
              obtain ⟨v', w'', hrun, ho', hb⟩ := append_empty (P := Try.prog) w' wr.heap.size hw'.size 56 56 2 ci (.int .i64 0) 1 8 Try.underlying56 HCI.out.1 HCI.out.2.1 HCI.out.2.2.1 HCI.out.2.2.2 rfl (by decide) g (e ▸ ho) ⟨gv, 0, none⟩ m cv (ordV o) HOL.out
                (fun j u hu => by have h9 := own_cell (own_below HVW.out hw') j u hu; by_cases h0 : j = 0 <;> simpa [Addr.add, h0] using h9)
                (fun z hz => by unfold ordV at hz; simp only [List.mem_map] at hz; obtain ⟨y, -, rfl⟩ := hz; rfl) (by unfold maxLen; omega) (by omega)
              rw [← e] at hrun
              exact op_append rfl rfl rfl hrun (hK v' _ _ rfl hb ho')
            simp only [Act.put, List.setIfInBounds_toArray, List.set_cons_succ, List.set_cons_zero]
            refine seqW_lit rfl rfl (fun _ => rfl) (fun _ _ => trivial) ?_ ?_
            · intro w' hw' _ K hK
              go_wp2_with fail
              exact hK _ _ rfl (Below.refl _ _)
            simp only [Act.put, List.setIfInBounds_toArray, List.set_cons_succ, List.set_cons_zero]
            refine seqW_val rfl rfl (fun _ => rfl) ?_ ?_
            · intro w' hw' _ K hK
              go_wp2_with fail
              exact hK _ _ _ rfl ((Below.refl _ _).alloc (Nat.le_refl _) _) ⟨_, rfl, Holds.new _ _ _⟩
            simp only [Act.put, List.setIfInBounds_toArray, List.set_cons_succ, List.set_cons_zero]
            refine seqW_write rfl rfl (fun _ => rfl) ?_ ?_
            · intro w' hw' hd K hK
              have h3 := hd 3 (by simp)
              obtain ⟨g5, e5, hh5⟩ := hd 5 (by simp)
              obtain ⟨v', w'', hrun, ho', hgr, -⟩ := run_append_own (P := Try.prog) w' wr.heap.size 56 56 2 ci (.int .i64 0) 1 8 Try.underlying56 HCI.out.1 HCI.out.2.1 HCI.out.2.2.1 HCI.out.2.2.2 rfl (by decide) (sv 3) m (ordV o) h3 ⟨g5, 0, none⟩ 1 1 [.int .i64 x] rfl
                (fun j u hu => by
                  match j, hu with
                  | 0, hu => simp at hu; subst hu; exact hh5.cell 0)
                (fun z hz => by simp at hz; subst hz; rfl) (by unfold maxLen; omega) (by omega) hw'.size
              rw [← e5] at hrun
              refine op_append rfl rfl rfl hrun (hK v' _ _ rfl (hw'.grown hgr hw'.size (fun k hk => own_far h3 k hk)) ?_)
              show w''.ownsRow _ _ _ _ _ (ordV (o ++ [x]))
              rw [HOX.out]
              exact ho'
            simp only [Act.put, List.setIfInBounds_toArray, List.set_cons_succ, List.set_cons_zero]
            iterate 10
              refine seqW_lit rfl rfl (fun _ => rfl) (fun _ _ => trivial) ?_ ?_
              · intro w' hw' _ K hK
                have f1 := HX.out _ hw'
                go_wp2_with fail
                exact hK _ _ rfl (Below.refl _ _)
              simp only [Act.put, List.setIfInBounds_toArray, List.set_cons_succ, List.set_cons_zero]
            refine seqW_nil ?_
            intro w' hw' h6
            obtain ⟨g6, c6, e6, hg61, hg62⟩ := own_form (show w'.ownsRow wr.heap.size 2 1 (sv 6) (m + 1) (ordV (o ++ [x])) from h6) (by omega)
            have h6' : w'.ownsRow wr.heap.size 2 1 (.slice (some ⟨g6, 0, none⟩) (m + 1) c6) (m + 1) (ordV (o ++ [x])) := e6 ▸ h6
            rw [e6]
            have hlen : (o ++ [x]).length = m + 1 := by rw [List.length_append, hom]; rfl
            have hC := HIH.out (o ++ [x]) (by rw [hlen]; omega) (fun y hy => by
              rcases List.mem_append.1 hy with hy | hy
              · exact HO.out y hy
              · rw [List.mem_singleton.1 hy]; exact hx5) b' g6 c6 wr.heap.size w' (HSTW.out.below hw') (own_below HSVW.out hw') HSP.out (by rw [hlen]; exact h6') (by have := HH.out.lt; omega)
            rw [hlen, HT.out] at hC
            have HCC := Lib.hid hC
            have HO2 := Lib.hid (HO1.out.onto hw')
            clear hC hlen h6 h6' e6 hw' HX HIH HCI
            go_wp2_with fail
            refine HCC.out.mono ?_
            rintro e w2 ⟨⟨uu, rfl⟩, hO2, hst2⟩
            have HO3 := Lib.hid (HO2.out.trans hO2)
            have HST3 := Lib.hid hst2
            clear hO2 hst2
            go_wp2_with fail
            go_roundw
            case rel => exact ⟨i + 1, by omega, by go_num, HO3.out, by rw [HS2.out]; exact HST3.out⟩
            case measure => simp [intOf]; omega
        · have hin : i = n := by omega
          subst hin
          have hd : decide ((i : Int) < (i : Int)) = false := by simp
          have HE := Lib.hid (show b' = fromT f h sm (left + 1) o b by rw [HF0.out, ← HB'.out, List.take_of_length_le (by rw [HN.out]; omega)])
          go_wp2_with fail
          go_end0
          exact ⟨⟨_, rfl⟩, HO1.out, by rw [← HE.out]; exact HSTW.out⟩
end Go.Proofs.Ytaeenkjbmlgcmaa

namespace Go.Proofs.Ytaeenkjbmlgcmaa
open Go.RowKit
set_option linter.unusedVariables false
set_option linter.unusedSimpArgs false

def tab36 (g : Nat → Nat → Int) : Array Value := (tabL g).toArray
@[simp, go_sem] theorem tab36_size (g : Nat → Nat → Int) : (tab36 g).size = 36 := by simp [tab36]
theorem tab36_get (g : Nat → Nat → Int) {i j : Nat} (hi : i < 6) (hj : j < 6) : (tab36 g)[i * 6 + j]? = some (.int .i64 (g i j)) := by
  unfold tab36 tabL
  rw [List.getElem?_toArray, List.getElem?_map, List.getElem?_range (by omega)]
  have h1 : (i * 6 + j) / 6 = i := by omega
  have h2 : (i * 6 + j) % 6 = j := by omega
  simp [h1, h2]
@[go_sem] theorem tab36_all (g : Nat → Nat → Int) : (tab36 g).extract 0 36 = tab36 g := by
  rw [show (36 : Nat) = (tab36 g).size by simp, Array.extract_size]
@[go_sem] theorem tab36_ones (g : Nat → Nat → Int) : Ones (tab36 g) = true := by
  refine of_ones fun v hv => ?_
  simp only [tab36, tabL, List.mem_map, List.mem_range] at hv
  obtain ⟨j, _, rfl⟩ := hv
  rfl
theorem tab36_ext {g g' : Nat → Nat → Int} (h : ∀ y x, y < 6 → x < 6 → g y x = g' y x) : tab36 g = tab36 g' := by
  unfold tab36 tabL
  congr 1
  apply List.map_congr_left
  intro j hj
  have : j < 36 := by simpa using hj
  rw [h (j / 6) (j % 6) (by omega) (by omega)]
theorem tab36_set (g : Nat → Nat → Int) (y x : Nat) (v : Int) (hy : y < 6) (hx : x < 6) : (tab36 g).setIfInBounds (y * 6 + x) (.int .i64 v) = tab36 (upd g y x v) := by
  apply Array.ext_getElem?
  intro j
  rw [Array.getElem?_setIfInBounds]
  by_cases hj : j < 36
  · have e1 : ∀ g', (tab36 g')[j]? = some (.int .i64 (g' (j / 6) (j % 6))) := fun g' => by
      have := tab36_get g' (i := j / 6) (j := j % 6) (by omega) (by omega)
      rwa [show j / 6 * 6 + j % 6 = j by omega] at this
    rw [e1, e1]
    by_cases e : y * 6 + x = j
    · subst e
      rw [if_pos rfl, if_pos (by simp; omega)]
      simp [upd, show (y * 6 + x) / 6 = y by omega, show (y * 6 + x) % 6 = x by omega]
    · rw [if_neg e]
      have hne : ¬ (j / 6 = y ∧ j % 6 = x) := fun h => e (by omega)
      simp [upd, hne]
  · rw [if_neg (by omega), Array.getElem?_eq_none (by simp; omega), Array.getElem?_eq_none (by simp; omega)]
@[go_sem] theorem wideT36 : wideB Try.prog 123 36 = true := by kernel_rfl
section
variable (ρ : Operand → Value) (dst : Option Tmp) (x y z : Operand) (t : TypeId) (pos : String) (aft : Array Edge) (g : Option (Nat × Bool)) (w : World)
theorem loadT36 : (execOp ρ ⟨dst, .load 123 x, t, pos, aft, g⟩).run Try.prog w = opLoad Try.prog 123 36 (ρ x) w := rfl
theorem storeT36 : (execOp ρ ⟨dst, .store 123 x y, t, pos, aft, g⟩).run Try.prog w = opStore Try.prog 123 36 (ρ x) (ρ y) w := rfl
set_option maxRecDepth 100000 in
theorem allocT36 : (execOp ρ ⟨dst, .alloc 123, t, pos, aft, g⟩).run Try.prog w = .ok (.value (.pointer (some ⟨w.heap.size, 0, none⟩))) (w.alloc (.cells (tab36 fun _ _ => 0) 123)) := by kernel_rfl
set_option maxRecDepth 100000 in
theorem buildT36 : (execOp ρ ⟨dst, .build 123 #[], t, pos, aft, g⟩).run Try.prog w = .ok (.value (.agg (tab36 fun _ _ => 0))) w := by kernel_rfl
set_option maxRecDepth 100000 in
theorem buildTrip : (execOp ρ ⟨dst, .build 193 #[(0, x), (1, y), (2, z)], t, pos, aft, g⟩).run Try.prog w = opBuild Try.prog 193 #[(0, ρ x), (1, ρ y), (2, ρ z)] w := by kernel_rfl
end
@[go_sem] theorem splice_t36 (g g' : Nat → Nat → Int) : splice (tab36 g) 0 (tab36 g') = tab36 g' := splice_all _ _ (by simp)
set_option maxRecDepth 100000 in
theorem buildTrip_at (f : Nat → Nat → Int) (h : Nat) (a : Option Addr) (n c : Nat) (w : World) : opBuild Try.prog 193 #[(0, .agg (tab36 f)), (1, .int .i64 h), (2, .slice a n c)] w = .ok (.value (.agg (tripA f h (.slice a n c) (.slice none 0 0) 0 false))) w := opBuild_of (by kernel_rfl) w
attribute [local go_sem ↓] loadT36 storeT36 allocT36 buildT36 buildTrip
attribute [local go_sem] buildTrip_at tripA_size

set_option maxRecDepth 100000 in
set_option maxHeartbeats 4000000 in
theorem lBest_any (f : Nat → Nat → Int) (h : Nat) (hh : h ≤ 5) (hf : ∀ i j, i < 6 → j < 6 → 0 ≤ f i j ∧ f i j < 100) (sm : List Nat) (n : Nat) (hn : sm.length = n) (hn5 : n ≤ 5) (hsm : ∀ x ∈ sm, x ≤ 5) (hsub : sm ∈ subs5) (g : Nat) (sv : Value) (Bs : Nat) (w : World) (hg : Holds w g (tab36 f)) (hsv : w.ownsRow Bs 2 1 sv n (ordV sm)) :
    Calls Try.prog 80 #[.pointer (some ⟨g, 0, none⟩), .int .i64 h, sv] w fun e w' => (∃ u, e = .returned (.tuple #[u, .int .i64 (bestOf5 f h sm).2]) ∧ w'.ownsRow w.heap.size 2 1 u n (ordV (bestOf5 f h sm).1)) ∧ Below w.heap.size w w' := by
  obtain ⟨asv, csv, rfl⟩ := own_slice hsv
  have HFR := Lib.hid (fun (p gv cv Bo : Nat) (w : World) (hst : TripSt w p f h (.slice asv n csv) none) (hsv : w.ownsRow Bs 2 1 (.slice asv n csv) n (ordV sm)) (hsp : ∀ k, (Value.slice asv n csv).ownBlock = some k → k ≠ p) (hv : w.ownsRow Bo 2 1 (.slice (some ⟨gv, 0, none⟩) 0 cv) 0 []) (hvp : gv ≠ p) => from_any f h hh hf sm n hn hn5 hsm p (.slice asv n csv) Bs n [] (by simp) (by simp) none gv cv Bo w hst hsv hsp hv hvp)
  have hfb : fromT f h sm n [] none = some (bestOf5 f h sm) := by rw [fromT_is, ← best_is hsub]; unfold permsL; rw [hn]
  rw [hfb] at HFR
  have hgo : (goT f h []).1 = 0 := rfl
  simp only [List.length_nil, hgo] at HFR
  have hlen := (best_mem (tb := f) (n := h) hsub).1
  rw [hn] at hlen
  obtain ⟨⟨q, S⟩, hqS⟩ : ∃ q, bestOf5 f h sm = q := ⟨_, rfl⟩
  rw [hqS] at HFR hlen ⊢
  dsimp only at hlen ⊢
  have HLEN := Lib.hid hlen
  have HSV := Lib.hid hsv
  have hsl : ∀ k, (Value.slice asv n csv).ownBlock = some k → k < w.heap.size := fun k hk => (hsv.lt k hk).2
  have HSL := Lib.hid hsl
  have hrow := hg.row
  have HG := Lib.hid hg
  obtain ⟨s, hs⟩ : ∃ s, w.heap.size = s := ⟨_, rfl⟩
  obtain ⟨W0, hW0⟩ : ∃ W0, w.alloc (.cells (tripA f h (.slice asv n csv) (.slice none 0 0) 0 false) 193) = W0 := ⟨_, rfl⟩
  have hw : Below s w W0 := by rw [← hW0, ← hs]; exact (Below.refl _ _).alloc (Nat.le_refl _) _
  have h0 : Holds W0 s (tripA f h (.slice asv n csv) (.slice none 0 0) 0 false) := by rw [← hW0, ← hs]; exact Holds.new _ _ _
  have hsz : W0.heap.size = s + 1 := by rw [← hW0, ← hs]; simp
  have HB := Lib.hid hw
  have HH := Lib.hid h0
  have HZ := Lib.hid hsz
  have HS := Lib.hid hs
  rw [hs]
  clear hfb hqS hsv hg hsl hlen hw h0 hsz
  go_enter Try.func80, Try.ntmps80
  go_wp2_with fail
  have hpl := HH.out.lt
  have hne0 : s + 1 ≠ s := by omega
  have HM1 := Lib.hid (World.ownsRow_made (e := 2) (size := 1) W0 #[] 0 (Nat.le_refl W0.heap.size) (by simp [maxLen]) rfl)
  have hst : TripSt (W0.alloc (.cells #[] 2)) s f h (.slice asv n csv) none := ⟨_, _, _, HH.out.alloc _, rfl⟩
  have hso : (W0.alloc (.cells #[] 2)).ownsRow Bs 2 1 (.slice asv n csv) n (ordV sm) := own_below (own_below HSV.out (by rw [HS.out]; exact HB.out)) ((Below.refl _ _).alloc (Nat.le_refl _) _)
  refine (HFR.out s W0.heap.size 0 W0.heap.size _ hst hso (fun k hk => by have := HSL.out k hk; have := HS.out; omega) HM1.out (by have := HZ.out; omega)).mono ?_
  rintro e w2 ⟨⟨u, rfl⟩, hO, hst2⟩
  obtain ⟨bv, L, F, hH, hF, hL, hown⟩ := hst2
  rw [hF, hL] at hH
  clear hF hL
  have hb2 : Below s w w2 := (HB.out.alloc (by omega) _).trans (hO.toBelow (B := s) (fun k hk => by simp at hk; omega) (by simp; omega))
  rw [HLEN.out] at hown
  obtain ⟨ab, cb, rfl⟩ := own_slice hown
  have HFIN := Lib.hid (And.intro (ownsRow_low hown (show s ≤ s + 1 by omega)) hb2)
  have HX := Lib.hid (show ∀ w', Below w2.heap.size w2 w' → w'.cell? ⟨s, 38, none⟩ = some (.slice ab n cb) ∧ w'.cell? ⟨s, 39, none⟩ = some (.int .i64 S) from fun w' hw' =>
    have hk := hH.below hw' hH.lt
    ⟨(hk.cell 38).trans (tripA_at _ _ _ _ _ _).2.2.1, (hk.cell 39).trans (tripA_at _ _ _ _ _ _).2.2.2.1⟩)
  have hsz2 := hH.lt
  clear hH hown hb2 hO hst hso hW0 hs hrow
  go_wp2_with fail
  refine wp_region_grow 9 (by kernel_rfl) (by kernel_rfl) ?_
  simp only [List.take_succ_cons, List.take_zero, List.drop_succ_cons, List.drop_zero]
  iterate 9
    apply wpGrow_plain rfl
    · intro w' hw' K hK
      obtain ⟨f1, f2⟩ := HX.out _ hw'
      go_wp2_with fail
      exact hK _ _ rfl hw'
    simp only [Act.put, List.setIfInBounds_toArray, List.set_cons_succ, List.set_cons_zero]
  refine wpGrow_nil ?_
  intro W5 hW5
  go_wp2_with fail
  go_ret2
  exact ⟨⟨_, rfl, own_below HFIN.out.1 hW5⟩, HFIN.out.2.trans (hW5.mono (by omega))⟩
end Go.Proofs.Ytaeenkjbmlgcmaa
