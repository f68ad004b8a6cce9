/- DriestSpell, of the program and of the model. -/
import Derived.Test.YtbcbokpdcliimaaIValidW
import Derived.WalkMore
namespace Go.Proofs.Ytbcbokpdcliimaa
open Go.RowKit
set_option linter.unusedVariables false

/-- Days behind each other are dry. -/
def Dry (zs : List Int) (f l : Nat) : Prop := ∀ i, f ≤ i → i < f + l → rainZ zs i ≤ 0
/-- Of the spells in Q, this is the longest, and of these the first. -/
structure Spell (zs : List Int) (Q : Nat → Nat → Prop) (f l : Nat) : Prop where
  dry : Dry zs f l
  best : ∀ g k, Q g k → Dry zs g k → k ≤ l ∧ (k = l → 0 < k → f ≤ g)
  none : l = 0 → f = 0
/-- How many days up to i were dry. -/
structure RunAt (zs : List Int) (i lg : Nat) : Prop where
  le : lg ≤ i
  dry : ∀ j, i - lg ≤ j → j < i → rainZ zs j ≤ 0
  max : ∀ g, g ≤ i → (∀ j, g ≤ j → j < i → rainZ zs j ≤ 0) → i - g ≤ lg
theorem RunAt.wet {zs : List Int} {i lg : Nat} (h : RunAt zs i lg) (hr : ¬ rainZ zs i ≤ 0) : RunAt zs (i + 1) 0 :=
  ⟨by omega, fun j h1 h2 => by omega, fun g hg hd => by
    rcases Nat.lt_or_ge i g with h' | h'
    · omega
    · exact absurd (hd i h' (by omega)) hr⟩
theorem RunAt.dryDay {zs : List Int} {i lg : Nat} (h : RunAt zs i lg) (hr : rainZ zs i ≤ 0) : RunAt zs (i + 1) (lg + 1) :=
  ⟨by have := h.le; omega, fun j h1 h2 => by
    by_cases e : j = i
    · subst e; exact hr
    · exact h.dry j (by omega) (by omega), fun g hg hd => by
    rcases Nat.lt_or_ge i g with h' | h'
    · omega
    · have := h.max g h' (fun j a b => hd j a (by omega)); omega⟩
theorem Spell.up {zs : List Int} {i f l lg : Nat} (h : Spell zs (fun g k => g + k ≤ i) f l) (r : RunAt zs (i + 1) lg) (hl : l < lg) : Spell zs (fun g k => g + k ≤ i + 1) (i + 1 - lg) lg :=
  ⟨fun j h1 h2 => r.dry j h1 (by have := r.le; omega), fun g k hq hd => by
    by_cases e : g + k ≤ i
    · have := h.best g k e hd; omega
    · have := r.max g (by omega) (fun j a b => hd j a (by omega))
      refine ⟨by omega, fun _ _ => by omega⟩, fun e => by omega⟩
theorem Spell.stay {zs : List Int} {i f l lg : Nat} (h : Spell zs (fun g k => g + k ≤ i) f l) (r : RunAt zs (i + 1) lg) (hl : ¬ l < lg) (hfl : f + l ≤ i) : Spell zs (fun g k => g + k ≤ i + 1) f l :=
  ⟨h.dry, fun g k hq hd => by
    by_cases e : g + k ≤ i
    · exact h.best g k e hd
    · have := r.max g (by omega) (fun j a b => hd j a (by omega))
      refine ⟨by omega, fun _ _ => by omega⟩, h.none⟩
theorem spell_ex (zs : List Int) : ∀ i, ∃ f l lg, Spell zs (fun g k => g + k ≤ i) f l ∧ f + l ≤ i ∧ RunAt zs i lg ∧ lg ≤ l
  | 0 => ⟨0, 0, 0, ⟨fun j h1 h2 => by omega, fun g k hq _ => by omega, fun _ => rfl⟩, by omega, ⟨by omega, fun j h1 h2 => by omega, fun g hg _ => by omega⟩, by omega⟩
  | i + 1 => by
    obtain ⟨f, l, lg, h1, h2, h3, h4⟩ := spell_ex zs i
    by_cases hr : rainZ zs i ≤ 0
    · have r := h3.dryDay hr
      by_cases e : l < lg + 1
      · exact ⟨_, _, _, h1.up r e, by have := r.le; omega, r, by omega⟩
      · exact ⟨_, _, _, h1.stay r e h2, by omega, r, by omega⟩
    · have r := h3.wet hr
      exact ⟨_, _, _, h1.stay r (by omega) h2, by omega, r, by omega⟩
theorem spell_one {zs : List Int} {N f l f' l' : Nat} (h : Spell zs (fun g k => g + k ≤ N) f l) (hf : f + l ≤ N) (h' : Spell zs (fun g k => g < N ∧ g + k ≤ N) f' l') (hf' : f' + l' ≤ N) : f' = f ∧ l' = l := by
  rcases Nat.eq_zero_or_pos l' with e' | e'
  · rcases Nat.eq_zero_or_pos l with e | e
    · exact ⟨by rw [h.none e, h'.none e'], by omega⟩
    · have := h'.best f l ⟨by omega, hf⟩ h.dry; omega
  · have h1 := h.best f' l' hf' h'.dry
    have h2 := h'.best f l ⟨by omega, hf⟩ h.dry
    omega
def spellC (l : Nat) : Int := if l = 0 then 6 else 0

set_option maxRecDepth 100000 in
set_option maxHeartbeats 1000000 in
theorem specDriest_any (B N : Nat) (v : Value) (hN : N ≤ 2000000) (zs : List Int) (hz : zs.length = N * 2) (hzr : ∀ z ∈ zs, -128 ≤ z ∧ z ≤ 127) (hm : FirstNo (dayP zs) N N) (f l : Nat) (hs : Spell zs (fun g k => g + k ≤ N) f l) (hsf : f + l ≤ N) (w : World) (ho : w.ownsRow B 40 2 v N (intsV .i8 zs)) :
    Calls Try.prog 37 #[v] w fun e w' => e = .returned (.tuple #[.int .i64 f, .int .i64 l, .int .i64 (spellC l)]) ∧ Below w.heap.size w w' := by
  have hK := l03Ok_any B N v hN zs hz hzr N hm w ho
  rw [decide_eq_true (rfl : N = N)] at hK
  have HK := Lib.hid hK
  have HS := Lib.hid (And.intro hs hsf)
  obtain ⟨av, cv, rfl⟩ := own_slice ho
  have HZ := Lib.hid (show ∀ i, i < N → zs[i * 2]? = some (rainZ zs i) from fun i hi => by simp [rainZ, List.getElem?_eq_getElem (show i * 2 < zs.length by omega)])
  have HO := Lib.hid ho
  have h30 := ((first_all hm).1 rfl).1
  clear ho hm hz hzr hK hs hsf
  go_enter Try.func37, Try.ntmps37
  go_wp2_with fail
  refine HK.out.mono ?_
  rintro e w1 ⟨rfl, hb1⟩
  go_wp2_with fail
  go_loopw [5, 6, 7, 8] (fun b m lo i wr => ∃ k b' m' g : Nat, k ≤ N ∧ i = .int .i64 k ∧ b = .int .i64 b' ∧ m = .int .i64 m' ∧ lo = .int .i64 g ∧ Spell zs (fun g k' => g + k' ≤ k) b' m' ∧ b' + m' ≤ k ∧ RunAt zs k g ∧ g ≤ m' ∧ Below w.heap.size w wr) (fun _ _ _ i _ => N - (intOf i).toNat)
  case atStart => exact ⟨0, 0, 0, 0, by omega, rfl, rfl, rfl, rfl, ⟨fun j h1 h2 => by omega, fun g k hq _ => by omega, fun _ => rfl⟩, by omega, ⟨by omega, fun j h1 h2 => by omega, fun g hg _ => by omega⟩, by omega, hb1⟩
  case round =>
    obtain ⟨k, b', m', g, hk, rfl, rfl, rfl, rfl, hsp, hle, hrn, hgm, hb⟩ := hrel
    have HP := Lib.hid (And.intro hsp hrn)
    clear hsp hrn
    by_cases hlt : k < N
    · have hd : decide ((k : Int) < (N : Int)) = true := by simp; omega
      have ho := own_below HO.out hb
      obtain ⟨ga, cap, he, hBg, hg⟩ := own_form ho (by omega)
      simp only [Value.slice.injEq, true_and] at he
      obtain ⟨rfl, rfl⟩ := he
      have c0 := own_cell ho _ _ (intsV_get (k := .i8) (HZ.out k hlt))
      obtain ⟨r, hr⟩ : ∃ r, rainZ zs k = r := ⟨_, rfl⟩
      have HR := Lib.hid hr
      rw [hr] at c0
      clear ho hr
      by_cases h0 : r ≤ 0
      · have hd0 : decide (0 < r) = false := by simp; omega
        have HRun := Lib.hid (HP.out.2.dryDay (by rw [HR.out]; exact h0))
        by_cases h1 : m' < g + 1
        · have hd1 : decide ((m' : Int) < (g : Int) + 1) = true := by simp; omega
          go_wp2_with fail
          go_roundw
          case rel => exact ⟨k + 1, k + 1 - (g + 1), g + 1, g + 1, by omega, by go_num, by have := HRun.out.le; go_num, by go_num, by go_num, HP.out.1.up HRun.out h1, by have := HRun.out.le; omega, HRun.out, by omega, hb⟩
          case measure => simp [intOf]; omega
        · have hd1 : decide ((m' : Int) < (g : Int) + 1) = false := by simp; omega
          go_wp2_with fail
          go_roundw
          case rel => exact ⟨k + 1, b', m', g + 1, by omega, by go_num, rfl, rfl, by go_num, HP.out.1.stay HRun.out h1 hle, by omega, HRun.out, by omega, hb⟩
          case measure => simp [intOf]; omega
      · have hd0 : decide (0 < r) = true := by simp; omega
        have HRun := Lib.hid (HP.out.2.wet (by rw [HR.out]; exact h0))
        have hd1 : decide ((m' : Int) < 0) = false := by simp
        go_wp2_with fail
        go_roundw
        case rel => exact ⟨k + 1, b', m', 0, by omega, by go_num, rfl, rfl, rfl, HP.out.1.stay HRun.out (by omega) hle, by omega, HRun.out, by omega, hb⟩
        case measure => simp [intOf]; omega
    · have hd : decide ((k : Int) < (N : Int)) = false := by simp; omega
      obtain rfl : k = N := by omega
      have h2 : b' = f ∧ m' = l := by
        have s1 := HP.out.1
        refine spell_one HS.out.1 HS.out.2 ⟨s1.dry, fun g k hq hd => s1.best g k hq.2 hd, s1.none⟩ hle
      obtain ⟨rfl, rfl⟩ := h2
      rcases Nat.eq_zero_or_pos m' with e | e
      · subst e
        obtain rfl := HS.out.1.none rfl
        go_wp2_with fail
        go_ret3
        exact ⟨rfl, hb⟩
      · have hd2 : decide ((m' : Int) = 0) = false := by simp; omega
        have HC := Lib.hid (show spellC m' = 0 by rw [spellC, if_neg (by omega)])
        go_wp2_with fail
        go_ret3
        exact ⟨by rw [HC.out]; rfl, hb⟩

set_option maxRecDepth 100000 in
theorem specDriest_bad (B N : Nat) (v : Value) (hN : N ≤ 2000000) (zs : List Int) (hz : zs.length = N * 2) (hzr : ∀ z ∈ zs, -128 ≤ z ∧ z ≤ 127) (m : Nat) (hm : FirstNo (dayP zs) N m) (hmN : m ≠ N) (w : World) (ho : w.ownsRow B 40 2 v N (intsV .i8 zs)) :
    Calls Try.prog 37 #[v] w fun e w' => e = .returned (.tuple #[.int .i64 0, .int .i64 0, .int .i64 1]) ∧ Below w.heap.size w w' := by
  have hK := l03Ok_any B N v hN zs hz hzr m hm w ho
  rw [decide_eq_false hmN] at hK
  have HK := Lib.hid hK
  obtain ⟨av, cv, rfl⟩ := own_slice ho
  clear ho hm hz hzr hK
  go_enter Try.func37, Try.ntmps37
  go_wp2_with fail
  refine HK.out.mono ?_
  rintro e w1 ⟨rfl, hb1⟩
  go_wp2_with fail
  go_ret3
  exact ⟨rfl, hb1⟩

set_option maxRecDepth 100000 in
set_option maxHeartbeats 1000000 in
theorem implDriest_bad (B N : Nat) (v : Value) (hN : N ≤ 2000000) (zs : List Int) (hz : zs.length = N * 2) (hzr : ∀ z ∈ zs, -128 ≤ z ∧ z ≤ 127) (m : Nat) (hm : FirstNo (dayP zs) N m) (hmN : m ≠ N) (w : World) (ho : w.ownsRow B 40 2 v N (intsV .i8 zs)) :
    Calls Try.prog 38 #[v] w fun e w' => e = .returned (.tuple #[.int .i64 0, .int .i64 0, .int .i64 1]) ∧ Below w.heap.size w w' := by
  have hK := implValidW_any B N v hN zs hz hzr m hm w ho
  rw [decide_eq_false hmN] at hK
  have HK := Lib.hid hK
  obtain ⟨av, cv, rfl⟩ := own_slice ho
  clear ho hm hz hzr hK
  go_enter Try.func38, Try.ntmps38
  go_wp2_with fail
  go_step3
  go_wp2_with fail
  refine HK.out.mono ?_
  rintro e w1 ⟨rfl, hb1⟩
  go_wp2_with fail
  try rw [Exit.noGoto_ret]
  go_ret3
  exact ⟨rfl, hb1⟩

set_option maxRecDepth 100000 in
set_option maxHeartbeats 2000000 in
theorem implDriest_any (B N : Nat) (v : Value) (hN : N ≤ 2000000) (zs : List Int) (hz : zs.length = N * 2) (hzr : ∀ z ∈ zs, -128 ≤ z ∧ z ≤ 127) (hm : FirstNo (dayP zs) N N) (f l : Nat) (hs : Spell zs (fun g k => g + k ≤ N) f l) (hsf : f + l ≤ N) (w : World) (ho : w.ownsRow B 40 2 v N (intsV .i8 zs)) :
    Calls Try.prog 38 #[v] w fun e w' => e = .returned (.tuple #[.int .i64 f, .int .i64 l, .int .i64 (spellC l)]) ∧ Below w.heap.size w w' := by
  have hK := implValidW_any B N v hN zs hz hzr N hm w ho
  rw [decide_eq_true (rfl : N = N)] at hK
  have HK := Lib.hid hK
  have HS := Lib.hid (And.intro hs hsf)
  obtain ⟨av, cv, rfl⟩ := own_slice ho
  have HZ := Lib.hid (show ∀ i, i < N → zs[i * 2]? = some (rainZ zs i) ∧ zs[i * 2 + 1]? = some (warmZ zs i) from fun i hi => ⟨by simp [rainZ, List.getElem?_eq_getElem (show i * 2 < zs.length by omega)], by simp [warmZ, List.getElem?_eq_getElem (show i * 2 + 1 < zs.length by omega)]⟩)
  have HO := Lib.hid ho
  have h30 := ((first_all hm).1 rfl).1
  clear ho hm hz hzr hK hs hsf
  go_enter Try.func38, Try.ntmps38
  go_wp2_with fail
  go_step3
  go_wp2_with fail
  refine HK.out.mono ?_
  rintro e w1 ⟨rfl, hb1⟩
  go_wp2_with fail
  go_step3
  go_wp2_with fail
  go_loopw [5, 6, 15] (fun b m i wr => ∃ k b' m' : Nat, k ≤ N ∧ i = .int .i64 k ∧ b = .int .i64 b' ∧ m = .int .i64 m' ∧ Spell zs (fun g k' => g < k ∧ g + k' ≤ N) b' m' ∧ b' ≤ k ∧ b' + m' ≤ N ∧ Below w.heap.size w wr) (fun _ _ i _ => N - (intOf i).toNat)
  case atStart => exact ⟨0, 0, 0, by omega, rfl, rfl, rfl, ⟨fun j h1 h2 => by omega, fun g k hq _ => by omega, fun _ => rfl⟩, by omega, by omega, hb1⟩
  case round =>
    obtain ⟨k, b', m', hk, rfl, rfl, rfl, hsp, hbk, hle, hb⟩ := hrel
    have HP := Lib.hid hsp
    clear hsp
    by_cases hlt : k < N
    · have hd : decide ((k : Int) < (N : Int)) = true := by simp; omega
      have ho := own_below HO.out hb
      obtain ⟨ga, cap, he, hBg, hg⟩ := own_form ho (by omega)
      simp only [Value.slice.injEq, true_and] at he
      obtain ⟨rfl, rfl⟩ := he
      have hck : ¬ cv = k := by
        obtain ⟨-, h3 | ⟨g', cap', cur, h4, -, -, h6, -⟩⟩ := ho
        · have := h3.2; omega
        · simp only [Value.slice.injEq] at h4
          obtain ⟨-, -, rfl⟩ := h4
          omega
      clear ho
      go_wp2_with fail
      go_loopw [5, 6, 22] (fun b m i wi => ∃ j b2 m2 : Nat, k + j ≤ N ∧ i = .int .i64 j ∧ b = .int .i64 b2 ∧ m = .int .i64 m2 ∧ Spell zs (fun g k' => (g < k ∧ g + k' ≤ N) ∨ (g = k ∧ k' ≤ j)) b2 m2 ∧ Dry zs k j ∧ b2 ≤ k ∧ b2 + m2 ≤ N ∧ Below w.heap.size w wi) (fun _ _ i _ => N - (intOf i).toNat)
      case atStart => exact ⟨0, b', m', by omega, rfl, rfl, rfl, ⟨HP.out.dry, fun g k' hq hdq => by
          rcases hq with hq | ⟨rfl, h0⟩
          · exact HP.out.best g k' hq hdq
          · exact ⟨by omega, fun _ h => by omega⟩, HP.out.none⟩, fun j h1 h2 => by omega, hbk, hle, hb⟩
      case round =>
        obtain ⟨j, b2, m2, hj, rfl, rfl, rfl, hsp2, hdry, hbk2, hle2, hb2⟩ := hrel
        have HP2 := Lib.hid (And.intro hsp2 hdry)
        clear hsp2 hdry
        by_cases hltj : k + j < N
        · have hdj : decide (j < N - k) = true := by simp; omega
          have ho := own_below HO.out hb2
          obtain ⟨z0, z1⟩ := HZ.out (k + j) hltj
          have c0 := own_cell ho _ _ (intsV_get (k := .i8) z0)
          have c1 := own_cell ho _ _ (intsV_get (k := .i8) z1)
          obtain ⟨r, hr⟩ : ∃ r, rainZ zs (k + j) = r := ⟨_, rfl⟩
          have HR := Lib.hid hr
          rw [hr] at c0
          rw [Nat.add_mul] at c0 c1
          have hbj := hb2.alloc hb2.size (.cells #[.int .i8 r, .int .i8 (warmZ zs (k + j))] 40)
          clear ho hr z0 z1 hb HK hg hBg
          by_cases h0 : r ≤ 0
          · have hd0 : decide (0 < r) = false := by simp; omega
            have HD := Lib.hid (show Dry zs k (j + 1) from fun q h1 h2 => by
              by_cases e : q = k + j
              · subst e; rw [HR.out]; exact h0
              · exact HP2.out.2 q h1 (by omega))
            by_cases h1 : m2 < j + 1
            · have hd1 : decide ((m2 : Int) < (j : Int) + 1) = true := by simp; omega
              go_wp2_with fail
              go_roundw
              case rel => exact ⟨j + 1, k, j + 1, by omega, by go_num, rfl, by go_num, ⟨HD.out, fun g k' hq hdq => by
                rcases hq with hq | ⟨rfl, hq⟩
                · have := HP2.out.1.best g k' (.inl hq) hdq; exact ⟨by omega, fun e => by omega⟩
                · exact ⟨hq, fun _ _ => Nat.le_refl _⟩, fun e => by omega⟩, HD.out, by omega, by omega, hbj⟩
              case measure => simp [intOf]; omega
            · have hd1 : decide ((m2 : Int) < (j : Int) + 1) = false := by simp; omega
              go_wp2_with fail
              go_roundw
              case rel => exact ⟨j + 1, b2, m2, by omega, by go_num, rfl, rfl, ⟨HP2.out.1.dry, fun g k' hq hdq => by
                rcases hq with hq | ⟨rfl, hq⟩
                · exact HP2.out.1.best g k' (.inl hq) hdq
                · exact ⟨by omega, fun _ _ => hbk2⟩, HP2.out.1.none⟩, HD.out, hbk2, hle2, hbj⟩
              case measure => simp [intOf]; omega
          · have hd0 : decide (0 < r) = true := by simp; omega
            go_wp2_with fail
            go_roundw
            case rel => exact ⟨k + 1, b2, m2, by omega, by go_num, rfl, rfl, ⟨HP2.out.1.dry, fun g k' hq hdq => by
              by_cases e : g < k
              · exact HP2.out.1.best g k' (.inl ⟨e, hq.2⟩) hdq
              · obtain rfl : g = k := by omega
                refine HP2.out.1.best g k' (.inr ⟨rfl, ?_⟩) hdq
                rcases Nat.lt_or_ge j k' with h' | h'
                · have := hdq (g + j) (by omega) (by omega); rw [HR.out] at this; omega
                · exact h', HP2.out.1.none⟩, by omega, hle2, hbj⟩
            case measure => simp [intOf]; omega
        · have hdj : decide (j < N - k) = false := by simp; omega
          clear hb HK hg hBg
          go_wp2_with fail
          go_roundw
          case rel => exact ⟨k + 1, b2, m2, by omega, by go_num, rfl, rfl, ⟨HP2.out.1.dry, fun g k' hq hdq => by
              by_cases e : g < k
              · exact HP2.out.1.best g k' (.inl ⟨e, hq.2⟩) hdq
              · obtain rfl : g = k := by omega
                exact HP2.out.1.best g k' (.inr ⟨rfl, by omega⟩) hdq, HP2.out.1.none⟩, by omega, hle2, hb2⟩
          case measure => simp [intOf]; omega
    · have hd : decide ((k : Int) < (N : Int)) = false := by simp; omega
      obtain rfl : k = N := by omega
      have h2 : b' = f ∧ m' = l := spell_one HS.out.1 HS.out.2 HP.out hle
      obtain ⟨rfl, rfl⟩ := h2
      rcases Nat.eq_zero_or_pos m' with e | e
      · subst e
        obtain rfl := HS.out.1.none rfl
        go_wp2_with fail
        try rw [Exit.noGoto_ret]
        go_ret3
        exact ⟨rfl, hb⟩
      · have hd2 : decide ((m' : Int) = 0) = false := by simp; omega
        have HC := Lib.hid (show spellC m' = 0 by rw [spellC, if_neg (by omega)])
        go_wp2_with fail
        try rw [Exit.noGoto_ret]
        go_ret3
        exact ⟨by rw [HC.out]; rfl, hb⟩
end Go.Proofs.Ytbcbokpdcliimaa
