/- The texts of weather, walks and rounds: how one thing is written, how it is read strictly, and how the program reads it: the pure part. -/
import Derived.Test.YtaeenkjbmlgcmaaSplitP
import Derived.Lib.SlTrimSet
import Derived.Lib.Strings
namespace Go.Proofs.Ytaeenkjbmlgcmaa
set_option linter.unusedVariables false
set_option linter.unusedSimpArgs false

theorem str_app (a b : List UInt8) : (⟨a.toArray⟩ : ByteArray) ++ ⟨b.toArray⟩ = ⟨(a ++ b).toArray⟩ := by
  apply ByteArray.ext
  simp

theorem strs3 (J A D : List UInt8) (d : UInt8) : ((⟨J.toArray⟩ : ByteArray) ++ ⟨#[32]⟩) ++ (((⟨A.toArray⟩ : ByteArray) ++ ⟨#[d]⟩) ++ ⟨D.toArray⟩) = ⟨(J ++ [32] ++ (A ++ d :: D)).toArray⟩ := by
  apply ByteArray.ext
  simp
theorem strs2 (J A D : List UInt8) (d : UInt8) (h : J = []) : (⟨J.toArray⟩ : ByteArray) ++ (((⟨A.toArray⟩ : ByteArray) ++ ⟨#[d]⟩) ++ ⟨D.toArray⟩) = ⟨([] ++ (A ++ d :: D)).toArray⟩ := by
  subst h
  apply ByteArray.ext
  simp
/-- The program's reading of a number: -1 where there is none of eight bits. -/
def rd8 (l : List UInt8) : Int := match Lib.parseIntB 8 l with | .ok v => v | _ => -1
theorem rd8_dd {n : Nat} (h : n < 128) : rd8 (dd n) = (n : Int) := by unfold rd8; rw [parse8_dd n h]

/-- Two numbers with a letter between. -/
def pairT (d : UInt8) (a : Int × Int) : List UInt8 := dd a.1.toNat ++ d :: dd a.2.toNat
def pairOk (m1 m2 : Int) (a : Int × Int) : Bool := (decide (0 ≤ a.1) && decide (a.1 ≤ m1)) && (decide (0 ≤ a.2) && decide (a.2 ≤ m2))
def pairSp (d : UInt8) (m1 m2 : Int) (w : List UInt8) : Option (Int × Int) := match splitS d w with
  | [x, y] => match numO x, numO y with
    | some n, some m => if (n : Int) ≤ m1 ∧ (m : Int) ≤ m2 then some ((n : Int), (m : Int)) else none
    | _, _ => none
  | _ => none
def pairPr (d : UInt8) (w : List UInt8) : Int × Int := (rd8 (Lib.cut w [d]).1, rd8 (Lib.cut w [d]).2.1)
theorem dd_not {n : Nat} (h : n < 1000) {d : UInt8} (hd : d.toNat < 48 ∨ 57 < d.toNat) : d ∉ dd n := fun hm => by have := dd_mem h hm; omega
theorem pairOk_true {m1 m2 : Int} {a : Int × Int} : pairOk m1 m2 a = true ↔ (0 ≤ a.1 ∧ a.1 ≤ m1) ∧ 0 ≤ a.2 ∧ a.2 ≤ m2 := by simp [pairOk]
section
variable {d : UInt8} {m1 m2 : Int} (hd : d.toNat < 48 ∨ 57 < d.toNat) (h1 : m1 < 128) (h2 : m2 < 128)
include hd h1 h2
theorem pair_split {a : Int × Int} (h : pairOk m1 m2 a = true) : splitS d (pairT d a) = [dd a.1.toNat, dd a.2.toNat] := by
  obtain ⟨h3, h4⟩ := pairOk_true.1 h
  unfold pairT
  rw [splitS_cut (dd_not (by omega) hd), splitS_one (dd_not (by omega) hd)]
theorem pairSp_iff (w : List UInt8) (a : Int × Int) : pairSp d m1 m2 w = some a ↔ (w = pairT d a ∧ pairOk m1 m2 a = true) := by
  constructor
  · intro h
    have hj := join_split d w
    unfold pairSp at h
    split at h
    · rename_i x y hs
      rw [hs] at hj
      split at h
      · rename_i n m hn hm
        split at h
        · rename_i hb
          cases h
          have e1 := numO_some hn (by omega)
          have e2 := numO_some hm (by omega)
          refine ⟨?_, pairOk_true.2 ⟨⟨by simp, hb.1⟩, by simp, hb.2⟩⟩
          rw [← hj]
          simp [joinS, pairT, e1, e2]
        · cases h
      · cases h
    · cases h
  · rintro ⟨rfl, h⟩
    have h0 := pairOk_true.1 h
    unfold pairSp
    rw [pair_split hd h1 h2 h]
    simp only [numO_dd a.1.toNat (by omega), numO_dd a.2.toNat (by omega)]
    rw [if_pos (by omega)]
    obtain ⟨x, y⟩ := a
    simp only at h0 ⊢
    rw [show ((x.toNat : Nat) : Int) = x by omega, show ((y.toNat : Nat) : Int) = y by omega]
omit h2 in
theorem pair_cut {a : Int × Int} (h : pairOk m1 m2 a = true) : Lib.cut (pairT d a) [d] = (dd a.1.toNat, dd a.2.toNat, true) := by
  obtain ⟨h3, h4⟩ := pairOk_true.1 h
  have hn : d ∉ dd a.1.toNat := dd_not (by omega) hd
  have hg : (pairT d a)[(dd a.1.toNat).length]? = some d := by unfold pairT; rw [List.getElem?_append_right (Nat.le_refl _)]; simp
  have hi : Lib.index (pairT d a) [d] = ((dd a.1.toNat).length : Int) := by
    refine Lib.index_first (by unfold pairT; simp) ?_ fun j hj => ?_
    · rw [Lib.occAt_iff_take _ _ _ (by unfold pairT; simp)]
      simp [pairT]
    · rw [Lib.occAt_iff_take _ _ _ (by unfold pairT; simp; omega)]
      have hl : j < (pairT d a).length := by unfold pairT; simp; omega
      rw [List.drop_eq_getElem_cons hl]
      have hne : (pairT d a)[j] ≠ d := fun e => hn (by
        have : (dd a.1.toNat)[j]? = some d := by
          rw [← e, ← List.getElem?_eq_getElem hl]
          unfold pairT
          rw [List.getElem?_append_left hj]
        exact List.mem_of_getElem? this)
      show ([(pairT d a)[j]] == [d]) = false
      simpa using hne
  unfold Lib.cut
  rw [hi, if_pos (by omega)]
  simp [pairT]
theorem pairPr_tx {a : Int × Int} (h : pairOk m1 m2 a = true) : pairPr d (pairT d a) = a := by
  have h0 := pairOk_true.1 h
  unfold pairPr
  rw [pair_cut hd h1 h]
  simp only
  rw [rd8_dd (by omega), rd8_dd (by omega)]
  obtain ⟨x, y⟩ := a
  simp only at h0 ⊢
  rw [show ((x.toNat : Nat) : Int) = x by omega, show ((y.toNat : Nat) : Int) = y by omega]
omit hd in
theorem pair_mem {c : UInt8} (hc : c.toNat < 48 ∨ 57 < c.toNat) (hcd : c ≠ d) {a : Int × Int} (h : pairOk m1 m2 a = true) : c ∉ pairT d a := by
  obtain ⟨h3, h4⟩ := pairOk_true.1 h
  unfold pairT
  simp only [List.mem_append, List.mem_cons, not_or]
  exact ⟨dd_not (by omega) hc, hcd, dd_not (by omega) hc⟩
end
theorem pair_length (d : UInt8) {a : Int × Int} (h1 : a.1.toNat < 1000) (h2 : a.2.toNat < 1000) : 1 ≤ (pairT d a).length ∧ (pairT d a).length ≤ 7 := by
  have := dd_len _ h1
  have := dd_len _ h2
  unfold pairT
  simp
  omega

/-- What a list's text is, where all are fine and not too many. -/
def lineL {α : Type} (tx : α → List UInt8) (ok : α → Bool) (most : Nat) (as : List α) : List UInt8 := if as.all ok && decide (as.length ≤ most) then joinS 32 (as.map tx) else []
theorem lineL_good {α : Type} {tx : α → List UInt8} {ok : α → Bool} {most : Nat} {as : List α} (h : ∀ a ∈ as, ok a = true) (hl : as.length ≤ most) : lineL tx ok most as = joinS 32 (as.map tx) := by
  unfold lineL
  rw [if_pos]
  simp only [Bool.and_eq_true, List.all_eq_true, decide_eq_true_eq]
  exact ⟨h, hl⟩
/-- Whether the list that the program reads comes back as the same text. -/
theorem back_some {α : Type} {tx : α → List UInt8} {ok : α → Bool} {sp : List UInt8 → Option α} {pr : List UInt8 → α} {most : Nat} (h1 : ∀ a, ok a = true → (32 : UInt8) ∉ tx a) (h2 : ∀ w a, sp w = some a ↔ (w = tx a ∧ ok a = true)) (h3 : ∀ a, ok a = true → pr (tx a) = a) {t : List UInt8} {as : List α} (h : readL 32 sp most t = some as) :
    (Lib.splitK [32] 0 (min (most + 1) (t.length + 1) - 1) t).map pr = as ∧ lineL tx ok most as = t ∧ (∀ a ∈ as, ok a = true) ∧ as.length ≤ most := by
  obtain ⟨h4, h5, h6, h7⟩ := readL_some h1 h2 h3 h
  exact ⟨h4, by rw [lineL_good h5 h6, h7], h5, h6⟩
theorem back_none {α : Type} {tx : α → List UInt8} {ok : α → Bool} {sp : List UInt8 → Option α} {most : Nat} (h1 : ∀ a, ok a = true → (32 : UInt8) ∉ tx a) (h2 : ∀ w a, sp w = some a ↔ (w = tx a ∧ ok a = true)) {t : List UInt8} (ht : t ≠ []) (h : readL 32 sp most t = none) (as : List α) :
    lineL tx ok most as ≠ t := by
  unfold lineL
  split
  · rename_i hc
    simp only [Bool.and_eq_true, List.all_eq_true, decide_eq_true_eq] at hc
    exact readL_none h1 h2 ht h as hc.1 hc.2
  · exact fun e => ht e.symm

/-- A round. -/
def rndT (a : Int × Bool) : List UInt8 := (if a.2 then 104 else 99) :: dd a.1.toNat
def rndOk (a : Int × Bool) : Bool := decide (0 ≤ a.1) && decide (a.1 ≤ 9)
def rndSp (w : List UInt8) : Option (Int × Bool) := match w with
  | [x, y] => if x = 99 ∨ x = 104 then (numO [y]).map fun (n : Nat) => ((n : Int), x == 104) else none
  | _ => none
theorem rndSp_iff (w : List UInt8) (a : Int × Bool) : rndSp w = some a ↔ (w = rndT a ∧ rndOk a = true) := by
  constructor
  · intro h
    unfold rndSp at h
    split at h
    · rename_i x y
      split at h
      · rename_i hx
        obtain ⟨n, hn, rfl⟩ := Option.map_eq_some_iff.1 h
        have hlt : n < 10 := by
          unfold numO at hn
          split at hn
          · cases hn
          · have := Lib.decFrom_lt _ _ _ hn
            simpa using this
        have e := numO_some hn (by omega)
        refine ⟨?_, by simp [rndOk]; omega⟩
        rcases hx with rfl | rfl <;> simp [rndT, e]
      · cases h
    · cases h
  · rintro ⟨rfl, h⟩
    obtain ⟨x, b⟩ := a
    simp only [rndOk, Bool.and_eq_true, decide_eq_true_eq] at h
    have hdd : dd x.toNat = [UInt8.ofNat (48 + x.toNat)] := by unfold dd; rw [if_pos (by omega)]
    have hn := numO_dd x.toNat (by omega)
    rw [hdd] at hn
    have ex : ((x.toNat : Nat) : Int) = x := by omega
    cases b
    · simp only [rndT, hdd, Bool.false_eq_true, if_false]
      show (if (99 : UInt8) = 99 ∨ (99 : UInt8) = 104 then (numO [UInt8.ofNat (48 + x.toNat)]).map fun (n : Nat) => ((n : Int), (99 : UInt8) == 104) else none) = _
      rw [if_pos (.inl rfl), hn, Option.map_some, ex]; rfl
    · simp only [rndT, hdd, if_true]
      show (if (104 : UInt8) = 99 ∨ (104 : UInt8) = 104 then (numO [UInt8.ofNat (48 + x.toNat)]).map fun (n : Nat) => ((n : Int), (104 : UInt8) == 104) else none) = _
      rw [if_pos (.inr rfl), hn, Option.map_some, ex]; rfl

/-- What a reader answers: the things, and the code. -/
def rdQ {α : Type} (rd : List UInt8 → Option (List α)) (t : List UInt8) : List α := if t = [] then [] else (rd t).getD []
def rdC {α : Type} (rd : List UInt8 → Option (List α)) (t : List UInt8) : Int := if t = [] then 0 else if (rd t).isSome then 0 else 5
theorem rd_nil {α : Type} {rd : List UInt8 → Option (List α)} {t : List UInt8} (h : t = []) : rdQ rd t = [] ∧ rdC rd t = 0 := by unfold rdQ rdC; rw [if_pos h, if_pos h]; exact ⟨rfl, rfl⟩
theorem rd_none {α : Type} {rd : List UInt8 → Option (List α)} {t : List UInt8} (h : t ≠ []) (h2 : rd t = none) : rdQ rd t = [] ∧ rdC rd t = 5 := by unfold rdQ rdC; rw [if_neg h, if_neg h, h2]; exact ⟨rfl, rfl⟩
theorem rd_some {α : Type} {rd : List UInt8 → Option (List α)} {t : List UInt8} {qs : List α} (h : t ≠ []) (h2 : rd t = some qs) : rdQ rd t = qs ∧ rdC rd t = 0 := by unfold rdQ rdC; rw [if_neg h, if_neg h, h2]; exact ⟨rfl, rfl⟩
theorem mapM_next {α : Type} {sp : List UInt8 → Option α} {ws : List (List UInt8)} {k : Nat} {x : List UInt8} {qs : List α} {a : α} (h : (ws.take k).mapM sp = some qs) (hx : ws[k]? = some x) (ha : sp x = some a) : (ws.take (k + 1)).mapM sp = some (qs ++ [a]) := by
  rw [List.take_add_one, hx, Option.toList_some, List.mapM_append, h]
  simp [ha]
theorem mapM_bad {α : Type} {sp : List UInt8 → Option α} : ∀ {ws : List (List UInt8)} {x : List UInt8}, x ∈ ws → sp x = none → ws.mapM sp = none
  | [], x, h, _ => by simp at h
  | w :: ws, x, h, hn => by
    rcases List.mem_cons.1 h with rfl | h
    · simp [hn]
    · have ih := mapM_bad h hn
      cases hw : sp w with
      | none => simp [hw]
      | some a => simp [hw, ih]
theorem readL_bad {α : Type} {c : UInt8} {sp : List UInt8 → Option α} {most k : Nat} {t x : List UInt8} (hx : (splitS c t)[k]? = some x) (hn : sp x = none) : readL c sp most t = none := by
  unfold readL
  rw [mapM_bad (List.mem_of_getElem? hx) hn]
  rfl
theorem mapM_len {α : Type} {sp : List UInt8 → Option α} : ∀ {ws : List (List UInt8)} {qs : List α}, ws.mapM sp = some qs → qs.length = ws.length
  | [], qs, h => by simp at h; simp [h]
  | w :: ws, qs, h => by
    simp only [List.mapM_cons, Option.bind_eq_bind, Option.bind_eq_some_iff, Option.pure_def, Option.some.injEq] at h
    obtain ⟨a, ha, bs, hb, rfl⟩ := h
    simp [mapM_len hb]
theorem readL_end {α : Type} {c : UInt8} {sp : List UInt8 → Option α} {most k : Nat} {t : List UInt8} {qs : List α} (h : ((splitS c t).take k).mapM sp = some qs) (hk : (splitS c t).length ≤ k) : readL c sp most t = if qs.length ≤ most then some qs else none := by
  rw [List.take_of_length_le hk] at h
  unfold readL
  rw [h]
  rfl
theorem readL_long {α : Type} {c : UInt8} {sp : List UInt8 → Option α} {most : Nat} {t : List UInt8} (h : most < (splitS c t).length) : readL c sp most t = none := by
  cases e : readL c sp most t with
  | none => rfl
  | some qs =>
    unfold readL at e
    obtain ⟨bs, hb, e⟩ := Option.bind_eq_some_iff.1 e
    have := mapM_len hb
    split at e
    · omega
    · cases e
theorem splitS_mem_len {c : UInt8} : ∀ {t l : List UInt8}, l ∈ splitS c t → l.length ≤ t.length
  | [], l, h => by simp [splitS] at h; simp [h]
  | a :: t, l, h => by
    unfold splitS at h
    split at h
    · rcases List.mem_cons.1 h with rfl | h
      · simp
      · have := splitS_mem_len h; simp; omega
    · have ih := fun l h => splitS_mem_len (c := c) (t := t) (l := l) h
      revert h ih
      cases splitS c t with
      | nil => intro h _; simp at h; subst h; simp
      | cons x r =>
        intro h ih
        rcases List.mem_cons.1 h with rfl | h
        · have := ih x (by simp); simp; omega
        · have := ih l (by simp [h]); simp; omega
theorem pairSp_two {d : UInt8} {m1 m2 : Int} {w x y : List UInt8} (h : splitS d w = [x, y]) : pairSp d m1 m2 w = match numO x, numO y with
    | some n, some m => if (n : Int) ≤ m1 ∧ (m : Int) ≤ m2 then some ((n : Int), (m : Int)) else none
    | _, _ => none := by unfold pairSp; rw [h]
theorem pairSp_other {d : UInt8} {m1 m2 : Int} {w : List UInt8} (h : (splitS d w).length ≠ 2) : pairSp d m1 m2 w = none := by
  unfold pairSp
  split
  · rename_i x y e
    rw [e] at h
    exact absurd rfl h
  · rfl
theorem splitK_mem_len {c : UInt8} : ∀ {k : Nat} {t l : List UInt8}, l ∈ Lib.splitK [c] 0 k t → l.length ≤ t.length
  | 0, t, l, h => by simp [Lib.splitK] at h; simp [h]
  | k + 1, t, l, h => by
    unfold Lib.splitK at h
    split at h
    · simp at h; simp [h]
    · rcases List.mem_cons.1 h with rfl | h
      · simp; omega
      · have := splitK_mem_len h; simp at this; omega

/-- How the program reads a round. -/
def rndPr (w : List UInt8) : Int × Bool := (rd8 (Lib.trimLeftS w [99, 104]), Lib.hasPrefix w [104])
theorem trim_dd {n : Nat} (h : n < 1000) : Lib.trimLeftS (dd n) [99, 104] = dd n := by
  unfold Lib.trimLeftS
  have hl := dd_len n h
  match hd : dd n with
  | [] => rfl
  | a :: r =>
    have := dd_mem h (a := a) (by rw [hd]; simp)
    have ha : ([99, 104] : List UInt8).contains a = false := by
      simp only [List.contains_cons, List.contains_nil, Bool.or_false, Bool.or_eq_false_iff, beq_eq_false_iff_ne]
      exact ⟨fun e => by rw [e] at this; simp at this, fun e => by rw [e] at this; simp at this⟩
    rw [List.dropWhile_cons, ha]
    rfl
theorem rndPr_tx {a : Int × Bool} (h : rndOk a = true) : rndPr (rndT a) = a := by
  obtain ⟨x, b⟩ := a
  simp only [rndOk, Bool.and_eq_true, decide_eq_true_eq] at h
  have hn : x.toNat < 1000 := by omega
  have e1 : Lib.trimLeftS (rndT (x, b)) [99, 104] = dd x.toNat := by
    have : Lib.trimLeftS (rndT (x, b)) [99, 104] = Lib.trimLeftS (dd x.toNat) [99, 104] := by
      unfold Lib.trimLeftS rndT
      cases b <;> simp [List.dropWhile_cons]
    rw [this, trim_dd hn]
  have e2 : Lib.hasPrefix (rndT (x, b)) [104] = b := by
    unfold rndT Lib.hasPrefix
    cases b <;> rfl
  unfold rndPr
  rw [e1, e2, rd8_dd (by omega), show ((x.toNat : Nat) : Int) = x by omega]
theorem rnd_mem {a : Int × Bool} (h : rndOk a = true) : (32 : UInt8) ∉ rndT a := by
  simp only [rndOk, Bool.and_eq_true, decide_eq_true_eq] at h
  unfold rndT
  simp only [List.mem_cons, not_or]
  exact ⟨by cases a.2 <;> decide, dd_not (by omega) (by decide)⟩
theorem rndSp_two {w : List UInt8} {x y : UInt8} (h : w = [x, y]) : rndSp w = if x = 99 ∨ x = 104 then (numO [y]).map fun (n : Nat) => ((n : Int), x == 104) else none := by rw [h]; rfl
theorem rndSp_other {w : List UInt8} (h : w.length ≠ 2) : rndSp w = none := by
  unfold rndSp
  split
  · exact absurd rfl h
  · rfl
theorem numO_one {y : UInt8} {n : Nat} (h : numO [y] = some n) : n < 10 := by
  unfold numO at h
  split at h
  · cases h
  · have := Lib.decFrom_lt _ _ _ h
    simpa using this
end Go.Proofs.Ytaeenkjbmlgcmaa
