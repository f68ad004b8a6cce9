/- Texts cut at a letter, and joined; numbers in texts: the pure part. -/
import Derived.Lib.Split
import Derived.Lib.ParseIntBCases
import Derived.Lib.ItoaNum
import Derived.Lib.Join
import Derived.Lib.Atoi
namespace Go.Proofs.Ytaeenkjbmlgcmaa
set_option linter.unusedVariables false
set_option linter.unusedSimpArgs false

/-- A text, cut at each letter of one kind. -/
def splitS (c : UInt8) : List UInt8 → List (List UInt8)
  | [] => [[]]
  | a :: t => if a = c then [] :: splitS c t else match splitS c t with
    | [] => [[a]]
    | h :: r => (a :: h) :: r
theorem splitS_cut {c : UInt8} {q : List UInt8} : ∀ {p : List UInt8}, c ∉ p → splitS c (p ++ c :: q) = p :: splitS c q
  | [], _ => by simp [splitS]
  | a :: p, h => by
    have ha : a ≠ c := fun e => h (by simp [e])
    have ih := splitS_cut (c := c) (q := q) (p := p) (fun e => h (by simp [e]))
    simp [splitS, ha, ih]
theorem splitS_one {c : UInt8} : ∀ {p : List UInt8}, c ∉ p → splitS c p = [p]
  | [], _ => by simp [splitS]
  | a :: p, h => by
    have ha : a ≠ c := fun e => h (by simp [e])
    have ih := splitS_one (c := c) (p := p) (fun e => h (by simp [e]))
    simp [splitS, ha, ih]
theorem splitS_ne (c : UInt8) : ∀ t, splitS c t ≠ []
  | [] => by simp [splitS]
  | a :: t => by
    unfold splitS
    split
    · simp
    · split <;> simp
def joinS (c : UInt8) : List (List UInt8) → List UInt8
  | [] => []
  | [a] => a
  | a :: b :: r => a ++ c :: joinS c (b :: r)
theorem join_split (c : UInt8) : ∀ t, joinS c (splitS c t) = t
  | [] => by simp [splitS, joinS]
  | a :: t => by
    have ih := join_split c t
    unfold splitS
    split
    · rename_i e
      cases hs : splitS c t with
      | nil => exact absurd hs (splitS_ne c t)
      | cons h r => rw [hs] at ih; simp [joinS, ih, e]
    · cases hs : splitS c t with
      | nil => exact absurd hs (splitS_ne c t)
      | cons h r =>
        rw [hs] at ih
        cases r with
        | nil => simp [joinS] at ih ⊢; exact ih
        | cons h2 r => simp [joinS] at ih ⊢; exact ih
theorem join_rows (c : UInt8) : ∀ rows : List (List UInt8), joinS c (rows ++ [[]]) = rows.flatMap fun r => r ++ [c]
  | [] => by simp [joinS]
  | a :: rows => by
    have ih := join_rows c rows
    cases rows with
    | nil => simp [joinS]
    | cons b rows =>
      simp only [List.cons_append, joinS, List.flatMap_cons] at ih ⊢
      rw [ih]
      simp
theorem split_rows {c : UInt8} : ∀ {rows : List (List UInt8)}, (∀ r ∈ rows, c ∉ r) → splitS c (rows.flatMap fun r => r ++ [c]) = rows ++ [[]]
  | [], _ => by simp [splitS]
  | a :: rows, h => by
    have ih := split_rows (c := c) (rows := rows) fun r hr => h r (by simp [hr])
    rw [List.flatMap_cons, List.append_assoc, List.singleton_append, splitS_cut (h a (by simp)), ih]
    rfl

theorem mem_first {c : UInt8} : ∀ {s : List UInt8}, c ∈ s → ∃ p q, s = p ++ c :: q ∧ c ∉ p
  | [], h => by simp at h
  | a :: s, h => by
    by_cases e : c = a
    · exact ⟨[], s, by simp [e], by simp⟩
    · obtain ⟨p, q, hs, hp⟩ := mem_first (c := c) (s := s) (by simpa [e] using h)
      exact ⟨a :: p, q, by rw [hs]; rfl, by simp [e, hp]⟩
theorem split_join {c : UInt8} : ∀ {ls : List (List UInt8)}, ls ≠ [] → (∀ l ∈ ls, c ∉ l) → splitS c (joinS c ls) = ls
  | [], h, _ => absurd rfl h
  | [a], _, h => by simp only [joinS]; exact splitS_one (h a (by simp))
  | a :: b :: r, _, h => by
    have ih := split_join (c := c) (ls := b :: r) (by simp) fun l hl => h l (List.mem_cons_of_mem _ hl)
    simp only [joinS]
    rw [splitS_cut (h a (by simp)), ih]
theorem splitS_mem {c : UInt8} : ∀ {t l : List UInt8}, l ∈ splitS c t → c ∉ l
  | [], l, h => by simp [splitS] at h; simp [h]
  | a :: t, l, h => by
    unfold splitS at h
    split at h
    · rcases List.mem_cons.1 h with rfl | h
      · simp
      · exact splitS_mem h
    · rename_i hne
      have ih := fun l h => splitS_mem (c := c) (t := t) (l := l) h
      revert h ih
      cases splitS c t with
      | nil => intro h _; simp at h; subst h; simpa using fun e : c = a => hne e.symm
      | cons x r =>
        intro h ih
        rcases List.mem_cons.1 h with rfl | h
        · simp only [List.mem_cons, not_or]
          exact ⟨fun e => hne e.symm, ih x (by simp)⟩
        · exact ih l (by simp [h])
theorem splitS_len (c : UInt8) : ∀ t, (splitS c t).length ≤ t.length + 1
  | [] => by simp [splitS]
  | a :: t => by
    have ih := splitS_len c t
    unfold splitS
    split
    · simpa using ih
    · cases hs : splitS c t with
      | nil => simp
      | cons h r => rw [hs] at ih; simp at ih ⊢; omega
theorem join_is (c : UInt8) : ∀ ls : List (List UInt8), Lib.join ls [c] = joinS c ls
  | [] => rfl
  | [a] => by rw [Lib.join_one]; rfl
  | a :: b :: r => by
    have ih := join_is c (b :: r)
    rw [Lib.join_cons] at ih ⊢
    simp only [joinS, ← ih, Lib.joinTail, List.map_cons, List.flatten_cons]
    simp
theorem join_append (c : UInt8) : ∀ (ls : List (List UInt8)) (x : List UInt8), joinS c (ls ++ [x]) = (if ls = [] then [] else joinS c ls ++ [c]) ++ x
  | [], x => by simp [joinS]
  | [a], x => by simp [joinS]
  | a :: b :: r, x => by
    have ih := join_append c (b :: r) x
    simp only [List.cons_append, joinS, reduceCtorEq, if_false] at ih ⊢
    rw [ih]
    simp

theorem cutP {c : UInt8} : ∀ {s : List UInt8} {i : Nat}, s[i]? = some c → (∀ j, j < i → s[j]? ≠ some c) → s = s.take i ++ c :: s.drop (i + 1) ∧ c ∉ s.take i := by
  intro s i h hn
  have hl := (List.getElem?_eq_some_iff.1 h).1
  refine ⟨?_, ?_⟩
  · conv => lhs; rw [← List.take_append_drop i s, List.drop_eq_getElem_cons hl]
    rw [(List.getElem?_eq_some_iff.1 h).2]
  · intro hm
    obtain ⟨j, hj⟩ := List.getElem?_of_mem hm
    rw [List.getElem?_take] at hj
    split at hj
    · rename_i hji
      exact hn j hji hj
    · cases hj
theorem splitK_is (c : UInt8) : ∀ (k : Nat) (s : List UInt8), (splitS c s).length ≤ k + 1 → Lib.splitK [c] 0 k s = splitS c s
  | 0, s, h => by
    by_cases hc : c ∈ s
    · obtain ⟨p, q, rfl, hp⟩ := mem_first hc
      rw [splitS_cut hp] at h
      have := List.length_pos_iff.2 (splitS_ne c q)
      simp only [List.length_cons] at h
      omega
    · rw [splitS_one hc]; rfl
  | k + 1, s, h => by
    unfold Lib.splitK
    rcases Lib.index_spec s [c] with ⟨h1, h2⟩ | ⟨i, h1, h2, h3, h4⟩
    · rw [h1]
      have hc : c ∉ s := fun hm => by
        obtain ⟨j, hj⟩ := List.getElem?_of_mem hm
        have hl := (List.getElem?_eq_some_iff.1 hj).1
        have := h2 j (by omega)
        rw [Lib.occAt_iff_take _ _ _ (by simp; omega)] at this
        rw [List.drop_eq_getElem_cons hl, (List.getElem?_eq_some_iff.1 hj).2] at this
        simp at this
      rw [splitS_one hc]
      rfl
    · rw [h1]
      have hi := Lib.occAt_head (c := c) (t := []) rfl h3
      have hn : ∀ j, j < i → s[j]? ≠ some c := fun j hj hjc => by
        have hl := (List.getElem?_eq_some_iff.1 hjc).1
        have := h4 j hj
        rw [Lib.occAt_iff_take _ _ _ (by simp; omega)] at this
        rw [List.drop_eq_getElem_cons hl, (List.getElem?_eq_some_iff.1 hjc).2] at this
        simp at this
      obtain ⟨e, hp⟩ := cutP hi hn
      have hs : splitS c s = s.take i :: splitS c (s.drop (i + 1)) := by
        conv => lhs; rw [e]
        exact splitS_cut hp
      rw [if_neg (by simp), hs]
      simp only [Int.toNat_natCast, Nat.add_zero, List.length_singleton]
      rw [splitK_is c k _ (by rw [hs] at h; simp at h; omega)]
theorem splitK_join (c : UInt8) : ∀ (k : Nat) (s : List UInt8), Lib.splitK [c] 0 k s ≠ []
  | 0, s => by simp [Lib.splitK]
  | k + 1, s => by unfold Lib.splitK; split <;> simp

/-- The digits of a number below 1000. -/
def dd (n : Nat) : List UInt8 := if n < 10 then [UInt8.ofNat (48 + n)] else if n < 100 then [UInt8.ofNat (48 + n / 10), UInt8.ofNat (48 + n % 10)] else [UInt8.ofNat (48 + n / 100), UInt8.ofNat (48 + n / 10 % 10), UInt8.ofNat (48 + n % 10)]
theorem dec_small {n : Nat} (h : n < 10) : Lib.decDigits n = [UInt8.ofNat (48 + n)] := by rw [Lib.decDigits, dif_pos h]
theorem dec_step {n : Nat} (h : ¬ n < 10) : Lib.decDigits n = Lib.decDigits (n / 10) ++ [UInt8.ofNat (48 + n % 10)] := by rw [Lib.decDigits, dif_neg h]
theorem dec_dd {n : Nat} (h : n < 1000) : Lib.decDigits n = dd n := by
  unfold dd
  split
  · exact dec_small (by assumption)
  · rename_i h1
    split
    · rw [dec_step h1, dec_small (by omega)]; rfl
    · rw [dec_step h1, dec_step (by omega), dec_small (by omega), Nat.div_div_eq_div_mul]; rfl
theorem itoa_dd {n : Nat} (h : n < 1000) : Lib.itoa (n : Int) = dd n := by
  unfold Lib.itoa
  rw [if_neg (by omega), Int.toNat_natCast, dec_dd h]

/-- A number as it has to be written: what is read of it. -/
def numO (l : List UInt8) : Option Nat := if l = [] ∨ 10 < l.length ∨ (l.head? = some 48 ∧ 1 < l.length) then none else Lib.decFrom 0 l
theorem numO_dd : ∀ n, n < 1000 → numO (dd n) = some n := by decide +kernel
theorem dd_max : ∀ n, n < 1000 → (dd n).all fun a => decide (48 ≤ a.toNat ∧ a.toNat ≤ 57) := by decide +kernel
theorem dd_len : ∀ n, n < 1000 → 1 ≤ (dd n).length ∧ (dd n).length ≤ 3 := by decide +kernel
theorem parse8_dd : ∀ n, n < 128 → Lib.parseIntB 8 (dd n) = .ok (n : Int) := by decide +kernel
theorem parse64_dd : ∀ n, n < 1000 → Lib.parseIntB 64 (dd n) = .ok (n : Int) := by decide +kernel
theorem digit_some {b : UInt8} {d : Nat} (h : Lib.digitVal b = some d) : b.toNat = 48 + d ∧ d < 10 := by
  unfold Lib.digitVal at h
  split at h
  · simp at h; omega
  · cases h
theorem digit_byte {b : UInt8} {d : Nat} (h : Lib.digitVal b = some d) : UInt8.ofNat (48 + d) = b := by
  have := (digit_some h).1
  rw [← this]
  simp
theorem decFrom_ge : ∀ (l : List UInt8) (acc n : Nat), Lib.decFrom acc l = some n → acc * 10 ^ l.length ≤ n
  | [], acc, n, h => by simp [Lib.decFrom] at h; simp [h]
  | b :: r, acc, n, h => by
    unfold Lib.decFrom at h
    split at h
    · rename_i d hd
      have ih := decFrom_ge r _ _ h
      have : acc * 10 ^ (r.length + 1) ≤ (acc * 10 + d) * 10 ^ r.length := by
        rw [Nat.pow_succ, Nat.mul_comm (10 ^ r.length) 10, ← Nat.mul_assoc]
        exact Nat.mul_le_mul_right _ (by omega)
      simp only [List.length_cons]
      omega
    · cases h
theorem numO_some {l : List UInt8} {n : Nat} (h : numO l = some n) (hn : n < 1000) : l = dd n := by
  unfold numO at h
  split at h
  · cases h
  rename_i hc
  simp only [not_or, not_and] at hc
  obtain ⟨h1, h2, h3⟩ := hc
  match l, h1, h3, h with
  | [a], _, _, h =>
    unfold Lib.decFrom at h
    split at h
    · rename_i d hd
      simp [Lib.decFrom] at h
      subst h
      have := digit_some hd
      unfold dd
      rw [if_pos (by omega), digit_byte hd]
    · cases h
  | a :: b :: r, _, h3, h =>
    have ha : a ≠ 48 := fun e => h3 (by simp [e]) (by simp)
    unfold Lib.decFrom at h
    split at h
    · rename_i d hd
      have hd1 := digit_some hd
      have hd0 : d ≠ 0 := fun e => ha (by rw [← digit_byte hd, e]; rfl)
      simp only [Nat.zero_mul, Nat.zero_add] at h
      unfold Lib.decFrom at h
      split at h
      · rename_i d2 hd2
        have hd3 := digit_some hd2
        match r, h with
        | [], h =>
          simp [Lib.decFrom] at h
          subst h
          unfold dd
          rw [if_neg (by omega), if_pos (by omega), show (d * 10 + d2) / 10 = d by omega, show (d * 10 + d2) % 10 = d2 by omega, digit_byte hd, digit_byte hd2]
        | x :: r, h =>
          unfold Lib.decFrom at h
          split at h
          · rename_i d4 hd4
            have hd5 := digit_some hd4
            match r, h with
            | [], h =>
              simp [Lib.decFrom] at h
              subst h
              unfold dd
              rw [if_neg (by omega), if_neg (by omega), show ((d * 10 + d2) * 10 + d4) / 100 = d by omega, show ((d * 10 + d2) * 10 + d4) / 10 % 10 = d2 by omega, show ((d * 10 + d2) * 10 + d4) % 10 = d4 by omega, digit_byte hd, digit_byte hd2, digit_byte hd4]
            | y :: r, h =>
              have hg := decFrom_ge _ _ _ h
              simp only [List.length_cons] at hg
              have hp : 1 ≤ 10 ^ r.length := Nat.one_le_pow _ _ (by decide)
              rw [Nat.pow_succ] at hg
              have h100 : 100 ≤ (d * 10 + d2) * 10 + d4 := by omega
              have h1000 : 100 * 10 ≤ ((d * 10 + d2) * 10 + d4) * (10 ^ r.length * 10) := Nat.mul_le_mul h100 (by omega)
              omega
          · cases h
      · cases h
    · cases h
theorem numO_iff {l : List UInt8} {n : Nat} (hn : n < 1000) : numO l = some n ↔ l = dd n := ⟨fun h => numO_some h hn, fun h => by rw [h]; exact numO_dd n hn⟩
theorem dd_mem {n : Nat} (h : n < 1000) {a : UInt8} (ha : a ∈ dd n) : 48 ≤ a.toNat ∧ a.toNat ≤ 57 := by
  have := List.all_eq_true.1 (dd_max n h) a ha
  simpa using this

/-- What is read of a text of things, told by their own strict reading. -/
def readL {α : Type} (c : UInt8) (sp : List UInt8 → Option α) (most : Nat) (t : List UInt8) : Option (List α) :=
  ((splitS c t).mapM sp).bind fun as => if as.length ≤ most then some as else none
theorem mapM_some {α : Type} {sp : List UInt8 → Option α} {tx : α → List UInt8} {ok : α → Bool} (h2 : ∀ w a, sp w = some a → w = tx a ∧ ok a = true) : ∀ {ws : List (List UInt8)} {as : List α}, ws.mapM sp = some as → ws = as.map tx ∧ ∀ a ∈ as, ok a = true
  | [], as, h => by simp at h; simp [h]
  | w :: ws, as, h => by
    simp only [List.mapM_cons, Option.bind_eq_bind, Option.bind_eq_some_iff, Option.pure_def, Option.some.injEq] at h
    obtain ⟨a, ha, bs, hb, rfl⟩ := h
    obtain ⟨h3, h4⟩ := mapM_some h2 hb
    obtain ⟨h5, h6⟩ := h2 w a ha
    refine ⟨by rw [List.map_cons, ← h3, ← h5], fun x hx => ?_⟩
    rcases List.mem_cons.1 hx with rfl | hx
    · exact h6
    · exact h4 x hx
theorem mapM_map {α : Type} {sp : List UInt8 → Option α} {tx : α → List UInt8} {ok : α → Bool} (h2 : ∀ a, ok a = true → sp (tx a) = some a) : ∀ {as : List α}, (∀ a ∈ as, ok a = true) → (as.map tx).mapM sp = some as
  | [], _ => by simp
  | a :: as, h => by
    have ih := mapM_map h2 (as := as) fun x hx => h x (by simp [hx])
    simp only [List.map_cons, List.mapM_cons, h2 a (h a (by simp)), ih]
    rfl
section
variable {α : Type} {c : UInt8} {tx : α → List UInt8} {ok : α → Bool} {sp : List UInt8 → Option α} {pr : List UInt8 → α} {most : Nat}
theorem readL_some (h1 : ∀ a, ok a = true → c ∉ tx a) (h2 : ∀ w a, sp w = some a ↔ (w = tx a ∧ ok a = true)) (h3 : ∀ a, ok a = true → pr (tx a) = a) {t : List UInt8} {as : List α} (h : readL c sp most t = some as) :
    (Lib.splitK [c] 0 (min (most + 1) (t.length + 1) - 1) t).map pr = as ∧ (∀ a ∈ as, ok a = true) ∧ as.length ≤ most ∧ joinS c (as.map tx) = t := by
  unfold readL at h
  obtain ⟨bs, hb, h⟩ := Option.bind_eq_some_iff.1 h
  split at h
  case isFalse => cases h
  rename_i hm
  cases h
  obtain ⟨h4, h5⟩ := mapM_some (fun w a => (h2 w a).1) hb
  have hlen : (splitS c t).length = as.length := by rw [h4]; simp
  have hle := splitS_len c t
  refine ⟨?_, h5, hm, by rw [← h4]; exact join_split c t⟩
  rw [splitK_is c _ t (by omega), h4, List.map_map]
  conv => rhs; rw [← List.map_id as]
  exact List.map_congr_left fun a ha => h3 a (h5 a ha)
theorem readL_none (h1 : ∀ a, ok a = true → c ∉ tx a) (h2 : ∀ w a, sp w = some a ↔ (w = tx a ∧ ok a = true)) {t : List UInt8} (ht : t ≠ []) (h : readL c sp most t = none) (as : List α) (ha : ∀ a ∈ as, ok a = true) (hl : as.length ≤ most) : joinS c (as.map tx) ≠ t := by
  intro e
  have hne : as.map tx ≠ [] := fun e2 => ht (by rw [← e, e2]; rfl)
  have hs : splitS c t = as.map tx := by
    rw [← e]
    exact split_join hne fun l hl => by
      obtain ⟨a, ha2, rfl⟩ := List.mem_map.1 hl
      exact h1 a (ha a ha2)
  unfold readL at h
  rw [hs, mapM_map (fun a ha => (h2 (tx a) a).2 ⟨rfl, ha⟩) ha] at h
  simp [hl] at h
end
end Go.Proofs.Ytaeenkjbmlgcmaa
