/- Reading sides: the pure part. -/
import Derived.Test.YthfhpcigjnjkdaaDoorSdT
namespace Go.Proofs.YthfhpcigjnjkdaaDoor
set_option linter.unusedVariables false
set_option linter.unusedSimpArgs false

def sdSp (w : List UInt8) : Option Int := match numO w with
  | some n => if n ≤ 400 then some (n : Int) else none
  | none => none
theorem sdSp_some {w : List UInt8} {n : Nat} (h : numO w = some n) : sdSp w = if n ≤ 400 then some (n : Int) else none := by unfold sdSp; rw [h]
theorem sdSp_none {w : List UInt8} (h : numO w = none) : sdSp w = none := by unfold sdSp; rw [h]
theorem sdOk_true {a : Int} : sdOk a = true ↔ 0 ≤ a ∧ a ≤ 400 := by simp [sdOk]
theorem sdSp_iff (w : List UInt8) (a : Int) : sdSp w = some a ↔ (w = sdT a ∧ sdOk a = true) := by
  constructor
  · intro h
    unfold sdSp at h
    split at h
    · rename_i n hn
      split at h
      · cases h
        exact ⟨numO_some hn (by omega), sdOk_true.2 (by omega)⟩
      · cases h
    · cases h
  · rintro ⟨rfl, h⟩
    have h0 := sdOk_true.1 h
    unfold sdT
    rw [sdSp_some (numO_dd a.toNat (by omega)), if_pos (by omega), show ((a.toNat : Nat) : Int) = a by omega]
theorem sd_mem {a : Int} (h : sdOk a = true) : (32 : UInt8) ∉ sdT a := by
  have h0 := sdOk_true.1 h
  exact dd_not (by omega) (by decide)
def readSd (t : List UInt8) : Option (List Int) := (readL 32 sdSp 5 t).bind fun zs => if zs.length = 5 then some zs else none
def rsF (t : List UInt8) : Sd := match readSd t with | some zs => fun j => zs.getD j 0 | none => fun _ => 0
def rsC (t : List UInt8) : Int := match readSd t with | some _ => 0 | none => 5
theorem rs_none {t : List UInt8} (h : readSd t = none) : rsC t = 5 ∧ sdV (rsF t) = sdV fun _ => 0 := by unfold rsC rsF; rw [h]; exact ⟨rfl, rfl⟩
theorem rs_some {t : List UInt8} {f : Sd} (h : readSd t = some (sdL f)) : rsC t = 0 ∧ sdV (rsF t) = sdV f := by
  unfold rsC rsF
  rw [h]
  refine ⟨rfl, sdV_ext fun k hk => ?_⟩
  simp only [List.getD_eq_getElem?_getD, sdL_get f hk, Option.getD_some]
theorem mapM_of {α : Type} {sp : List UInt8 → Option α} : ∀ {ws : List (List UInt8)} {zs : List α}, ws.length = zs.length → (∀ (j : Nat) x, ws[j]? = some x → sp x = zs[j]?) → ws.mapM sp = some zs
  | [], [], _, _ => by simp
  | [], z :: zs, h, _ => by simp at h
  | w :: ws, [], h, _ => by simp at h
  | w :: ws, z :: zs, h, h2 => by
    have ih := mapM_of (ws := ws) (zs := zs) (by simpa using h) fun j x hx => by
      have := h2 (j + 1) x (by simpa using hx)
      simpa using this
    have h0 := h2 0 w rfl
    simp at h0
    simp [h0, ih]
theorem readSd_good {t : List UInt8} {f : Sd} (h : (splitS 32 t).length = 5) (hf : ∀ j, j < 5 → ∃ x, (splitS 32 t)[j]? = some x ∧ sdSp x = some (f j)) : readSd t = some (sdL f) := by
  have hm : (splitS 32 t).mapM sdSp = some (sdL f) := mapM_of (by rw [h, sdL_length]) fun j x hx => by
    have hj : j < 5 := by have := (List.getElem?_eq_some_iff.1 hx).1; omega
    obtain ⟨y, hy, h1⟩ := hf j hj
    rw [hx] at hy
    cases hy
    rw [h1, sdL_get f hj]
  unfold readSd readL
  rw [hm]
  simp [sdL_length]
theorem readSd_bad {t x : List UInt8} {k : Nat} (hx : (splitS 32 t)[k]? = some x) (hn : sdSp x = none) : readSd t = none := by
  unfold readSd
  rw [readL_bad hx hn]
  rfl
theorem readSd_words {t : List UInt8} {zs : List Int} (h : readSd t = some zs) : splitS 32 t = zs.map sdT ∧ (∀ a ∈ zs, sdOk a = true) ∧ zs.length = 5 ∧ readL 32 sdSp 5 t = some zs := by
  unfold readSd at h
  obtain ⟨as', ha, h⟩ := Option.bind_eq_some_iff.1 h
  split at h
  · cases h
    rename_i hl
    have h0 := ha
    unfold readL at ha
    obtain ⟨bs, hb, ha⟩ := Option.bind_eq_some_iff.1 ha
    split at ha
    · cases ha
      obtain ⟨h4, h5⟩ := mapM_some (tx := sdT) (ok := sdOk) (fun w a => (sdSp_iff w a).1) hb
      exact ⟨h4, h5, hl, h0⟩
    · cases ha
  · cases h
theorem readSd_len {t : List UInt8} (h : (splitS 32 t).length ≠ 5) : readSd t = none := by
  cases e : readSd t with
  | none => rfl
  | some zs =>
    obtain ⟨h1, -, h3, -⟩ := readSd_words e
    exact absurd (by rw [h1, List.length_map, h3]) h
/-- What the program cuts the text into. -/
def piecesSd (t : List UInt8) : List (List UInt8) := Lib.splitK [32] 0 (min 6 (t.length + 1) - 1) t
theorem piecesSd_is {t : List UInt8} {zs : List Int} (h : readSd t = some zs) : piecesSd t = zs.map sdT := by
  obtain ⟨h1, -, h3, -⟩ := readSd_words h
  have hl := splitS_len 32 t
  unfold piecesSd
  rw [splitK_is 32 _ t (by rw [h1, List.length_map, h3] at hl ⊢; omega), h1]
theorem piecesSd_len {t : List UInt8} (h : (piecesSd t).length ≠ 5) : readSd t = none := by
  cases e : readSd t with
  | none => rfl
  | some zs => exact absurd (by rw [piecesSd_is e, List.length_map, (readSd_words e).2.2.1]) h
theorem piecesSd_bad {t x : List UInt8} {k : Nat} (hx : (piecesSd t)[k]? = some x) (hn : ∀ v, Lib.parseIntB 64 x ≠ .ok v) : readSd t = none := by
  cases e : readSd t with
  | none => rfl
  | some zs =>
    rw [piecesSd_is e, List.getElem?_map, Option.map_eq_some_iff] at hx
    obtain ⟨z, hz, rfl⟩ := hx
    have h0 := sdOk_true.1 ((readSd_words e).2.1 z (List.mem_of_getElem? hz))
    exact absurd (parse64_dd z.toNat (by omega)) (hn _)
theorem sides_out {t : List UInt8} {f : Sd} (hl : (piecesSd t).length = 5) (hf : ∀ j, j < 5 → ∃ x, (piecesSd t)[j]? = some x ∧ Lib.parseIntB 64 x = .ok (f j)) :
    (((sidesS f).toList == t) = true ∧ readSd t = some (sdL f)) ∨ (((sidesS f).toList == t) = false ∧ readSd t = none) := by
  have e : (sidesS f).toList = lineL sdT sdOk 5 (sdL f) := by unfold sidesS; rw [Lib.toList_data]
  rw [e]
  cases hr : readSd t with
  | some zs =>
    obtain ⟨h1, h2, h3, h4⟩ := readSd_words hr
    have hz : sdL f = zs := by
      apply List.ext_getElem?
      intro j
      rcases Nat.lt_or_ge j 5 with hj | hj
      · obtain ⟨x, hx, hp⟩ := hf j hj
        rw [piecesSd_is hr, List.getElem?_map, Option.map_eq_some_iff] at hx
        obtain ⟨z, hz, rfl⟩ := hx
        have h0 := sdOk_true.1 (h2 z (List.mem_of_getElem? hz))
        unfold sdT at hp
        rw [parse64_dd z.toNat (by omega)] at hp
        injection hp with hp
        rw [sdL_get f hj, hz, ← hp]
        congr 1
        omega
      · rw [List.getElem?_eq_none (by rw [sdL_length]; exact hj), List.getElem?_eq_none (by omega)]
    refine .inl ⟨?_, by rw [hz]⟩
    rw [hz]
    obtain ⟨-, h5, -⟩ := back_some (tx := sdT) (ok := sdOk) (pr := fun w => match Lib.parseIntB 64 w with | .ok v => v | _ => 0) (fun a h => sd_mem h) sdSp_iff (fun a h => by
      have h0 := sdOk_true.1 h
      show (match Lib.parseIntB 64 (dd a.toNat) with | .ok v => v | _ => 0) = a
      rw [parse64_dd a.toNat (by omega)]
      simp only
      omega) h4
    rw [h5]
    simp
  | none =>
    refine .inr ⟨?_, rfl⟩
    rw [beq_eq_false_iff_ne]
    have ht : t ≠ [] := by
      rintro rfl
      simp [piecesSd, Lib.splitK] at hl
    cases hq : readL 32 sdSp 5 t with
    | none => exact back_none (fun a h => sd_mem h) sdSp_iff ht hq (sdL f)
    | some as' =>
      exfalso
      have h5 : as'.length ≠ 5 := by
        intro h5
        unfold readSd at hr
        rw [hq] at hr
        simp [h5] at hr
      obtain ⟨h4, -, h6, -⟩ := readL_some (tx := sdT) (ok := sdOk) (pr := fun w => match Lib.parseIntB 64 w with | .ok v => v | _ => 0) (fun a h => sd_mem h) sdSp_iff (fun a h => by
        have h0 := sdOk_true.1 h
        show (match Lib.parseIntB 64 (dd a.toNat) with | .ok v => v | _ => 0) = a
        rw [parse64_dd a.toNat (by omega)]
        simp only
        omega) hq
      have h7 := congrArg List.length h4
      rw [List.length_map] at h7
      unfold piecesSd at hl
      simp only [show (5 : Nat) + 1 = 6 from rfl] at h7
      omega
end Go.Proofs.YthfhpcigjnjkdaaDoor
