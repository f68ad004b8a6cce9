/- Reading levels: the pure part. -/
import Derived.Test.YthfhpcigjnjkdaaDoorLevT
namespace Go.Proofs.YthfhpcigjnjkdaaDoor
set_option linter.unusedVariables false
set_option linter.unusedSimpArgs false

/-- What is read of a signed number: the number, and whether it is written so. -/
def sgR (l : List UInt8) : Int × Bool := match l with
  | [] => (0, false)
  | a :: r => if a = 45 then (-(((numO r).getD 0 : Nat) : Int), (numO r).isSome && decide (0 < (numO r).getD 0)) else ((((numO (a :: r)).getD 0 : Nat) : Int), (numO (a :: r)).isSome)
theorem sgR_fin : ∀ n : Fin 19, sgR (sgT ((n.val : Int) - 9)) = ((n.val : Int) - 9, true) := by decide +kernel
theorem parse_fin : ∀ n : Fin 19, Lib.parseIntB 8 (sgT ((n.val : Int) - 9)) = .ok ((n.val : Int) - 9) := by decide +kernel
theorem sgT_fin : ∀ n : Fin 19, (sgT ((n.val : Int) - 9)).all (fun a => a != 32 && a != 10) = true := by decide +kernel
theorem sgR_sgT {z : Int} (h0 : -9 ≤ z) (h1 : z ≤ 9) : sgR (sgT z) = (z, true) := by
  have := sgR_fin ⟨(z + 9).toNat, by omega⟩
  simp only [show (((z + 9).toNat : Nat) : Int) - 9 = z by omega] at this
  exact this
theorem parse_sgT {z : Int} (h0 : -9 ≤ z) (h1 : z ≤ 9) : Lib.parseIntB 8 (sgT z) = .ok z := by
  have := parse_fin ⟨(z + 9).toNat, by omega⟩
  simp only [show (((z + 9).toNat : Nat) : Int) - 9 = z by omega] at this
  exact this
theorem sgT_not {z : Int} (h0 : -9 ≤ z) (h1 : z ≤ 9) : (32 : UInt8) ∉ sgT z ∧ (10 : UInt8) ∉ sgT z := by
  have := sgT_fin ⟨(z + 9).toNat, by omega⟩
  simp only [show (((z + 9).toNat : Nat) : Int) - 9 = z by omega] at this
  rw [List.all_eq_true] at this
  exact ⟨fun h => by simpa using this _ h, fun h => by simpa using this _ h⟩
theorem join_mem {c a : UInt8} : ∀ {ls : List (List UInt8)}, a ∈ joinS c ls → a = c ∨ ∃ l ∈ ls, a ∈ l
  | [], h => by simp [joinS] at h
  | [l], h => .inr ⟨l, by simp, by simpa [joinS] using h⟩
  | l :: m :: r, h => by
    simp only [joinS, List.mem_append, List.mem_cons] at h
    rcases h with h | h | h
    · exact .inr ⟨l, by simp, h⟩
    · exact .inl h
    · rcases join_mem h with h | ⟨x, hx, h⟩
      · exact .inl h
      · exact .inr ⟨x, List.mem_cons_of_mem _ hx, h⟩

/-- The text is that of valid levels. -/
def IsLv (L : Lawn) (t : List UInt8) (g : Nat → Nat → Int) : Prop := levB L g = true ∧ levsT g L.wide.toNat L.high.toNat = t
theorem rowL_mem {L : Lawn} {g : Nat → Nat → Int} (h : levB L g = true) {W y : Nat} (hW : W ≤ 10) (hy : y < 10) {z : Int} (hz : z ∈ rowL g W y) : -9 ≤ z ∧ z ≤ 9 := by
  unfold rowL at hz
  rw [List.mem_map] at hz
  obtain ⟨x, hx, rfl⟩ := hz
  exact lev_range h y x hy (by have := List.mem_range.1 hx; omega)
theorem lv_words {L : Lawn} {g : Nat → Nat → Int} (h : levB L g = true) {W y : Nat} (hW1 : 1 ≤ W) (hW : W ≤ 10) (hy : y < 10) : splitS 32 (rowLT g W y) = (rowL g W y).map sgT := by
  unfold rowLT
  refine split_join (fun e => ?_) fun l hl => ?_
  · have := congrArg List.length e
    rw [List.length_map, rowL_length, List.length_nil] at this
    omega
  · obtain ⟨z, hz, rfl⟩ := List.mem_map.1 hl
    obtain ⟨h0, h1⟩ := rowL_mem h hW hy hz
    exact (sgT_not h0 h1).1
theorem rowLT_not {L : Lawn} {g : Nat → Nat → Int} (h : levB L g = true) {W y : Nat} (hW : W ≤ 10) (hy : y < 10) : (10 : UInt8) ∉ rowLT g W y := fun hm => by
  unfold rowLT at hm
  rcases join_mem hm with e | ⟨l, hl, hm⟩
  · cases e
  · obtain ⟨z, hz, rfl⟩ := List.mem_map.1 hl
    obtain ⟨h0, h1⟩ := rowL_mem h hW hy hz
    exact (sgT_not h0 h1).2 hm
theorem lv_lines {L : Lawn} {g : Nat → Nat → Int} (h : levB L g = true) {W H : Nat} (hW : W ≤ 10) (hH : H ≤ 10) : splitS 10 (levsT g W H) = (List.range H).map (rowLT g W) ++ [[]] := by
  have e : levsT g W H = ((List.range H).map (rowLT g W)).flatMap fun r => r ++ [10] := by
    unfold levsT
    rw [List.flatMap_map]
  rw [e]
  refine split_rows fun r hr => ?_
  obtain ⟨y, hy, rfl⟩ := List.mem_map.1 hr
  exact rowLT_not h hW (by have := List.mem_range.1 hy; omega)
/-- The lines and the words of a text, of the model and of the program. -/
def linesP (H : Nat) (t : List UInt8) : List (List UInt8) := Lib.splitK [10] 0 (min (H + 1) (t.length + 1) - 1) t
def wordsP (W : Nat) (l : List UInt8) : List (List UInt8) := Lib.splitK [32] 0 (min (W + 1) (l.length + 1) - 1) l
section
variable {L : Lawn} {t : List UInt8} {g : Nat → Nat → Int} {W H : Nat}
theorem lv_all (hW : L.wide.toNat = W) (hH : L.high.toNat = H) (h0 : 1 ≤ W) (h1 : W ≤ 10) (h2 : 1 ≤ H) (h3 : H ≤ 10) (h : IsLv L t g) :
    (splitS 10 t).length = H + 1 ∧ linesP H t = splitS 10 t ∧ ∀ y, y < H → ∃ l, (splitS 10 t)[y]? = some l ∧ wordsP W l = splitS 32 l ∧ (splitS 32 l).length = W ∧ ∀ x, x < W → (splitS 32 l)[x]? = some (sgT (g y x)) ∧ -9 ≤ g y x ∧ g y x ≤ 9 := by
  obtain ⟨hb, ht⟩ := h
  rw [hW, hH] at ht
  have hl := lv_lines hb (W := W) (H := H) h1 h3
  rw [ht] at hl
  have hn : (splitS 10 t).length = H + 1 := by rw [hl]; simp
  refine ⟨hn, ?_, fun y hy => ?_⟩
  · have := splitS_len 10 t
    exact splitK_is 10 _ t (by omega)
  · have hw := lv_words hb (W := W) (y := y) h0 h1 (by omega)
    refine ⟨rowLT g W y, ?_, ?_, ?_, fun x hx => ?_⟩
    · rw [hl, List.getElem?_append_left (by simp; omega), List.getElem?_map, List.getElem?_range hy]
      rfl
    · have := splitS_len 32 (rowLT g W y)
      rw [hw, List.length_map, rowL_length] at this
      exact splitK_is 32 _ _ (by rw [hw, List.length_map, rowL_length]; omega)
    · rw [hw, List.length_map, rowL_length]
    · rw [hw, List.getElem?_map, rowL_get g hx]
      exact ⟨rfl, lev_range hb y x (by omega) (by omega)⟩
end
/-- The levels that have been read so far. -/
def fillC (C : Nat → Nat → Int) (W k j : Nat) : Nat → Nat → Int := fun y x => if x < W ∧ (y < k ∨ y = k ∧ x < j) then C y x else 0
theorem fillC_zero (C : Nat → Nat → Int) (W : Nat) : fillC C W 0 0 = fun _ _ => 0 := by
  funext y x
  unfold fillC
  rw [if_neg (by omega)]
theorem fillC_set (C : Nat → Nat → Int) {W k j : Nat} (hj : j < W) : upd (fillC C W k j) k j (C k j) = fillC C W k (j + 1) := by
  funext y x
  unfold upd fillC
  by_cases e : y = k ∧ x = j
  · obtain ⟨rfl, rfl⟩ := e
    rw [if_pos ⟨rfl, rfl⟩, if_pos (by omega)]
  · rw [if_neg e]
    by_cases e2 : x < W ∧ (y < k ∨ y = k ∧ x < j)
    · rw [if_pos e2, if_pos (by omega)]
    · rw [if_neg e2, if_neg (by omega)]
theorem fillC_row (C : Nat → Nat → Int) (W k : Nat) : fillC C W k W = fillC C W (k + 1) 0 := by
  funext y x
  unfold fillC
  by_cases e : x < W ∧ (y < k ∨ y = k ∧ x < W)
  · rw [if_pos e, if_pos (by omega)]
  · rw [if_neg e, if_neg (by omega)]
theorem rowLT_ext {g g' : Nat → Nat → Int} {W y : Nat} (hW : W ≤ 10) (hy : y < 10) (h : ∀ y x, y < 10 → x < 10 → g y x = g' y x) : rowLT g W y = rowLT g' W y := by
  have e : rowL g W y = rowL g' W y := List.map_congr_left fun x hx => h y x hy (by have := List.mem_range.1 hx; omega)
  unfold rowLT
  rw [e]
theorem levsT_ext {g g' : Nat → Nat → Int} {W : Nat} (hW : W ≤ 10) (h : ∀ y x, y < 10 → x < 10 → g y x = g' y x) : ∀ {H : Nat}, H ≤ 10 → levsT g W H = levsT g' W H
  | 0, _ => rfl
  | H + 1, hH => by rw [levsT_succ, levsT_succ, levsT_ext hW h (H := H) (by omega), rowLT_ext hW (by omega) h]
theorem levB_ext {L : Lawn} {g g' : Nat → Nat → Int} (h : ∀ y x, y < 10 → x < 10 → g y x = g' y x) (hb : levB L g = true) : levB L g' = true := by
  obtain ⟨h1, h2⟩ := levB_true hb
  refine levB_of h1 fun y x hy hx _ => ?_
  have := h2 y x hy hx
  unfold levAt at this ⊢
  rw [← h y x hy hx]
  exact this
/-- What is read is what has been written. -/
theorem fill_is {L : Lawn} {g C : Nat → Nat → Int} {W H : Nat} (hW : L.wide.toNat = W) (hH : L.high.toNat = H) (hb : levB L g = true) (h : ∀ y x, y < H → x < W → C y x = g y x) : ∀ y x, y < 10 → x < 10 → fillC C W H 0 y x = g y x := fun y x hy hx => by
  unfold fillC
  by_cases e : x < W ∧ (y < H ∨ y = H ∧ x < 0)
  · rw [if_pos e]
    exact h y x (by omega) e.1
  · rw [if_neg e]
    rcases (levAt_true ((levB_true hb).2 y x hy hx)).2 with h0 | h0
    · exact h0.symm
    · have := isB_in (grassB_in h0)
      omega
/-- The levels of a text, and the code. -/
noncomputable def rlG (L : Lawn) (t : List UInt8) : Nat → Nat → Int := open Classical in if h : ∃ g, IsLv L t g then Classical.choose h else fun _ _ => 0
noncomputable def rlC (L : Lawn) (t : List UInt8) : Int := open Classical in if ∃ g, IsLv L t g then 0 else 5
theorem rl_none {L : Lawn} {t : List UInt8} (h : ∀ g, ¬ IsLv L t g) : rlC L t = 5 ∧ levV (rlG L t) = levV fun _ _ => 0 := by
  have hn : ¬ ∃ g, IsLv L t g := fun ⟨g, hg⟩ => h g hg
  unfold rlC rlG
  rw [if_neg hn, dif_neg hn]
  exact ⟨rfl, rfl⟩
section
variable {L : Lawn} {t : List UInt8} {g : Nat → Nat → Int} {W H : Nat}
theorem rl_some (hW : L.wide.toNat = W) (hH : L.high.toNat = H) (h0 : 1 ≤ W) (h1 : W ≤ 10) (h2 : 1 ≤ H) (h3 : H ≤ 10) (h : IsLv L t g) : rlC L t = 0 ∧ levV (rlG L t) = levV g := by
  have he : ∃ g, IsLv L t g := ⟨g, h⟩
  unfold rlC rlG
  rw [if_pos he, dif_pos he]
  refine ⟨rfl, ?_⟩
  have hc := Classical.choose_spec he
  generalize Classical.choose he = g' at hc
  obtain ⟨-, -, a1⟩ := lv_all hW hH h0 h1 h2 h3 h
  obtain ⟨-, -, a2⟩ := lv_all hW hH h0 h1 h2 h3 hc
  have hp : ∀ y x, y < H → x < W → g' y x = g y x := fun y x hy hx => by
    obtain ⟨l, e1, -, -, f1⟩ := a1 y hy
    obtain ⟨l', e2, -, -, f2⟩ := a2 y hy
    rw [e1] at e2
    cases e2
    obtain ⟨q1, r1, r2⟩ := f1 x hx
    obtain ⟨q2, r3, r4⟩ := f2 x hx
    rw [q1] at q2
    have e3 := sgR_sgT r1 r2
    rw [Option.some.inj q2, sgR_sgT r3 r4] at e3
    exact (Prod.mk.inj e3).1
  refine levV_ext fun y x hy hx => ?_
  rw [← fill_is hW hH hc.1 (fun y x _ _ => rfl) y x hy hx, ← fill_is hW hH h.1 hp y x hy hx]
/-- The end: what has been read is written again. -/
theorem rl_end (hW : L.wide.toNat = W) (hH : L.high.toNat = H) (h0 : 1 ≤ W) (h1 : W ≤ 10) (h2 : 1 ≤ H) (h3 : H ≤ 10) {C : Nat → Nat → Int} (hC : ∀ g, IsLv L t g → ∀ y x, y < H → x < W → C y x = g y x) :
    (levB L (fillC C W H 0) = true ∧ levsT (fillC C W H 0) W H = t → rlC L t = 0 ∧ levV (rlG L t) = levV (fillC C W H 0)) ∧ (¬ (levB L (fillC C W H 0) = true ∧ levsT (fillC C W H 0) W H = t) → rlC L t = 5 ∧ levV (rlG L t) = levV fun _ _ => 0) := by
  refine ⟨fun h => rl_some hW hH h0 h1 h2 h3 ⟨h.1, by rw [hW, hH]; exact h.2⟩, fun h => rl_none fun g hg => h ?_⟩
  have hf := fill_is hW hH hg.1 (hC g hg)
  refine ⟨levB_ext (fun y x hy hx => (hf y x hy hx).symm) hg.1, ?_⟩
  rw [levsT_ext h1 hf h3]
  have := hg.2
  rw [hW, hH] at this
  exact this
end
end Go.Proofs.YthfhpcigjnjkdaaDoor
