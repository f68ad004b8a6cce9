/- Pieces of grass: the pure part. -/
import Derived.Test.YtaeenkjbmlgcmaaSReach
namespace Go.Proofs.Ytaeenkjbmlgcmaa
open Go.RowKit
set_option linter.unusedVariables false

/-- Whether a cell is one to which one comes from a cell of grass over grass. -/
def hitB (L : Lawn) {W H : Nat} (c a : Fin W × Fin H) : Bool := (alLook (found (passG L true) ((c.1.val : Int), (c.2.val : Int)) 100) ((a.1.val : Int), (a.2.val : Int))).isSome
/-- Those of some cells that are of the piece of a cell. -/
def pieceT (L : Lawn) {W H : Nat} (c : Fin W × Fin H) (l : List (Fin W × Fin H)) : List (Fin W × Fin H) := l.filter (hitB L c)
/-- The piece of a cell. -/
def pieceL (L : Lawn) {W H : Nat} (c : Fin W × Fin H) : List (Fin W × Fin H) := pieceT L c (allC W H)
def inP {W H : Nat} (P : List (List (Fin W × Fin H))) (c : Fin W × Fin H) : Bool := P.any fun p => p.contains c
def stepPc (L : Lawn) {W H : Nat} (P : List (List (Fin W × Fin H))) (c : Fin W × Fin H) : List (List (Fin W × Fin H)) := if inP P c then P else P ++ [pieceL L c]
/-- The pieces of the cells of grass in a list. -/
def piecesG (L : Lawn) {W H : Nat} (l : List (Fin W × Fin H)) : List (List (Fin W × Fin H)) := l.foldl (stepPc L) []
/-- The pieces of a list of cells, of which those that are no grass are left out. -/
def piecesF (L : Lawn) {W H : Nat} (l : List (Fin W × Fin H)) : List (List (Fin W × Fin H)) := l.foldl (fun P c => if L.kind c.2 c.1 == 0 then stepPc L P c else P) []
theorem piecesF_is (L : Lawn) (W H : Nat) : piecesF L (allC W H) = piecesG L (ofKind L W H 0) := by
  unfold piecesF piecesG ofKind
  rw [List.foldl_filter]
theorem piecesF_bare {L : Lawn} {W H : Nat} {pre : List (Fin W × Fin H)} {c : Fin W × Fin H} (h : (L.kind c.2 c.1 == 0) = false) : piecesF L (pre ++ [c]) = piecesF L pre := by
  unfold piecesF
  rw [List.foldl_append, List.foldl_cons, List.foldl_nil, h]
  rfl
theorem piecesF_old {L : Lawn} {W H : Nat} {pre : List (Fin W × Fin H)} {c : Fin W × Fin H} (h : (L.kind c.2 c.1 == 0) = true) (hi : inP (piecesF L pre) c = true) : piecesF L (pre ++ [c]) = piecesF L pre := by
  unfold piecesF at hi ⊢
  rw [List.foldl_append, List.foldl_cons, List.foldl_nil, h, if_pos rfl]
  exact if_pos hi
theorem piecesF_new {L : Lawn} {W H : Nat} {pre : List (Fin W × Fin H)} {c : Fin W × Fin H} (h : (L.kind c.2 c.1 == 0) = true) (hi : inP (piecesF L pre) c = false) : piecesF L (pre ++ [c]) = piecesF L pre ++ [pieceL L c] := by
  unfold piecesF at hi ⊢
  rw [List.foldl_append, List.foldl_cons, List.foldl_nil, h, if_pos rfl]
  exact if_neg (by rw [hi]; decide)
theorem piecesG_old {L : Lawn} {W H : Nat} {l : List (Fin W × Fin H)} {i : Nat} {c : Fin W × Fin H} (hc : l[i]? = some c) (hi : inP (piecesG L (l.take i)) c = true) : piecesG L (l.take (i + 1)) = piecesG L (l.take i) := by
  unfold piecesG at hi ⊢
  rw [List.take_add_one, hc, Option.toList_some, List.foldl_append, List.foldl_cons, List.foldl_nil]
  exact if_pos hi
theorem piecesG_new {L : Lawn} {W H : Nat} {l : List (Fin W × Fin H)} {i : Nat} {c : Fin W × Fin H} (hc : l[i]? = some c) (hi : inP (piecesG L (l.take i)) c = false) : piecesG L (l.take (i + 1)) = piecesG L (l.take i) ++ [pieceL L c] := by
  unfold piecesG at hi ⊢
  rw [List.take_add_one, hc, Option.toList_some, List.foldl_append, List.foldl_cons, List.foldl_nil]
  exact if_neg (by rw [hi]; decide)
theorem piecesG_le (L : Lawn) {W H : Nat} (l : List (Fin W × Fin H)) : (piecesG L l).length ≤ l.length := by
  have key : ∀ (l : List (Fin W × Fin H)) (P : List (List (Fin W × Fin H))), (l.foldl (stepPc L) P).length ≤ P.length + l.length := by
    intro l
    induction l with
    | nil => intro P; simp
    | cons c l ih =>
      intro P
      rw [List.foldl_cons]
      have h1 := ih (stepPc L P c)
      have h2 : (stepPc L P c).length ≤ P.length + 1 := by
        unfold stepPc
        split <;> simp
      simp only [List.length_cons]
      omega
  have := key l []
  simpa [piecesG] using this
theorem piecesF_le (L : Lawn) {W H : Nat} (l : List (Fin W × Fin H)) : (piecesF L l).length ≤ l.length := by
  have : piecesF L l = piecesG L (l.filter fun c => L.kind c.2 c.1 == 0) := by
    unfold piecesF piecesG
    rw [List.foldl_filter]
  rw [this]
  exact Nat.le_trans (piecesG_le L _) (List.length_filter_le _ _)
theorem piecesG_mem (L : Lawn) {W H : Nat} (l : List (Fin W × Fin H)) : ∀ p ∈ piecesG L l, ∃ c, p = pieceL L c := by
  have key : ∀ (l : List (Fin W × Fin H)) (P : List (List (Fin W × Fin H))), (∀ p ∈ P, ∃ c, p = pieceL L c) → ∀ p ∈ l.foldl (stepPc L) P, ∃ c, p = pieceL L c := by
    intro l
    induction l with
    | nil => intro P h; exact h
    | cons c l ih =>
      intro P h
      rw [List.foldl_cons]
      refine ih _ fun p hp => ?_
      unfold stepPc at hp
      split at hp
      · exact h p hp
      · rcases List.mem_append.1 hp with hp | hp
        · exact h p hp
        · simp at hp; exact ⟨c, hp⟩
  exact key l [] (by simp)
theorem pieceL_le (L : Lawn) {W H : Nat} (c : Fin W × Fin H) : (pieceL L c).length ≤ H * W := by
  unfold pieceL pieceT
  refine Nat.le_trans (List.length_filter_le _ _) ?_
  rw [allC_length]
  exact Nat.le_refl _
theorem piecesF_mem (L : Lawn) {W H : Nat} (l : List (Fin W × Fin H)) : ∀ p ∈ piecesF L l, p.length ≤ H * W := by
  have : piecesF L l = piecesG L (l.filter fun c => L.kind c.2 c.1 == 0) := by
    unfold piecesF piecesG
    rw [List.foldl_filter]
  rw [this]
  intro p hp
  obtain ⟨c, rfl⟩ := piecesG_mem L _ p hp
  exact pieceL_le L c

/-- Where a cell of some pieces lies. -/
def doneB {W H : Nat} (P : List (List (Fin W × Fin H))) (y x : Nat) : Bool := P.any fun p => p.any fun a => decide (a.2.val = y ∧ a.1.val = x)
def updB (g : Nat → Nat → Bool) (y x : Nat) (v : Bool) : Nat → Nat → Bool := fun y' x' => if y' = y ∧ x' = x then v else g y' x'
theorem doneB_in {W H : Nat} (P : List (List (Fin W × Fin H))) (c : Fin W × Fin H) : doneB P c.2.val c.1.val = inP P c := by
  unfold doneB inP
  congr 1
  funext p
  rw [Bool.eq_iff_iff, List.any_eq_true, List.contains_iff_mem]
  constructor
  · rintro ⟨a, ha, h⟩
    simp only [decide_eq_true_eq] at h
    have : a = c := Prod.ext (Fin.ext h.2) (Fin.ext h.1)
    exact this ▸ ha
  · intro h
    exact ⟨c, h, by simp⟩
theorem doneB_none {W H : Nat} (P : List (List (Fin W × Fin H))) : doneB (P ++ [[]]) = doneB P := by
  funext y x
  simp [doneB]
theorem doneB_more {W H : Nat} (P : List (List (Fin W × Fin H))) (p : List (Fin W × Fin H)) (a : Fin W × Fin H) : updB (doneB (P ++ [p])) a.2.val a.1.val true = doneB (P ++ [p ++ [a]]) := by
  funext y x
  unfold updB
  split
  · rename_i h
    simp [doneB, h.1, h.2]
  · rename_i h
    have hd : decide (a.2.val = y ∧ a.1.val = x) = false := decide_eq_false (fun hh => h ⟨hh.1.symm, hh.2.symm⟩)
    unfold doneB
    simp only [List.any_append, List.any_cons, List.any_nil, hd, Bool.or_false]
theorem pieceT_hit {L : Lawn} {W H : Nat} {c a : Fin W × Fin H} {l : List (Fin W × Fin H)} {k : Nat} (ha : l[k]? = some a) (h : hitB L c a = true) : pieceT L c (l.take (k + 1)) = pieceT L c (l.take k) ++ [a] := by
  unfold pieceT
  rw [List.take_add_one, ha]
  simp [h]
theorem pieceT_miss {L : Lawn} {W H : Nat} {c a : Fin W × Fin H} {l : List (Fin W × Fin H)} {k : Nat} (ha : l[k]? = some a) (h : hitB L c a = false) : pieceT L c (l.take (k + 1)) = pieceT L c (l.take k) := by
  unfold pieceT
  rw [List.take_add_one, ha]
  simp [h]
theorem pieceT_snoc (L : Lawn) {W H : Nat} (c a : Fin W × Fin H) (l : List (Fin W × Fin H)) : pieceT L c (l ++ [a]) = pieceT L c l ++ (if hitB L c a then [a] else []) := by
  unfold pieceT
  rw [List.filter_append, List.filter_cons, List.filter_nil]
/-- What is found lies at grass. -/
theorem found_pass {pass : Pt → Bool} {s : Pt} (hs : pass s = true) {c : Pt} (h : (alLook (found pass s 100) c).isSome = true) : pass c = true := by
  have key : ∀ {G : Found} {c : Pt}, (alLook G c).isSome = true → ∃ v, (c, v) ∈ G := by
    intro G
    induction G with
    | nil => intro c h; cases h
    | cons p G ih =>
      obtain ⟨a, u⟩ := p
      intro c h
      unfold alLook at h
      split at h
      · rename_i e; subst e; exact ⟨u, by simp⟩
      · obtain ⟨v, hv⟩ := ih h
        exact ⟨v, List.mem_cons_of_mem _ hv⟩
  obtain ⟨v, hv⟩ := key h
  exact (found_good hs 100).pass _ hv
theorem pieceT_grass {L : Lawn} {W H : Nat} {c : Fin W × Fin H} (hs : passG L true ((c.1.val : Int), (c.2.val : Int)) = true) : pieceT L c (ofKind L W H 0) = pieceL L c := by
  unfold pieceL pieceT ofKind
  rw [List.filter_filter]
  refine List.filter_congr fun a _ => ?_
  cases h : hitB L c a with
  | false => rfl
  | true =>
    have := found_pass hs h
    simp only [passG, if_true, grassP, grassB, Bool.and_eq_true, Int.toNat_natCast] at this
    simp [this.2]
theorem hitB_steps {L : Lawn} {W H : Nat} {c a : Fin W × Fin H} (hs : passG L true ((c.1.val : Int), (c.2.val : Int)) = true) : decide (0 ≤ gridF (found (passG L true) ((c.1.val : Int), (c.2.val : Int)) 100) a.2.val a.1.val) = hitB L c a := by
  unfold gridF stepsAt hitB
  cases h : alLook (found (passG L true) ((c.1.val : Int), (c.2.val : Int)) 100) ((a.1.val : Int), (a.2.val : Int)) with
  | none => rfl
  | some v =>
    have := good_some (found_good hs 100) h
    simpa using this
/-- What PiecesOf answers. -/
def pcC (L : Lawn) : Int := if validB L then 0 else 1
def pcR (L : Lawn) : List (List Value) := if validB L then (piecesG L (ofKind L L.wide.toNat L.high.toNat 0)).map flatV else []
theorem flatV_half {W H : Nat} (l : List (Fin W × Fin H)) : (flatV l).length / 2 = l.length := by
  rw [flatV_length]; omega
theorem pcR_len (L : Lawn) : (pcR L).length ≤ 1000 := by
  unfold pcR
  cases hv : validB L with
  | false => simp
  | true =>
    obtain ⟨h1, h2, -⟩ := validB_true hv
    simp only [if_true, List.length_map]
    have h := piecesG_le L (ofKind L L.wide.toNat L.high.toNat 0)
    have h3 : (ofKind L L.wide.toNat L.high.toNat 0).length ≤ L.high.toNat * L.wide.toNat := by
      unfold ofKind
      refine Nat.le_trans (List.length_filter_le _ _) ?_
      rw [allC_length]
      exact Nat.le_refl _
    have h4 : L.high.toNat * L.wide.toNat ≤ 10 * 10 := Nat.mul_le_mul (by omega) (by omega)
    omega
theorem pcR_ints (L : Lawn) : ∀ xs ∈ pcR L, xs.length ≤ 1000 ∧ ∀ j, j < xs.length / 2 * 2 → ∃ z, xs[j]? = some (.int .i8 z) := by
  unfold pcR
  cases hv : validB L with
  | false => simp
  | true =>
    obtain ⟨h1, h2, -⟩ := validB_true hv
    simp only [if_true]
    intro xs hxs
    obtain ⟨p, hp, rfl⟩ := List.mem_map.1 hxs
    obtain ⟨c, rfl⟩ := piecesG_mem L _ p hp
    have h3 := pieceL_le L c
    have h4 : L.high.toNat * L.wide.toNat ≤ 10 * 10 := Nat.mul_le_mul (by omega) (by omega)
    refine ⟨by rw [flatV_length]; omega, fun j hj => ?_⟩
    rw [flatV_half] at hj
    exact flatV_ints _ _ rfl j hj
end Go.Proofs.Ytaeenkjbmlgcmaa
