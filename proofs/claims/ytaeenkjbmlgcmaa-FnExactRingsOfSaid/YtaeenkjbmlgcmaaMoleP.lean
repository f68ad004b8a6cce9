/- Moles, pure. -/
import Derived.Test.YtaeenkjbmlgcmaaZP
import Derived.Test.YtaeenkjbmlgcmaaZG
import Derived.Test.YtaeenkjbmlgcmaaZK
namespace Go.Proofs.Ytaeenkjbmlgcmaa
set_option linter.unusedVariables false

/-- A cell of the grid. -/
abbrev Q10 := Fin 10 × Fin 10
def ptQ (q : Q10) : Pt := ((q.1.val : Int), (q.2.val : Int))
def toQ (p : Pt) : Q10 := (⟨p.1.toNat % 10, Nat.mod_lt _ (by decide)⟩, ⟨p.2.toNat % 10, Nat.mod_lt _ (by decide)⟩)
theorem ptQ_toQ {p : Pt} (h : (0 ≤ p.1 ∧ p.1 < 10) ∧ 0 ≤ p.2 ∧ p.2 < 10) : ptQ (toQ p) = p := by
  obtain ⟨x, y⟩ := p
  simp only [ptQ, toQ, Prod.mk.injEq] at *
  omega
theorem toQ_ptQ (q : Q10) : toQ (ptQ q) = q := by
  obtain ⟨⟨x, hx⟩, ⟨y, hy⟩⟩ := q
  simp only [ptQ, toQ, Int.toNat_natCast, Prod.mk.injEq, Fin.mk.injEq]
  omega
theorem ptQ_inj {a b : Q10} (h : ptQ a = ptQ b) : a = b := by rw [← toQ_ptQ a, ← toQ_ptQ b, h]
def wayK (L : Lawn) (q : Q10) (k : Nat) : List Q10 := (((beside (ptQ q)).take k).filter (grassP L)).map toQ
/-- The ways that a mole can go. -/
def waysQ (L : Lawn) (q : Q10) : List Q10 := wayK L q 4
theorem wayK_hit {L : Lawn} {q : Q10} {k : Nat} {c : Pt} (h : (beside (ptQ q))[k]? = some c) (hi : grassP L c = true) : wayK L q (k + 1) = wayK L q k ++ [toQ c] := by
  unfold wayK
  rw [List.take_add_one, h]
  simp [hi]
theorem wayK_miss {L : Lawn} {q : Q10} {k : Nat} {c : Pt} (h : (beside (ptQ q))[k]? = some c) (hi : grassP L c = false) : wayK L q (k + 1) = wayK L q k := by
  unfold wayK
  rw [List.take_add_one, h]
  simp [hi]
theorem wayK_le (L : Lawn) (q : Q10) (k : Nat) : (wayK L q k).length ≤ 4 := by
  unfold wayK
  rw [List.length_map]
  refine Nat.le_trans (List.length_filter_le _ _) ?_
  simp [beside]; omega
/-- The ways that are left when it does not go back. -/
def leftQ (L : Lawn) (q bf : Q10) : List Q10 := if 1 < (waysQ L q).length then (waysQ L q).filter (fun c => c != bf) else waysQ L q
def ltQ (g : Nat → Nat → Int) (a b : Q10) : Bool := decide (g a.2.val a.1.val < g b.2.val b.1.val)
/-- Where it goes. -/
def nextQ (L : Lawn) (g : Nat → Nat → Int) (q bf : Q10) : Q10 := (bestL (ltQ g) (leftQ L q bf) (leftQ L q bf).length).getD q
/-- The levels behind. -/
def nightG (g : Nat → Nat → Int) (q : Q10) : Nat → Nat → Int := upd g q.2.val q.1.val (min (g q.2.val q.1.val + 1) 9)

/-- One cell that the model looks at. -/
def seeQ (L : Lawn) (g : Nat → Nat → Int) (q bf : Q10) (ex : Bool) (best : Q10) (c : Pt) : Q10 :=
  if !grassP L c || ex && c == ptQ bf then best else if best = q ∨ ltQ g (toQ c) best = true then toQ c else best
theorem besideK_all (L : Lawn) (q : Q10) : (besideK L (ptQ q).1 (ptQ q).2 4) = (beside (ptQ q)).filter fun c => isB L c.1 c.2 := by
  unfold besideK
  rw [List.take_of_length_le (by simp [beside])]
theorem beside_ne (q : Q10) : ∀ c ∈ beside (ptQ q), c ≠ ptQ q := by
  obtain ⟨⟨x, hx⟩, ⟨y, hy⟩⟩ := q
  intro c hc
  simp only [beside, ptQ, List.mem_cons, List.not_mem_nil, or_false] at hc
  rcases hc with rfl | rfl | rfl | rfl <;> simp [ptQ] <;> omega
theorem beside_nodup (c : Pt) : (beside c).Nodup := by
  obtain ⟨x, y⟩ := c
  simp [beside]
  omega
/-- What the model has found over a list of cells is the best of those that it takes. -/
theorem see_fold {L : Lawn} (hv : validB L = true) (g : Nat → Nat → Int) (q bf : Q10) (ex : Bool) : ∀ (l : List Pt), (∀ c ∈ l, c ≠ ptQ q) → ∀ (o : Option Q10), (∀ b, o = some b → b ≠ q) → l.foldl (seeQ L g q bf ex) (o.getD q) = ((((l.filter fun c => grassP L c && !(ex && c == ptQ bf)).map toQ).foldl (pickL (ltQ g)) o).getD q) := by
  intro l
  induction l with
  | nil => intro _ o _; rfl
  | cons c l ih =>
    intro hl o ho
    have hc := hl c (by simp)
    rw [List.foldl_cons, List.filter_cons]
    cases hg : grassP L c with
    | false =>
      simp only [Bool.false_and, Bool.false_eq_true, if_false]
      rw [show seeQ L g q bf ex (o.getD q) c = o.getD q by simp [seeQ, hg]]
      exact ih (fun d hd => hl d (by simp [hd])) o ho
    | true =>
      cases he : (ex && c == ptQ bf) with
      | true =>
        simp only [Bool.true_and, Bool.not_true, Bool.false_eq_true, if_false]
        rw [show seeQ L g q bf ex (o.getD q) c = o.getD q by simp only [seeQ, hg, he]; simp]
        exact ih (fun d hd => hl d (by simp [hd])) o ho
      | false =>
        simp only [Bool.true_and, Bool.not_false, if_true, List.map_cons, List.foldl_cons]
        have hne : toQ c ≠ q := fun h => hc (by rw [← h, ptQ_toQ (grassP_near hv c hg)])
        have hstep : seeQ L g q bf ex (o.getD q) c = (pickL (ltQ g) o (toQ c)).getD q := by
          unfold seeQ
          rw [hg, he]
          simp only [Bool.not_true, Bool.or_self, Bool.false_eq_true, if_false]
          cases o with
          | none => simp [pickL]
          | some b =>
            have hb := ho b rfl
            simp only [Option.getD_some, hb, false_or, pickL]
            split <;> rfl
        rw [hstep]
        refine ih (fun d hd => hl d (by simp [hd])) _ fun b hb => ?_
        cases o with
        | none => simp [pickL] at hb; exact hb ▸ hne
        | some b' =>
          simp only [pickL] at hb
          split at hb
          · cases hb; exact hne
          · cases hb; exact ho _ rfl
/-- The model's two rounds. -/
def roundQ (L : Lawn) (g : Nat → Nat → Int) (q bf : Q10) (ex : Bool) (best : Q10) : Q10 := (besideK L (ptQ q).1 (ptQ q).2 4).foldl (seeQ L g q bf ex) best
theorem round_is {L : Lawn} (hv : validB L = true) (g : Nat → Nat → Int) (q bf : Q10) (ex : Bool) : roundQ L g q bf ex q = (bestL (ltQ g) ((waysQ L q).filter fun c => !(ex && c == bf)) ((waysQ L q).filter fun c => !(ex && c == bf)).length).getD q := by
  unfold roundQ
  have h1 := see_fold hv g q bf ex (besideK L (ptQ q).1 (ptQ q).2 4) (fun c hc => by
    rw [besideK_all] at hc
    exact beside_ne q c (List.mem_filter.1 hc).1) none (by simp)
  rw [show (none : Option Q10).getD q = q from rfl] at h1
  rw [h1]
  unfold bestL
  rw [List.take_length]
  congr 2
  unfold waysQ wayK
  rw [besideK_all, List.take_of_length_le (by simp [beside]), List.filter_filter, List.filter_map, List.filter_filter]
  congr 1
  refine List.filter_congr fun c _ => ?_
  cases hg : grassP L c with
  | false => simp
  | true =>
    have hi : isB L c.1 c.2 = true := grassB_in hg
    have e : (toQ c == bf) = (c == ptQ bf) := by
      rw [Bool.eq_iff_iff]
      simp only [beq_iff_eq]
      exact ⟨fun h => by rw [← h, ptQ_toQ (grassP_near hv c hg)], fun h => by rw [h, toQ_ptQ]⟩
    simp [hi, e]
theorem waysQ_nodup {L : Lawn} (hv : validB L = true) (q : Q10) : (waysQ L q).Nodup := by
  unfold waysQ wayK
  refine List.Pairwise.map _ (R := fun a b => a ≠ b ∧ grassP L a = true ∧ grassP L b = true) (fun a b ⟨h, ha, hb⟩ he => h ?_) ?_
  · rw [← ptQ_toQ (grassP_near hv a ha), ← ptQ_toQ (grassP_near hv b hb), he]
  · have h1 : (((beside (ptQ q)).take 4).filter (grassP L)).Nodup := ((beside_nodup _).sublist (List.take_sublist _ _)).filter _
    rw [List.nodup_iff_pairwise_ne] at h1
    exact h1.imp_of_mem fun ha hb h => ⟨h, (List.mem_filter.1 ha).2, (List.mem_filter.1 hb).2⟩
theorem waysQ_ne {L : Lawn} (hv : validB L = true) (q : Q10) : ∀ c ∈ waysQ L q, c ≠ q := by
  intro c hc
  unfold waysQ wayK at hc
  obtain ⟨p, hp, rfl⟩ := List.mem_map.1 hc
  have h2 := List.mem_filter.1 hp
  intro h
  exact beside_ne q p (List.mem_of_mem_take h2.1) (by rw [← h, ptQ_toQ (grassP_near hv p h2.2)])
theorem bestL_mem {α : Type} (lt : α → α → Bool) (l : List α) : ∀ b, bestL lt l l.length = some b → b ∈ l := by
  have key : ∀ (l : List α) (o : Option α) b, l.foldl (pickL lt) o = some b → b ∈ l ∨ o = some b := by
    intro l
    induction l with
    | nil => intro o b h; exact .inr h
    | cons c l ih =>
      intro o b h
      rw [List.foldl_cons] at h
      rcases ih _ b h with h1 | h1
      · exact .inl (by simp [h1])
      · cases o with
        | none => simp [pickL] at h1; exact .inl (by simp [h1])
        | some d =>
          simp only [pickL] at h1
          split at h1
          · cases h1; exact .inl (by simp)
          · cases h1; exact .inr rfl
  intro b hb
  unfold bestL at hb
  rw [List.take_length] at hb
  rcases key l none b hb with h | h
  · exact h
  · cases h
theorem bestL_none {α : Type} (lt : α → α → Bool) (l : List α) (h : bestL lt l l.length = none) : l = [] := by
  cases l with
  | nil => rfl
  | cons c l =>
    obtain ⟨b, hb⟩ := bestL_some lt (l := c :: l) (i := (c :: l).length) (by simp) (Nat.le_refl _)
    rw [hb] at h
    cases h
/-- Both sides go to the same cell. -/
theorem rounds_next {L : Lawn} (hv : validB L = true) (g : Nat → Nat → Int) (q bf : Q10) : (if roundQ L g q bf true q = q then roundQ L g q bf false q else roundQ L g q bf true q) = nextQ L g q bf := by
  rw [round_is hv, round_is hv]
  have e0 : (waysQ L q).filter (fun c => !(false && c == bf)) = waysQ L q := by
    rw [List.filter_eq_self]; simp
  have e1 : (waysQ L q).filter (fun c => !(true && c == bf)) = (waysQ L q).filter fun c => c != bf := by
    refine List.filter_congr fun c _ => ?_
    simp [bne]
  rw [e0, e1]
  have hnd := waysQ_nodup hv q
  have hne := waysQ_ne hv q
  unfold nextQ leftQ
  generalize waysQ L q = ws at hnd hne
  obtain ⟨F, hF⟩ : ∃ F, ws.filter (fun c => c != bf) = F := ⟨_, rfl⟩
  rw [hF]
  cases hb : bestL (ltQ g) F F.length with
  | none =>
    have hF0 := bestL_none _ _ hb
    rw [Option.getD_none, if_pos rfl]
    have : ¬ 1 < ws.length := by
      intro h
      have hall : ∀ c ∈ ws, c = bf := fun c hc => by
        by_cases h2 : c = bf
        · exact h2
        · have : c ∈ F := by rw [← hF]; exact List.mem_filter.2 ⟨hc, by simpa using h2⟩
          rw [hF0] at this; cases this
      match ws, h, hnd, hall with
      | a :: b :: r, _, hnd, hall =>
        have h1 := hall a (by simp)
        have h2 := hall b (by simp)
        simp [h1, h2] at hnd
    rw [if_neg this]
  | some b =>
    have hm := bestL_mem _ _ b hb
    rw [← hF] at hm
    have hmw := (List.mem_filter.1 hm).1
    rw [Option.getD_some, if_neg (hne b hmw)]
    by_cases h1 : 1 < ws.length
    · rw [if_pos h1, hb, Option.getD_some]
    · rw [if_neg h1]
      have hFw : F = ws := by
        match ws, h1, hmw, hF, hm with
        | [], _, hmw, _, _ => cases hmw
        | [a], _, hmw, hF, hm =>
          have : b = a := by simpa using hmw
          subst this
          have hbb := (List.mem_filter.1 hm).2
          rw [← hF]
          simp [hbb]
        | a :: c :: r, h1, _, _, _ => exact absurd (by simp) h1
      rw [← hFw, hb, Option.getD_some]
theorem nextQ_grass {L : Lawn} (hv : validB L = true) (g : Nat → Nat → Int) (q bf : Q10) (hq : grassP L (ptQ q) = true) : grassP L (ptQ (nextQ L g q bf)) = true := by
  unfold nextQ
  cases hb : bestL (ltQ g) (leftQ L q bf) (leftQ L q bf).length with
  | none => exact hq
  | some b =>
    have hm := bestL_mem _ _ b hb
    have hm2 : b ∈ waysQ L q := by
      unfold leftQ at hm
      split at hm
      · exact (List.mem_filter.1 hm).1
      · exact hm
    unfold waysQ wayK at hm2
    obtain ⟨p, hp, rfl⟩ := List.mem_map.1 hm2
    have h2 := (List.mem_filter.1 hp).2
    rw [Option.getD_some, ptQ_toQ (grassP_near hv p h2)]
    exact h2
theorem night_fine {L : Lawn} {g : Nat → Nat → Int} (h : levB L g = true) {q : Q10} (hq : grassP L (ptQ q) = true) : levB L (nightG g q) = true := by
  unfold nightG
  rw [levB_upd h _ _ _ q.2.isLt q.1.isLt hq]
  have := lev_range h _ _ q.2.isLt q.1.isLt
  unfold inB
  simp only [Bool.and_eq_true, decide_eq_true_eq]
  omega
end Go.Proofs.Ytaeenkjbmlgcmaa
