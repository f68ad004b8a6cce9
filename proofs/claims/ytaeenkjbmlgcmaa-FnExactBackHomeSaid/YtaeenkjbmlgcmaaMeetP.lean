/- MeetCell: the pure part. -/
import Derived.Test.YtaeenkjbmlgcmaaZL
import Derived.Test.YtaeenkjbmlgcmaaZG
import Derived.Test.YtaeenkjbmlgcmaaChkO2
import Derived.Test.YtaeenkjbmlgcmaaDepthP
import Derived.Test.YtaeenkjbmlgcmaaZC
namespace Go.Proofs.Ytaeenkjbmlgcmaa
open Go.RowKit
set_option linter.unusedVariables false

def maxZ (m n : Int) : Int := max m n
/-- What the next cell makes of the best one so far. -/
def meetStep (FA FB : Found) (b : Pt × Int) (c : Pt) : Pt × Int :=
  if 0 ≤ stepsAt FA c.1 c.2 ∧ 0 ≤ stepsAt FB c.1 c.2 ∧ (b.2 < 0 ∨ maxZ (stepsAt FA c.1 c.2) (stepsAt FB c.1 c.2) < b.2) then (c, maxZ (stepsAt FA c.1 c.2) (stepsAt FB c.1 c.2)) else b
def meetL (FA FB : Found) (l : List Pt) : Pt × Int := l.foldl (meetStep FA FB) ((0, 0), -1)
theorem meetL_snoc (FA FB : Found) (l : List Pt) (c : Pt) : meetL FA FB (l ++ [c]) = meetStep FA FB (meetL FA FB l) c := by simp [meetL]
theorem meet_filter {FA FB : Found} : ∀ (l : List Pt) (b : Pt × Int), (l.filter fun c => decide (0 ≤ stepsAt FA c.1 c.2)).foldl (meetStep FA FB) b = l.foldl (meetStep FA FB) b
  | [], b => rfl
  | c :: l, b => by
    by_cases h : 0 ≤ stepsAt FA c.1 c.2
    · rw [List.filter_cons_of_pos (by simpa using h), List.foldl_cons, List.foldl_cons]
      exact meet_filter l _
    · rw [List.filter_cons_of_neg (by simpa using h), List.foldl_cons]
      have : meetStep FA FB b c = b := by unfold meetStep; rw [if_neg (fun k => h k.1)]
      rw [this]
      exact meet_filter l _
theorem maxZ_bound {m n : Int} (h : 0 ≤ m ∧ m < 100) (k : 0 ≤ n ∧ n < 100) : 0 ≤ maxZ m n ∧ maxZ m n < 100 := by unfold maxZ; omega
theorem meet_bound {FA FB : Found} (hA : ∀ x y : Int, -1 ≤ stepsAt FA x y ∧ stepsAt FA x y < 100) (hB : ∀ x y : Int, -1 ≤ stepsAt FB x y ∧ stepsAt FB x y < 100) (p : Pt → Prop) : ∀ (l : List Pt), (∀ c ∈ l, p c) → ∀ (b : Pt × Int), p b.1 → -1 ≤ b.2 ∧ b.2 < 100 → p (l.foldl (meetStep FA FB) b).1 ∧ -1 ≤ (l.foldl (meetStep FA FB) b).2 ∧ (l.foldl (meetStep FA FB) b).2 < 100
  | [], _, b, h0, hb => ⟨h0, hb⟩
  | c :: l, hl, b, h0, hb => by
    rw [List.foldl_cons]
    refine meet_bound hA hB p l (fun c hc => hl c (by simp [hc])) _ ?_ ?_
    · unfold meetStep; split
      · exact hl c (by simp)
      · exact h0
    · unfold meetStep
      split
      · rename_i h
        have := maxZ_bound ⟨h.1, (hA c.1 c.2).2⟩ ⟨h.2.1, (hB c.1 c.2).2⟩
        dsimp only
        omega
      · exact hb
/-- All cells of a lawn. -/
def allP (L : Lawn) : List Pt := (allC L.wide.toNat L.high.toNat).map ptOf
theorem steps_bound {L : Lawn} (hv : validB L = true) {s : Pt} (hs : openP L s = true) (x y : Int) : -1 ≤ stepsAt (found (openP L) s 100) x y ∧ stepsAt (found (openP L) s 100) x y < 100 := by
  have hgood := found_good (pass := openP L) (s := s) hs 100
  have hlen := good_length (openP_near hv) hgood
  unfold stepsAt
  cases hk : alLook (found (openP L) s 100) (x, y) with
  | none => simp
  | some z =>
    have hm := alLook_in hk
    obtain ⟨j, hj, hjz⟩ := List.getElem_of_mem hm
    have h2 := hgood.val j _ (List.getElem?_eq_getElem hj)
    rw [hjz] at h2
    simp only [Option.getD_some]
    dsimp only at h2
    omega
theorem steps_look {L : Lawn} (hv : validB L = true) {s : Pt} (hs : openP L s = true) (c : Pt) : (alLook (found (openP L) s 100) c).isSome = decide (0 ≤ stepsAt (found (openP L) s 100) c.1 c.2) ∧ (0 ≤ stepsAt (found (openP L) s 100) c.1 c.2 → (alLook (found (openP L) s 100) c).getD 0 = stepsAt (found (openP L) s 100) c.1 c.2) := by
  have hgood := found_good (pass := openP L) (s := s) hs 100
  unfold stepsAt
  cases hk : alLook (found (openP L) s 100) (c.1, c.2) with
  | none =>
    simp
  | some z =>
    have hm := alLook_in hk
    obtain ⟨j, hj, hjz⟩ := List.getElem_of_mem hm
    have h2 := hgood.val j _ (List.getElem?_eq_getElem hj)
    rw [hjz] at h2
    dsimp only at h2
    simp
    omega
theorem ptOf_near {W H : Nat} (hW : W ≤ 10) (hH : H ≤ 10) (c : Fin W × Fin H) : (0 ≤ (ptOf c).1 ∧ (ptOf c).1 < 10) ∧ 0 ≤ (ptOf c).2 ∧ (ptOf c).2 < 10 := by
  have := c.1.isLt
  have := c.2.isLt
  unfold ptOf
  dsimp only
  omega
/-- The keys of what is found, sorted. -/
theorem keys_sorted {L : Lawn} (hv : validB L = true) {s : Pt} (hs : openP L s = true) : sortC ((found (openP L) s 100).map (·.1)) = (allP L).filter fun c => decide (0 ≤ stepsAt (found (openP L) s 100) c.1 c.2) := by
  have hgood := found_good (pass := openP L) (s := s) hs 100
  have HLK := fun c => (steps_look hv hs c).1
  obtain ⟨F, hF⟩ : ∃ F, found (openP L) s 100 = F := ⟨_, rfl⟩
  rw [hF] at hgood ⊢
  simp only [hF] at HLK
  clear hF
  obtain ⟨W, H, hW, hH, hLw, hLh⟩ := valid_sides hv
  have e1 : L.wide.toNat = W := by omega
  have e2 : L.high.toNat = H := by omega
  unfold allP
  rw [e1, e2, List.filter_map]
  refine sortC_filt _ hgood.nodup fun c => ?_
  constructor
  · intro hc
    obtain ⟨p, hp, rfl⟩ := List.mem_map.1 hc
    have hl := HLK p.1
    have hop := hgood.pass p hp
    have hin := isB_in (openB_in (L := L) (x := p.1.1) (y := p.1.2) hop)
    have hlook : (alLook F p.1).isSome = true := by
      rw [alLook_mem hgood.nodup (k := p.1) (v := p.2) hp]; rfl
    rw [hlook] at hl
    have e : ptOf (W := W) (H := H) (⟨p.1.1.toNat, by omega⟩, ⟨p.1.2.toNat, by omega⟩) = p.1 := by
      unfold ptOf; ext <;> dsimp only <;> omega
    refine List.mem_map.2 ⟨(⟨p.1.1.toNat, by omega⟩, ⟨p.1.2.toNat, by omega⟩), List.mem_filter.2 ⟨allC_mem _ _ _, ?_⟩, e⟩
    show decide (0 ≤ stepsAt F (ptOf _).1 (ptOf _).2) = true
    rw [e]; exact hl.symm
  · intro hc
    obtain ⟨d, hd, rfl⟩ := List.mem_map.1 hc
    have hl := HLK (ptOf d)
    obtain ⟨-, hd2⟩ := List.mem_filter.1 hd
    have hd3 : decide (0 ≤ stepsAt F (ptOf d).1 (ptOf d).2) = true := hd2
    rw [hd3] at hl
    obtain ⟨v, hv'⟩ := Option.isSome_iff_exists.1 hl
    exact List.mem_map.2 ⟨_, alLook_in hv', rfl⟩

/-- What MeetCell answers. -/
def meetR (L : Lawn) (x y x2 y2 : Int) : Pt × Int × Int :=
  if openC L x y x2 y2 = 0 then
    (if (meetL (found (openP L) (x, y) 100) (found (openP L) (x2, y2) 100) (allP L)).2 < 0 then ((0, 0), 0, 6)
     else ((meetL (found (openP L) (x, y) 100) (found (openP L) (x2, y2) 100) (allP L)).1, (meetL (found (openP L) (x, y) 100) (found (openP L) (x2, y2) 100) (allP L)).2, 0))
  else ((0, 0), 0, openC L x y x2 y2)
def cellNN (r : Pt × Int × Int) : Value := .tuple #[.agg #[.int .i8 r.1.1, .int .i8 r.1.2], .int .i64 r.2.1, .int .i64 r.2.2]
end Go.Proofs.Ytaeenkjbmlgcmaa
