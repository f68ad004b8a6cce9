/- ReachOf: the pure part. -/
import Derived.Test.YtaeenkjbmlgcmaaMeetP
import Derived.Test.YtaeenkjbmlgcmaaAskC
import Derived.Test.YtaeenkjbmlgcmaaAroundR
import Derived.Test.YtaeenkjbmlgcmaaZE
namespace Go.Proofs.Ytaeenkjbmlgcmaa
open Go.RowKit
set_option linter.unusedVariables false

/-- Whether a robot reaches a cell. -/
def reachB (L : Lawn) (F : Found) (full : Int) {W H : Nat} (c : Fin W × Fin H) : Bool := decide (0 ≤ stepsAt F c.1.val c.2.val) && decide (2 * stepsAt F c.1.val c.2.val ≤ full)
/-- The cells that ReachOf lists. -/
def reachL (L : Lawn) (x y full : Int) : List (Fin L.wide.toNat × Fin L.high.toNat) := if askZ L [(x, y)] full 0 = 0 then (ofKind L L.wide.toNat L.high.toNat 0).filter (reachB L (found (openP L) (x, y) 100) full) else []
theorem askZ_zero {L : Lawn} {x y full : Int} (h : askZ L [(x, y)] full 0 = 0) : validB L = true ∧ isB L x y = true ∧ openB L x y = true ∧ upZ full 400 = true := by
  unfold askZ at h
  split at h
  · rename_i h1
    split at h
    · rename_i h2
      simp only [List.all_cons, List.all_nil, Bool.and_true, Bool.and_eq_true] at h2
      rw [if_neg (by omega)] at h
      split at h
      · rename_i h3
        simp only [List.all_cons, List.all_nil, Bool.and_true] at h3
        exact ⟨h1, h2.1, h3, h2.2⟩
      · omega
    · omega
  · omega
theorem grass_fin {L : Lawn} {W H : Nat} (hW : L.wide = W) (hH : L.high = H) (c : Fin W × Fin H) : grassP L (ptOf c) = (L.kind c.2 c.1 == 0) := by
  show grassB L (c.1.val : Int) (c.2.val : Int) = _
  unfold grassB
  rw [isB_fin hW hH c]
  simp
theorem flat_ptOf {W H : Nat} (l : List (Fin W × Fin H)) : flatP (l.map ptOf) = flatV l := by
  unfold flatP flatV
  rw [List.flatMap_map]
  rfl
/-- What is reached, sorted. -/
theorem reach_sorted {L : Lawn} (hv : validB L = true) {s : Pt} (hs : openP L s = true) (full : Int) {l : Found} (hp : l.Perm ((found (openP L) s 100).filter (reachQ L full))) :
    sortC (l.map (·.1)) = ((ofKind L L.wide.toNat L.high.toNat 0).filter (reachB L (found (openP L) s 100) full)).map ptOf := by
  have hgood := found_good (pass := openP L) (s := s) hs 100
  have HLK := fun c => steps_look hv hs c
  obtain ⟨F, hF⟩ : ∃ F, found (openP L) s 100 = F := ⟨_, rfl⟩
  rw [hF] at hgood hp ⊢
  simp only [hF] at HLK
  clear hF
  rw [sortC_of_perm (hp.map _)]
  obtain ⟨W, H, hW, hH, hLw, hLh⟩ := valid_sides hv
  have hLw' : L.wide = (L.wide.toNat : Int) := by omega
  have hLh' : L.high = (L.high.toNat : Int) := by omega
  unfold ofKind
  rw [List.filter_filter]
  refine sortC_filt _ (List.Nodup.sublist (List.Sublist.map _ List.filter_sublist) hgood.nodup) fun c => ?_
  constructor
  · intro hc
    obtain ⟨p, hp, rfl⟩ := List.mem_map.1 hc
    obtain ⟨hpF, hpq⟩ := List.mem_filter.1 hp
    have hop := hgood.pass p hpF
    have hin := isB_in (openB_in (L := L) (x := p.1.1) (y := p.1.2) hop)
    have hal : alLook F p.1 = some p.2 := alLook_mem hgood.nodup (k := p.1) (v := p.2) hpF
    have e : ptOf (W := L.wide.toNat) (H := L.high.toNat) (⟨p.1.1.toNat, by omega⟩, ⟨p.1.2.toNat, by omega⟩) = p.1 := by
      unfold ptOf; ext <;> dsimp only <;> omega
    refine List.mem_map.2 ⟨(⟨p.1.1.toNat, by omega⟩, ⟨p.1.2.toNat, by omega⟩), List.mem_filter.2 ⟨allC_mem _ _ _, ?_⟩, e⟩
    have hg := grass_fin hLw' hLh' (⟨p.1.1.toNat, by omega⟩, ⟨p.1.2.toNat, by omega⟩)
    rw [e] at hg
    unfold reachQ at hpq
    simp only [Bool.and_eq_true, decide_eq_true_eq] at hpq
    have hst : stepsAt F p.1.1 p.1.2 = p.2 := by
      unfold stepsAt
      have : alLook F (p.1.1, p.1.2) = some p.2 := hal
      rw [this]; rfl
    have h0 := (HLK p.1).1
    rw [hal, hst] at h0
    have e1 : ((p.1.1.toNat : Nat) : Int) = p.1.1 := by omega
    have e2 : ((p.1.2.toNat : Nat) : Int) = p.1.2 := by omega
    rw [Bool.and_eq_true]
    refine ⟨?_, by rw [← hg]; exact hpq.1⟩
    unfold reachB
    dsimp only
    rw [e1, e2, hst, ← h0]
    simp [hpq.2]
  · intro hc
    obtain ⟨d, hd, rfl⟩ := List.mem_map.1 hc
    obtain ⟨-, hd2⟩ := List.mem_filter.1 hd
    rw [Bool.and_eq_true] at hd2
    have hg := grass_fin hLw' hLh' d
    unfold reachB at hd2
    rw [Bool.and_eq_true, decide_eq_true_eq, decide_eq_true_eq] at hd2
    have h0 := HLK (ptOf d)
    have hst : stepsAt F (ptOf d).1 (ptOf d).2 = stepsAt F d.1.val d.2.val := rfl
    rw [hst] at h0
    rw [decide_eq_true hd2.1.1] at h0
    obtain ⟨v, hv'⟩ := Option.isSome_iff_exists.1 h0.1
    have h3 := h0.2 hd2.1.1
    rw [hv'] at h3
    refine List.mem_map.2 ⟨(ptOf d, v), List.mem_filter.2 ⟨alLook_in hv', ?_⟩, rfl⟩
    unfold reachQ
    dsimp only
    rw [hg, hd2.2]
    simp only [Option.getD_some] at h3
    rw [h3]
    simp [hd2.1.2]
end Go.Proofs.Ytaeenkjbmlgcmaa
