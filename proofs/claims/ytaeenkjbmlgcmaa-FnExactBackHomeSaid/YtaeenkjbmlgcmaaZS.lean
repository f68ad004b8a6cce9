/- Orders of a trip's targets: the pure part (TripTo, CheckTrips, FewestTrips). The program goes from an order to the next one; the model tries each target that is left. slices.Reverse over the end of an own row of numbers. nextOrder, of the program. The tours of the program: a map of maps; the steps of a trip in an order. bestOrder, of the program: a jump back to a label, with a number that falls. The targets of a trip, of the program and of the model; whether an order has a target. bestOrder of no targets, and of any; areWithin, of the program. areWithin, of the program. -/
import Derived.Test.YtaeenkjbmlgcmaaZB
import Derived.Test.YtaeenkjbmlgcmaaZC
import Derived.RegionTactic
import Derived.ChangeAlike
import Derived.Test.YtaeenkjbmlgcmaaZX
import Derived.ScopeJumps
import Derived.WalkMore
namespace Go.Proofs.Ytaeenkjbmlgcmaa
set_option linter.unusedVariables false

/-- The program's search for the place that is changed: from i down, the first one whose follower is greater. -/
def pivK (o : List Nat) : Nat → Option Nat
  | 0 => none
  | i + 1 => if o.getD (i + 1) 0 < o.getD i 0 then pivK o i else some i
/-- From k down, the first place whose number isn't less than the one at p. -/
def grK (o : List Nat) (p : Nat) : Nat → Nat
  | 0 => 0
  | k + 1 => if o.getD (k + 1) 0 < o.getD p 0 then grK o p k else k + 1
/-- The order that comes next. -/
def nextL (o : List Nat) : Option (List Nat) := match pivK o (o.length - 1) with
  | none => none
  | some p => let g := grK o p (o.length - 1)
    let o' := (o.set p (o.getD g 0)).set g (o.getD p 0)
    some (o'.take (p + 1) ++ (o'.drop (p + 1)).reverse)
/-- The orders that the model comes to, with so many targets left. -/
def permsK (l : List Nat) : Nat → List Nat → List (List Nat)
  | 0, o => [o]
  | f + 1, o => l.flatMap fun k => if o.contains k then [] else permsK l f (o ++ [k])
def permsL (l : List Nat) : List (List Nat) := permsK l l.length []
/-- The sets of at most five targets, ascending. -/
def subs5 : List (List Nat) := ([0, 1, 2, 3, 4] : List Nat).foldr (fun a r => r.map (a :: ·) ++ r) [[]]
def chainB (ps : List (List Nat)) : Bool := match ps with
  | [] => true
  | o :: r => (nextL o == r.head?) && chainB r
theorem chain_at : ∀ (ps : List (List Nat)), chainB ps = true → ∀ (i : Nat) (o : List Nat), ps[i]? = some o → nextL o = ps[i + 1]?
  | [], _, i, o, h => by simp at h
  | p :: r, hb, 0, o, h => by
    simp only [chainB, Bool.and_eq_true, beq_iff_eq] at hb
    simp only [List.getElem?_cons_zero, Option.some.injEq] at h
    subst h
    rw [hb.1, List.getElem?_cons_succ]
    cases r <;> rfl
  | p :: r, hb, i + 1, o, h => by
    simp only [chainB, Bool.and_eq_true] at hb
    rw [List.getElem?_cons_succ] at h ⊢
    exact chain_at r hb.2 i o h
set_option maxRecDepth 100000 in
theorem perms_chain : ∀ l ∈ subs5, chainB (permsL l) = true ∧ (permsL l)[0]? = some l ∧ (permsL l).length ≤ 120 ∧ (permsL l).all (fun o => o.length == l.length && o.all (fun k => l.contains k)) = true := by decide +kernel
/-- Of any set of targets the model's orders are the program's, in the same order. -/
theorem perms_next {l : List Nat} (hl : l ∈ subs5) (i : Nat) (o : List Nat) (h : (permsL l)[i]? = some o) : nextL o = (permsL l)[i + 1]? := chain_at _ (perms_chain l hl).1 i o h
theorem perms_first {l : List Nat} (hl : l ∈ subs5) : (permsL l)[0]? = some l := (perms_chain l hl).2.1

/-- The targets with a number, ascending. -/
def withL (trips : List Int) (n : Int) : List Nat := ((List.range trips.length).filter fun i => trips.getD i 0 == n)
theorem sub_sublist {l : List Nat} (h : l.Sublist [0, 1, 2, 3, 4]) : l ∈ subs5 := by
  unfold subs5
  have key : ∀ (a : List Nat) (l : List Nat), l.Sublist a → l ∈ a.foldr (fun a r => r.map (a :: ·) ++ r) [[]] := by
    intro a
    induction a with
    | nil => intro l h; simp [List.sublist_nil.1 h]
    | cons x a ih =>
      intro l h
      rw [List.foldr_cons, List.mem_append]
      cases h with
      | cons _ h => exact .inr (ih l h)
      | cons_cons _ h => exact .inl (List.mem_map.2 ⟨_, ih _ h, rfl⟩)
  exact key _ l h
theorem range_five {n : Nat} (h : n ≤ 5) : (List.range n).Sublist [0, 1, 2, 3, 4] := by
  have : (List.range n).Sublist (List.range 5) := List.range_sublist.2 h
  exact this
theorem with_sub {trips : List Int} (h : trips.length ≤ 5) (n : Int) : withL trips n ∈ subs5 := sub_sublist ((List.filter_sublist).trans (range_five h))

section
variable (tb : Nat → Nat → Int) (home : Nat)
/-- The steps of a trip's first targets; of the whole trip. -/
def goT (o : List Nat) : Int × Nat := o.foldl (fun s k => (s.1 + tb s.2 k, k)) (0, home)
def tripT (o : List Nat) : Int := (goT tb home o).1 + tb (goT tb home o).2 home
theorem goT_snoc (o : List Nat) (k : Nat) : goT tb home (o ++ [k]) = ((goT tb home o).1 + tb (goT tb home o).2 k, k) := by simp [goT]
theorem goT_last (o : List Nat) : (goT tb home o).2 = o.getLast?.getD home := by
  rcases List.eq_nil_or_concat o with rfl | ⟨l, a, rfl⟩
  · rfl
  · rw [List.concat_eq_append, goT_snoc]; simp
/-- The best of the orders so far: the first one with the fewest steps. -/
def bestT (b : Option (List Nat × Int)) (o : List Nat) : Option (List Nat × Int) := match b with
  | none => some (o, tripT tb home o)
  | some (p, s) => if tripT tb home o < s then some (o, tripT tb home o) else some (p, s)
/-- What the model's search comes to from an order on. -/
def fromT (l : List Nat) : Nat → List Nat → Option (List Nat × Int) → Option (List Nat × Int)
  | 0, o, b => bestT tb home b o
  | f + 1, o, b => l.foldl (fun b k => if o.contains k then b else fromT l f (o ++ [k]) b) b
theorem fromT_is (l : List Nat) : ∀ f o b, fromT tb home l f o b = (permsK l f o).foldl (bestT tb home) b
  | 0, o, b => rfl
  | f + 1, o, b => by
    simp only [fromT, permsK, List.foldl_flatMap]
    congr 1
    funext b k
    split
    · rfl
    · exact fromT_is l f (o ++ [k]) b
end
end Go.Proofs.Ytaeenkjbmlgcmaa

namespace Go.Proofs.Ytaeenkjbmlgcmaa
open Go.RowKit
set_option linter.unusedVariables false
set_option linter.unusedSimpArgs false

def rowF (f : Nat → Int) (n : Nat) : List Value := (List.range n).map fun j => .int .i64 (f j)
theorem rowF_length (f : Nat → Int) (n : Nat) : (rowF f n).length = n := by simp [rowF]
theorem rowF_get (f : Nat → Int) {n j : Nat} (h : j < n) : (rowF f n)[j]? = some (.int .i64 (f j)) := by simp [rowF, h]
def updF (f : Nat → Int) (i : Nat) (z : Int) : Nat → Int := fun j => if j = i then z else f j
theorem rowF_set (f : Nat → Int) (n i : Nat) (z : Int) : (rowF f n).set i (.int .i64 z) = rowF (updF f i z) n := by
  apply List.ext_getElem?
  intro j
  unfold rowF updF
  rw [List.getElem?_set]
  by_cases h : i = j
  · subst h
    by_cases h2 : i < n <;> simp [h2]
  · have h' : ¬ j = i := fun e => h e.symm
    simp [h, h', List.getElem?_map]
    by_cases h2 : j < n
    · simp [h2, h']
    · simp [h2]
/-- The row when k numbers from both ends of the m from o on have been exchanged. -/
def revTo1 (f : Nat → Int) (o m k : Nat) : Nat → Int := fun j => if o ≤ j ∧ j < o + m ∧ (j < o + k ∨ o + m ≤ j + k) then f (o + o + m - 1 - j) else f j
def revF (f : Nat → Int) (o m : Nat) : Nat → Int := fun j => if o ≤ j ∧ j < o + m then f (o + o + m - 1 - j) else f j
theorem revTo1_zero (f : Nat → Int) (o m : Nat) : revTo1 f o m 0 = f := by
  funext j
  unfold revTo1
  rw [if_neg (by omega)]
theorem revTo1_succ (f : Nat → Int) (o m k : Nat) (hk : k + 1 ≤ m - 1 - k) : updF (updF (revTo1 f o m k) (o + k) (f (o + (m - 1 - k)))) (o + (m - 1 - k)) (f (o + k)) = revTo1 f o m (k + 1) := by
  funext j
  unfold updF revTo1
  by_cases e1 : j = o + (m - 1 - k)
  · rw [if_pos e1, if_pos (by omega)]
    congr 1
    omega
  · rw [if_neg e1]
    by_cases e2 : j = o + k
    · rw [if_pos e2, if_pos (by omega)]
      congr 1
      omega
    · rw [if_neg e2]
      by_cases e3 : o ≤ j ∧ j < o + m ∧ (j < o + k ∨ o + m ≤ j + k)
      · rw [if_pos e3, if_pos (by omega)]
      · rw [if_neg e3, if_neg (by omega)]
theorem revTo1_end (f : Nat → Int) (o m k : Nat) (hk : m ≤ k + k + 1) : revTo1 f o m k = revF f o m := by
  funext j
  unfold revTo1 revF
  by_cases e : o ≤ j ∧ j < o + m
  · rw [if_pos e]
    by_cases e2 : j < o + k ∨ o + m ≤ j + k
    · rw [if_pos ⟨e.1, e.2, e2⟩]
    · rw [if_neg (by omega)]
      congr 1
      omega
  · rw [if_neg e, if_neg (by omega)]
theorem revTo1_low (f : Nat → Int) (o m k x : Nat) (h1 : k ≤ x) (h2 : x + k < m) : revTo1 f o m k (o + x) = f (o + x) := by
  unfold revTo1
  rw [if_neg (by omega)]

set_option maxRecDepth 100000 in
set_option maxHeartbeats 4000000 in
theorem reverse64_any (f : Nat → Int) (B b n cap o m c : Nat) (hn : n ≤ 1000) (ho : o + m = n) (hm0 : 1 ≤ m) (w : World) (h : w.ownsRow B 2 1 (.slice (some ⟨b, 0, none⟩) n cap) n (rowF f n)) :
    Calls Try.prog 151 #[.slice (some ⟨b, o, none⟩) m c] w fun e w' => (∃ v, e = .returned v) ∧ Only [b] w w' ∧ w'.ownsRow B 2 1 (.slice (some ⟨b, 0, none⟩) n cap) n (rowF (revF f o m) n) := by
  have HH := Lib.hid h
  have HZ := Lib.hid (revTo1_zero f o m)
  clear h
  go_enter Try.func151, Try.ntmps151
  go_wp2_with fail
  go_loopw [2, 3] (fun p q wr => ∃ k : Nat, k + k ≤ m ∧ p = .int .i64 k ∧ q = .int .i64 ((m : Int) - 1 - k) ∧ Only [b] w wr ∧ wr.ownsRow B 2 1 (.slice (some ⟨b, 0, none⟩) n cap) n (rowF (revTo1 f o m k) n)) (fun p _ _ => 1000 - (intOf p).toNat)
  case atStart => exact ⟨0, by omega, rfl, by simp, Only.refl _ _, by rw [HZ.out]; exact HH.out⟩
  case round =>
    obtain ⟨k, hk, rfl, rfl, hO, hh⟩ := hrel
    by_cases hlt : k + 1 ≤ m - 1 - k
    · have hd : decide ((k : Int) < (m : Int) - 1 - k) = true := by simp; omega
      obtain ⟨q, hq⟩ : ∃ q : Nat, m - 1 - k = q := ⟨_, rfl⟩
      have hq' : (m : Int) - 1 - k = q := by omega
      have HS := Lib.hid (revTo1_succ f o m k hlt)
      rw [hq] at HS
      have c1 : wr.cell? ⟨b, o + k, none⟩ = some (.int .i64 (f (o + k))) := own_cell hh _ _ (by rw [rowF_get _ (by omega), revTo1_low f o m k k (by omega) (by omega)])
      have c2 : wr.cell? ⟨b, o + q, none⟩ = some (.int .i64 (f (o + q))) := own_cell hh _ _ (by rw [rowF_get _ (by omega), revTo1_low f o m k q (by omega) (by omega)])
      have ff := own_free hh
      have ll := (own_lt hh).2
      rw [hq'] at hd ⊢
      have hqm : q < m := by omega
      have hkm : k < m := by omega
      have HHH := Lib.hid hh
      have HOO := Lib.hid hO
      clear hq hh hO
      go_wp2_with fail
      go_region
      have h1 := own_set HHH.out (o + k) (.int .i64 (f (o + q))) (by rw [rowF_length]; omega)
      rw [rowF_set] at h1
      have h2 := own_set h1 (o + q) (.int .i64 (f (o + k))) (by rw [rowF_length]; omega)
      rw [rowF_set, HS.out] at h2
      have hO2 := (HOO.out.setCell (a := ⟨b, o + k, none⟩) (.inl (by simp)) (.int .i64 (f (o + q)))).setCell (a := ⟨b, o + q, none⟩) (.inl (by simp)) (.int .i64 (f (o + k)))
      have HK := Lib.hid (And.intro hO2.drew (((Only.refl [] _).drew).own h2 (fun z hz => by simp)))
      clear c1 c2 ff h1 h2 hO2 HHH HOO
      go_wp2_with fail
      go_roundw
      case rel => exact ⟨k + 1, by omega, by go_num, by congr 1; omega, HK.out.1, HK.out.2⟩
      case measure => simp [intOf]; omega
    · have hd : decide ((k : Int) < (m : Int) - 1 - k) = false := by simp; omega
      go_wp2_with fail
      go_end0
      refine ⟨⟨_, rfl⟩, hO, ?_⟩
      rw [← revTo1_end f o m k (by omega)]
      exact hh
end Go.Proofs.Ytaeenkjbmlgcmaa

namespace Go.Proofs.Ytaeenkjbmlgcmaa
open Go.RowKit
set_option linter.unusedVariables false
set_option linter.unusedSimpArgs false

def ordF (o : List Nat) : Nat → Int := fun j => (o.getD j 0 : Nat)
theorem nextL_row {o : List Nat} {p : Nat} (hp : pivK o (o.length - 1) = some p) (hpn : p + 1 < o.length) (hg : grK o p (o.length - 1) < o.length) : ∃ o', nextL o = some o' ∧ o'.length = o.length ∧
    rowF (revF (updF (updF (ordF o) p (ordF o (grK o p (o.length - 1)))) (grK o p (o.length - 1)) (ordF o p)) (p + 1) (o.length - (p + 1))) o.length = rowF (ordF o') o.length := by
  unfold nextL
  rw [hp]
  obtain ⟨g, hgg⟩ : ∃ g, grK o p (o.length - 1) = g := ⟨_, rfl⟩
  rw [hgg] at hg
  dsimp only
  rw [hgg]
  obtain ⟨q, hq⟩ : ∃ q, (o.set p (o.getD g 0)).set g (o.getD p 0) = q := ⟨_, rfl⟩
  have hql : q.length = o.length := by rw [← hq]; simp
  have hqg : ∀ j, j < o.length → q.getD j 0 = if j = g then o.getD p 0 else if j = p then o.getD g 0 else o.getD j 0 := fun j hj => by
    rw [← hq]
    simp only [List.getD_eq_getElem?_getD, List.getElem?_set, List.length_set]
    by_cases e : g = j
    · subst e
      simp [hj]
    · have e' : ¬ j = g := fun h => e h.symm
      simp only [e, e', if_false]
      by_cases e2 : p = j
      · subst e2
        simp [hj]
      · have e3 : ¬ j = p := fun h => e2 h.symm
        simp only [e2, e3, if_false]
  rw [hq]
  refine ⟨_, rfl, by simp [hql]; omega, ?_⟩
  apply List.ext_getElem?
  intro j
  by_cases hj : j < o.length
  · rw [rowF_get _ hj, rowF_get _ hj]
    congr 2
    unfold revF updF ordF
    by_cases h1 : j < p + 1
    · rw [if_neg (by omega)]
      have e : (q.take (p + 1) ++ (q.drop (p + 1)).reverse).getD j 0 = q.getD j 0 := by
        simp only [List.getD_eq_getElem?_getD]
        rw [List.getElem?_append_left (by rw [List.length_take]; omega), List.getElem?_take, if_pos h1]
      rw [e, hqg j hj]
      split
      · rfl
      · split <;> rfl
    · rw [if_pos (by omega)]
      have e : (q.take (p + 1) ++ (q.drop (p + 1)).reverse).getD j 0 = q.getD (p + 1 + (p + 1) + (o.length - (p + 1)) - 1 - j) 0 := by
        simp only [List.getD_eq_getElem?_getD]
        rw [List.getElem?_append_right (by rw [List.length_take]; omega), List.getElem?_reverse (by rw [List.length_drop, List.length_take]; omega), List.getElem?_drop, List.length_drop, List.length_take]
        congr 2
        omega
      rw [e, hqg _ (by omega)]
      split
      · rfl
      · split <;> rfl
  · rw [List.getElem?_eq_none (by rw [rowF_length]; omega), List.getElem?_eq_none (by rw [rowF_length]; omega)]
theorem pivK_lt {o : List Nat} {p : Nat} : ∀ i, pivK o i = some p → p < i
  | 0, h => by simp [pivK] at h
  | i + 1, h => by
    simp only [pivK] at h
    split at h
    · have := pivK_lt i h; omega
    · simp at h; omega
theorem grK_le (o : List Nat) (p : Nat) : ∀ k, grK o p k ≤ k
  | 0 => by simp [grK]
  | k + 1 => by
    simp only [grK]
    split
    · have := grK_le o p k; omega
    · omega
theorem grK_ge (o : List Nat) (p : Nat) : ∀ k, p ≤ k → p ≤ grK o p k
  | 0, h => by simp [grK]; omega
  | k + 1, h => by
    simp only [grK]
    split
    · rename_i h2
      rcases Nat.lt_or_ge p (k + 1) with h3 | h3
      · exact grK_ge o p k (by omega)
      · have : p = k + 1 := by omega
        subst this
        omega
    · omega

theorem grK_gt (o : List Nat) (p : Nat) (h : ¬ o.getD (p + 1) 0 < o.getD p 0) : ∀ k, p + 1 ≤ k → p + 1 ≤ grK o p k
  | 0, hk => by omega
  | k + 1, hk => by
    simp only [grK]
    split
    · rename_i h2
      rcases Nat.lt_or_ge p k with h3 | h3
      · exact grK_gt o p h k h3
      · have : p = k := by omega
        subst this
        exact absurd h2 h
    · omega

set_option maxRecDepth 100000 in
set_option maxHeartbeats 4000000 in
theorem nextOrder_any (o : List Nat) (n : Nat) (hn : o.length = n) (hn5 : n ≤ 5) (h9 : ∀ j, o.getD j 0 ≤ 9) (B b cap : Nat) (hcap : n ≤ cap) (w : World) (h : w.ownsRow B 2 1 (.slice (some ⟨b, 0, none⟩) n cap) n (rowF (ordF o) n)) :
    Calls Try.prog 127 #[.slice (some ⟨b, 0, none⟩) n cap] w fun e w' => e = .returned (.bool (nextL o).isSome) ∧ Only [b] w w' ∧ w'.ownsRow B 2 1 (.slice (some ⟨b, 0, none⟩) n cap) n (rowF (ordF ((nextL o).getD o)) n) := by
  have HH := Lib.hid h
  have HN := Lib.hid hn
  have H9 := Lib.hid h9
  clear h hn h9
  go_enter Try.func127, Try.ntmps127
  go_wp2_with fail
  go_loopw [3] (fun t wr => ∃ (i : Nat) (z : Int), t = .int .i64 z ∧ (z = (i : Int) - 1 ∨ (i = 0 ∧ z < 0)) ∧ -2 ≤ z ∧ i + 1 ≤ n + (if i = 0 then 1 else 0) ∧ pivK o (n - 1) = pivK o i ∧ Only [b] w wr ∧ wr.ownsRow B 2 1 (.slice (some ⟨b, 0, none⟩) n cap) n (rowF (ordF o) n)) (fun t _ => (intOf t + 3).toNat)
  case atStart =>
    refine ⟨n - 1, (n : Int) - 2, rfl, by omega, by omega, ?_, rfl, Only.refl _ _, HH.out⟩
    split <;> omega
  case round =>
    obtain ⟨i, z, rfl, hz, hz2, hi, hpv, hO, ho⟩ := hrel
    rcases i with _ | i
    · have hd : decide (0 ≤ z) = false := by simp; omega
      have HR := Lib.hid (show nextL o = none by unfold nextL; rw [HN.out, hpv]; rfl)
      go_wp2_with fail
      go_ret
      exact ⟨by rw [HR.out]; rfl, hO, by rw [HR.out]; exact ho⟩
    · have hz3 : z = (i : Int) := by omega
      subst hz3
      have hin : i + 1 < n := by rw [if_neg (by omega)] at hi; omega
      have hd : decide ((0 : Int) ≤ (i : Int)) = true := by simp
      have HO := Lib.hid ho
      obtain ⟨a1, ha1⟩ : ∃ a : Nat, o.getD i 0 = a := ⟨_, rfl⟩
      obtain ⟨a2, ha2⟩ : ∃ a : Nat, o.getD (i + 1) 0 = a := ⟨_, rfl⟩
      have FX := Lib.hid (show ∀ w', Below wr.heap.size wr w' → w'.cell? ⟨b, i, none⟩ = some (.int .i64 a1) ∧ w'.cell? ⟨b, i + 1, none⟩ = some (.int .i64 a2) from fun w' hw' =>
        ⟨own_cell (own_below HO.out hw') _ _ (by rw [rowF_get _ (by omega)]; unfold ordF; rw [ha1]), own_cell (own_below HO.out hw') _ _ (by rw [rowF_get _ (by omega)]; unfold ordF; rw [ha2])⟩)
      have hpv2 : pivK o (i + 1) = if a2 < a1 then pivK o i else some i := by simp only [pivK, ha1, ha2]
      rw [hpv2] at hpv
      have HPV := Lib.hid hpv
      have HOn := Lib.hid hO
      clear hpv hpv2 ho hO hz hi
      go_wp2_with fail
      refine wp_region_grow 9 (by kernel_rfl) (by kernel_rfl) ?_
      simp only [List.take_succ_cons, List.take_zero, List.drop_succ_cons, List.drop_zero]
      iterate 9
        apply wpGrow_plain rfl
        · intro w' hw' K hK
          obtain ⟨f1, f2⟩ := FX.out _ hw'
          go_wp2_with fail
          exact hK _ _ rfl hw'
        simp only [Act.put, List.setIfInBounds_toArray, List.set_cons_succ, List.set_cons_zero]
      refine wpGrow_nil ?_
      intro W3 hW3
      have hO3 := HOn.out.onto hW3
      have HO3 := Lib.hid (own_below HO.out hW3)
      clear hW3 FX HO HOn
      by_cases hc : a2 < a1
      · have hdc : decide ((a2 : Int) < (a1 : Int)) = true := by simp; omega
        have HP2 := Lib.hid (show pivK o (n - 1) = pivK o i by rw [HPV.out, if_pos hc])
        go_wp2_with fail
        go_roundw
        case rel => exact ⟨i, (i : Int) - 1, rfl, .inl rfl, by omega, by split <;> omega, HP2.out, hO3, HO3.out⟩
        case measure => simp [intOf]; omega
      · have hdc : decide ((a2 : Int) < (a1 : Int)) = false := by simp; omega
        have HP2 := Lib.hid (show pivK o (n - 1) = some i by rw [HPV.out, if_neg hc])
        go_wp2_with fail
        have HNR := Lib.hid (nextL_row (show pivK o (o.length - 1) = some i by rw [HN.out]; exact HP2.out) (by rw [HN.out]; omega) (by have := grK_le o i (o.length - 1); have := HN.out; omega))
        rw [HN.out] at HNR
        have hgg := grK_gt o i (by rw [ha1, ha2]; exact hc) (n - 1) (by omega)
        have hgl := grK_le o i (n - 1)
        obtain ⟨G, hG⟩ : ∃ G, grK o i (n - 1) = G := ⟨_, rfl⟩
        rw [hG] at HNR hgg hgl
        have HGG := Lib.hid hG
        clear hG hc
        go_loopw [4] (fun t wr => ∃ kk : Nat, t = .int .i64 kk ∧ i ≤ kk ∧ kk ≤ n - 1 ∧ grK o i kk = G ∧ Only [b] w wr ∧ wr.ownsRow B 2 1 (.slice (some ⟨b, 0, none⟩) n cap) n (rowF (ordF o) n)) (fun t _ => (intOf t).toNat)
        case atStart => exact ⟨n - 1, by congr 1; omega, by omega, by omega, HGG.out, hO3, HO3.out⟩
        case round =>
          obtain ⟨kk, rfl, hk1, hk2, hgk, hO, ho⟩ := hrel
          have HO := Lib.hid ho
          obtain ⟨b1, hb1⟩ : ∃ a : Nat, o.getD kk 0 = a := ⟨_, rfl⟩
          have FX := Lib.hid (show ∀ w', Below wr.heap.size wr w' → w'.cell? ⟨b, i, none⟩ = some (.int .i64 a1) ∧ w'.cell? ⟨b, kk, none⟩ = some (.int .i64 b1) from fun w' hw' =>
            ⟨own_cell (own_below HO.out hw') _ _ (by rw [rowF_get _ (by omega)]; unfold ordF; rw [ha1]), own_cell (own_below HO.out hw') _ _ (by rw [rowF_get _ (by omega)]; unfold ordF; rw [hb1])⟩)
          have HOn := Lib.hid hO
          have HGK := Lib.hid hgk
          clear ho hO hO3 HO3 hgk
          go_wp2_with fail
          refine wp_region_grow 8 (by kernel_rfl) (by kernel_rfl) ?_
          simp only [List.take_succ_cons, List.take_zero, List.drop_succ_cons, List.drop_zero]
          iterate 8
            apply wpGrow_plain rfl
            · intro w' hw' K hK
              obtain ⟨f1, f2⟩ := FX.out _ hw'
              go_wp2_with fail
              exact hK _ _ rfl hw'
            simp only [Act.put, List.setIfInBounds_toArray, List.set_cons_succ, List.set_cons_zero]
          refine wpGrow_nil ?_
          intro W4 hW4
          have hO4 := HOn.out.onto hW4
          have HO4 := Lib.hid (own_below HO.out hW4)
          clear hW4 FX HO HOn
          by_cases hc : b1 < a1
          · have hdc : decide ((b1 : Int) < (a1 : Int)) = true := by simp; omega
            have hik : i ≠ kk := fun e => by subst e; omega
            obtain ⟨k1, rfl⟩ : ∃ k1, kk = k1 + 1 := ⟨kk - 1, by omega⟩
            have HG2 := Lib.hid (show grK o i k1 = G by rw [← HGK.out]; simp only [grK, hb1, ha1, hc, if_true])
            go_wp2_with fail
            go_roundw
            case rel => exact ⟨k1, by congr 1 <;> omega, by omega, by omega, HG2.out, hO4, HO4.out⟩
            case measure => simp [intOf]
          · have hdc : decide ((b1 : Int) < (a1 : Int)) = false := by simp; omega
            have hGk : G = kk := by
              rw [← HGK.out]
              cases kk with
              | zero => rfl
              | succ k1 => simp only [grK, hb1, ha1, hc, if_false]
            subst hGk
            have c1 : W4.cell? ⟨b, i, none⟩ = some (.int .i64 a1) := own_cell HO4.out _ _ (by rw [rowF_get _ (by omega)]; unfold ordF; rw [ha1])
            have c2 : W4.cell? ⟨b, G, none⟩ = some (.int .i64 b1) := own_cell HO4.out _ _ (by rw [rowF_get _ (by omega)]; unfold ordF; rw [hb1])
            have ff := own_free HO4.out
            have ll := (own_lt HO4.out).2
            have hGn : G < n := by omega
            have hiG : i < G := by omega
            have hin2 : i < n := by omega
            have HO5 := Lib.hid hO4
            clear hO4 HGK HGG
            go_wp2_with fail
            go_region
            have h1 := own_set HO4.out i (.int .i64 b1) (by rw [rowF_length]; omega)
            rw [rowF_set] at h1
            have h2 := own_set h1 G (.int .i64 a1) (by rw [rowF_length]; omega)
            rw [rowF_set] at h2
            have hO2 := (HO5.out.setCell (a := ⟨b, i, none⟩) (.inl (by simp)) (.int .i64 b1)).setCell (a := ⟨b, G, none⟩) (.inl (by simp)) (.int .i64 a1)
            have HK := Lib.hid (And.intro hO2.drew (((Only.refl [] _).drew).own h2 (fun z hz => by simp)))
            have hcp : ¬ cap = i + 1 := by omega
            clear c1 c2 ff h1 h2 hO2 HO4 HO5
            go_wp2_with fail
            refine (reverse64_any _ B b n cap (i + 1) (n - (i + 1)) (cap - (i + 1)) (by omega) (by omega) (by omega) _ HK.out.2).mono ?_
            rintro e w6 ⟨⟨v, rfl⟩, hO6, ho6⟩
            obtain ⟨o', hno, hlo, hrow⟩ := HNR.out
            have HNO := Lib.hid hno
            have HF := Lib.hid (And.intro (HK.out.1.trans hO6) (show w6.ownsRow B 2 1 (.slice (some ⟨b, 0, none⟩) n cap) n (rowF (ordF o') n) by
              have e1 : ordF o i = (a1 : Int) := by unfold ordF; rw [ha1]
              have e2 : ordF o G = (b1 : Int) := by unfold ordF; rw [hb1]
              rw [← hrow, e1, e2]
              exact ho6))
            clear ho6 hO6 hno hlo hrow HK
            go_wp2_with fail
            go_ret
            exact ⟨by rw [HNO.out]; rfl, HF.out.1, by rw [HNO.out]; exact HF.out.2⟩
end Go.Proofs.Ytaeenkjbmlgcmaa

namespace Go.Proofs.Ytaeenkjbmlgcmaa
open Go.RowKit
set_option linter.unusedVariables false
set_option linter.unusedSimpArgs false

def mapO (b : Option Nat) : Value := .map b
theorem zeroMapO (w : World) : (zeroValue 112).run Try.prog w = .ok (mapO none) w := by kernel_rfl
def tourA (h : Pt) (v : Value) (mb : Nat) : Array Value := #[.int .i8 h.1, .int .i8 h.2, v, .map (some mb)]
/-- Block mb is the map of the steps from each of the cells to the others. -/
def TourIs (w : World) (mb : Nat) (cs : Nat → Pt) (n : Nat) (tb : Nat → Nat → Int) : Prop := ∃ al : List (Pt × Option Nat), MapIs w mb cellK mapO al ∧ ∀ i, i ≤ n → ∃ b F, alLook al (cs i) = some (some b) ∧ MapIs w b cellK valI F ∧ ∀ j, j ≤ n → (alLook F (cs j)).getD 0 = tb i j
theorem TourIs.below {w w' : World} {mb : Nat} {cs : Nat → Pt} {n : Nat} {tb : Nat → Nat → Int} (h : TourIs w mb cs n tb) (hb : Below w.heap.size w w') : TourIs w' mb cs n tb := by
  obtain ⟨al, h1, h2⟩ := h
  refine ⟨al, h1.below hb h1.lt, fun i hi => ?_⟩
  obtain ⟨b, F, a1, a2, a3⟩ := h2 i hi
  exact ⟨b, F, a1, a2.below hb a2.lt, a3⟩
theorem TourIs.setCell {w : World} {mb : Nat} {cs : Nat → Pt} {n : Nat} {tb : Nat → Nat → Int} (h : TourIs w mb cs n tb) (a : Addr) (v : Value) (t : TypeId) (Z : Array Value) (z : Nat × Nat) (hc : w.heap[a.block]? = some (.cells Z t z)) : TourIs (w.setCell a v) mb cs n tb := by
  have key : ∀ {κ ν : Type} {enc : κ → Value} {val : ν → Value} {l : List (κ × ν)} {b : Nat}, MapIs w b enc val l → b ≠ a.block := by
    intro κ ν enc val l b hm e
    obtain ⟨es, c, hb, -⟩ := hm
    rw [e, hc] at hb
    cases hb
  obtain ⟨al, h1, h2⟩ := h
  refine ⟨al, h1.setCell _ _ (key h1), fun i hi => ?_⟩
  obtain ⟨b, F, a1, a2, a3⟩ := h2 i hi
  exact ⟨b, F, a1, a2.setCell _ _ (key a2), a3⟩
theorem TourIs.at {w : World} {mb : Nat} {cs : Nat → Pt} {n : Nat} {tb : Nat → Nat → Int} (h : TourIs w mb cs n tb) {i j : Nat} (hi : i ≤ n) (hj : j ≤ n) :
    ∃ b : Nat, ∀ w', Below w.heap.size w w' → (Instr.lookup 129 (.map (some mb)) (.agg #[.int .i8 (cs i).1, .int .i8 (cs i).2]) false).run Try.prog w' = .ok (.map (some b)) w' ∧
      (Instr.lookup 112 (.map (some b)) (.agg #[.int .i8 (cs j).1, .int .i8 (cs j).2]) false).run Try.prog w' = .ok (.int .i64 (tb i j)) w' := by
  obtain ⟨al, h1, h2⟩ := h
  obtain ⟨b, F, a1, a2, a3⟩ := h2 i hi
  refine ⟨b, fun w' hw' => ?_⟩
  have e1 := ((h1.below hw' h1.lt).look cellKey Try.underlying129 zeroMapO (cs i)).1
  have e2 := ((a2.below hw' a2.lt).look cellKey Try.underlying112 zero64 (cs j)).1
  rw [a1] at e1
  rw [a3 j hj] at e2
  exact ⟨e1, e2⟩
theorem goT_bound {tb : Nat → Nat → Int} {n : Nat} (hb : ∀ i j, i ≤ n → j ≤ n → 0 ≤ tb i j ∧ tb i j < 100) : ∀ (m : Nat) (o : List Nat), o.length = m → (∀ k ∈ o, k < n) → (goT tb n o).2 ≤ n ∧ 0 ≤ (goT tb n o).1 ∧ (goT tb n o).1 ≤ 100 * m
  | 0, o, hm, h => by
    rw [List.length_eq_zero_iff.1 hm]
    simp [goT]
  | m + 1, o, hm, h => by
    rcases List.eq_nil_or_concat o with rfl | ⟨q, k, rfl⟩
    · simp at hm
    · rw [List.concat_eq_append] at hm h ⊢
      obtain ⟨h1, h2, h3⟩ := goT_bound hb m q (by simpa using hm) fun x hx => h x (by simp [hx])
      have hk := h k (by simp)
      rw [goT_snoc]
      have := hb _ _ h1 (by omega : k ≤ n)
      dsimp only
      omega

set_option maxRecDepth 100000 in
set_option maxHeartbeats 4000000 in
theorem stepsBy_any (cs : Nat → Pt) (n : Nat) (tb : Nat → Nat → Int) (hn : n ≤ 5) (hb : ∀ i j, i ≤ n → j ≤ n → 0 ≤ tb i j ∧ tb i j < 100) (l : List Pt) (hl : l.length = n) (hlc : ∀ i c, l[i]? = some c → cs i = c) (v : Value) (mb : Nat) (o : List Nat) (k : Nat) (hk : o.length = k) (hk5 : k ≤ 5) (ho : ∀ x ∈ o, x < n) (B : Nat) (a : Option Addr) (cap : Nat) (w : World)
    (hm : TourIs w mb cs n tb) (hv : RowP w v l) (hr : w.ownsRow B 2 1 (.slice a k cap) k (rowF (ordF o) k)) :
    Calls Try.prog 126 #[.agg (tourA (cs n) v mb), .slice a k cap] w fun e w' => e = .returned (.int .i64 (tripT tb n o)) ∧ Below w.heap.size w w' := by
  obtain ⟨⟨hx, hy⟩, hh⟩ : ∃ c, cs n = c := ⟨_, rfl⟩
  rw [hh]
  unfold tourA
  dsimp only
  have HH := Lib.hid hh
  have HB := Lib.hid hb
  have HLC := Lib.hid hlc
  have HO := Lib.hid ho
  have HM := Lib.hid hm
  have HV := Lib.hid hv
  have HR := Lib.hid hr
  have HK := Lib.hid hk
  have HL := Lib.hid hl
  obtain ⟨s, hs⟩ : ∃ s, w.heap.size = s := ⟨_, rfl⟩
  rw [hs]
  have g0 : Holds (w.alloc (.cells #[.int .i8 hx, .int .i8 hy, v, .map (some mb)] 131)) s #[.int .i8 hx, .int .i8 hy, v, .map (some mb)] := by rw [← hs]; exact Holds.new _ _ _
  clear hh hb hlc ho hm hv hr hk hl
  go_enter Try.func126, Try.ntmps126
  have rr := g0.row
  have c0 : (w.alloc (.cells #[.int .i8 hx, .int .i8 hy, v, .map (some mb)] 131)).cell? ⟨s, 0, none⟩ = some (.int .i8 hx) := g0.cell 0
  have c1 : (w.alloc (.cells #[.int .i8 hx, .int .i8 hy, v, .map (some mb)] 131)).cell? ⟨s, 1, none⟩ = some (.int .i8 hy) := g0.cell 1
  have g1 : Holds ((w.alloc (.cells #[.int .i8 hx, .int .i8 hy, v, .map (some mb)] 131)).alloc (.cells #[.int .i8 hx, .int .i8 hy] 37)).drew (s + 1) #[.int .i8 hx, .int .i8 hy] := (Holds.new' _ _ _ _ (by simp; omega)).drew
  have g2 : Holds ((w.alloc (.cells #[.int .i8 hx, .int .i8 hy, v, .map (some mb)] 131)).alloc (.cells #[.int .i8 hx, .int .i8 hy] 37)).drew s #[.int .i8 hx, .int .i8 hy, v, .map (some mb)] := (g0.alloc _).drew
  have hb0 : Below s w ((w.alloc (.cells #[.int .i8 hx, .int .i8 hy, v, .map (some mb)] 131)).alloc (.cells #[.int .i8 hx, .int .i8 hy] 37)).drew := by rw [← hs]; exact (((Below.refl w.heap.size w).alloc (Nat.le_refl _) _).alloc (by simp) _).drew
  have HS := Lib.hid hs
  clear g0
  go_wp2_with fail
  go_region
  go_wp2_with fail
  obtain ⟨W0, hW0⟩ : ∃ W0, ((w.alloc (.cells #[.int .i8 hx, .int .i8 hy, v, .map (some mb)] 131)).alloc (.cells #[.int .i8 hx, .int .i8 hy] 37)).drew = W0 := ⟨_, rfl⟩
  rw [hW0] at g1 g2 hb0 ⊢
  clear hW0 rr c0 c1 hs
  go_loopw [5, 8, 9, 14] (fun t _ _ j wr => ∃ (i : Nat) (cx cy : Int), i ≤ k ∧ j = .int .i64 i ∧ t = .int .i64 (goT tb n (o.take i)).1 ∧ cs (goT tb n (o.take i)).2 = (cx, cy) ∧ Holds wr (s + 1) #[.int .i8 cx, .int .i8 cy] ∧ Holds wr s #[.int .i8 hx, .int .i8 hy, v, .map (some mb)] ∧ Below s w wr) (fun _ _ _ j _ => k - (intOf j).toNat)
  case atStart => exact ⟨0, hx, hy, by omega, rfl, rfl, HH.out, g1, g2, hb0⟩
  case round =>
    obtain ⟨i, cx, cy, hi, rfl, rfl, hc, h1, h0, hb⟩ := hrel
    clear g1 g2 hb0
    have hTM := HM.out.below (w' := wr) (by rw [HS.out]; exact hb)
    have hTV := HV.out.below (w' := wr) (by rw [HS.out]; exact hb)
    have hTR := own_below HR.out (W' := wr) (by rw [HS.out]; exact hb)
    have hgb := goT_bound HB.out i (o.take i) (by rw [List.length_take, HK.out]; omega) (fun x hx => HO.out x (List.mem_of_mem_take hx))
    obtain ⟨⟨S, p⟩, hSp⟩ : ∃ q, goT tb n (o.take i) = q := ⟨_, rfl⟩
    rw [hSp] at hc hgb ⊢
    dsimp only at hc hgb ⊢
    have HTM := Lib.hid hTM
    have HTR := Lib.hid hTR
    have HTV := Lib.hid hTV
    have HC := Lib.hid hc
    have HSP := Lib.hid hSp
    clear hTM hTR hTV hc hSp
    by_cases hlt : i < k
    · have hd : decide ((i : Int) < (k : Int)) = true := by simp; omega
      obtain ⟨x, hx⟩ : ∃ x, o[i]? = some x := ⟨_, List.getElem?_eq_getElem (by rw [HK.out]; exact hlt)⟩
      have hxn := HO.out x (List.mem_of_getElem? hx)
      obtain ⟨⟨ex, ey⟩, hlx⟩ : ∃ c, l[x]? = some c := ⟨_, List.getElem?_eq_getElem (by rw [HL.out]; exact hxn)⟩
      have HCX := Lib.hid (HLC.out _ _ hlx)
      obtain ⟨ga, cap2, he, -, -⟩ := own_form HTR.out (by omega)
      simp only [Value.slice.injEq] at he
      obtain ⟨rfl, -, rfl⟩ := he
      rcases HTV.out with ⟨hnil, -⟩ | ⟨gv, cv, rfl, hgv, hcell⟩
      · rw [hnil] at hlx; simp at hlx
      have e0 : wr.cell? ⟨ga, i, none⟩ = some (.int .i64 x) := by
        refine own_cell HTR.out _ _ ?_
        rw [rowF_get _ (by omega)]
        unfold ordF
        rw [List.getD_eq_getElem?_getD, hx]
        rfl
      have e1 : wr.cell? ⟨gv, x * 2, none⟩ = some (.int .i8 ex) := by
        have := flatP_at l x 0 (by omega)
        rw [hlx] at this
        exact hcell wr (Below.refl _ _) _ _ this
      have e2 : wr.cell? ⟨gv, x * 2 + 1, none⟩ = some (.int .i8 ey) := by
        have := flatP_at l x 1 (by omega)
        rw [hlx] at this
        exact hcell wr (Below.refl _ _) _ _ this
      have e3 : wr.cell? ⟨s, 2, none⟩ = some (.slice (some ⟨gv, 0, none⟩) l.length cv) := h0.cell 2
      rw [HL.out] at e3
      have m1 := h1.alloc (.cells #[.int .i8 ex, .int .i8 ey] 37)
      have m0 := h0.alloc (.cells #[.int .i8 ex, .int .i8 ey] 37)
      have m2 := Holds.new wr #[.int .i8 ex, .int .i8 ey] 37
      have mb2 := hb.alloc (by have := h0.lt; omega) (.cells #[.int .i8 ex, .int .i8 ey] 37)
      have mT := HTM.out.below ((Below.refl wr.heap.size wr).alloc (Nat.le_refl _) (.cells #[.int .i8 ex, .int .i8 ey] 37))
      obtain ⟨u, hu⟩ : ∃ u, wr.heap.size = u := ⟨_, rfl⟩
      obtain ⟨W4, hW4⟩ : ∃ W4, wr.alloc (.cells #[.int .i8 ex, .int .i8 ey] 37) = W4 := ⟨_, rfl⟩
      rw [hW4] at m1 m0 m2 mb2 mT
      rw [hu] at m2
      have hs1 := h1.lt
      rw [hu] at hs1
      obtain ⟨mbb, hlk⟩ := mT.at hgb.1 (by omega : x ≤ n)
      rw [HC.out, HCX.out] at hlk
      have htb := HB.out p x hgb.1 (by omega)
      have hstep : goT tb n (o.take (i + 1)) = (S + tb p x, x) := by rw [List.take_add_one, hx]; show goT tb n (o.take i ++ [x]) = _; rw [goT_snoc, HSP.out]
      have HST := Lib.hid hstep
      have hwS : wrap64 (S + tb p x) = S + tb p x := by unfold wrap64; omega
      obtain ⟨D, hD⟩ : ∃ D, tb p x = D := ⟨_, rfl⟩
      rw [hD] at hlk hwS HST htb
      have FX := Lib.hid (show ∀ w', Below W4.heap.size W4 w' → w'.cell? ⟨s, 3, none⟩ = some (.map (some mb)) ∧ (w'.cell? ⟨s + 1, 0, none⟩ = some (.int .i8 cx) ∧ w'.cell? ⟨s + 1, 1, none⟩ = some (.int .i8 cy)) ∧ (w'.cell? ⟨u, 0, none⟩ = some (.int .i8 ex) ∧ w'.cell? ⟨u, 1, none⟩ = some (.int .i8 ey)) from fun w' hw' =>
        ⟨(m0.below hw' m0.lt).cell 3, ⟨(m1.below hw' m1.lt).cell 0, (m1.below hw' m1.lt).cell 1⟩, (m2.below hw' m2.lt).cell 0, (m2.below hw' m2.lt).cell 1⟩)
      have HLK := Lib.hid hlk
      clear hlk hx hlx hcell hstep hD h0 h1 hb mT HTM HTV HTR HM HV HR
      go_wp2_with fail
      try rw [hW4]
      try simp only [hu]
      clear hW4 hu e0 e1 e2 e3
      refine wp_region_grow 8 (by kernel_rfl) (by kernel_rfl) ?_
      simp only [List.take_succ_cons, List.take_zero, List.drop_succ_cons, List.drop_zero]
      iterate 8
        apply wpGrow_plain rfl
        · intro w' hw' K hK
          obtain ⟨f1, ⟨f2, f3⟩, f4, f5⟩ := FX.out _ hw'
          obtain ⟨k1, k2⟩ := HLK.out _ hw'
          go_wp2_with fail
          exact hK _ _ rfl hw'
        simp only [Act.put, List.setIfInBounds_toArray, List.set_cons_succ, List.set_cons_zero]
      refine wpGrow_nil ?_
      intro W5 hW5
      have n0 := m0.below hW5 m0.lt
      have n1 := m1.below hW5 m1.lt
      have n2 := m2.below hW5 m2.lt
      have nb := mb2.trans (hW5.mono (by have := m0.lt; omega))
      clear hW5 FX HLK m0 m1 m2 mb2
      have c0 : W5.cell? ⟨u, 0, none⟩ = some (.int .i8 ex) := n2.cell 0
      have c1 : W5.cell? ⟨u, 1, none⟩ = some (.int .i8 ey) := n2.cell 1
      obtain ⟨-, -, c2, z2, l2⟩ := n1.facts
      have r1 := (n1.setCell 0 (.int .i8 ex)).setCell 1 (.int .i8 ey)
      have r0 := (n0.setCell_other (a := ⟨s + 1, 0, none⟩) (.int .i8 ex) (by dsimp only; omega)).setCell_other (a := ⟨s + 1, 1, none⟩) (.int .i8 ey) (by dsimp only; omega)
      have rb := (nb.setCell (p := ⟨s + 1, 0, none⟩) (by dsimp only; omega) (.int .i8 ex)).setCell (p := ⟨s + 1, 1, none⟩) (by dsimp only; omega) (.int .i8 ey)
      clear n0 n1 n2 nb
      go_wp2_with fail
      go_roundw
      case rel => exact ⟨i + 1, ex, ey, by omega, by go_num, by rw [HST.out], by rw [HST.out]; exact HCX.out, r1, r0, rb⟩
      case measure => simp [intOf]; omega
    · have hik : i = k := by omega
      subst hik
      have hd : decide ((i : Int) < (i : Int)) = false := by simp
      have htk : o.take i = o := List.take_of_length_le (by rw [HK.out]; omega)
      obtain ⟨mbb, hlk⟩ := HTM.out.at hgb.1 (Nat.le_refl n)
      rw [HC.out, HH.out] at hlk
      have htb := HB.out p n hgb.1 (Nat.le_refl n)
      have hT : tripT tb n o = S + tb p n := by unfold tripT; rw [← htk, HSP.out]
      have hwS : wrap64 (S + tb p n) = S + tb p n := by unfold wrap64; omega
      obtain ⟨D, hD⟩ : ∃ D, tb p n = D := ⟨_, rfl⟩
      rw [hD] at hlk hwS hT
      have HTT := Lib.hid hT
      have FX := Lib.hid (show ∀ w', Below wr.heap.size wr w' → w'.cell? ⟨s, 3, none⟩ = some (.map (some mb)) ∧ (w'.cell? ⟨s + 1, 0, none⟩ = some (.int .i8 cx) ∧ w'.cell? ⟨s + 1, 1, none⟩ = some (.int .i8 cy)) ∧ (w'.cell? ⟨s, 0, none⟩ = some (.int .i8 hx) ∧ w'.cell? ⟨s, 1, none⟩ = some (.int .i8 hy)) from fun w' hw' =>
        ⟨(h0.below hw' h0.lt).cell 3, ⟨(h1.below hw' h1.lt).cell 0, (h1.below hw' h1.lt).cell 1⟩, (h0.below hw' h0.lt).cell 0, (h0.below hw' h0.lt).cell 1⟩)
      have HLK := Lib.hid hlk
      have HBB := Lib.hid hb
      have HSL := Lib.hid h0.lt
      clear hlk hD h0 h1 hb HTM HTV HTR HM HV HR hT htk
      go_wp2_with fail
      refine wp_region_grow 9 (by kernel_rfl) (by kernel_rfl) ?_
      simp only [List.take_succ_cons, List.take_zero, List.drop_succ_cons, List.drop_zero]
      iterate 9
        apply wpGrow_plain rfl
        · intro w' hw' K hK
          obtain ⟨f1, ⟨f2, f3⟩, f4, f5⟩ := FX.out _ hw'
          obtain ⟨k1, k2⟩ := HLK.out _ hw'
          go_wp2_with fail
          exact hK _ _ rfl hw'
        simp only [Act.put, List.setIfInBounds_toArray, List.set_cons_succ, List.set_cons_zero]
      refine wpGrow_nil ?_
      intro W5 hW5
      go_wp2_with fail
      go_ret
      exact ⟨by rw [HTT.out]; rfl, HBB.out.trans (hW5.mono (by have := HSL.out; omega))⟩
end Go.Proofs.Ytaeenkjbmlgcmaa

namespace Go.Proofs.Ytaeenkjbmlgcmaa
open Go.RowKit
set_option linter.unusedVariables false
set_option linter.unusedSimpArgs false

theorem exists_least {p : Nat → Prop} : ∀ n, p n → ∃ m, p m ∧ ∀ k, p k → m ≤ k := by
  intro n
  induction n using Nat.strongRecOn with
  | _ n ih =>
    intro h
    by_cases hk : ∃ k, k < n ∧ p k
    · obtain ⟨k, hkn, hpk⟩ := hk
      exact ih k hkn hpk
    · exact ⟨n, h, fun k hpk => Nat.le_of_not_lt fun hlt => hk ⟨k, hlt, hpk⟩⟩
open Classical in
noncomputable def leastN (J : Nat → Act → World → Prop) (a : Act) (w : World) : Nat := if h : ∃ m, J m a w ∧ ∀ k, J k a w → m ≤ k then h.choose else 0
theorem leastN_is {J : Nat → Act → World → Prop} {a : Act} {w : World} {n : Nat} (h : J n a w) : J (leastN J a w) a w ∧ leastN J a w ≤ n := by
  have hh : ∃ m, J m a w ∧ ∀ k, J k a w → m ≤ k := exists_least (p := fun m => J m a w) n h
  unfold leastN
  rw [dif_pos hh]
  exact ⟨hh.choose_spec.1, hh.choose_spec.2 n h⟩
/-- A jump back to a label; what holds at it says a number, which falls. -/
theorem wp_scope_falls {P : Program} {a : Act} {w : World} {Q : Exit → Act → World → Prop} {c rest : Code} (l : Nat) (J : Nat → Act → World → Prop) (hf : findLabel c l = some rest)
    (first : c.wp P (Exit.jump l (fun a' w' => ∃ n, J n a' w') Q) a w)
    (pass : ∀ n a w, J n a w → rest.wp P (Exit.jump l (fun a' w' => ∃ m, m < n ∧ J m a' w') Q) a w) : (Code.scope c).wp P Q a w := by
  refine wp_scope_jumps l (fun a' w' => ∃ n, J n a' w') (leastN J) hf first ?_
  rintro a w ⟨n, hJ⟩
  refine Code.wp_mono ?_ (pass _ a w (leastN_is hJ).1)
  intro e a' w' h
  cases e with
  | goto l' =>
    obtain ⟨rfl, m, hm, hJm⟩ := h
    exact ⟨rfl, ⟨m, hJm⟩, Nat.lt_of_le_of_lt (leastN_is hJm).2 hm⟩
  | normal => exact h
  | exit id => exact h
  | ret => exact h
  | panic ch => exact h
  | outgrown => exact h

/-- The same, where the first run comes to the label and goes on as the passes do. -/
theorem wp_scope_falls2 {P : Program} {a : Act} {w : World} {Q : Exit → Act → World → Prop} {c rest : Code} (l : Nat) (J : Nat → Act → World → Prop) (hf : findLabel c l = some (Code.skip.seq rest))
    (first : (∀ n a w, J n a w → rest.wp P (Exit.jump l (fun a' w' => ∃ n, J n a' w') Q) a w) → c.wp P (Exit.jump l (fun a' w' => ∃ n, J n a' w') Q) a w)
    (pass : ∀ n a w, J n a w → rest.wp P (Exit.jump l (fun a' w' => ∃ m, m < n ∧ J m a' w') Q) a w) : (Code.scope c).wp P Q a w := by
  refine wp_scope_falls l J hf (first fun n a w hJ => Code.wp_mono ?_ (pass n a w hJ)) (fun n a w hJ => wp_seq (wp_skip (pass n a w hJ)))
  intro e a' w' h
  cases e with
  | goto l' =>
    obtain ⟨rfl, m, hm, hJm⟩ := h
    exact ⟨rfl, m, hJm⟩
  | normal => exact h
  | exit id => exact h
  | ret => exact h
  | panic ch => exact h
  | outgrown => exact h

theorem i64I : (Try.prog.info? 2).map (fun i => (i.zero, i.size, i.bytes)) = some (some (.int .i64 0), 1, 8) := by kernel_rfl
set_option maxRecDepth 100000 in
set_option maxHeartbeats 1000000 in
theorem clone64_any (B N : Nat) (v : Value) (hN : N ≤ 2000000) (h0 : 0 < N) (f : Nat → Int) (w : World) (ho : w.ownsRow B 2 1 v N (rowF f N)) :
    Calls Try.prog 125 #[v] w fun e w' => (∃ u, e = .returned u ∧ w'.ownsRow w.heap.size 2 1 u N (rowF f N)) ∧ Below w.heap.size w w' := by
  obtain ⟨g, cv, rfl, hBg, hg⟩ := own_form ho (by omega)
  have HO := Lib.hid ho
  have HL := Lib.hid (show (rowF f N).length = N * 1 by rw [rowF_length]; omega)
  have HM1 := Lib.hid (World.ownsRow_made (e := 2) (size := 1) w #[] 0 (Nat.le_refl w.heap.size) (by simp [maxLen]) rfl)
  clear ho
  obtain ⟨i0, hi, hq0, hq1, hq2⟩ := info_parts i64I
  have q22 : (binOp .eql 56 (.slice (some ⟨g, 0, none⟩) N cv) (.slice none 0 0)).run Try.prog w = .ok (.bool false) w := by have := Lib.run_eql_slice_nil w _ _ (some ⟨g, 0, none⟩) N cv 0 0 Try.underlying56; exact this
  go_enter Try.func125, Try.ntmps125
  go_wp2_with (at_builtin; refine wpList_append_own_at _ rfl _ _ 56 rfl w.heap.size 2 i0 (.int .i64 0) 1 8 Try.underlying56 hi hq0 hq1 hq2 rfl (by decide) _ _ _ rfl HM1.out ⟨g, 0, none⟩ N cv (rowF f N) rfl HL.out ?c1 ?c2 ?c3 ?c4 ?c5 ?_)
  case c1 => exact fun j u hu => by have h9 := own_cell (HO.out.alloc (.cells #[] 2)) j u hu; by_cases h0 : j = 0 <;> simpa [Addr.add, h0] using h9
  case c2 => intro z hz; simp only [rowF, List.mem_map] at hz; obtain ⟨y, -, rfl⟩ := hz; rfl
  case c3 => unfold maxLen; omega
  case c4 => omega
  case c5 => simp
  intro v' w9 hown' hgrow _ hat
  have hb9 : Below w.heap.size w w9 := ((Below.refl w.heap.size w).alloc (Nat.le_refl _) _).grown hgrow (by simp) (fun k hk => by simp [Value.ownBlock] at hk; omega)
  obtain ⟨g9, c9, rfl, hB9, hg9⟩ := own_form hown' (by omega)
  have HR := Lib.hid hown'
  clear hown' hgrow hat
  go_wp2_with fail
  go_ret
  exact ⟨⟨_, rfl, HR.out⟩, hb9⟩
theorem cloneNil_any (w : World) : Calls Try.prog 125 #[.slice none 0 0] w fun e w' => e = .returned (.slice none 0 0) ∧ w' = w := by
  have q22 : (binOp .eql 56 (.slice none 0 0) (.slice none 0 0)).run Try.prog w = .ok (.bool true) w := by have := Lib.run_eql_slice_nil w _ _ none 0 0 0 0 Try.underlying56; exact this
  go_enter Try.func125, Try.ntmps125
  go_wp2_with fail
  go_ret
  exact ⟨rfl, rfl⟩
theorem nextNil_any (w : World) : Calls Try.prog 127 #[.slice none 0 0] w fun e w' => e = .returned (.bool false) ∧ w' = w := by
  go_enter Try.func127, Try.ntmps127
  go_wp2_with fail
  go_loopw [3] (fun t wr => wr = w ∧ t = .int .i64 (-2)) (fun t _ => 0)
  case atStart => exact ⟨rfl, rfl⟩
  case round =>
    obtain ⟨rfl, rfl⟩ := hrel
    go_wp2_with fail
    go_ret
    exact ⟨rfl, rfl⟩

theorem own_cap {w : World} {B : Nat} {e : TypeId} {size n g cap : Nat} {xs : List Value} (h : w.ownsRow B e size (.slice (some ⟨g, 0, none⟩) n cap) n xs) : n ≤ cap := by
  obtain ⟨hl, h⟩ := h
  rcases h with ⟨hv, -⟩ | ⟨b, c, cs, hv, hB, hh, hc, -⟩
  · simp only [Value.slice.injEq] at hv; exact absurd hv.1 (by simp)
  · simp only [Value.slice.injEq] at hv
    omega
set_option maxRecDepth 100000 in
set_option maxHeartbeats 4000000 in
theorem bestOrd_any (cs : Nat → Pt) (n : Nat) (tb : Nat → Nat → Int) (hn : n ≤ 5) (hb : ∀ i j, i ≤ n → j ≤ n → 0 ≤ tb i j ∧ tb i j < 100) (l : List Pt) (hl : l.length = n) (hlc : ∀ i c, l[i]? = some c → cs i = c) (v : Value) (mb : Nat) (o : List Nat) (k : Nat) (hk : o.length = k) (hk5 : k ≤ 5) (hk0 : 0 < k) (hsub : o ∈ subs5) (ho : ∀ x ∈ o, x < n) (B : Nat) (a : Option Addr) (cap : Nat) (w : World)
    (hm : TourIs w mb cs n tb) (hv : RowP w v l) (hr : w.ownsRow B 2 1 (.slice a k cap) k (rowF (ordF o) k)) :
    Calls Try.prog 82 #[.agg (tourA (cs n) v mb), .slice a k cap] w fun e w' => (∃ u p S, (permsL o).foldl (bestT tb n) none = some (p, S) ∧ e = .returned (.tuple #[u, .int .i64 S]) ∧ w'.ownsRow w.heap.size 2 1 u k (rowF (ordF p) k)) ∧ Below w.heap.size w w' := by
  have HSB := Lib.hid (fun (o' : List Nat) (hk' : o'.length = k) (ho' : ∀ x ∈ o', x < n) (B : Nat) (a : Option Addr) (cap : Nat) (w : World) (hm : TourIs w mb cs n tb) (hv : RowP w v l) (hr : w.ownsRow B 2 1 (.slice a k cap) k (rowF (ordF o') k)) => stepsBy_any cs n tb hn hb l hl hlc v mb o' k hk' hk5 ho' B a cap w hm hv hr)
  have HNX := Lib.hid (fun (o' : List Nat) (hk' : o'.length = k) (ho' : ∀ x ∈ o', x < n) (B b cap : Nat) (hcap : k ≤ cap) (w : World) (h : w.ownsRow B 2 1 (.slice (some ⟨b, 0, none⟩) k cap) k (rowF (ordF o') k)) => nextOrder_any o' k hk' hk5 (fun j => by
    rw [List.getD_eq_getElem?_getD]
    cases hj : o'[j]? with
    | none => simp
    | some x => have := ho' x (List.mem_of_getElem? hj); simp; omega) B b cap hcap w h)
  have HCL := Lib.hid (fun (f : Nat → Int) (B : Nat) (v : Value) (w : World) (h : w.ownsRow B 2 1 v k (rowF f k)) => clone64_any B k v (by omega) hk0 f w h)
  have HPN := Lib.hid (fun i o' (h : (permsL o)[i]? = some o') => perms_next hsub i o' h)
  have HPA := Lib.hid (show ∀ o' ∈ permsL o, o'.length = k ∧ ∀ x ∈ o', x < n from fun o' ho' => by
    have := List.all_eq_true.1 (perms_chain o hsub).2.2.2 o' ho'
    simp only [Bool.and_eq_true, beq_iff_eq, List.all_eq_true, List.contains_iff_mem] at this
    exact ⟨this.1.trans hk, fun x hx => ho x (this.2 x hx)⟩)
  have HP0 := Lib.hid (perms_first hsub)
  have HM := Lib.hid hm
  have HV := Lib.hid hv
  have HR := Lib.hid hr
  have HK := Lib.hid hk
  have HO := Lib.hid ho
  have HPL := Lib.hid (perms_chain o hsub).2.2.1
  obtain ⟨⟨hx, hy⟩, hh⟩ : ∃ c, cs n = c := ⟨_, rfl⟩
  rw [hh] at HSB ⊢
  unfold tourA at HSB ⊢
  dsimp only at HSB ⊢
  clear hh hb hl hlc hsub ho hm hv hr hk
  obtain ⟨s, hs⟩ : ∃ s, w.heap.size = s := ⟨_, rfl⟩
  rw [hs]
  have HS := Lib.hid hs
  have g0 : Holds (w.alloc (.cells #[.int .i8 hx, .int .i8 hy, v, .map (some mb)] 131)) s #[.int .i8 hx, .int .i8 hy, v, .map (some mb)] := by rw [← hs]; exact Holds.new _ _ _
  have hb0 : Below s w (w.alloc (.cells #[.int .i8 hx, .int .i8 hy, v, .map (some mb)] 131)) := by rw [← hs]; exact (Below.refl w.heap.size w).alloc (Nat.le_refl _) _
  have hsz0 : (w.alloc (.cells #[.int .i8 hx, .int .i8 hy, v, .map (some mb)] 131)).heap.size = s + 1 := by simp [hs]
  go_enter Try.func82, Try.ntmps82
  go_wp2_with fail
  try simp only [hs]
  refine wp_scope_falls2 0 (fun m a' w' => ∃ (i : Nat) (ob oc B' bb bc : Nat) (o' p : List Nat) (S : Int) (u9 u10 u11 u12 u13 u14 u15 u16 u17 u18 u19 u20 u21 u22 u23 u24 u25 u26 u27 u28 u29 u30 : Value),
    a' = { tmps := #[.agg #[.int .i8 hx, .int .i8 hy, v, .map (some mb)], .slice a k cap, .pointer (some ⟨s, 0, none⟩), undef, .slice none 0 0, .int .i64 0, .slice (some ⟨ob, 0, none⟩) k oc, .slice (some ⟨bb, 0, none⟩) k bc, .int .i64 S, u9, u10, u11, u12, u13, u14, u15, u16, u17, u18, u19, u20, u21, u22, u23, u24, u25, u26, u27, u28, u29, u30], defers := [] } ∧
    i + m = 120 ∧ (permsL o)[i]? = some o' ∧ ((permsL o).take (i + 1)).foldl (bestT tb n) none = some (p, S) ∧ s + 1 ≤ B' ∧ k ≤ oc ∧ bb ≠ ob ∧ w'.ownsRow B' 2 1 (.slice (some ⟨ob, 0, none⟩) k oc) k (rowF (ordF o') k) ∧ w'.ownsRow (s + 1) 2 1 (.slice (some ⟨bb, 0, none⟩) k bc) k (rowF (ordF p) k) ∧ Holds w' s #[.int .i8 hx, .int .i8 hy, v, .map (some mb)] ∧ Below s w w') rfl ?_ ?_
  · intro HPASS
    have HPS := Lib.hid HPASS
    clear HPASS
    have HB0 := Lib.hid hb0
    clear hb0
    obtain ⟨W0, hW0⟩ : ∃ W0, w.alloc (.cells #[.int .i8 hx, .int .i8 hy, v, .map (some mb)] 131) = W0 := ⟨_, rfl⟩
    rw [hW0] at g0 hsz0 HB0 ⊢
    clear hW0
    go_wp2_with fail
    have hbW : Below w.heap.size w W0 := by rw [HS.out]; exact HB0.out
    refine (HCL.out _ _ _ _ (own_below HR.out hbW)).mono ?_
    rintro e w1 ⟨⟨u, rfl, hou⟩, hb1⟩
    rw [hsz0] at hou hb1
    have q0 := g0.below hb1 (by omega)
    have qb := HB0.out.trans (hb1.mono (by omega))
    obtain ⟨ob, oc, rfl, hob1, hob2⟩ := own_form hou hk0
    have hoc : k ≤ oc := own_cap hou
    have HOU := Lib.hid hou
    have HQ0 := Lib.hid q0
    have HQB := Lib.hid qb
    clear hb1 hou hbW g0 hsz0 HB0 q0 qb
    have hbW1 : Below w.heap.size w w1 := by rw [HS.out]; exact HQB.out
    have HTM := Lib.hid (HM.out.below hbW1)
    have HTV := Lib.hid (HV.out.below hbW1)
    clear hbW1 HR
    obtain ⟨S, hSS⟩ : ∃ S, tripT tb n o = S := ⟨_, rfl⟩
    have HSS := Lib.hid hSS
    clear hSS
    go_wp2_with fail
    refine wp_region_growV 6 1 [5] (fun p w' => ∃ g c, p = .slice (some ⟨g, 0, none⟩) k c ∧ g ≠ ob ∧ w'.ownsRow (s + 1) 2 1 p k (rowF (ordF o) k)) (fun p w1 w2 ⟨g, c, h1, h2, h3⟩ hb => ⟨g, c, h1, h2, own_below h3 hb⟩)
      (fun p => [.slice (some ⟨ob, 0, none⟩) k oc, p, .agg #[.int .i8 hx, .int .i8 hy, v, .map (some mb)], .slice (some ⟨ob, 0, none⟩) k oc, .int .i64 S, p]) (by
        intro p p' j h1 h2
        match j with
        | 0 => rfl
        | 1 => exact absurd rfl h1
        | 2 => rfl
        | 3 => rfl
        | 4 => rfl
        | 5 => simp at h2
        | j + 6 => rfl) (by kernel_rfl) (by kernel_rfl) (by kernel_rfl) ?_
    intro p
    simp only [List.take_succ_cons, List.take_zero, List.drop_succ_cons, List.drop_zero]
    refine seqV_free rfl rfl rfl rfl ?_ ?_
    · intro w' hw' K hK
      go_wp2_with fail
      exact hK _ _ rfl (Below.refl _ _)
    simp only [Act.put, List.setIfInBounds_toArray, List.set_cons_succ, List.set_cons_zero, List.getD_cons_zero, List.getD_cons_succ, Nat.reduceAdd]
    refine seqV_call rfl rfl (fun q => rfl) ?_ ?_
    · intro w' hw' K hK
      have hlt' := hw'.size
      go_wp2_with fail
      refine (HCL.out _ _ _ _ (own_below HOU.out hw')).mono ?_
      rintro e w4 ⟨⟨v, rfl, ho⟩, hb4⟩
      obtain ⟨g, cap, rfl, hg1, -⟩ := own_form ho hk0
      exact hK _ _ _ rfl hb4 ⟨g, cap, rfl, by omega, ownsRow_low ho (by omega)⟩
    simp only [Act.put, List.setIfInBounds_toArray, List.set_cons_succ, List.set_cons_zero, List.getD_cons_zero, List.getD_cons_succ, Nat.reduceAdd]
    iterate 2
      refine seqV_free rfl rfl rfl rfl ?_ ?_
      · intro w' hw' K hK
        have f0 := (HQ0.out.below hw' HQ0.out.lt).cell 0
        have f1 := (HQ0.out.below hw' HQ0.out.lt).cell 1
        have f2 := (HQ0.out.below hw' HQ0.out.lt).cell 2
        have f3 := (HQ0.out.below hw' HQ0.out.lt).cell 3
        simp only [List.getElem?_toArray, List.getElem?_cons_zero, List.getElem?_cons_succ] at f0 f1 f2 f3
        go_wp2_with fail
        exact hK _ _ rfl (Below.refl _ _)
      simp only [Act.put, List.setIfInBounds_toArray, List.set_cons_succ, List.set_cons_zero, List.getD_cons_zero, List.getD_cons_succ, Nat.reduceAdd]
    refine seqV_free rfl rfl rfl rfl ?_ ?_
    · intro w' hw' K hK
      go_wp2_with fail
      refine (HSB.out o HK.out HO.out _ _ _ _ (HTM.out.below hw') (HTV.out.below hw') (own_below HOU.out hw')).mono ?_
      rintro e w4 ⟨rfl, hb4⟩
      rw [HSS.out]
      exact hK _ _ rfl hb4
    simp only [Act.put, List.setIfInBounds_toArray, List.set_cons_succ, List.set_cons_zero, List.getD_cons_zero, List.getD_cons_succ, Nat.reduceAdd]
    refine seqV_dep rfl rfl rfl rfl ?_ ?_
    · rintro w' hw' - K hK
      go_wp2_with fail
      exact hK _ _ rfl (Below.refl _ _)
    simp only [Act.put, List.setIfInBounds_toArray, List.set_cons_succ, List.set_cons_zero, List.getD_cons_zero, List.getD_cons_succ, Nat.reduceAdd]
    refine seqV_nil ?_
    rintro w2 hsz2 hbw ⟨bb, bc, rfl, hbn, hob⟩
    have n0 := HQ0.out.below hbw HQ0.out.lt
    have nb := HQB.out.trans (hbw.mono (by have := HQ0.out.lt; omega))
    have no := own_below HOU.out hbw
    have HN := Lib.hid (And.intro n0 (And.intro nb (And.intro no hob)))
    clear n0 nb no hob hbw HOU HQ0 HQB HTM HTV HSB HNX HCL
    go_wp2_with fail
    go_step3
    refine (‹∀ (a : Act) (w : World), Code.wp Try.prog _ _ a w → _›) _ _ ?_
    refine HPS.out 120 _ _ ⟨0, ob, oc, s + 1, bb, bc, o, o, S, _, _, _, _, _, _, _, _, _, _, _, _, _, _, _, _, _, _, _, _, _, _, rfl, rfl, HP0.out, ?_, by omega, hoc, hbn, HN.out.2.2.1, HN.out.2.2.2, HN.out.1, HN.out.2.1⟩
    rw [List.take_add_one, List.take_zero, HP0.out, ← HSS.out]
    rfl
  · rintro m a' W ⟨i, ob, oc, B', bb, bc, o', p, S, u9, u10, u11, u12, u13, u14, u15, u16, u17, u18, u19, u20, u21, u22, u23, u24, u25, u26, u27, u28, u29, u30, rfl, him, hpi, hfold, hB', hoc, hbn, hou, hobb, h0, hb⟩
    clear HP0 hb0 g0
    have hpm := HPA.out o' (List.mem_of_getElem? hpi)
    have hnx := HPN.out i o' hpi
    have HPI := Lib.hid hpi
    have HFO := Lib.hid hfold
    have HNL := Lib.hid hnx
    have HPM := Lib.hid hpm
    have hob1 := (own_lt hou).1
    have hob2 := (own_lt hou).2
    have hil : i < 120 := by
      obtain ⟨h1, -⟩ := List.getElem?_eq_some_iff.1 hpi
      have := HPL.out
      omega
    have HU := Lib.hid (And.intro hou (And.intro hobb (And.intro h0 hb)))
    clear hpm hnx hpi hfold hou hobb h0 hb
    go_wp2_with fail
    refine (HNX.out o' HPM.out.1 HPM.out.2 _ _ _ hoc _ HU.out.1).mono ?_
    rintro e w1 ⟨rfl, hO, hou⟩
    have k0 := hO.holds HU.out.2.2.1 (by simp; omega)
    have kb := HU.out.2.2.2.trans (hO.toBelow (B := s) (fun k hk => by simp at hk; omega) (by omega))
    have kob := hO.own HU.out.2.1 (fun z hz => by simp [Value.ownBlock] at hz; simp; omega)
    have HU2 := Lib.hid (And.intro hou (And.intro kob (And.intro k0 kb)))
    clear hO hou k0 kb kob HU
    cases hno : nextL o' with
    | none =>
      have HNO := Lib.hid hno
      clear hno
      simp only [Option.isSome_none]
      go_wp2_with fail
      simp only [Exit.jump]
      go_ret2
      have hnx := HNL.out
      rw [HNO.out] at hnx
      have hlen : (permsL o).length ≤ i + 1 := List.getElem?_eq_none_iff.1 hnx.symm
      have hf := HFO.out
      rw [List.take_of_length_le hlen] at hf
      exact ⟨⟨_, p, S, hf, rfl, ownsRow_low HU2.out.2.1 (by omega)⟩, HU2.out.2.2.2⟩
    | some o2 =>
      have HNO := Lib.hid hno
      have hnx := HNL.out
      rw [hno] at hnx
      have hpm2 := HPA.out o2 (List.mem_of_getElem? hnx.symm)
      have hU2 := HU2.out
      rw [hno] at hU2
      simp only [Option.getD_some] at hU2
      have hfold2 : ((permsL o).take (i + 1 + 1)).foldl (bestT tb n) none = if tripT tb n o2 < S then some (o2, tripT tb n o2) else some (p, S) := by
        rw [List.take_add_one (i := i + 1), ← hnx, List.foldl_append, HFO.out]
        rfl
      have HN2 := Lib.hid hnx.symm
      have HF2 := Lib.hid hfold2
      have hbW1 : Below w.heap.size w w1 := by rw [HS.out]; exact hU2.2.2.2
      have HTM := Lib.hid (HM.out.below hbW1)
      have HTV := Lib.hid (HV.out.below hbW1)
      have HSW := Lib.hid (HSB.out o2 hpm2.1 hpm2.2 _ _ _ _ HTM.out HTV.out hU2.1)
      obtain ⟨T, hT⟩ : ∃ T, tripT tb n o2 = T := ⟨_, rfl⟩
      rw [hT] at HF2 HSW
      have f0 := hU2.2.2.1.cell 0
      have f1 := hU2.2.2.1.cell 1
      have f2 := hU2.2.2.1.cell 2
      have f3 := hU2.2.2.1.cell 3
      simp only [List.getElem?_toArray, List.getElem?_cons_zero, List.getElem?_cons_succ] at f0 f1 f2 f3
      have HU3 := Lib.hid hU2
      have hi2 : i + 1 < 120 := by
        obtain ⟨h1, -⟩ := List.getElem?_eq_some_iff.1 hnx.symm
        have := HPL.out
        omega
      clear hno hnx hpm2 hU2 hfold2 hbW1 hT HU2
      simp only [Option.isSome_some]
      go_wp2_with fail
      refine HSW.out.mono ?_
      rintro e w2 ⟨rfl, hb2⟩
      have k1 := own_below HU3.out.1 hb2
      have k2 := own_below HU3.out.2.1 hb2
      have k3 := HU3.out.2.2.1.below hb2 HU3.out.2.2.1.lt
      have k4 := HU3.out.2.2.2.trans (hb2.mono (by have := HU3.out.2.2.1.lt; omega))
      have HU4 := Lib.hid (And.intro k1 (And.intro k2 (And.intro k3 k4)))
      have hsz4 : s + 1 ≤ w2.heap.size := k3.lt
      have hobl := (own_lt k1).2
      clear k1 k2 k3 k4 hb2 f0 f1 f2 f3 HSW HU3
      by_cases hlt : T < S
      · have hd : decide (T < S) = true := decide_eq_true hlt
        have HF3 := Lib.hid (show ((permsL o).take (i + 1 + 1)).foldl (bestT tb n) none = some (o2, T) by rw [HF2.out, if_pos hlt])
        go_wp2_with fail
        refine (HCL.out _ _ _ _ HU4.out.1).mono ?_
        rintro e w3 ⟨⟨u, rfl, hou⟩, hb3⟩
        obtain ⟨b2, c2, rfl, hb21, hb22⟩ := own_form hou hk0
        have HU5 := Lib.hid (And.intro (own_below HU4.out.1 hb3) (And.intro (ownsRow_low hou hsz4) (And.intro (HU4.out.2.2.1.below hb3 HU4.out.2.2.1.lt) (HU4.out.2.2.2.trans (hb3.mono (by omega))))))
        clear hou hb3 HU4
        go_wp2_with fail
        go_step3
        exact ⟨rfl, m - 1, by omega, i + 1, ob, oc, B', b2, c2, o2, o2, T, _, _, _, _, _, _, _, _, _, _, _, _, _, _, _, _, _, _, _, _, _, _, rfl, by omega, HN2.out, HF3.out, hB', hoc, by omega, HU5.out.1, HU5.out.2.1, HU5.out.2.2.1, HU5.out.2.2.2⟩
      · have hd : decide (T < S) = false := decide_eq_false hlt
        have HF3 := Lib.hid (show ((permsL o).take (i + 1 + 1)).foldl (bestT tb n) none = some (p, S) by rw [HF2.out, if_neg hlt])
        go_wp2_with fail
        go_step3
        exact ⟨rfl, m - 1, by omega, i + 1, ob, oc, B', bb, bc, o2, p, S, _, _, _, _, _, _, _, _, _, _, _, _, _, _, _, _, _, _, _, _, _, _, rfl, by omega, HN2.out, HF3.out, hB', hoc, hbn, HU4.out.1, HU4.out.2.1, HU4.out.2.2.1, HU4.out.2.2.2⟩
end Go.Proofs.Ytaeenkjbmlgcmaa

namespace Go.Proofs.Ytaeenkjbmlgcmaa
open Go.RowKit
set_option linter.unusedVariables false
set_option linter.unusedSimpArgs false

/-- A row of numbers that lay there. -/
def RowN (w : World) (v : Value) (ts : List Int) : Prop := ∃ a c, v = .slice a ts.length c ∧ ∀ (i : Nat) z, ts[i]? = some z → ∃ g, a = some ⟨g, 0, none⟩ ∧ ∀ w', Below w.heap.size w w' → w'.cell? ⟨g, i, none⟩ = some (.int .i64 z)
theorem RowN.below {w w' : World} {v : Value} {ts : List Int} (h : RowN w v ts) (hb : Below w.heap.size w w') : RowN w' v ts := by
  obtain ⟨a, c, h1, h2⟩ := h
  refine ⟨a, c, h1, fun i z hi => ?_⟩
  obtain ⟨g, e, h3⟩ := h2 i z hi
  exact ⟨g, e, fun w2 hw2 => h3 w2 (below_onto hb hw2)⟩
theorem RowN.own {w : World} {B n : Nat} {e : TypeId} {v : Value} {ts : List Int} (hn : ts.length = n) (h : w.ownsRow B e 1 v n (ts.map fun z => .int .i64 z)) : RowN w v ts := by
  obtain ⟨a, c, rfl⟩ := own_slice h
  refine ⟨a, c, by rw [hn], fun i z hi => ?_⟩
  have hlt : 0 < n := by
    obtain ⟨h1, -⟩ := List.getElem?_eq_some_iff.1 hi
    omega
  obtain ⟨g, cap, he, -, -⟩ := own_form h hlt
  simp only [Value.slice.injEq] at he
  obtain ⟨rfl, -, rfl⟩ := he
  exact ⟨g, rfl, fun w' hw' => own_cell (own_below h hw') _ _ (by rw [List.getElem?_map, hi]; rfl)⟩
def ordV (l : List Nat) : List Value := l.map fun x => .int .i64 (x : Nat)
theorem ordV_row (l : List Nat) : rowF (ordF l) l.length = ordV l := by
  apply List.ext_getElem?
  intro j
  unfold rowF ordV ordF
  simp only [List.getElem?_map]
  by_cases h : j < l.length
  · rw [List.getElem?_range h, List.getElem?_eq_getElem h]
    simp [List.getD_eq_getElem?_getD, List.getElem?_eq_getElem h]
  · rw [List.getElem?_eq_none (by simpa using h), List.getElem?_eq_none (by simpa using h)]
    rfl
def qK (ts : List Int) (m : Int) (i : Nat) : List Nat := (List.range i).filter fun j => ts.getD j 0 == m
theorem qK_succ (ts : List Int) (m : Int) (i : Nat) : qK ts m (i + 1) = if ts.getD i 0 = m then qK ts m i ++ [i] else qK ts m i := by
  unfold qK
  rw [List.range_succ, List.filter_append, List.filter_cons, List.filter_nil]
  by_cases h : ts.getD i 0 = m
  · rw [if_pos h, if_pos (by simpa using h)]
  · rw [if_neg h, if_neg (by simpa using h), List.append_nil]
theorem qK_len (ts : List Int) (m : Int) (i : Nat) : (qK ts m i).length ≤ i := by
  unfold qK
  have := List.length_filter_le (fun j => ts.getD j 0 == m) (List.range i)
  simpa using this

set_option maxRecDepth 100000 in
set_option maxHeartbeats 2000000 in
theorem onTrip_any (ts : List Int) (m : Int) (n : Nat) (hn : ts.length = n) (hn2 : n ≤ 2000000) (v : Value) (w : World) (hv : RowN w v ts) :
    Calls Try.prog 83 #[v, .int .i64 m] w fun e w' => (∃ u, e = .returned u ∧ ((withL ts m).length = 0 → u = .slice none 0 0) ∧ w'.ownsRow w.heap.size 2 1 u (withL ts m).length (ordV (withL ts m))) ∧ Below w.heap.size w w' := by
  have hW : withL ts m = qK ts m n := by unfold withL qK; rw [hn]
  rw [hW]
  obtain ⟨a, c, rfl, hcell⟩ := hv
  rw [hn]
  have HC := Lib.hid hcell
  have HN := Lib.hid hn
  have HL := Lib.hid (fun i => qK_len ts m i)
  have HQ := Lib.hid (fun i => qK_succ ts m i)
  obtain ⟨ci, hi, hz0, hz1, hz2⟩ := info_parts i64I
  have HCI := Lib.hid (show Try.prog.info? 2 = some ci ∧ ci.zero = some (.int .i64 0) ∧ ci.size = 1 ∧ ci.bytes = 8 from ⟨hi, hz0, hz1, hz2⟩)
  have H0 := Lib.hid (show qK ts m 0 = [] from rfl)
  clear hW hcell hn hi hz0 hz1 hz2
  go_enter Try.func83, Try.ntmps83
  go_wp2_with fail
  go_loopw [5, 6, 7, 10] (fun u _ _ j wr => ∃ i : Nat, i ≤ n ∧ j = .int .i64 i ∧ ((qK ts m i).length = 0 → u = .slice none 0 0) ∧ wr.ownsRow w.heap.size 2 1 u (qK ts m i).length (ordV (qK ts m i)) ∧ Below w.heap.size w wr) (fun _ _ _ j _ => n - (intOf j).toNat)
  case atStart => exact ⟨0, by omega, rfl, fun _ => rfl, by rw [H0.out]; exact World.ownsRow_nil _ _ _ _, Below.refl _ _⟩
  case round =>
    obtain ⟨i, hi, rfl, hu0, hu, hb⟩ := hrel
    have hl := HL.out i
    have hqs := HQ.out i
    have HU0 := Lib.hid hu0
    clear hu0
    by_cases hlt : i < n
    · have hd : decide ((i : Int) < (n : Int)) = true := by simp; omega
      obtain ⟨z, hz⟩ : ∃ z, ts[i]? = some z := ⟨_, List.getElem?_eq_getElem (by rw [HN.out]; exact hlt)⟩
      have hg : ts.getD i 0 = z := by rw [List.getD_eq_getElem?_getD, hz]; rfl
      rw [hg] at hqs
      obtain ⟨g, rfl, hcc⟩ := HC.out i z hz
      have c0 := hcc wr hb
      have HQS := Lib.hid hqs
      obtain ⟨q, hq⟩ : ∃ q, qK ts m i = q := ⟨_, rfl⟩
      rw [hq] at hu hl HQS HU0
      obtain ⟨k, hk⟩ : ∃ k, q.length = k := ⟨_, rfl⟩
      have HK := Lib.hid hk
      rw [hk] at hu hl HU0
      have HU := Lib.hid hu
      have hsb := hb.size
      clear hz hg hcc hq hu hqs hk
      by_cases hzm : z = m
      · have HQ2 := Lib.hid (show qK ts m (i + 1) = q ++ [i] by rw [HQS.out, if_pos hzm])
        have hde : decide (z = m) = true := decide_eq_true hzm
        have hbe : (z == m) = true := by simpa using hzm
        subst hzm
        go_wp2_with (at_builtin; refine wpList_append_own_at _ rfl _ _ 56 rfl w.heap.size 2 ci (.int .i64 0) 1 8 Try.underlying56 HCI.out.1 HCI.out.2.1 HCI.out.2.2.1 HCI.out.2.2.2 rfl (by decide) _ _ _ rfl (HU.out.alloc _) ⟨wr.heap.size, 0, none⟩ 1 1 [.int .i64 i] rfl rfl ?c1 ?c2 ?c3 ?c4 ?c5 ?_)
        case c2 => rfl
        case c3 => unfold maxLen; omega
        case c4 => omega
        case c5 => first | omega | (simp; omega)
        intro v' w3 hown hgrow _ hat
        have hb3 : Below w.heap.size w w3 := (hb.alloc hsb _).grown hgrow (by simp; omega) (fun k hk => own_far HU.out k hk)
        have ho3 : w3.ownsRow w.heap.size 2 1 v' (q ++ [i]).length (ordV (q ++ [i])) := by
          have : ordV (q ++ [i]) = ordV q ++ [.int .i64 i] := by simp [ordV]
          rw [this, List.length_append, HK.out]
          exact hown
        have HO3 := Lib.hid ho3
        clear hown hgrow ho3 hat hb c0 HU
        go_wp2_with fail
        go_roundw
        case rel => exact ⟨i + 1, by omega, by go_num, by rw [HQ2.out]; simp, by rw [HQ2.out]; exact HO3.out, hb3⟩
        case measure => simp [intOf]; omega
      · have HQ2 := Lib.hid (show qK ts m (i + 1) = q by rw [HQS.out, if_neg hzm])
        have hde : decide (z = m) = false := decide_eq_false hzm
        have hbe : (z == m) = false := by simpa using hzm
        clear hzm
        go_wp2_with fail
        go_roundw
        case rel => exact ⟨i + 1, by omega, by go_num, by rw [HQ2.out, HK.out]; exact HU0.out, by rw [HQ2.out, HK.out]; exact HU.out, hb⟩
        case measure => simp [intOf]; omega
    · have hin : i = n := by omega
      subst hin
      have hd : decide ((i : Int) < (i : Int)) = false := by simp
      clear hqs HQ
      go_wp2_with fail
      go_ret
      exact ⟨⟨_, rfl, HU0.out, hu⟩, hb⟩

set_option maxRecDepth 100000 in
set_option maxHeartbeats 2000000 in
theorem lWith_any (ts : List Int) (m : Int) (n : Nat) (hn : ts.length = n) (hn2 : n ≤ 2000000) (v : Value) (w : World) (hv : RowN w v ts) :
    Calls Try.prog 90 #[v, .int .i64 m] w fun e w' => (∃ u, e = .returned u ∧ w'.ownsRow w.heap.size 2 1 u (withL ts m).length (ordV (withL ts m))) ∧ Below w.heap.size w w' := by
  have hW : withL ts m = qK ts m n := by unfold withL qK; rw [hn]
  rw [hW]
  obtain ⟨a, c, rfl, hcell⟩ := hv
  rw [hn]
  have HC := Lib.hid hcell
  have HN := Lib.hid hn
  have HL := Lib.hid (fun i => qK_len ts m i)
  have HQ := Lib.hid (fun i => qK_succ ts m i)
  obtain ⟨ci, hi, hz0, hz1, hz2⟩ := info_parts i64I
  have HCI := Lib.hid (show Try.prog.info? 2 = some ci ∧ ci.zero = some (.int .i64 0) ∧ ci.size = 1 ∧ ci.bytes = 8 from ⟨hi, hz0, hz1, hz2⟩)
  have H0 := Lib.hid (show qK ts m 0 = [] from rfl)
  have HM1 := Lib.hid (World.ownsRow_made (e := 2) (size := 1) w #[] 0 (Nat.le_refl w.heap.size) (by simp [maxLen]) rfl)
  clear hW hcell hn hi hz0 hz1 hz2
  go_enter Try.func90, Try.ntmps90
  go_wp2_with fail
  go_loopw [5, 6] (fun u j wr => ∃ i : Nat, i ≤ n ∧ j = .int .i64 i ∧ wr.ownsRow w.heap.size 2 1 u (qK ts m i).length (ordV (qK ts m i)) ∧ Below w.heap.size w wr) (fun _ j _ => n - (intOf j).toNat)
  case atStart => exact ⟨0, by omega, rfl, by rw [H0.out]; exact HM1.out, (Below.refl w.heap.size w).alloc (Nat.le_refl _) _⟩
  case round =>
    obtain ⟨i, hi, rfl, hu, hb⟩ := hrel
    have hl := HL.out i
    have hqs := HQ.out i
    by_cases hlt : i < n
    · have hd : decide ((i : Int) < (n : Int)) = true := by simp; omega
      obtain ⟨z, hz⟩ : ∃ z, ts[i]? = some z := ⟨_, List.getElem?_eq_getElem (by rw [HN.out]; exact hlt)⟩
      have hg : ts.getD i 0 = z := by rw [List.getD_eq_getElem?_getD, hz]; rfl
      rw [hg] at hqs
      obtain ⟨g, rfl, hcc⟩ := HC.out i z hz
      have c0 := hcc wr hb
      have HQS := Lib.hid hqs
      obtain ⟨q, hq⟩ : ∃ q, qK ts m i = q := ⟨_, rfl⟩
      rw [hq] at hu hl HQS
      obtain ⟨k, hk⟩ : ∃ k, q.length = k := ⟨_, rfl⟩
      have HK := Lib.hid hk
      rw [hk] at hu hl
      have HU := Lib.hid hu
      have hsb := hb.size
      clear hz hg hcc hq hu hqs hk
      by_cases hzm : z = m
      · have HQ2 := Lib.hid (show qK ts m (i + 1) = q ++ [i] by rw [HQS.out, if_pos hzm])
        have hde : decide (z = m) = true := decide_eq_true hzm
        have hbe : (z == m) = true := by simpa using hzm
        subst hzm
        go_wp2_with (at_builtin; refine wpList_append_own_at _ rfl _ _ 56 rfl w.heap.size 2 ci (.int .i64 0) 1 8 Try.underlying56 HCI.out.1 HCI.out.2.1 HCI.out.2.2.1 HCI.out.2.2.2 rfl (by decide) _ _ _ rfl (HU.out.alloc _) ⟨wr.heap.size, 0, none⟩ 1 1 [.int .i64 i] rfl rfl ?c1 ?c2 ?c3 ?c4 ?c5 ?_)
        case c2 => rfl
        case c3 => unfold maxLen; omega
        case c4 => omega
        case c5 => first | omega | (simp; omega)
        intro v' w3 hown hgrow _ hat
        have hb3 : Below w.heap.size w w3 := (hb.alloc hsb _).grown hgrow (by simp; omega) (fun k hk => own_far HU.out k hk)
        have ho3 : w3.ownsRow w.heap.size 2 1 v' (q ++ [i]).length (ordV (q ++ [i])) := by
          have : ordV (q ++ [i]) = ordV q ++ [.int .i64 i] := by simp [ordV]
          rw [this, List.length_append, HK.out]
          exact hown
        have HO3 := Lib.hid ho3
        clear hown hgrow ho3 hat hb c0 HU
        go_wp2_with fail
        go_roundw
        case rel => exact ⟨i + 1, by omega, by go_num, by rw [HQ2.out]; exact HO3.out, hb3⟩
        case measure => simp [intOf]; omega
      · have HQ2 := Lib.hid (show qK ts m (i + 1) = q by rw [HQS.out, if_neg hzm])
        have hde : decide (z = m) = false := decide_eq_false hzm
        have hbe : (z == m) = false := by simpa using hzm
        clear hzm
        go_wp2_with fail
        go_roundw
        case rel => exact ⟨i + 1, by omega, by go_num, by rw [HQ2.out, HK.out]; exact HU.out, hb⟩
        case measure => simp [intOf]; omega
    · have hin : i = n := by omega
      subst hin
      have hd : decide ((i : Int) < (i : Int)) = false := by simp
      clear hqs HQ
      go_wp2_with fail
      go_ret
      exact ⟨⟨_, rfl, hu⟩, hb⟩

set_option maxRecDepth 100000 in
set_option maxHeartbeats 1000000 in
theorem l00Has_any (o : List Nat) (x : Nat) (n : Nat) (hn : o.length = n) (hn2 : n ≤ 100) (hx : x ≤ 100) (ho : ∀ y ∈ o, y ≤ 100) (B : Nat) (v : Value) (w : World) (hv : w.ownsRow B 2 1 v n (ordV o)) :
    Calls Try.prog 150 #[v, .int .i64 x] w fun e w' => e = .returned (.bool (o.contains x)) ∧ w' = w := by
  obtain ⟨a, c, rfl⟩ := own_slice hv
  have HV := Lib.hid hv
  have HN := Lib.hid hn
  have HO := Lib.hid ho
  have HX := Lib.hid (show ∀ i, o.contains x = ((o.take i).contains x || (o.drop i).contains x) from fun i => by
    conv => lhs; rw [← List.take_append_drop i o]
    rw [List.contains_eq_any_beq, List.contains_eq_any_beq, List.contains_eq_any_beq, List.any_append])
  obtain ⟨R, hR⟩ : ∃ R, o.contains x = R := ⟨_, rfl⟩
  rw [hR]
  have HRR := Lib.hid hR
  clear hv hn ho hR
  go_enter Try.func150, Try.ntmps150
  go_wp2_with fail
  go_loopw [5] (fun j wr => wr = w ∧ ∃ i : Nat, i ≤ n ∧ j = .int .i64 i ∧ (o.take i).contains x = false) (fun j _ => n - (intOf j).toNat)
  case atStart => exact ⟨rfl, 0, by omega, rfl, by simp⟩
  case round =>
    obtain ⟨hwr, i, hi, rfl, hc⟩ := hrel
    rw [hwr]
    clear hwr wr
    have HC := Lib.hid hc
    clear hc
    by_cases hlt : i < n
    · have hd : decide ((i : Int) < (n : Int)) = true := by simp; omega
      obtain ⟨y, hy⟩ : ∃ y, o[i]? = some y := ⟨_, List.getElem?_eq_getElem (by rw [HN.out]; exact hlt)⟩
      obtain ⟨g, cap, he, -, -⟩ := own_form HV.out (by omega)
      simp only [Value.slice.injEq] at he
      obtain ⟨rfl, -, rfl⟩ := he
      have c0 : w.cell? ⟨g, i, none⟩ = some (.int .i64 y) := own_cell HV.out _ _ (by unfold ordV; rw [List.getElem?_map, hy]; rfl)
      have HTK := Lib.hid (show (o.take (i + 1)).contains x = (decide (x = y)) by
        rw [List.take_add_one, hy, List.contains_eq_any_beq, List.any_append, ← List.contains_eq_any_beq, HC.out]
        rw [Bool.false_or]
        by_cases h : x = y <;> simp [h])
      have HMY := Lib.hid (List.mem_of_getElem? hy)
      clear hy
      by_cases hxy : x = y
      · subst hxy
        have hbe : ((x : Int) == (x : Int)) = true := by simp
        have HR := Lib.hid (show o.contains x = true by simpa using HMY.out)
        go_wp2_with fail
        go_ret
        exact ⟨by rw [← HRR.out, HR.out]; rfl, rfl⟩
      · have hbe : ((y : Int) == (x : Int)) = false := by simp; omega
        have HT2 := Lib.hid (show (o.take (i + 1)).contains x = false by rw [HTK.out]; simpa using hxy)
        clear hxy
        go_wp2_with fail
        go_roundw
        case rel => exact ⟨trivial, i + 1, by omega, by go_num, HT2.out⟩
        case measure => simp [intOf]; omega
    · have hd : decide ((i : Int) < (n : Int)) = false := by simp; omega
      have HR := Lib.hid (show o.contains x = false by rw [← HC.out, List.take_of_length_le (by rw [HN.out]; omega)])
      go_wp2_with fail
      go_ret
      exact ⟨by rw [← HRR.out, HR.out]; rfl, rfl⟩
end Go.Proofs.Ytaeenkjbmlgcmaa

namespace Go.Proofs.Ytaeenkjbmlgcmaa
open Go.RowKit
set_option linter.unusedVariables false
set_option linter.unusedSimpArgs false

set_option maxRecDepth 100000 in
set_option maxHeartbeats 2000000 in
theorem bestOrd_nil (cs : Nat → Pt) (n : Nat) (tb : Nat → Nat → Int) (hn : n ≤ 5) (hb : ∀ i j, i ≤ n → j ≤ n → 0 ≤ tb i j ∧ tb i j < 100) (l : List Pt) (hl : l.length = n) (hlc : ∀ i c, l[i]? = some c → cs i = c) (v : Value) (mb : Nat) (w : World)
    (hm : TourIs w mb cs n tb) (hv : RowP w v l) :
    Calls Try.prog 82 #[.agg (tourA (cs n) v mb), .slice none 0 0] w fun e w' => e = .returned (.tuple #[.slice none 0 0, .int .i64 (tripT tb n [])]) ∧ Below w.heap.size w w' := by
  have HSB := Lib.hid (fun (w : World) (hm : TourIs w mb cs n tb) (hv : RowP w v l) => stepsBy_any cs n tb hn hb l hl hlc v mb [] 0 rfl (by omega) (by simp) w.heap.size none 0 w hm hv (World.ownsRow_nil _ _ _ _))
  have HCL := Lib.hid (fun w => cloneNil_any w)
  have HNX := Lib.hid (fun w => nextNil_any w)
  obtain ⟨T, hT⟩ : ∃ T, tripT tb n [] = T := ⟨_, rfl⟩
  rw [hT] at HSB ⊢
  have HM := Lib.hid hm
  have HV := Lib.hid hv
  obtain ⟨⟨hx, hy⟩, hh⟩ : ∃ c, cs n = c := ⟨_, rfl⟩
  rw [hh] at HSB ⊢
  unfold tourA at HSB ⊢
  dsimp only at HSB ⊢
  clear hh hb hl hlc hm hv hT
  obtain ⟨s, hs⟩ : ∃ s, w.heap.size = s := ⟨_, rfl⟩
  have HS := Lib.hid hs
  have g0 : Holds (w.alloc (.cells #[.int .i8 hx, .int .i8 hy, v, .map (some mb)] 131)) s #[.int .i8 hx, .int .i8 hy, v, .map (some mb)] := by rw [← hs]; exact Holds.new _ _ _
  have hb0 : Below s w (w.alloc (.cells #[.int .i8 hx, .int .i8 hy, v, .map (some mb)] 131)) := by rw [← hs]; exact (Below.refl w.heap.size w).alloc (Nat.le_refl _) _
  rw [hs]
  go_enter Try.func82, Try.ntmps82
  go_wp2_with fail
  try simp only [hs]
  apply wp_scope_straight
  obtain ⟨W0, hW0⟩ : ∃ W0, w.alloc (.cells #[.int .i8 hx, .int .i8 hy, v, .map (some mb)] 131) = W0 := ⟨_, rfl⟩
  rw [hW0] at g0 hb0 ⊢
  have HBW := Lib.hid (show Below w.heap.size w W0 by rw [hs]; exact hb0)
  have HG := Lib.hid g0
  have HB0 := Lib.hid hb0
  clear hW0 g0 hb0 hs
  go_wp2_with fail
  refine (HCL.out _).mono ?_
  rintro e w1 ⟨rfl, hw1⟩
  rw [hw1]
  clear hw1 w1
  go_wp2_with fail
  refine wp_region_grow 6 (by kernel_rfl) (by kernel_rfl) ?_
  simp only [List.take_succ_cons, List.take_zero, List.drop_succ_cons, List.drop_zero]
  iterate 6
    apply wpGrow_plain rfl
    · intro w' hw' K hK
      have f0 := (HG.out.below hw' HG.out.lt).cell 0
      have f1 := (HG.out.below hw' HG.out.lt).cell 1
      have f2 := (HG.out.below hw' HG.out.lt).cell 2
      have f3 := (HG.out.below hw' HG.out.lt).cell 3
      simp only [List.getElem?_toArray, List.getElem?_cons_zero, List.getElem?_cons_succ] at f0 f1 f2 f3
      go_wp2_with (first | (go_at_call 125; refine (HCL.out _).mono ?_; rintro e w1 ⟨rfl, rfl⟩) | (go_at_call 126; refine (HSB.out _ ((HM.out.below HBW.out).below hw') ((HV.out.below HBW.out).below hw')).mono ?_; rintro e w1 ⟨rfl, hb1⟩))
      first | exact hK _ _ rfl hw' | exact hK _ _ rfl (below_onto hw' hb1)
    simp only [Act.put, List.setIfInBounds_toArray, List.set_cons_succ, List.set_cons_zero]
  refine wpGrow_nil ?_
  intro W5 hW5
  have HB5 := Lib.hid (HB0.out.trans (hW5.mono (by have := HG.out.lt; omega)))
  clear hW5 HG HB0 HBW HSB HCL
  go_wp2_with fail
  go_step3
  go_wp2_with fail
  refine (HNX.out _).mono ?_
  rintro e w1 ⟨rfl, hw1⟩
  rw [hw1]
  clear hw1 w1
  go_wp2_with fail
  try rw [Exit.noGoto_ret]
  go_ret2
  exact ⟨rfl, HB5.out⟩

/-- What the best order of some targets is: the first of the shortest ones, and its steps. -/
def bestOf5 (tb : Nat → Nat → Int) (n : Nat) (o : List Nat) : List Nat × Int := ((permsL o).foldl (bestT tb n) none).getD ([], 0)
theorem bestT_some (tb : Nat → Nat → Int) (n : Nat) : ∀ (l : List (List Nat)) (b : List Nat × Int), ∃ c, l.foldl (bestT tb n) (some b) = some c
  | [], b => ⟨b, rfl⟩
  | o :: l, b => by
    rw [List.foldl_cons]
    unfold bestT
    dsimp only
    split <;> exact bestT_some tb n l _
theorem best_is {tb : Nat → Nat → Int} {n : Nat} {o : List Nat} (h : o ∈ subs5) : (permsL o).foldl (bestT tb n) none = some (bestOf5 tb n o) := by
  have h0 := perms_first h
  obtain ⟨r, hr⟩ : ∃ r, permsL o = o :: r := by
    cases hp : permsL o with
    | nil => rw [hp] at h0; simp at h0
    | cons a r => rw [hp] at h0; simp at h0; exact ⟨r, by rw [h0]⟩
  obtain ⟨c, hc⟩ := bestT_some tb n r (o, tripT tb n o)
  unfold bestOf5
  rw [hr, List.foldl_cons]
  show List.foldl (bestT tb n) (some (o, tripT tb n o)) r = some ((List.foldl (bestT tb n) (some (o, tripT tb n o)) r).getD ([], 0))
  rw [hc]
  rfl
theorem bestT_mem (tb : Nat → Nat → Int) (n : Nat) : ∀ (l : List (List Nat)) (b : Option (List Nat × Int)) (c : List Nat × Int), l.foldl (bestT tb n) b = some c → (b = some c ∨ (c.1 ∈ l ∧ c.2 = tripT tb n c.1))
  | [], b, c, h => .inl h
  | o :: l, b, c, h => by
    rw [List.foldl_cons] at h
    rcases bestT_mem tb n l _ c h with h1 | ⟨h1, h2⟩
    · unfold bestT at h1
      cases b with
      | none =>
        simp only [Option.some.injEq] at h1
        right
        rw [← h1]
        exact ⟨by simp, rfl⟩
      | some b =>
        dsimp only at h1
        split at h1
        · simp only [Option.some.injEq] at h1
          right
          rw [← h1]
          exact ⟨by simp, rfl⟩
        · exact .inl h1
    · exact .inr ⟨List.mem_cons_of_mem _ h1, h2⟩
theorem best_mem {tb : Nat → Nat → Int} {n : Nat} {o : List Nat} (h : o ∈ subs5) : (bestOf5 tb n o).1.length = o.length ∧ (∀ x ∈ (bestOf5 tb n o).1, x ∈ o) ∧ (bestOf5 tb n o).2 = tripT tb n (bestOf5 tb n o).1 := by
  rcases bestT_mem tb n _ _ _ (best_is h) with h1 | ⟨h1, h2⟩
  · cases h1
  · have := List.all_eq_true.1 (perms_chain o h).2.2.2 _ h1
    simp only [Bool.and_eq_true, beq_iff_eq, List.all_eq_true, List.contains_iff_mem] at this
    exact ⟨this.1, this.2, h2⟩
theorem trip_bound {tb : Nat → Nat → Int} {n : Nat} (hb : ∀ i j, i ≤ n → j ≤ n → 0 ≤ tb i j ∧ tb i j < 100) {o : List Nat} (ho : ∀ x ∈ o, x < n) (h5 : o.length ≤ 5) : 0 ≤ tripT tb n o ∧ tripT tb n o ≤ 600 := by
  obtain ⟨h1, h2, h3⟩ := goT_bound hb _ o rfl ho
  unfold tripT
  have := hb _ _ h1 (Nat.le_refl n)
  omega

/-- bestOrder over the targets of a trip. -/
theorem bestOrd_of (cs : Nat → Pt) (n : Nat) (tb : Nat → Nat → Int) (hn : n ≤ 5) (hb : ∀ i j, i ≤ n → j ≤ n → 0 ≤ tb i j ∧ tb i j < 100) (l : List Pt) (hl : l.length = n) (hlc : ∀ i c, l[i]? = some c → cs i = c) (v : Value) (mb : Nat) (o : List Nat) (hk5 : o.length ≤ 5) (hsub : o ∈ subs5) (ho : ∀ x ∈ o, x < n) (B : Nat) (u : Value) (hu : o.length = 0 → u = .slice none 0 0) (w : World)
    (hm : TourIs w mb cs n tb) (hv : RowP w v l) (hr : w.ownsRow B 2 1 u o.length (ordV o)) :
    Calls Try.prog 82 #[.agg (tourA (cs n) v mb), u] w fun e w' => (∃ u', e = .returned (.tuple #[u', .int .i64 (bestOf5 tb n o).2]) ∧ w'.ownsRow w.heap.size 2 1 u' o.length (ordV (bestOf5 tb n o).1)) ∧ Below w.heap.size w w' := by
  by_cases h0 : o.length = 0
  · rw [hu h0]
    obtain rfl := List.length_eq_zero_iff.1 h0
    refine (bestOrd_nil cs n tb hn hb l hl hlc v mb w hm hv).mono ?_
    rintro e w' ⟨rfl, hw⟩
    exact ⟨⟨_, rfl, World.ownsRow_nil _ _ _ _⟩, hw⟩
  · obtain ⟨a, c, rfl⟩ := own_slice hr
    have hr2 : w.ownsRow B 2 1 (.slice a o.length c) o.length (rowF (ordF o) o.length) := by rw [ordV_row]; exact hr
    refine (bestOrd_any cs n tb hn hb l hl hlc v mb o o.length rfl hk5 (by omega) hsub ho B a c w hm hv hr2).mono ?_
    rintro e w' ⟨⟨u', p, S, hf, rfl, hown⟩, hw⟩
    rw [best_is hsub] at hf
    simp only [Option.some.injEq] at hf
    have hlen := (best_mem (tb := tb) (n := n) hsub).1
    rw [hf] at hlen ⊢
    dsimp only at hlen ⊢
    refine ⟨⟨u', rfl, ?_⟩, hw⟩
    rw [← ordV_row, hlen]
    exact hown
end Go.Proofs.Ytaeenkjbmlgcmaa

namespace Go.Proofs.Ytaeenkjbmlgcmaa
open Go.RowKit
set_option linter.unusedVariables false
set_option linter.unusedSimpArgs false

def withinB (tb : Nat → Nat → Int) (n : Nat) (ts : List Int) (full : Int) (k : Nat) : Bool := (List.range k).all fun j => decide ((bestOf5 tb n (withL ts j)).2 ≤ full)
theorem withinB_succ (tb : Nat → Nat → Int) (n : Nat) (ts : List Int) (full : Int) (k : Nat) : withinB tb n ts full (k + 1) = (withinB tb n ts full k && decide ((bestOf5 tb n (withL ts k)).2 ≤ full)) := by
  unfold withinB
  rw [List.range_succ, List.all_append]
  simp
theorem withinB_false {tb : Nat → Nat → Int} {n : Nat} {ts : List Int} {full : Int} {k m : Nat} (h : withinB tb n ts full k = false) (hk : k ≤ m) : withinB tb n ts full m = false := by
  cases hm : withinB tb n ts full m with
  | false => rfl
  | true =>
    unfold withinB at h hm
    rw [List.all_eq_true] at hm
    have : (List.range k).all (fun j => decide ((bestOf5 tb n (withL ts j)).2 ≤ full)) = true := List.all_eq_true.2 fun j hj => hm j (List.mem_range.2 (Nat.lt_of_lt_of_le (List.mem_range.1 hj) hk))
    rw [this] at h
    cases h
def fstV (q : Value) : Value := match q with | .tuple a => a.getD 0 undef | _ => undef

set_option maxRecDepth 100000 in
set_option maxHeartbeats 4000000 in
theorem areWithin_any (cs : Nat → Pt) (n : Nat) (tb : Nat → Nat → Int) (hn : n ≤ 5) (hb : ∀ i j, i ≤ n → j ≤ n → 0 ≤ tb i j ∧ tb i j < 100) (l : List Pt) (hl : l.length = n) (hlc : ∀ i c, l[i]? = some c → cs i = c) (v : Value) (mb : Nat) (ts : List Int) (hts : ts.length = n) (full : Int) (u : Value) (w : World)
    (hm : TourIs w mb cs n tb) (hv : RowP w v l) (hu : RowN w u ts) :
    Calls Try.prog 94 #[.agg (tourA (cs n) v mb), u, .int .i64 full] w fun e w' => e = .returned (.bool (withinB tb n ts full 5)) ∧ Below w.heap.size w w' := by
  have HOT := Lib.hid (fun (m : Int) (w : World) (hu : RowN w u ts) => onTrip_any ts m n hts (by omega) u w hu)
  have HWL := Lib.hid (show ∀ m : Int, withL ts m ∈ subs5 ∧ (withL ts m).length ≤ 5 ∧ ∀ x ∈ withL ts m, x < n from fun m => ⟨with_sub (by omega) m, by have := List.length_filter_le (fun i => ts.getD i 0 == m) (List.range ts.length); unfold withL; simp only [List.length_range] at this; omega, fun x hx => by
    unfold withL at hx
    have := List.mem_range.1 (List.mem_filter.1 hx).1
    omega⟩)
  have HBO := Lib.hid (fun (m : Int) (B : Nat) (u : Value) (h0 : (withL ts m).length = 0 → u = .slice none 0 0) (w : World) (hm : TourIs w mb cs n tb) (hv : RowP w v l) (hr : w.ownsRow B 2 1 u (withL ts m).length (ordV (withL ts m))) => bestOrd_of cs n tb hn hb l hl hlc v mb (withL ts m) (HWL.out m).2.1 (HWL.out m).1 (HWL.out m).2.2 B u h0 w hm hv hr)
  have HWS := Lib.hid (fun k => withinB_succ tb n ts full k)
  have HWF := Lib.hid (fun k (h : withinB tb n ts full k = false) (hk : k ≤ 5) => withinB_false h hk)
  have HW0 := Lib.hid (show withinB tb n ts full 0 = true from rfl)
  have HM := Lib.hid hm
  have HV := Lib.hid hv
  have HU := Lib.hid hu
  obtain ⟨⟨hx, hy⟩, hh⟩ : ∃ c, cs n = c := ⟨_, rfl⟩
  rw [hh] at HBO ⊢
  unfold tourA at HBO ⊢
  dsimp only at HBO ⊢
  obtain ⟨WB, hWB⟩ : ∃ W : Nat → Bool, withinB tb n ts full = W := ⟨_, rfl⟩
  obtain ⟨BS, hBS⟩ : ∃ W : Nat → Int, (fun k : Nat => (bestOf5 tb n (withL ts k)).2) = W := ⟨_, rfl⟩
  have HBO2 := Lib.hid (show ∀ k : Nat, (bestOf5 tb n (withL ts k)).2 = BS k from fun k => by rw [← hBS])
  rw [hWB] at HWS HWF HW0 ⊢
  have hWS2 := Lib.hid (show ∀ k : Nat, WB (k + 1) = (WB k && decide (BS k ≤ full)) from fun k => by rw [HWS.out, HBO2.out])
  clear hh hb hl hlc hm hv hu hWB hBS HWS
  obtain ⟨s, hs⟩ : ∃ s, w.heap.size = s := ⟨_, rfl⟩
  have HS := Lib.hid hs
  have g0 : Holds (w.alloc (.cells #[.int .i8 hx, .int .i8 hy, v, .map (some mb)] 131)) s #[.int .i8 hx, .int .i8 hy, v, .map (some mb)] := by rw [← hs]; exact Holds.new _ _ _
  have hb0 : Below s w (w.alloc (.cells #[.int .i8 hx, .int .i8 hy, v, .map (some mb)] 131)) := by rw [← hs]; exact (Below.refl w.heap.size w).alloc (Nat.le_refl _) _
  rw [hs]
  go_enter Try.func94, Try.ntmps94
  go_wp2_with fail
  try simp only [hs]
  obtain ⟨W0, hW0⟩ : ∃ W0, w.alloc (.cells #[.int .i8 hx, .int .i8 hy, v, .map (some mb)] 131) = W0 := ⟨_, rfl⟩
  rw [hW0] at g0 hb0 ⊢
  clear hW0 hs
  go_loopw [7, 8, 9, 10] (fun _ _ _ j wr => ∃ i : Nat, i ≤ 5 ∧ j = .int .i64 i ∧ WB i = true ∧ Holds wr s #[.int .i8 hx, .int .i8 hy, v, .map (some mb)] ∧ Below s w wr) (fun _ _ _ j _ => 5 - (intOf j).toNat)
  case atStart => exact ⟨0, by omega, rfl, HW0.out, g0, hb0⟩
  case round =>
    obtain ⟨i, hi, rfl, hwb, h0, hb⟩ := hrel
    have hbW : Below w.heap.size w wr := by rw [HS.out]; exact hb
    have HTM := Lib.hid (HM.out.below hbW)
    have HTV := Lib.hid (HV.out.below hbW)
    have HTU := Lib.hid (HU.out.below hbW)
    have HB := Lib.hid hb
    have HG := Lib.hid h0
    have HWB := Lib.hid hwb
    clear g0 hb0 hbW h0 hb hwb
    by_cases hlt : i < 5
    · have hd : decide ((i : Int) < (5 : Int)) = true := by simp; omega
      have hstep := hWS2.out i
      rw [HWB.out, Bool.true_and] at hstep
      have HST := Lib.hid hstep
      obtain ⟨S, hS⟩ : ∃ S, BS i = S := ⟨_, rfl⟩
      have HSS := Lib.hid hS
      clear hstep hS
      go_wp2_with fail
      refine wp_region_growV2 9 3 4 [5, 6, 7, 8] (fun p w' => ((withL ts i).length = 0 → p = .slice none 0 0) ∧ w'.ownsRow wr.heap.size 2 1 p (withL ts i).length (ordV (withL ts i))) (fun q w' => ∃ u', q = .tuple #[u', .int .i64 S]) (fun p w1 w2 ⟨h1, h2⟩ hb => ⟨h1, own_below h2 hb⟩) (fun q w1 w2 h hb => h)
        (fun p q => [.agg #[.int .i8 hx, .int .i8 hy, v, .map (some mb)], u, .int .i64 i, p, q, q, fstV q, .int .i64 S, fstV q]) (by
          intro p q p' q' j h1 h2 h3
          match j with
          | 0 => rfl
          | 1 => rfl
          | 2 => rfl
          | 3 => exact absurd rfl h1
          | 4 => exact absurd rfl h2
          | 5 => simp at h3
          | 6 => simp at h3
          | 7 => simp at h3
          | 8 => simp at h3
          | j + 9 => rfl) (fun p q => rfl) (fun p q => rfl) (by kernel_rfl) (by kernel_rfl) (by kernel_rfl) ?_
      intro p q
      simp only [List.take_succ_cons, List.take_zero, List.drop_succ_cons, List.drop_zero]
      iterate 3
        refine seqV2_free rfl rfl rfl rfl rfl ?_ ?_
        · intro w' hw' K hK
          have f0 := (HG.out.below hw' HG.out.lt).cell 0
          have f1 := (HG.out.below hw' HG.out.lt).cell 1
          have f2 := (HG.out.below hw' HG.out.lt).cell 2
          have f3 := (HG.out.below hw' HG.out.lt).cell 3
          simp only [List.getElem?_toArray, List.getElem?_cons_zero, List.getElem?_cons_succ] at f0 f1 f2 f3
          go_wp2_with fail
          exact hK _ _ rfl (Below.refl _ _)
        simp only [Act.put, List.setIfInBounds_toArray, List.set_cons_succ, List.set_cons_zero]
      refine seqV2_call rfl rfl rfl ?_ ?_
      · intro w' hw' K hK
        go_wp2_with fail
        refine (HOT.out _ _ (HTU.out.below hw')).mono ?_
        rintro e w4 ⟨⟨b, rfl, h0, ho⟩, hb4⟩
        exact hK _ _ _ rfl hb4 ⟨h0, ownsRow_low ho hw'.size⟩
      simp only [Act.put, List.setIfInBounds_toArray, List.set_cons_succ, List.set_cons_zero]
      refine seqV2_call2 rfl rfl rfl rfl ?_ ?_
      · rintro w' hw' ⟨hp0, hpo⟩ K hK
        go_wp2_with fail
        refine (HBO.out _ _ _ hp0 _ (HTM.out.below hw') (HTV.out.below hw') hpo).mono ?_
        rintro e w4 ⟨⟨b, rfl, ho⟩, hb4⟩
        rw [HBO2.out, HSS.out]
        exact hK _ _ _ rfl hb4 ⟨_, rfl⟩
      simp only [Act.put, List.setIfInBounds_toArray, List.set_cons_succ, List.set_cons_zero]
      iterate 4
        refine seqV2_dep rfl rfl rfl rfl rfl ?_ ?_
        · rintro w' hw' - ⟨u', rfl⟩ K hK
          simp only [fstV] at hK ⊢
          go_wp2_with fail
          exact hK _ _ rfl (Below.refl _ _)
        simp only [Act.put, List.setIfInBounds_toArray, List.set_cons_succ, List.set_cons_zero]
      refine seqV2_nil ?_
      rintro w2 hsz2 hbw - ⟨u', rfl⟩
      have n0 := HG.out.below hbw HG.out.lt
      have nb := HB.out.trans (hbw.mono (by have := HG.out.lt; omega))
      clear hbw HTM HTV HTU HG HB
      by_cases hle : S ≤ full
      · have hd1 : decide (full < S) = false := decide_eq_false (by omega)
        have HW1 := Lib.hid (show WB (i + 1) = true by rw [HST.out, HSS.out]; exact decide_eq_true hle)
        go_wp2_with fail
        go_roundw
        case rel => exact ⟨i + 1, by omega, by go_num, HW1.out, n0, nb⟩
        case measure => simp [intOf]; omega
      · have hd1 : decide (full < S) = true := decide_eq_true (by omega)
        have HW1 := Lib.hid (show WB 5 = false from HWF.out (i + 1) (by rw [HST.out, HSS.out]; exact decide_eq_false hle) (by omega))
        go_wp2_with fail
        go_ret
        exact ⟨by rw [HW1.out]; rfl, nb⟩
    · have hin : i = 5 := by omega
      subst hin
      have hd : decide (((5 : Nat) : Int) < (5 : Int)) = false := by simp
      go_wp2_with fail
      go_ret
      exact ⟨by rw [HWB.out]; rfl, HB.out⟩
end Go.Proofs.Ytaeenkjbmlgcmaa
