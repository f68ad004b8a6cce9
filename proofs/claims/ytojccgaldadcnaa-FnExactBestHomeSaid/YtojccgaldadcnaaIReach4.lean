/- LeastBattery, of the program: what is found around a home, and the charge for it. -/
import Derived.Test.YtojccgaldadcnaaStepsM
import Derived.Test.YtojccgaldadcnaaZG
import Derived.Test.YtojccgaldadcnaaMapR
import Derived.Test.YtojccgaldadcnaaGrowV
import Derived.Handy
namespace Go.Proofs.Ytojccgaldadcnaa
open Go.RowKit
set_option linter.unusedVariables false
set_option linter.unusedSimpArgs false
attribute [local go_sem ↓] loadRow loadGrid loadLawn loadMirror storeRow storeGrid storeLawn allocRow allocGrid allocLawn buildZero buildSides

/-- The greatest number of those that have come. -/
def MostTo (l : Found) (seen : List Nat) (d : Int) : Prop := (∀ j ∈ seen, ∀ p, l[j]? = some p → p.2 ≤ d) ∧ (d = 0 ∨ ∃ j ∈ seen, ∃ p, l[j]? = some p ∧ p.2 = d)
/-- The greatest number of a list of pairs, or zero. -/
def MostIs (l : Found) (d : Int) : Prop := (∀ p ∈ l, p.2 ≤ d) ∧ (d = 0 ∨ ∃ p ∈ l, p.2 = d)
theorem mostTo_take {l : Found} {seen : List Nat} {d : Int} {j : Nat} {p : Pt × Int} (h : MostTo l seen d) (hj : l[j]? = some p) : MostTo l (seen ++ [j]) (if d < p.2 then p.2 else d) := by
  constructor
  · intro i hi p' hp'
    rcases List.mem_append.1 hi with hi | hi
    · have := h.1 i hi p' hp'; split <;> omega
    · rw [List.mem_singleton.1 hi, hj] at hp'
      cases hp'
      split <;> omega
  · split
    · exact .inr ⟨j, by simp, p, hj, rfl⟩
    · exact h.2.elim .inl fun ⟨i, hi, x⟩ => .inr ⟨i, by simp [hi], x⟩
theorem mostTo_end {l : Found} {seen : List Nat} {d : Int} (h : MostTo l seen d) (hs : ∀ j, j < l.length → j ∈ seen) : MostIs l d := by
  refine ⟨fun p hp => ?_, h.2.imp id fun ⟨j, hj, p, hp, hd⟩ => ⟨p, List.mem_of_getElem? hp, hd⟩⟩
  obtain ⟨i, hi, rfl⟩ := List.getElem_of_mem hp
  exact h.1 i (hs i hi) _ (List.getElem?_eq_getElem hi)
theorem most_one {l : Found} {d e : Int} (h0 : ∀ p ∈ l, 0 ≤ p.2) (h1 : MostIs l d) (h2 : MostIs l e) : d = e := by
  have key : ∀ {a b : Int}, MostIs l a → MostIs l b → a ≤ b := fun {a b} h g => by
    rcases h.2 with rfl | ⟨p, hp, rfl⟩
    · rcases g.2 with rfl | ⟨q, hq, rfl⟩
      · omega
      · exact h0 q hq
    · exact g.1 p hp
  have := key h1 h2
  have := key h2 h1
  omega
theorem mostTo_bound {l : Found} {seen : List Nat} {d : Int} (h : MostTo l seen d) (hb : ∀ p ∈ l, 0 ≤ p.2 ∧ p.2 < 100) : 0 ≤ d ∧ d < 100 := by
  rcases h.2 with h2 | ⟨j, hj, p, hp, hd⟩
  · omega
  · have := hb p (List.mem_of_getElem? hp); omega

set_option maxRecDepth 100000 in
set_option maxHeartbeats 2000000 in
theorem charge_any (l : Found) (hl : ∀ p ∈ l, 0 ≤ p.2 ∧ p.2 < 100) (d : Int) (hd : MostIs l d) (b : Nat) (w : World) (hm : MapIs w b cellK valI l) :
    Calls Try.prog 53 #[.map (some b)] w fun e w' => e = .returned (.int .i64 (2 * d)) ∧ Below w.heap.size w w' := by
  have HB := Lib.hid hl
  have HD := Lib.hid hd
  clear hl hd
  obtain ⟨o, hrange, hit⟩ := hm.range (P := Try.prog) Try.underlying94
  have qm := hm.alloc o
  have hb4 := (Below.refl w.heap.size w).alloc (Nat.le_refl _) o
  have hbr := hm.lt
  obtain ⟨r, hr⟩ : ∃ r, w.heap.size = r := ⟨_, rfl⟩
  obtain ⟨W3, hW3⟩ : ∃ W3, w.alloc o = W3 := ⟨_, rfl⟩
  rw [hr, hW3] at hrange hb4
  rw [hr, hW3] at hit
  rw [hr] at hbr ⊢
  rw [hW3] at qm
  clear hm
  go_enter Try.func53, Try.ntmps53
  go_wp2_with fail
  clear hW3 hrange hr
  go_loopw [3] (fun v wr => ∃ (e : Int) (seen : List Nat), v = .int .i64 e ∧ MostTo l seen e ∧ seen.Nodup ∧ (∀ j ∈ seen, j < l.length) ∧ IterIs wr b r l.length seen ∧ MapIs wr b cellK valI l ∧ Below r w wr) (fun _ wr => l.length - iterLen wr r)
  case atStart => exact ⟨0, [], rfl, ⟨fun j hj => by simp at hj, .inl rfl⟩, List.nodup_nil, fun j hj => by simp at hj, hit, qm, hb4⟩
  case round =>
    obtain ⟨e, seen, rfl, hle, hnd, hlt, ji, jm, hb⟩ := hrel
    clear hit qm hb4
    have hil := ji.len
    have hsr2 := ji.lt
    rcases jm.next (P := Try.prog) ji 0 with ⟨hall, hnx⟩ | ⟨j, c, v, w', hjl, hjn, hnx, ki, km, hen, hsz, hoth, hbel⟩
    · have hed : e = d := most_one (fun p hp => (HB.out p hp).1) (mostTo_end hle hall) HD.out
      subst hed
      have hbd := mostTo_bound hle HB.out
      have hwr : wrap64 (2 * e) = 2 * e := by unfold wrap64; omega
      clear HB HD hle hall
      go_wp2_with fail
      go_ret
      exact ⟨rfl, hb⟩
    · have hkB := hbel r w hb (by omega)
      have HTK := Lib.hid (mostTo_take hle hjl)
      have hjlt := (List.getElem?_eq_some_iff.1 hjl).1
      have hnd2 : (seen ++ [j]).Nodup := by
        rw [List.nodup_append]
        exact ⟨hnd, by simp, fun a ha b hb => by rw [List.mem_singleton.1 hb]; exact fun e => hjn (e ▸ ha)⟩
      have hlt2 : ∀ i ∈ seen ++ [j], i < l.length := fun i hi => (List.mem_append.1 hi).elim (hlt i) (fun h => by rw [List.mem_singleton.1 h]; exact hjlt)
      have hcnt := nodup_below l.length (seen ++ [j]) hnd2 hlt2
      have hen1 := hen w' rfl rfl
      have hvl := ki.len
      clear hen ji jm hb hbel hoth hle hjn hnd hlt
      simp only [cellK, cellV, valI] at hnx hen1
      go_wp2_with fail
      exact ⟨⟨_, seen ++ [j], rfl, HTK.out, hnd2, hlt2, ki, km, hkB⟩, by rw [hvl, hil]; simp at hcnt ⊢; omega⟩
end Go.Proofs.Ytojccgaldadcnaa
