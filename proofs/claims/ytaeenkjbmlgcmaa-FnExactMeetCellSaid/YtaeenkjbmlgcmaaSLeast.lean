/- l04Least and LeastBattery, of the model. -/
import Derived.Test.YtaeenkjbmlgcmaaILeast
import Derived.Test.YtaeenkjbmlgcmaaDepthP
import Derived.Test.YtaeenkjbmlgcmaaSTold4
import Derived.Test.YtaeenkjbmlgcmaaSReachO
import Derived.Test.YtaeenkjbmlgcmaaZC
namespace Go.Proofs.Ytaeenkjbmlgcmaa
open Go.RowKit
set_option linter.unusedVariables false
set_option linter.unusedSimpArgs false
attribute [local go_sem ↓] loadRow loadGrid loadLawn loadMirror storeRow storeGrid storeLawn allocRow allocGrid allocLawn buildZero buildSides loadG64 storeG64 allocG64 buildG64

theorem max4_is (a b : Int) (w : World) :
    Calls Try.prog 76 #[.int .i64 a, .int .i64 b] w fun e w' => e = .returned (.int .i64 (if b < a then a else b)) ∧ w' = w := by
  by_cases h1 : b < a
  · rw [if_pos h1]
    have hd : decide (b < a) = true := by simpa using h1
    go_enter Try.func76, Try.ntmps76
    go_wp2
    go_ret
    exact ⟨rfl, rfl⟩
  · rw [if_neg h1]
    have hd : decide (b < a) = false := by simpa using h1
    go_enter Try.func76, Try.ntmps76
    go_wp2
    go_ret
    exact ⟨rfl, rfl⟩

/-- The greatest number up to now, of cells. -/
def MostC {α : Type} (S : α → Int) (l : List α) (d : Int) : Prop := 0 ≤ d ∧ (∀ c ∈ l, S c ≤ d) ∧ (d = 0 ∨ ∃ c ∈ l, S c = d)
theorem mostC_add {α : Type} {S : α → Int} {l : List α} {d : Int} {c : α} (h : MostC S l d) : MostC S (l ++ [c]) (if S c < d then d else S c) := by
  obtain ⟨h0, h1, h2⟩ := h
  refine ⟨by split <;> omega, fun a ha => ?_, ?_⟩
  · rcases List.mem_append.1 ha with ha | ha
    · have := h1 a ha; split <;> omega
    · rw [List.mem_singleton.1 ha]; split <;> omega
  · split
    · exact h2.elim .inl fun ⟨a, ha, x⟩ => .inr ⟨a, by simp [ha], x⟩
    · exact .inr ⟨c, by simp, rfl⟩
theorem mostC_bound {α : Type} {S : α → Int} {l : List α} {d : Int} (h : MostC S l d) (hS : ∀ c, S c < 100) : 0 ≤ d ∧ d < 100 := by
  rcases h.2.2 with h2 | ⟨c, hc, rfl⟩
  · omega
  · exact ⟨h.1, hS c⟩
theorem mostZ_nonneg : ∀ l : Found, 0 ≤ mostZ l
  | [] => Int.le_refl _
  | p :: l => by
    have ih := mostZ_nonneg l
    have e : mostZ (p :: l) = if mostZ l < p.2 then p.2 else mostZ l := rfl
    rw [e]; split <;> omega
/-- The cells of grass lie among all cells. -/
theorem grass_at {L : Lawn} {W H : Nat} (hW : L.wide = W) (hH : L.high = H) {p : Pt} (hg : grassP L p = true) : ∃ c ∈ ofKind L W H 0, ((c.1.val : Int), (c.2.val : Int)) = p := by
  have hi := grassB_in (x := p.1) (y := p.2) hg
  have hb := isB_in hi
  refine ⟨(⟨p.1.toNat, by omega⟩, ⟨p.2.toNat, by omega⟩), ?_, ?_⟩
  · unfold ofKind
    rw [List.mem_filter]
    refine ⟨allC_mem _ _ _, ?_⟩
    have : grassB L p.1 p.2 = true := hg
    simp only [grassB, hi, Bool.true_and] at this
    exact this
  · ext <;> dsimp only <;> omega
theorem at_grass {L : Lawn} {W H : Nat} (hW : L.wide = W) (hH : L.high = H) {c : Fin W × Fin H} (hc : c ∈ ofKind L W H 0) : grassP L ((c.1.val : Int), (c.2.val : Int)) = true := by
  unfold ofKind at hc
  rw [List.mem_filter] at hc
  have h1 := hc.2
  have hi : isB L (c.1.val : Int) (c.2.val : Int) = true := by
    have := c.1.isLt
    have := c.2.isLt
    unfold isB inB
    simp only [Bool.and_eq_true, decide_eq_true_eq]
    omega
  show grassB L _ _ = true
  unfold grassB
  simp only [hi, Bool.true_and]
  exact h1
/-- The greatest number among the cells of grass is that of the found ones. -/
theorem mostC_end {L : Lawn} {W H : Nat} (hv : validB L = true) (hW : L.wide = W) (hH : L.high = H) {x y : Int} (ho : openB L x y = true) {d : Int}
    (h : MostC (fun c : Fin W × Fin H => stepsAt (found (openP L) (x, y) 100) c.1.val c.2.val) (ofKind L W H 0) d) : d = mostZ (aroundL L x y) := by
  have hgood := found_good (pass := openP L) (s := (x, y)) ho 100
  have hm := mostZ_is (aroundL L x y)
  have hnn := mostZ_nonneg (aroundL L x y)
  have hmem : ∀ p, p ∈ aroundL L x y ↔ p ∈ found (openP L) (x, y) 100 ∧ grassP L p.1 = true := fun p => List.mem_filter
  obtain ⟨l, hl⟩ : ∃ l, found (openP L) (x, y) 100 = l := ⟨_, rfl⟩
  obtain ⟨al, hal⟩ : ∃ al, aroundL L x y = al := ⟨_, rfl⟩
  rw [hl] at h hgood hmem
  rw [hal] at hm hnn hmem ⊢
  obtain ⟨e, he⟩ : ∃ e, mostZ al = e := ⟨_, rfl⟩
  rw [he] at hm hnn ⊢
  have hle : d ≤ e := by
    rcases h.2.2 with h2 | ⟨c, hc, hce⟩
    · omega
    · dsimp only at hce
      unfold stepsAt at hce
      cases hk : alLook l ((c.1.val : Int), (c.2.val : Int)) with
      | none => rw [hk] at hce; simp only [Option.getD_none] at hce; omega
      | some z =>
        rw [hk] at hce
        simp only [Option.getD_some] at hce
        have := hm.1 _ ((hmem _).2 ⟨alLook_in hk, at_grass hW hH hc⟩)
        dsimp only at this
        omega
  have hge : e ≤ d := by
    rcases hm.2 with h2 | ⟨p, hp, hpe⟩
    · have := h.1; omega
    · obtain ⟨hp1, hp2⟩ := (hmem p).1 hp
      obtain ⟨c, hc, hcp⟩ := grass_at hW hH hp2
      have h1 := h.2.1 c hc
      have e1 : ((c.1.val : Nat) : Int) = p.1.1 := congrArg Prod.fst hcp
      have e2 : ((c.2.val : Nat) : Int) = p.1.2 := congrArg Prod.snd hcp
      dsimp only at h1
      rw [e1, e2] at h1
      unfold stepsAt at h1
      rw [alLook_mem hgood.nodup (k := (p.1.1, p.1.2)) (v := p.2) hp1] at h1
      simp only [Option.getD_some] at h1
      omega
  omega
/-- All grass is found. -/
def wholeB (L : Lawn) (W H : Nat) (x y : Int) : Bool := (ofKind L W H 0).all fun c => decide (0 ≤ stepsAt (found (openP L) (x, y) 100) c.1.val c.2.val)


end Go.Proofs.Ytaeenkjbmlgcmaa
