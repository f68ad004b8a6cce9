/- eachDay: the days of weather, and by how much grass grows on them; it panics at the first day that is not valid. -/
import Derived.Test.YthpfejbigdjhlaaEnds
import Derived.Test.YthpfejbigdjhlaaArgs
import Derived.Test.YthpfejbigdjhlaaCatch
namespace Go.Proofs.Ythpfejbigdjhlaa
open Go.RowKit Go.Shelf
set_option linter.unusedVariables false
attribute [local go_sem] Oper.semAt_some

/-- The first index that does not pass, up to N. -/
structure FirstNo (p : Nat → Bool) (N n : Nat) : Prop where
  le : n ≤ N
  all : ∀ j, j < n → p j = true
  stop : n < N → p n = false
theorem firstNo_ex (p : Nat → Bool) : ∀ N, ∃ n, FirstNo p N n
  | 0 => ⟨0, Nat.le_refl _, fun j hj => by omega, fun h => by omega⟩
  | N + 1 => by
    obtain ⟨n, h1, h2, h3⟩ := firstNo_ex p N
    by_cases e : n < N
    · exact ⟨n, by omega, h2, fun _ => h3 e⟩
    · have hn : n = N := by omega
      subst hn
      cases hp : p n with
      | false => exact ⟨n, by omega, h2, fun _ => hp⟩
      | true => exact ⟨n + 1, Nat.le_refl _, fun j hj => by
          by_cases e2 : j = n
          · subst e2; exact hp
          · exact h2 j (by omega), fun h => by omega⟩

def rainZ (zs : List Int) (i : Nat) : Int := zs.getD (i * 2) 0
def warmZ (zs : List Int) (i : Nat) : Int := zs.getD (i * 2 + 1) 0
def upB (n m : Int) : Bool := decide (0 ≤ n) && decide (n ≤ m)
def dayB (zs : List Int) (i : Nat) : Bool := upB (rainZ zs i) 50 && upB (warmZ zs i) 40
def dayP (zs : List Int) (i : Nat) : Bool := decide (i < 30) && dayB zs i
def growZ (zs : List Int) (i : Nat) : Int := (rainZ zs i / 10 + 1) * (warmZ zs i / 10)
def daysL (zs : List Int) (n : Nat) : List (Int × Int) := (List.range n).map fun i : Nat => ((i : Int), growZ zs i)
theorem daysL_succ (zs : List Int) (n : Nat) : daysL zs (n + 1) = daysL zs n ++ [((n : Int), growZ zs n)] := by simp [daysL, List.range_succ]
theorem dayB_range {zs : List Int} {i : Nat} (h : dayB zs i = true) : (0 ≤ rainZ zs i ∧ rainZ zs i ≤ 50) ∧ 0 ≤ warmZ zs i ∧ warmZ zs i ≤ 40 := by
  simp only [dayB, upB, Bool.and_eq_true, decide_eq_true_eq] at h
  exact h
theorem growZ_range {zs : List Int} {i : Nat} (h : dayB zs i = true) : 0 ≤ growZ zs i ∧ growZ zs i ≤ 24 := by
  obtain ⟨⟨h1, h2⟩, h3, h4⟩ := dayB_range h
  have a1 : 0 ≤ rainZ zs i / 10 + 1 ∧ rainZ zs i / 10 + 1 ≤ 6 := by omega
  have a2 : 0 ≤ warmZ zs i / 10 ∧ warmZ zs i / 10 ≤ 4 := by omega
  refine ⟨Int.mul_nonneg a1.1 a2.1, ?_⟩
  have := Int.mul_le_mul a1.2 a2.2 a2.1 (by omega)
  unfold growZ
  omega
def dayA (x : Int × Int) : Array Value := #[.int .i64 x.1, .int .i64 x.2]

theorem upto8_is (n m : Int) (v : Bool) (h : upB n m = v) (w : World) :
    Calls Try.prog 65 #[.int .i8 n, .int .i8 m] w fun e w' => e = .returned (.bool v) ∧ w' = w := by
  have H := Lib.hid h
  by_cases h1 : 0 ≤ n
  · have d1 : decide (0 ≤ n) = true := by simpa using h1
    obtain ⟨d, hd⟩ : ∃ d, decide (n ≤ m) = d := ⟨_, rfl⟩
    have HV := Lib.hid (show v = d by rw [← h, upB, d1, hd, Bool.true_and])
    clear h
    go_enter Try.func65, Try.ntmps65
    go_wp2
    go_ret
    exact ⟨by rw [HV.out, ← hd]; rfl, rfl⟩
  · have d1 : decide (0 ≤ n) = false := by simpa using h1
    have HV := Lib.hid (show v = false by rw [← h, upB, d1, Bool.false_and])
    clear h
    go_enter Try.func65, Try.ntmps65
    go_wp2
    go_ret
    exact ⟨by rw [HV.out]; rfl, rfl⟩

def KeepL (b : Nat) (v : Value) (W W' : World) : Prop := W'.heap[b]? = W.heap[b]? ∧ ∀ g, v.ownBlock = some g → W'.heap[g]? = W.heap[g]?
theorem KeepL.t {b : Nat} {v : Value} {A B C : World} (h : KeepL b v A B) (k : KeepL b v B C) : KeepL b v A C := ⟨k.1.trans h.1, fun g hg => (k.2 g hg).trans (h.2 g hg)⟩
theorem KeepL.holds {b : Nat} {v : Value} {W W' : World} {cs : Array Value} (h : KeepL b v W W') (hh : Holds W b cs) : Holds W' b cs := by obtain ⟨t, ht⟩ := hh; exact ⟨t, h.1.trans ht⟩
theorem KeepL.own {b B : Nat} {v : Value} {W W' : World} {e : TypeId} {size n : Nat} {xs : List Value} (h : KeepL b v W W') (ho : W.ownsRow B e size v n xs) : W'.ownsRow B e size v n xs := by
  obtain ⟨h1, h2 | ⟨g, cap, cur, rfl, h4, h5, h6⟩⟩ := ho
  · exact ⟨h1, .inl h2⟩
  · exact ⟨h1, .inr ⟨g, cap, cur, rfl, h4, (h.2 g rfl).trans h5, h6⟩⟩
theorem abides_alloc {β : Type} {B : Nat} {J : β → World → Prop} (h : AbidesFrom B J) {s : β} {W : World} (hs : J s W) (o : Obj) : J s (W.alloc o) :=
  h s W (W.alloc o) none hs ⟨rfl, rfl, rfl, by simp, fun k hk _ => Below.heap_alloc _ _ _ hk⟩ (fun r e => by cases e)


end Go.Proofs.Ythpfejbigdjhlaa
