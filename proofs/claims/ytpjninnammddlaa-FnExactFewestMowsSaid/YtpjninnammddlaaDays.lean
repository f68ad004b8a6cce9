/- eachDay: the days of weather, and by how much grass grows on them; it panics at the first day that is not valid. -/
import Derived.Test.YtpjninnammddlaaEnds
import Derived.Test.YtpjninnammddlaaArgs
import Derived.Test.YtpjninnammddlaaCatch
namespace Go.Proofs.Ytpjninnammddlaa
open Go.RowKit Go.Shelf
set_option linter.unusedVariables false
attribute [local go_sem] Oper.semAt_some

/-- The first index that does not pass, up to N. -/
structure FirstNo (p : Nat → Bool) (N n : Nat) : Prop where
  le : n ≤ N
  all : ∀ j, j < n → p j = true
  stop : n < N → p n = false
theorem firstNo_ex (p : Nat → Bool) : ∀ N, ∃ n, FirstNo p N n
  | 0 => ⟨0, Nat.le_refl _, fun j hj => by omega, fun h => by omega⟩
  | N + 1 => by
    obtain ⟨n, h1, h2, h3⟩ := firstNo_ex p N
    by_cases e : n < N
    · exact ⟨n, by omega, h2, fun _ => h3 e⟩
    · have hn : n = N := by omega
      subst hn
      cases hp : p n with
      | false => exact ⟨n, by omega, h2, fun _ => hp⟩
      | true => exact ⟨n + 1, Nat.le_refl _, fun j hj => by
          by_cases e2 : j = n
          · subst e2; exact hp
          · exact h2 j (by omega), fun h => by omega⟩

def rainZ (zs : List Int) (i : Nat) : Int := zs.getD (i * 2) 0
def warmZ (zs : List Int) (i : Nat) : Int := zs.getD (i * 2 + 1) 0
def upB (n m : Int) : Bool := decide (0 ≤ n) && decide (n ≤ m)
def dayB (zs : List Int) (i : Nat) : Bool := upB (rainZ zs i) 50 && upB (warmZ zs i) 40
def dayP (zs : List Int) (i : Nat) : Bool := decide (i < 30) && dayB zs i
def growZ (zs : List Int) (i : Nat) : Int := (rainZ zs i / 10 + 1) * (warmZ zs i / 10)
def daysL (zs : List Int) (n : Nat) : List (Int × Int) := (List.range n).map fun i : Nat => ((i : Int), growZ zs i)
theorem daysL_succ (zs : List Int) (n : Nat) : daysL zs (n + 1) = daysL zs n ++ [((n : Int), growZ zs n)] := by simp [daysL, List.range_succ]
theorem dayB_range {zs : List Int} {i : Nat} (h : dayB zs i = true) : (0 ≤ rainZ zs i ∧ rainZ zs i ≤ 50) ∧ 0 ≤ warmZ zs i ∧ warmZ zs i ≤ 40 := by
  simp only [dayB, upB, Bool.and_eq_true, decide_eq_true_eq] at h
  exact h
theorem growZ_range {zs : List Int} {i : Nat} (h : dayB zs i = true) : 0 ≤ growZ zs i ∧ growZ zs i ≤ 24 := by
  obtain ⟨⟨h1, h2⟩, h3, h4⟩ := dayB_range h
  have a1 : 0 ≤ rainZ zs i / 10 + 1 ∧ rainZ zs i / 10 + 1 ≤ 6 := by omega
  have a2 : 0 ≤ warmZ zs i / 10 ∧ warmZ zs i / 10 ≤ 4 := by omega
  refine ⟨Int.mul_nonneg a1.1 a2.1, ?_⟩
  have := Int.mul_le_mul a1.2 a2.2 a2.1 (by omega)
  unfold growZ
  omega
/-- What the iterator panics with at a day. -/
def wrongV (d : Nat) : List PanicEntry := [{ v := .iface 64 (.int .i64 d), recovered := false }]
def dayA (x : Int × Int) : Array Value := #[.int .i64 x.1, .int .i64 x.2]

theorem upto8_is (n m : Int) (v : Bool) (h : upB n m = v) (w : World) :
    Calls Try.prog 39 #[.int .i8 n, .int .i8 m] w fun e w' => e = .returned (.bool v) ∧ w' = w := by
  have H := Lib.hid h
  by_cases h1 : 0 ≤ n
  · have d1 : decide (0 ≤ n) = true := by simpa using h1
    obtain ⟨d, hd⟩ : ∃ d, decide (n ≤ m) = d := ⟨_, rfl⟩
    have HV := Lib.hid (show v = d by rw [← h, upB, d1, hd, Bool.true_and])
    clear h
    go_enter Try.func39, Try.ntmps39
    go_wp2
    go_ret
    exact ⟨by rw [HV.out, ← hd]; rfl, rfl⟩
  · have d1 : decide (0 ≤ n) = false := by simpa using h1
    have HV := Lib.hid (show v = false by rw [← h, upB, d1, Bool.false_and])
    clear h
    go_enter Try.func39, Try.ntmps39
    go_wp2
    go_ret
    exact ⟨by rw [HV.out]; rfl, rfl⟩

def KeepL (b : Nat) (v : Value) (W W' : World) : Prop := W'.heap[b]? = W.heap[b]? ∧ ∀ g, v.ownBlock = some g → W'.heap[g]? = W.heap[g]?
theorem KeepL.t {b : Nat} {v : Value} {A B C : World} (h : KeepL b v A B) (k : KeepL b v B C) : KeepL b v A C := ⟨k.1.trans h.1, fun g hg => (k.2 g hg).trans (h.2 g hg)⟩
theorem KeepL.holds {b : Nat} {v : Value} {W W' : World} {cs : Array Value} (h : KeepL b v W W') (hh : Holds W b cs) : Holds W' b cs := by obtain ⟨t, ht⟩ := hh; exact ⟨t, h.1.trans ht⟩
theorem KeepL.own {b B : Nat} {v : Value} {W W' : World} {e : TypeId} {size n : Nat} {xs : List Value} (h : KeepL b v W W') (ho : W.ownsRow B e size v n xs) : W'.ownsRow B e size v n xs := by
  obtain ⟨h1, h2 | ⟨g, cap, cur, rfl, h4, h5, h6⟩⟩ := ho
  · exact ⟨h1, .inl h2⟩
  · exact ⟨h1, .inr ⟨g, cap, cur, rfl, h4, (h.2 g rfl).trans h5, h6⟩⟩
theorem abides_alloc {β : Type} {B : Nat} {J : β → World → Prop} (h : AbidesFrom B J) {s : β} {W : World} (hs : J s W) (o : Obj) : J s (W.alloc o) :=
  h s W (W.alloc o) none hs ⟨rfl, rfl, rfl, by simp, fun k hk _ => Below.heap_alloc _ _ _ hk⟩ (fun r e => by cases e)

/-- How the iterator ends. -/
def DaysEnd (zs : List Int) (N m : Nat) (J : List (Int × Int) → World → Prop) (e : Ending) (W' : World) : Prop := ((∃ v, e = .returned v) ∧ ∃ xs, (xs = daysL zs N ∧ m = N) ∧ J xs W') ∨ ∃ ch pre, e = .panicked ch ∧ (ch = wrongV m ∧ m < N) ∧ J pre W'

set_option maxRecDepth 100000 in
set_option maxHeartbeats 2000000 in
theorem days_in (n : Nat) (hn : 1 ≤ n) (l b B : Nat) (v : Value) (N : Nat) (hN : N ≤ 2000000) (zs : List Int) (hz : zs.length = N * 2) (hzr : ∀ z ∈ zs, -128 ≤ z ∧ z ≤ 127) (m : Nat) (hm : FirstNo (dayP zs) N m) (J : List (Int × Int) → World → Prop) (B0 : Nat) (hJ : AbidesFrom B0 J)
    (hY : ∀ pre x W, J pre W → pre.length < 30 → YieldAt Fence.wide (n - 1) Try.prog l (dayA x) W fun e W' => e = .returned (.bool true) ∧ J (pre ++ [x]) W' ∧ KeepL b v W W')
    (W : World) (hB : Holds W b #[v]) (ho : W.ownsRow B 46 2 v N (intsV .i8 zs)) (h0 : J [] W) :
    CallsIn Fence.wide n Try.prog 38 #[.func (.yield l) #[] #[], .pointer (some ⟨b, 0, none⟩)] W (DaysEnd zs N m J) := by
  obtain ⟨av, cv, rfl⟩ := own_slice ho
  have HZ := Lib.hid hz
  have HM := Lib.hid hm
  have HJ := Lib.hid (fun s W o h => abides_alloc hJ (s := s) (W := W) h o)
  have HO0 := Lib.hid ho
  have HR := Lib.hid (show ∀ i, i < N → zs[i * 2]? = some (rainZ zs i) ∧ zs[i * 2 + 1]? = some (warmZ zs i) from fun i hi => ⟨by simp [rainZ, List.getElem?_eq_getElem (show i * 2 < zs.length by omega)], by simp [warmZ, List.getElem?_eq_getElem (show i * 2 + 1 < zs.length by omega)]⟩)
  clear hz hm hJ ho hzr
  obtain ⟨-, -, c, -, -⟩ := hB.facts
  refine callsIn_of_wp Try.func38 rfl trivial ?_ rfl
  simp only [Try.ntmps38, List.size_toArray, List.length_cons, List.length_nil, Nat.reduceAdd, Nat.reduceSub, Array.replicate_succ, Array.replicate_zero, List.push_toArray, List.append_toArray, List.nil_append, List.cons_append]
  gi_wp2
  clear c
  gi_loopw [8] (fun i wr => ∃ k : Nat, k ≤ m ∧ i = .int .i64 k ∧ Holds wr b #[.slice av N cv] ∧ wr.ownsRow B 46 2 (.slice av N cv) N (intsV .i8 zs) ∧ J (daysL zs k) wr) (fun i _ => N - (intOf i).toNat)
  case atStart => exact ⟨0, by omega, rfl, hB, HO0.out, by simpa [daysL] using h0⟩
  case round =>
    obtain ⟨k, hk, rfl, hb, ho, hj⟩ := hrel
    have HO := Lib.hid ho
    by_cases hlt : k < N
    · have hd : decide ((k : Int) < (N : Int)) = true := by simp; omega
      obtain ⟨g, cap, he, hBg, hg⟩ := own_form ho (by omega)
      simp only [Value.slice.injEq, true_and] at he
      obtain ⟨rfl, rfl⟩ := he
      obtain ⟨z0, z1⟩ := HR.out k hlt
      have c0 := own_cell ho _ _ (intsV_get (k := .i8) z0)
      have c1 := own_cell ho _ _ (intsV_get (k := .i8) z1)
      clear ho z0 z1
      by_cases h30 : k < 30
      · have hd30 : decide ((30 : Int) ≤ (k : Int)) = false := by simp; omega
        have hno : dayB zs k = false → m = k := fun h => by
          have := HM.out.le
          rcases Nat.lt_or_ge k m with h' | h'
          · have := HM.out.all k h'
            simp [dayP, h] at this
          · omega
        have hdb : dayB zs k = (upB (rainZ zs k) 50 && upB (warmZ zs k) 40) := rfl
        cases hr : upB (rainZ zs k) 50
        · obtain rfl := hno (by rw [hdb, hr]; rfl)
          gi_wp2_with (first | (refine ⟨trivial, ?_⟩; gi_at_call 39; ((with_reducible refine (callsIn_wide.2 (upto8_is _ _ _ hr _)).mono ?_); rintro e w2 ⟨rfl, rfl⟩)) | refine ⟨trivial, ?_⟩)
          exact ⟨rfl, .inr ⟨_, _, rfl, ⟨rfl, hlt⟩, HJ.out _ _ _ hj⟩⟩
        · cases hw : upB (warmZ zs k) 40
          · obtain rfl := hno (by rw [hdb, hr, hw]; rfl)
            gi_wp2_with (first | (refine ⟨trivial, ?_⟩; gi_at_call 39; ((with_reducible refine (callsIn_wide.2 (upto8_is _ _ _ hr _)).mono ?_); rintro e w2 ⟨rfl, rfl⟩)) | (refine ⟨trivial, ?_⟩; gi_at_call 39; ((with_reducible refine (callsIn_wide.2 (upto8_is _ _ _ hw _)).mono ?_); rintro e w2 ⟨rfl, rfl⟩)) | refine ⟨trivial, ?_⟩)
            exact ⟨rfl, .inr ⟨_, _, rfl, ⟨rfl, hlt⟩, HJ.out _ _ _ hj⟩⟩
          · have hdy : dayB zs k = true := by rw [hdb, hr, hw]; rfl
            have hkm : k < m := by
              rcases Nat.lt_or_ge k m with h | h
              · exact h
              · have e : k = m := by omega
                have := HM.out.stop (by omega)
                rw [← e] at this
                simp [dayP, h30, hdy] at this
            obtain ⟨⟨r1, r2⟩, r3, r4⟩ := dayB_range hdy
            obtain ⟨q1, q2⟩ := growZ_range hdy
            have hgr : IntKind.i8.wrap (IntKind.i8.wrap (IntKind.i8.wrap ((rainZ zs k).tdiv 10) + 1) * IntKind.i8.wrap ((warmZ zs k).tdiv 10)) = growZ zs k := by
              rw [Int.tdiv_eq_ediv_of_nonneg r1, Int.tdiv_eq_ediv_of_nonneg r3, IntWalk.i8_in _ (show -128 ≤ rainZ zs k / 10 ∧ rainZ zs k / 10 ≤ 127 by omega), IntWalk.i8_in _ (show -128 ≤ rainZ zs k / 10 + 1 ∧ rainZ zs k / 10 + 1 ≤ 127 by omega), IntWalk.i8_in _ (show -128 ≤ warmZ zs k / 10 ∧ warmZ zs k / 10 ≤ 127 by omega)]
              exact IntWalk.i8_in _ (by unfold growZ at q1 q2; omega)
            have hg64 : wrap64 (growZ zs k) = growZ zs k := by unfold wrap64; omega
            have HS := Lib.hid (daysL_succ zs k)
            obtain ⟨fn, tmps, assign, body, hy, hR⟩ := hY _ ((k : Int), growZ zs k) (wr.alloc (.cells #[.int .i8 (rainZ zs k), .int .i8 (warmZ zs k)] 46)) (HJ.out _ _ _ hj) (by simp [daysL]; omega)
            simp only [dayA] at hy
            have hb1 := hb.alloc (.cells #[.int .i8 (rainZ zs k), .int .i8 (warmZ zs k)] 46)
            have HO1 := Lib.hid (HO.out.alloc (.cells #[.int .i8 (rainZ zs k), .int .i8 (warmZ zs k)] 46))
            clear hj hY q1 q2 r1 r2 r3 r4 hno HO
            gi_wp2_with (first | (refine ⟨trivial, ?_⟩; gi_at_call 39; ((with_reducible refine (callsIn_wide.2 (upto8_is _ _ _ hr _)).mono ?_); rintro e w2 ⟨rfl, rfl⟩)) | (refine ⟨trivial, ?_⟩; gi_at_call 39; ((with_reducible refine (callsIn_wide.2 (upto8_is _ _ _ hw _)).mono ?_); rintro e w2 ⟨rfl, rfl⟩)))
            refine hR.mono ?_
            rintro e W3 ⟨rfl, hJ3, hk3⟩
            rw [← HS.out] at hJ3
            have hb3 := hk3.holds hb1
            have HO3 := Lib.hid (hk3.own HO1.out)
            gi_wp2
            go_roundw
            case rel => exact ⟨k + 1, by omega, by go_num, hb3, HO3.out, hJ3⟩
            case measure => simp [intOf]; omega
      · have hd30 : decide ((30 : Int) ≤ (k : Int)) = true := by simp; omega
        have hmk : m = k := by
          have := HM.out.le
          rcases Nat.lt_or_ge k m with h | h
          · have := HM.out.all k h
            simp [dayP, h30] at this
          · omega
        subst hmk
        gi_wp2_with (refine ⟨trivial, ?_⟩)
        exact ⟨rfl, .inr ⟨_, _, rfl, ⟨rfl, hlt⟩, HJ.out _ _ _ hj⟩⟩
    · have hd : decide ((k : Int) < (N : Int)) = false := by simp; omega
      have hle := HM.out.le
      obtain rfl : k = N := by omega
      obtain rfl : m = k := by omega
      gi_wp2
      go_end0
      exact .inl ⟨⟨_, rfl⟩, _, ⟨rfl, rfl⟩, hj⟩
end Go.Proofs.Ytpjninnammddlaa
