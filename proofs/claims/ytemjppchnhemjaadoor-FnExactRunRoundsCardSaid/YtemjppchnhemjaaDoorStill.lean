/- untilStill: weeds day by day up to those to which no more come: an iterator that writes what it has captured. -/
import Derived.Test.YtemjppchnhemjaaDoorSpread
import Derived.Test.YtemjppchnhemjaaDoorGrowIn
import Derived.Test.YtemjppchnhemjaaDoorZD
import Derived.Test.YtemjppchnhemjaaDoorStopsW
import Derived.Test.YtemjppchnhemjaaDoorMayBe
namespace Go.Proofs.YtemjppchnhemjaaDoor
open Go.RowKit Go.Shelf
set_option linter.unusedVariables false
set_option linter.unusedSimpArgs false
attribute [local go_sem] Oper.semAt_some
attribute [local go_sem ↓] loadRow loadGrid loadLawn loadMirror storeRow storeGrid storeLawn allocRow allocGrid allocLawn buildZero buildSides loadRow' loadGrid' loadLawn' loadMirror' storeRow' storeGrid' storeLawn' allocRow' allocGrid' allocLawn' buildZero' buildSides' loadWd storeWd allocWd buildZWd eqlWd loadWd' storeWd' allocWd' buildZWd' eqlWd' neqWd neqWd'

/-- Weeds as they spread over some ground. -/
def itS (g : Nat → Nat → Bool) (n : Nat) (s : Nat → Nat → Bool) : Nat → Nat → Nat → Bool
  | 0 => s
  | k + 1 => dayS g n (itS g n s k)
/-- The day behind which no more come. -/
def StillAt (g : Nat → Nat → Bool) (n : Nat) (s : Nat → Nat → Bool) (N : Nat) : Prop := (∀ k, k < N → bEq 10 (itS g n s (k + 1)) (itS g n s k) = false) ∧ bEq 10 (itS g n s (N + 1)) (itS g n s N) = true
theorem cntTo_sub {a b : Nat → Bool} : ∀ {n : Nat}, (∀ x, x < n → a x = true → b x = true) → cntTo a n ≤ cntTo b n
  | 0, _ => Nat.le_refl _
  | n + 1, h => by
    have ih := cntTo_sub (n := n) fun x hx => h x (by omega)
    have := h n (by omega)
    simp only [cntTo]
    cases ha : a n <;> cases hb : b n <;> simp_all <;> omega
theorem cntTo_less {a b : Nat → Bool} {x : Nat} : ∀ {n : Nat}, (∀ x, x < n → a x = true → b x = true) → x < n → a x = false → b x = true → cntTo a n < cntTo b n
  | n + 1, h, hx, ha, hb => by
    by_cases e : x = n
    · subst e
      have := cntTo_sub (n := x) fun y hy => h y (by omega)
      simp only [cntTo, ha, hb]
      simp
      omega
    · have ih := cntTo_less (n := n) (fun y hy => h y (by omega)) (by omega) ha hb
      have := h n (by omega)
      simp only [cntTo]
      cases ha : a n <;> cases hb : b n <;> simp_all <;> omega
theorem cntR_sub {s t : Nat → Nat → Bool} : ∀ {n : Nat}, (∀ y x, y < n → x < 16 → s y x = true → t y x = true) → cntR s n ≤ cntR t n
  | 0, _ => Nat.le_refl _
  | n + 1, h => by
    have ih := cntR_sub (n := n) fun y x hy => h y x (by omega)
    have := cntTo_sub (a := s n) (b := t n) (n := 16) fun x hx => h n x (by omega) hx
    simp only [cntR, cntN]
    omega
theorem cntR_less {s t : Nat → Nat → Bool} {y x : Nat} (hx : x < 16) (hs : s y x = false) (ht : t y x = true) : ∀ {n : Nat}, (∀ y x, y < n → x < 16 → s y x = true → t y x = true) → y < n → cntR s n < cntR t n
  | n + 1, h, hy => by
    by_cases e : y = n
    · subst e
      have ih := cntR_sub (n := y) fun y' x hy => h y' x (by omega)
      have := cntTo_less (a := s y) (b := t y) (n := 16) (fun x hx => h y x (by omega) hx) hx hs ht
      simp only [cntR, cntN]
      omega
    · have ih := cntR_less hx hs ht (n := n) (fun y x hy => h y x (by omega)) (by omega)
      have := cntTo_sub (a := s n) (b := t n) (n := 16) fun x hx => h n x (by omega) hx
      simp only [cntR, cntN]
      omega
theorem day_sub (g : Nat → Nat → Bool) (n : Nat) (t : Nat → Nat → Bool) (y x : Nat) (h : t y x = true) : dayS g n t y x = true := by simp [dayS, h]
theorem day_less {g : Nat → Nat → Bool} {n : Nat} {t : Nat → Nat → Bool} (h : bEq 10 (dayS g n t) t = false) : cntR t 10 < cntR (dayS g n t) 10 := by
  obtain ⟨y, hy, x, hx, hne⟩ : ∃ y, y < 10 ∧ ∃ x, x < 16 ∧ dayS g n t y x ≠ t y x := by
    refine Classical.byContradiction fun hn => ?_
    have := bEq_of (n := 10) (s := dayS g n t) (t := t) fun y x hy hx => Classical.byContradiction fun hne => hn ⟨y, hy, x, hx, hne⟩
    rw [h] at this
    cases this
  have ht : t y x = false := by
    cases h : t y x with
    | false => rfl
    | true => exact absurd (by rw [h, day_sub g n t y x h]) hne
  have hd : dayS g n t y x = true := by
    cases h : dayS g n t y x with
    | true => rfl
    | false => exact absurd (by rw [h, ht]) hne
  exact cntR_less hx ht hd (fun y x _ _ => day_sub g n t y x) hy
theorem still_ex (g : Nat → Nat → Bool) (n : Nat) (s : Nat → Nat → Bool) : ∃ N, N ≤ 160 ∧ StillAt g n s N := by
  have key : ∀ m k, k + m = 161 → k ≤ cntR (itS g n s k) 10 → (∀ j, j < k → bEq 10 (itS g n s (j + 1)) (itS g n s j) = false) → ∃ N, N ≤ 160 ∧ StillAt g n s N := by
    intro m
    induction m with
    | zero => intro k hk hc _; have := cntR_le (itS g n s k) 10; omega
    | succ m ih =>
      intro k hk hc hj
      cases he : bEq 10 (itS g n s (k + 1)) (itS g n s k) with
      | true => exact ⟨k, by omega, hj, he⟩
      | false =>
        have := day_less (g := g) (n := n) (t := itS g n s k) he
        exact ih (k + 1) (by omega) (by simp only [itS]; omega) fun j hjk => by
          rcases Nat.lt_or_ge j k with h | h
          · exact hj j h
          · obtain rfl : j = k := by omega
            exact he
  exact key 161 0 (by omega) (Nat.zero_le _) fun j hj => by omega

def encT (x : Nat × (Nat → Nat → Bool)) : Array Value := #[.int .i64 (x.1 : Int), .agg (bV 10 x.2)]
/-- The first days and their weeds. -/
def preT (g : Nat → Nat → Bool) (n : Nat) (s : Nat → Nat → Bool) (m : Nat) : List (Nat × (Nat → Nat → Bool)) := (List.range m).map fun k => (k, itS g n s k)
theorem preT_succ (g : Nat → Nat → Bool) (n : Nat) (s : Nat → Nat → Bool) (m : Nat) : preT g n s (m + 1) = preT g n s m ++ [(m, itS g n s m)] := by simp [preT, List.range_succ]
theorem preT_len (g : Nat → Nat → Bool) (n : Nat) (s : Nat → Nat → Bool) (m : Nat) : (preT g n s m).length = m := by simp [preT]
/-- The four blocks that the iterator looks at. -/
def KeepT (b c q : Nat) (W W' : World) : Prop := KeepB b W W' ∧ KeepB c W W' ∧ KeepB q W W' ∧ KeepB (q + 1) W W'
def WriteB (b : Nat) (W W' : World) : Prop := ∃ cs, W' = W.setRow b cs
theorem abides_below {β : Type} {B : Nat} {J : β → World → Prop} (h : AbidesFrom B J) {s : β} {W W' : World} (hs : J s W) (hb : Below W.heap.size W W') : J s W' :=
  h s W W' none hs ⟨hb.os, hb.tape, hb.output, hb.size, fun k hk _ => hb.block k hk⟩ (fun r e => by cases e)

set_option maxRecDepth 100000 in
set_option maxHeartbeats 4000000 in
theorem still1_in (g : Nat → Nat → Bool) (n : Nat) (h1 : 1 ≤ n) (h4 : n ≤ 4) (s : Nat → Nat → Bool) (N : Nat) (hN : StillAt g n s N) (hN1 : N ≤ 160) (d : Nat) (hd1 : 1 ≤ d) (l b c q : Nat) (hbc : b ≠ c) (hbq : b ≠ q) (hbq1 : b ≠ q + 1) (J Jx : List (Nat × (Nat → Nat → Bool)) → World → Prop) (B : Nat)
    (hJ : AbidesFrom B J) (hJx : AbidesFrom B Jx) (hJS : ∀ s A A', J s A → WriteB b A A' → J s A')
    (hY : ∀ pre x W, J pre W → pre.length < N + 1 → YieldAt Fence.wide (d - 1) Tryd.prog l (encT x) W fun e W' =>
      (e = .returned (.bool true) ∧ J (pre ++ [x]) W' ∧ KeepT b c q W W') ∨ (e = .returned (.bool false) ∧ Jx (pre ++ [x]) W'))
    (W : World) (hb : Holds W b (bV 10 s)) (hc : Holds W c #[.func (.func 71) #[] #[.pointer (some ⟨q, 0, none⟩), .pointer (some ⟨q + 1, 0, none⟩)]]) (hq : Holds W q (bV 10 g)) (hq1 : Holds W (q + 1) #[.int .i64 n]) (h0 : J [] W) :
    CallsIn Fence.wide d Tryd.prog 66 #[.func (.yield l) #[] #[], .pointer (some ⟨b, 0, none⟩), .pointer (some ⟨c, 0, none⟩)] W fun e W' => (∃ v, e = .returned v) ∧
      ((∃ ys, ys = preT g n s (N + 1) ∧ J ys W') ∨ (∃ pre, (∃ m, m ≤ N ∧ pre = preT g n s (m + 1)) ∧ Jx pre W')) := by
  have HLA := Lib.hid (fun t a b w ha hb => later_any g n h1 h4 t a b w ha hb)
  have HE : ∀ args w, (callFunc 71 args).run Tryd.prog w = .ok (.enter 71 args) w := fun args w => by kernel_rfl
  refine callsIn_of_wp Tryd.func66 rfl trivial ?_ rfl
  simp only [Tryd.ntmps66, List.size_toArray, List.length_cons, List.length_nil, Nat.reduceAdd, Nat.reduceSub, Array.replicate_succ, Array.replicate_zero, List.push_toArray, List.append_toArray, List.nil_append, List.cons_append]
  gi_wp2
  gi_loopw [4] (fun x wr => ∃ k : Nat, k ≤ N ∧ x = .int .i64 k ∧ Holds wr b (bV 10 (itS g n s k)) ∧ Holds wr c #[.func (.func 71) #[] #[.pointer (some ⟨q, 0, none⟩), .pointer (some ⟨q + 1, 0, none⟩)]] ∧ Holds wr q (bV 10 g) ∧ Holds wr (q + 1) #[.int .i64 n] ∧ J (preT g n s k) wr) (fun x _ => N + 1 - (intOf x).toNat)
  case atStart => exact ⟨0, by omega, rfl, hb, hc, hq, hq1, h0⟩
  case round =>
    obtain ⟨k, hk, rfl, hb, hc, hq, hq1, hJk⟩ := hrel
    gi_wp2_with fail
    obtain ⟨c1, -⟩ := hb.later
    refine wpIn_region_stages 3 (o := _) rfl rfl (by kernel_rfl) (by kernel_rfl) (by kernel_rfl) ?_
    simp only [List.take_succ_cons, List.take_zero, List.drop_succ_cons, List.drop_zero]
    apply wpGrow_plain rfl (v := .func (.yield l) #[] #[])
    · intro w' hw' K hK
      go_wp2_with fail
      exact hK _ _ rfl hw'
    simp only [Act.put, List.setIfInBounds_toArray, List.set_cons_succ, List.set_cons_zero]
    apply wpGrow_plain rfl (v := .int .i64 k)
    · intro w' hw' K hK
      go_wp2_with fail
      exact hK _ _ rfl hw'
    simp only [Act.put, List.setIfInBounds_toArray, List.set_cons_succ, List.set_cons_zero]
    apply wpGrow_plain rfl (v := .agg (bV 10 (itS g n s k)))
    · intro w' hw' K hK
      go_wp2_with fail
      exact hK _ _ rfl hw'
    simp only [Act.put, List.setIfInBounds_toArray, List.set_cons_succ, List.set_cons_zero]
    refine wpGrow_nil ?_
    intro W2 hW2
    have ib := hb.below hW2 hb.lt
    have ic := hc.below hW2 hc.lt
    have iq := hq.below hW2 hq.lt
    have iq1 := hq1.below hW2 hq1.lt
    have iJ := abides_below hJ hJk hW2
    clear hW2 c1 hb hc hq hq1 hJk
    obtain ⟨fn, tmps, assign, body, hy, hR⟩ := hY _ (k, itS g n s k) W2 iJ (by rw [preT_len]; omega)
    simp only [encT] at hy
    gi_wp2_with fail
    refine hR.mono ?_
    rintro e W3 (⟨rfl, hJ3, hkb, hkc, hkq, hkq1⟩ | ⟨rfl, hJx3⟩)
    · have jb := hkb.holds ib
      have jc := hkc.holds ic
      have jq := hkq.holds iq
      have jq1 := hkq1.holds iq1
      rw [← preT_succ] at hJ3
      obtain ⟨T, hT⟩ : ∃ T, itS g n s k = T := ⟨_, rfl⟩
      have HTT := Lib.hid (show itS g n s (k + 1) = dayS g n T by rw [← hT]; rfl)
      have HNX := Lib.hid (show bEq 10 (dayS g n T) T = true → k = N from fun h => by
        rcases Nat.lt_or_ge k N with hl | hl
        · have := hN.1 k hl
          rw [HTT.out, hT, h] at this
          cases this
        · omega)
      have HNY := Lib.hid (show bEq 10 (dayS g n T) T = false → k < N from fun h => by
        rcases Nat.lt_or_ge k N with hl | hl
        · exact hl
        · obtain rfl : k = N := by omega
          have := hN.2
          rw [HTT.out, hT, h] at this
          cases this)
      rw [hT] at jb ⊢
      obtain ⟨E, hE⟩ : ∃ E, bEq 10 (dayS g n T) T = E := ⟨_, rfl⟩
      rw [hE] at HNX HNY
      have hneq : ∀ x y w, opNeq Tryd.prog 33 x y (.agg (bV 10 (dayS g n T))) (.agg (bV 10 T)) w = .ok (.value (.bool (!E))) w := fun x y w => by rw [neqWd_at, hE]
      clear hkb hkc hkq hkq1 ib ic iq iq1 iJ hy hR hE hT
      have iq := jq
      have iq1 := jq1
      obtain ⟨r1, -⟩ := jb.later
      obtain ⟨-, c2⟩ := jc.later
      have c20 : ∀ w', Below W3.heap.size W3 w' → w'.cell? ⟨c, 0, none⟩ = some (.func (.func 71) #[] #[.pointer (some ⟨q, 0, none⟩), .pointer (some ⟨q + 1, 0, none⟩)]) := fun w' hw => (c2 w' hw 0).trans rfl
      clear c2
      refine wpGrow_on (v := .bool true) rfl ?_ ?_
      · intro w' hw' K hK
        go_wp2_with fail
        exact hK _ _ rfl hw'
      simp only [Act.put, List.setIfInBounds_toArray, List.set_cons_succ, List.set_cons_zero]
      refine wpGrow_on (v := .func (.func 71) #[] #[.pointer (some ⟨q, 0, none⟩), .pointer (some ⟨q + 1, 0, none⟩)]) rfl ?_ ?_
      · intro w' hw' K hK
        go_wp2_with fail
        exact hK _ _ rfl hw'
      simp only [Act.put, List.setIfInBounds_toArray, List.set_cons_succ, List.set_cons_zero]
      refine wpGrow_on (v := .agg (bV 10 T)) rfl ?_ ?_
      · intro w' hw' K hK
        go_wp2_with fail
        exact hK _ _ rfl hw'
      simp only [Act.put, List.setIfInBounds_toArray, List.set_cons_succ, List.set_cons_zero]
      refine wpGrow_on (v := .agg (bV 10 (dayS g n T))) rfl ?_ ?_
      · intro w' hw' K hK
        obtain ⟨jq, jq1⟩ : Holds w' q (bV 10 g) ∧ Holds w' (q + 1) #[.int .i64 n] := ⟨iq.below hw' iq.lt, iq1.below hw' iq1.lt⟩
        go_wp2_with fail
        refine (HLA.out _ _ _ _ jq jq1).mono ?_
        rintro e w5 ⟨rfl, hb5⟩
        go_wp2_with fail
        exact hK _ _ rfl (below_onto hw' hb5)
      simp only [Act.put, List.setIfInBounds_toArray, List.set_cons_succ, List.set_cons_zero]
      refine wpGrow_on (v := .agg (bV 10 T)) rfl ?_ ?_
      · intro w' hw' K hK
        go_wp2_with fail
        exact hK _ _ rfl hw'
      simp only [Act.put, List.setIfInBounds_toArray, List.set_cons_succ, List.set_cons_zero]
      refine wpGrow_on (v := .bool (!E)) rfl ?_ ?_
      · intro w' hw' K hK
        go_wp2_with fail
        exact hK _ _ rfl hw'
      simp only [Act.put, List.setIfInBounds_toArray, List.set_cons_succ, List.set_cons_zero]
      refine wpGrow_on (v := .bool (!E)) rfl ?_ ?_
      · intro w' hw' K hK
        go_wp2_with fail
        exact hK _ _ rfl hw'
      simp only [Act.put, List.setIfInBounds_toArray, List.set_cons_succ, List.set_cons_zero]
      refine wpGrow_nil ?_
      intro W4 hW4
      have mb := jb.below hW4 jb.lt
      have mc := jc.below hW4 jc.lt
      have mq := jq.below hW4 jq.lt
      have mq1 := jq1.below hW4 jq1.lt
      have mJ := abides_below hJ hJ3 hW4
      clear hW4 jb jc jq jq1 iq iq1 hJ3 r1 c20
      cases E
      · have hlt := HNY.out (by trivial)
        clear HNX HNY
        obtain ⟨rb, fb, -, zb, lb⟩ := mb.facts
        obtain ⟨-, -, cc, -, lc⟩ := mc.facts
        have cc0 := (cc 0).trans (show _ = some (.func (.func 71) #[] #[.pointer (some ⟨q, 0, none⟩), .pointer (some ⟨q + 1, 0, none⟩)]) from rfl)
        clear cc fb zb
        gi_wp2_with fail
        refine ⟨trivial, (callsIn_wide.2 (HLA.out T q (q + 1) _ mq mq1)).mono ?_⟩
        rintro e W5 ⟨rfl, hb5⟩
        have nb := mb.below hb5 mb.lt
        have nc := mc.below hb5 mc.lt
        have nq := mq.below hb5 mq.lt
        have nq1 := mq1.below hb5 mq1.lt
        have nJ := abides_below hJ mJ hb5
        clear hb5 mb mc mq mq1 mJ rb lb cc0 lc
        obtain ⟨rb, fb, -, zb, lb⟩ := nb.facts
        have hw1 : IntKind.i64.wrap ((k : Int) + 1) = ((k + 1 : Nat) : Int) := by rw [IntWalk.i64_in _ (by omega)]; rfl
        gi_wp2_with fail
        go_roundw
        case rel => exact ⟨k + 1, by omega, rfl, by rw [HTT.out]; exact nb.setRow _, nc.setRow_other _ (fun e => hbc e.symm), nq.setRow_other _ (fun e => hbq e.symm), nq1.setRow_other _ (fun e => hbq1 e.symm), hJS _ _ _ nJ ⟨_, rfl⟩⟩
        case measure => simp [intOf]; omega
      · obtain rfl := HNX.out (by trivial)
        clear HNX HNY
        gi_wp2_with fail
        go_end0
        exact ⟨⟨_, rfl⟩, .inl ⟨_, rfl, mJ⟩⟩
    · clear hy hR ib ic iq iq1 iJ
      rw [← preT_succ] at hJx3
      refine wpGrow_on (v := .bool false) rfl ?_ ?_
      · intro w' hw' K hK
        go_wp2_with fail
        exact hK _ _ rfl hw'
      simp only [Act.put, List.setIfInBounds_toArray, List.set_cons_succ, List.set_cons_zero]
      refine wpGrow_off rfl ?_
      simp only [Act.put, List.setIfInBounds_toArray, List.set_cons_succ, List.set_cons_zero]
      refine wpGrow_off rfl ?_
      simp only [Act.put, List.setIfInBounds_toArray, List.set_cons_succ, List.set_cons_zero]
      refine wpGrow_off rfl ?_
      simp only [Act.put, List.setIfInBounds_toArray, List.set_cons_succ, List.set_cons_zero]
      refine wpGrow_off rfl ?_
      simp only [Act.put, List.setIfInBounds_toArray, List.set_cons_succ, List.set_cons_zero]
      refine wpGrow_off rfl ?_
      simp only [Act.put, List.setIfInBounds_toArray, List.set_cons_succ, List.set_cons_zero]
      refine wpGrow_on (v := .bool false) rfl ?_ ?_
      · intro w' hw' K hK
        go_wp2_with fail
        exact hK _ _ rfl hw'
      simp only [Act.put, List.setIfInBounds_toArray, List.set_cons_succ, List.set_cons_zero]
      refine wpGrow_nil ?_
      intro W4 hW4
      have mJ := abides_below hJx hJx3 hW4
      clear hW4 hJx3
      gi_wp2_with fail
      go_end0
      exact ⟨⟨_, rfl⟩, .inr ⟨_, ⟨k, hk, rfl⟩, mJ⟩⟩

theorem still_stops (g : Nat → Nat → Bool) (n : Nat) (h1 : 1 ≤ n) (h4 : n ≤ 4) (s : Nat → Nat → Bool) (N : Nat) (hN : StillAt g n s N) (hN1 : N ≤ 160) (d : Nat) (hd1 : 1 ≤ d) (b c q : Nat) (hbc : b ≠ c) (hbq : b ≠ q) (hbq1 : b ≠ q + 1) (w : World) (hb : Holds w b (bV 10 s)) (hc : Holds w c #[.func (.func 71) #[] #[.pointer (some ⟨q, 0, none⟩), .pointer (some ⟨q + 1, 0, none⟩)]]) (hq : Holds w q (bV 10 g)) (hq1 : Holds w (q + 1) #[.int .i64 n]) :
    SeqStopsW Fence.wide d Tryd.prog 66 #[.pointer (some ⟨b, 0, none⟩), .pointer (some ⟨c, 0, none⟩)] encT (KeepT b c q) (WriteB b) (fun ys => ys = preT g n s (N + 1)) (fun pre => ∃ m, m ≤ N ∧ pre = preT g n s (m + 1)) (N + 1) w := fun l J Jx W hWW hJ hJx hJS hY h0 =>
  still1_in g n h1 h4 s N hN hN1 d hd1 l b c q hbc hbq hbq1 J Jx W.heap.size hJ hJx hJS hY W (hb.below hWW hb.lt) (hc.below hWW hc.lt) (hq.below hWW hq.lt) (hq1.below hWW hq1.lt) h0

theorem still_any (s : Nat → Nat → Bool) (q : Nat) (w : World) :
    Calls Tryd.prog 39 #[.agg (bV 10 s), .func (.func 71) #[] #[.pointer (some ⟨q, 0, none⟩), .pointer (some ⟨q + 1, 0, none⟩)]] w fun e w' => e = .returned (.func (.func 66) #[] #[.pointer (some ⟨w.heap.size, 0, none⟩), .pointer (some ⟨w.heap.size + 1, 0, none⟩)]) ∧ w' = (w.alloc (.cells (bV 10 s) 33)).alloc (.cells #[.func (.func 71) #[] #[.pointer (some ⟨q, 0, none⟩), .pointer (some ⟨q + 1, 0, none⟩)]] 76) := by
  go_enter Tryd.func39, Tryd.ntmps39
  go_wp2
  go_ret
  exact ⟨rfl, rfl⟩
end Go.Proofs.YtemjppchnhemjaaDoor
