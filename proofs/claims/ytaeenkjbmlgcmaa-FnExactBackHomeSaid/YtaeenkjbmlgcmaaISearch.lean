/- The search of ways, of the program: a queue of how far the mower has come, a map of the ways there. -/
import Derived.Test.YtaeenkjbmlgcmaaIMoves
import Derived.Test.YtaeenkjbmlgcmaaZS
namespace Go.Proofs.Ytaeenkjbmlgcmaa
open Go.RowKit
set_option linter.unusedVariables false
set_option linter.unusedSimpArgs false
attribute [local go_sem ↓] loadRow loadGrid loadLawn loadMirror storeRow storeGrid storeLawn allocRow allocGrid allocLawn buildZero buildSides loadMow

theorem intoJ {A : Act} {F : Nat → Nat → Value → (Nat → Value) → Act} {R : Nat → Nat → Value → Prop} (i n : Nat) (q : Value) (h : A = F i n q fun j => A.tmps.getD j undef) (hr : R i n q) : ∃ i n q T, A = F i n q T ∧ R i n q := ⟨i, n, q, _, h, hr⟩
def progC (c : Pt) : List Value := [.int .i8 c.1, .int .i8 c.2, .int .u16 0]
/-- What is still to be gone through. -/
def restN (F : FoundN) (i : Nat) : List Value := ((F.map (·.1)).drop i).flatMap progC
theorem restN_cons {F : FoundN} {i : Nat} {p : Pt × Nat} (h : F[i]? = some p) : restN F i = .int .i8 p.1.1 :: .int .i8 p.1.2 :: .int .u16 0 :: restN F (i + 1) := by
  obtain ⟨hl, he⟩ := List.getElem?_eq_some_iff.1 h
  unfold restN
  rw [List.drop_eq_getElem_cons (by simpa using hl)]
  simp [progC, he]
theorem restN_app {F : FoundN} {i : Nat} (h : i ≤ F.length) (c : Pt) (u : Nat) : restN (F ++ [(c, u)]) i = restN F i ++ progC c := by
  unfold restN
  rw [List.map_append, List.drop_append_of_le_length (by simpa using h)]
  simp
theorem bytes_snoc (b : ByteArray) (x : UInt8) : b ++ (⟨#[x]⟩ : ByteArray) = ⟨b.data ++ #[x]⟩ := by
  apply ByteArray.ext
  rw [ByteArray.data_append]
theorem progInfo : (Try.prog.info? 101).map (fun i => (i.zero, i.size, i.bytes)) = some (some (.agg #[.int .i8 0, .int .i8 0, .int .u16 0]), 3, 4) := by kernel_rfl
theorem moves_enters (args : Array Value) (w : World) : (callFunc 66 args).run Try.prog w = .ok (.enter 66 args) w := enters_of Try.func66 (by kernel_rfl) rfl args w
theorem atHome_enters (args : Array Value) (w : World) : (callFunc 67 args).run Try.prog w = .ok (.enter 67 args) w := enters_of Try.func67 (by kernel_rfl) rfl args w
/-- A row's cells, where they lie. -/
def AtRow (w : World) (a : Option Addr) (xs : List Value) : Prop := ∀ mb, a = some ⟨mb, 0, none⟩ → ∃ cs t, w.heap[mb]? = some (.cells cs t (0, 0)) ∧ ∀ (j : Nat) u, xs[j]? = some u → cs[j]? = some u
theorem AtRow.of_own {w : World} {B : Nat} {e : TypeId} {size n : Nat} {a : Option Addr} {c : Nat} {xs : List Value} (h : w.ownsRow B e size (.slice a n c) n xs) : AtRow w a xs := by
  rintro mb rfl
  obtain ⟨hl, h0 | ⟨g, cap, cur, hv, hb, hg, h1, h2, h3, h4⟩⟩ := h
  · simp at h0
  · simp only [Value.slice.injEq, Option.some.injEq, Addr.mk.injEq, true_and, and_true] at hv
    obtain ⟨rfl, rfl⟩ := hv
    refine ⟨cur, _, hg, fun j u hu => ?_⟩
    rw [← h4, List.getElem?_take] at hu
    split at hu
    · simpa using hu
    · cases hu
theorem AtRow.cell {w : World} {mb : Nat} {xs : List Value} (h : AtRow w (some ⟨mb, 0, none⟩) xs) (j : Nat) (u : Value) (hu : xs[j]? = some u) : w.cell? ⟨mb, j, none⟩ = some u := by
  obtain ⟨cs, t, h1, h2⟩ := h mb rfl
  simp [World.cell?, h1, h2 j u hu]
theorem AtRow.keep {w w' : World} {a : Option Addr} {xs : List Value} (h : AtRow w a xs) (hb : ∀ mb, a = some ⟨mb, 0, none⟩ → w'.heap[mb]? = w.heap[mb]?) : AtRow w' a xs := by
  intro mb e
  obtain ⟨cs, t, h1, h2⟩ := h mb e
  exact ⟨cs, t, (hb mb e).trans h1, h2⟩
theorem movesV_at {l : List (Nat × Pt)} {k : Nat} {kc : Nat × Pt} (h : l[k]? = some kc) (j : Nat) (hj : j < 4) : (movesV l)[k * 4 + j]? = (moveC kc)[j]? := by
  have e : movesV l = movesV (l.take k) ++ (moveC kc ++ movesV (l.drop (k + 1))) := by
    obtain ⟨hl, he⟩ := List.getElem?_eq_some_iff.1 h
    conv => lhs; rw [← List.take_append_drop k l, List.drop_eq_getElem_cons hl, movesV_app]
    rw [he]
    simp [movesV]
  have hlk : (movesV (l.take k)).length = k * 4 := by
    have := (List.getElem?_eq_some_iff.1 h).1
    rw [movesV_len, List.length_take]
    congr 1
    omega
  rw [e, List.getElem?_append_right (by omega), hlk, Nat.add_sub_cancel_left, List.getElem?_append_left (by simpa [moveC] using hj)]

theorem srch_none {L : Lawn} {a h : Pt} {i : Nat} (hi : i ≤ 100) (hl : (foundN (openP L) a i).length ≤ i) (hno : ∀ (j : Nat) p, j < i → (foundN (openP L) a i)[j]? = some p → p.1 ≠ h) : srchV (foundN (openP L) a 100) h = .tuple #[.string ⟨#[]⟩, .bool false] := by
  have h1 := foundN_stop (pass := openP L) (s := a) (n := i) hl (100 - i)
  rw [show i + (100 - i) = 100 by omega] at h1
  have h2 : alLook (waysOf (foundN (openP L) a 100)) h = none := by
    rw [h1, waysOf_look]
    cases hl : alLook (foundN (openP L) a i) h with
    | none => rfl
    | some u =>
      exfalso
      obtain ⟨j, hj, e⟩ := List.getElem_of_mem (alLook_in hl)
      exact hno j _ (by omega) (by rw [List.getElem?_eq_getElem hj, e]) rfl
  unfold srchV
  rw [h2]
  rfl
theorem srch_some {L : Lawn} {a : Pt} (ha : openP L a = true) {i j : Nat} {p : Pt × Nat} (hi : i ≤ 100) (hp : (foundN (openP L) a i)[j]? = some p) : srchV (foundN (openP L) a 100) p.1 = .tuple #[.string (wayS (decW p.2)), .bool true] := by
  obtain ⟨G, hG⟩ := foundN_more (pass := openP L) (s := a) i (100 - i)
  rw [show i + (100 - i) = 100 by omega] at hG
  have h2 : alLook (waysOf (foundN (openP L) a 100)) p.1 = some (wayS (decW p.2)) := by
    rw [hG, waysOf_look, look_append _ _ _ (alLook_mem (foundN_nodup ha i) (List.mem_of_getElem? (by rw [hp] : (foundN (openP L) a i)[j]? = some (p.1, p.2))))]
    rfl
  unfold srchV
  rw [h2]
theorem foundN_le {L : Lawn} (hV : validB L = true) {a : Pt} (ha : openP L a = true) {i : Nat} (hi : i ≤ 100) : (foundN (openP L) a i).length ≤ 100 := by
  obtain ⟨G, hG⟩ := foundN_more (pass := openP L) (s := a) i (100 - i)
  rw [show i + (100 - i) = 100 by omega] at hG
  have := foundN_len (openP_near hV) ha
  rw [hG] at this
  simp only [List.length_append] at this
  omega

set_option maxRecDepth 100000 in
set_option maxHeartbeats 4000000 in
theorem search_any (L : Lawn) (hL : L.Fits) (hV : validB L = true) (a h : Pt) (ha : openP L a = true) (g : Nat) (w : World) (hg : Holds w g #[.int .i8 h.1, .int .i8 h.2]) :
    Calls Try.prog 64 #[progK a, .func (.func 66) #[.agg (mowA L)] #[], .func (.func 67) #[] #[.pointer (some ⟨g, 0, none⟩)]] w fun e w' => e = .returned (srchV (foundN (openP L) a 100) h) ∧ Below w.heap.size w w' := by
  have HMV := Lib.hid (fun (c : Pt) (hc : (0 ≤ c.1 ∧ c.1 < 10) ∧ 0 ≤ c.2 ∧ c.2 < 10) (w : World) => moves_any L hL hV c hc w)
  have HAT := Lib.hid (fun (x y : Int) (w : World) (hw : Holds w g #[.int .i8 h.1, .int .i8 h.2]) => atHome_any x y h.1 h.2 0 g w hw)
  have HS := Lib.hid ha
  have HNR := Lib.hid (openP_near hV)
  have HVL := Lib.hid hV
  have HG := Lib.hid hg
  obtain ⟨N, hN⟩ : ∃ N : Nat, 100 = N := ⟨_, rfl⟩
  rw [hN]
  have HNN := Lib.hid hN
  obtain ⟨SV, hSV⟩ : ∃ v, srchV (foundN (openP L) a N) h = v := ⟨_, rfl⟩
  have HSV := Lib.hid hSV
  rw [hSV]
  clear hSV hN
  have hE1 := moves_enters
  have hE2 := atHome_enters
  have hmk := fun w => run_makeMap (P := Try.prog) 170 w
  obtain ⟨i0, hi, hz0, hz1, hz2⟩ := info_parts progInfo
  have HI := Lib.hid (show Try.prog.info? 101 = some i0 ∧ i0.zero = some (.agg #[.int .i8 0, .int .i8 0, .int .u16 0]) ∧ i0.size = 3 ∧ i0.bytes = 4 from ⟨hi, hz0, hz1, hz2⟩)
  clear hi hz0 hz1 hz2 hL hV
  obtain ⟨M, hM⟩ : ∃ M, mowA L = M := ⟨_, rfl⟩
  rw [hM] at HMV ⊢
  obtain ⟨s, hs⟩ : ∃ s, w.heap.size = s := ⟨_, rfl⟩
  have HSZ := Lib.hid hs
  have HGL := Lib.hid (show g < s by rw [← hs]; exact hg.lt)
  obtain ⟨ax, ay⟩ := a
  obtain ⟨hx, hy⟩ := h
  dsimp only at HAT HG hg
  have jM : MapIs ((w.alloc (.cells #[.int .i8 ax, .int .i8 ay, .int .u16 0] 101)).alloc (.map #[] 0)) (s + 1) progK .string ([] : List (Pt × ByteArray)) := by
    have := MapIs.made (κ := Pt) (enc := progK) (val := Value.string) (w.alloc (.cells #[.int .i8 ax, .int .i8 ay, .int .u16 0] 101))
    simpa [hs] using this
  obtain ⟨o, hput, hM1⟩ := jM.put progKey Try.underlying170 (ax, ay) (⟨#[]⟩ : ByteArray)
  simp only [progK] at hput
  have HM1 := Lib.hid hM1
  have c0 := (((Holds.new w #[.int .i8 ax, .int .i8 ay, .int .u16 0] 101).alloc (.map #[] 0)).putObj (l := s + 1) (by omega) o).cell
  rw [hs] at c0
  clear jM hM1 hM hg ha
  unfold progK
  dsimp only
  rw [hs]
  go_enter Try.func64, Try.ntmps64
  go_wp2_with fail
  refine wp_scope_falls2 0 (fun m a' w' => ∃ (i n : Nat) (q : Value) (T : Nat → Value),
    a' = { tmps := #[.agg #[.int .i8 ax, .int .i8 ay, .int .u16 0], .func (.func 66) #[.agg M] #[], .func (.func 67) #[] #[.pointer (some ⟨g, 0, none⟩)], .pointer (some ⟨s, 0, none⟩), T 4, T 5, T 6, T 7, .map (some (s + 1)), q, T 10, T 11, T 12, T 13, T 14, T 15, T 16, T 17, T 18, T 19, T 20, T 21, T 22, T 23, T 24, T 25, T 26, T 27, T 28, T 29, T 30, T 31, T 32, T 33, T 34, T 35, T 36, T 37, T 38, T 39, T 40, T 41, T 42, T 43, T 44, T 45, T 46, T 47, T 48, T 49, T 50, T 51, T 52, T 53, T 54, T 55, T 56, T 57, T 58, T 59, T 60, T 61, T 62, T 63, T 64, T 65], defers := [] } ∧
    i + m = 101 ∧ i ≤ 100 ∧ n + i = (foundN (openP L) (ax, ay) i).length ∧ QIs w' (s + 2) 101 3 q n (restN (foundN (openP L) (ax, ay) i) i) ∧ MapIs w' (s + 1) progK .string (waysOf (foundN (openP L) (ax, ay) i)) ∧ (∀ j p, j < i → (foundN (openP L) (ax, ay) i)[j]? = some p → p.1 ≠ (hx, hy)) ∧ Below s w w') rfl ?_ ?_
  · intro HPASS
    have HPS := Lib.hid HPASS
    clear HPASS
    have hQ0 : QIs ((((w.alloc (.cells #[.int .i8 ax, .int .i8 ay, .int .u16 0] 101)).alloc (.map #[] 0)).putObj (s + 1) o).alloc (.cells #[.int .i8 ax, .int .i8 ay, .int .u16 0] 101)) (s + 2) 101 3 (.slice (some ⟨s + 1 + 1, 0, none⟩) 1 1) 1 (restN (foundN (openP L) (ax, ay) 0) 0) :=
      ⟨s + 1 + 1, 0, 1, #[.int .i8 ax, .int .i8 ay, .int .u16 0], rfl, by omega, by
        have := heap_alloc_new (((w.alloc (.cells #[.int .i8 ax, .int .i8 ay, .int .u16 0] 101)).alloc (.map #[] 0)).putObj (s + 1) o) (.cells #[.int .i8 ax, .int .i8 ay, .int .u16 0] 101)
        simpa [hs] using this, by omega, by simp [maxLen], by simp, by simp [restN, foundN, progC], fun j u hu => by simpa [restN, foundN, progC] using hu⟩
    have hM0 : MapIs ((((w.alloc (.cells #[.int .i8 ax, .int .i8 ay, .int .u16 0] 101)).alloc (.map #[] 0)).putObj (s + 1) o).alloc (.cells #[.int .i8 ax, .int .i8 ay, .int .u16 0] 101)) (s + 1) progK .string (waysOf (foundN (openP L) (ax, ay) 0)) := by
      have := HM1.out.alloc (.cells #[.int .i8 ax, .int .i8 ay, .int .u16 0] 101)
      have e : waysOf (foundN (openP L) (ax, ay) 0) = alPut [] (ax, ay) (⟨#[]⟩ : ByteArray) := by
        simp only [foundN, waysOf, List.map_cons, List.map_nil, alPut]
        rw [decW_low (by omega : 1 < 4)]
        rfl
      rw [e]
      exact this
    have hB0 : Below s w ((((w.alloc (.cells #[.int .i8 ax, .int .i8 ay, .int .u16 0] 101)).alloc (.map #[] 0)).putObj (s + 1) o).alloc (.cells #[.int .i8 ax, .int .i8 ay, .int .u16 0] 101)) := by
      rw [← hs]
      exact ((((Below.refl w.heap.size w).alloc (Nat.le_refl _) _).alloc (by simp) _).grown (grownBy_putObj' _ (w.heap.size + 1) o) (by simp; omega) (fun k e => by cases e; omega)).alloc (by simp; omega) _
    have HQ0 := Lib.hid hQ0
    have HM0 := Lib.hid hM0
    have HB0 := Lib.hid hB0
    clear hQ0 hM0 hB0 HM1
    go_wp2_with fail
    go_step3
    refine (‹∀ (a : Act) (w : World), Code.wp Try.prog _ _ a w → _›) _ _ ?_
    refine HPS.out 101 _ _ (intoJ 0 1 (.slice (some ⟨s + 1 + 1, 0, none⟩) 1 1) rfl ⟨by omega, by omega, rfl, HQ0.out, HM0.out, fun j p hj => by omega, HB0.out⟩)
  · rintro m a' W ⟨i, n, q, T, rfl, him, hi, hn, hq, hM, hno, hb⟩
    have HIM := Lib.hid him
    have HNO := Lib.hid hno
    obtain ⟨gq, off, cap, rfl, hcap, hmax, hBg, hgl⟩ := hq.form
    clear c0 hput hmk him hno
    obtain ⟨F, hF⟩ : ∃ F, foundN (openP L) (ax, ay) i = F := ⟨_, rfl⟩
    have HF := Lib.hid hF
    cases n with
    | zero =>
      have HE := Lib.hid (show SV = .tuple #[.string ⟨#[]⟩, .bool false] by rw [← HSV.out, ← HNN.out]; exact srch_none hi (by omega) HNO.out)
      clear hq hM
      go_wp2_with fail
      simp only [Exit.jump]
      go_ret2
      exact ⟨by rw [HE.out]; rfl, hb⟩
    | succ m' =>
      obtain ⟨p, hpi⟩ : ∃ p, F[i]? = some p := ⟨_, List.getElem?_eq_getElem (by rw [← hF]; omega)⟩
      rw [hF] at hn hq hM
      obtain ⟨⟨px, py⟩, d⟩ := p
      have HPI := Lib.hid (show (foundN (openP L) (ax, ay) i)[i]? = some ((px, py), d) by rw [hF]; exact hpi)
      have hl100 : F.length ≤ 100 := by rw [← hF]; exact foundN_le HVL.out HS.out hi
      have hi100 : i < 100 := by omega
      have hxy := HNR.out _ (foundN_in HS.out (List.mem_of_getElem? HPI.out))
      have HQ := Lib.hid hq
      have hr := restN_cons hpi
      have e0 := hq.cell 0 (.int .i8 px) (by rw [hr]; rfl)
      have e1 := hq.cell 1 (.int .i8 py) (by rw [hr]; rfl)
      have e2 := hq.cell 2 (.int .u16 0) (by rw [hr]; rfl)
      have HR := Lib.hid hr
      rw [Nat.add_zero] at e0
      simp only at hxy
      have hcap9 : cap ≤ 9223372036854775807 := by unfold maxLen at hmax; omega
      clear hpi hq hr hF
      have hfin : ∃ q', (cap = 1 → q' = .slice (some ⟨gq, off, none⟩) m' 0) ∧ (1 < cap → q' = .slice (some ⟨gq, off + 3, none⟩) m' (cap - 1)) ∧ QIs W (s + 2) 101 3 q' m' (restN F (i + 1)) := by
        rcases (by omega : cap = 1 ∨ 1 < cap) with hc1 | hc1
        · obtain ⟨h0, h1⟩ := HQ.out.cutLast hc1
          have hl : (restN F i).length = (m' + 1) * 3 := by obtain ⟨_, _, _, _, -, -, -, -, -, -, h, -⟩ := HQ.out; exact h
          rw [HR.out] at hl
          have h2 : restN F (i + 1) = [] := List.eq_nil_of_length_eq_zero (by simp at hl; omega)
          exact ⟨.slice (some ⟨gq, off, none⟩) m' 0, fun _ => rfl, fun h => by omega, by rw [h2, h0]; exact h1⟩
        · have h1 := HQ.out.cut hc1
          rw [HR.out] at h1
          exact ⟨_, fun h => by omega, fun _ => rfl, h1⟩
      obtain ⟨q', hq1, hq2, hq3⟩ := hfin
      have HQ3 := Lib.hid hq3
      have HQ1 := Lib.hid hq1
      have HQ2 := Lib.hid hq2
      clear hq1 hq2 hq3
      obtain ⟨hxy0, hxy1⟩ := hxy
      obtain ⟨na, hna⟩ : ∃ na, W.heap.size = na := ⟨_, rfl⟩
      have hA6 : Holds (W.alloc (.cells #[.int .i8 px, .int .i8 py, .int .u16 0] 101)) na #[.int .i8 px, .int .i8 py, .int .u16 0] := by rw [← hna]; exact Holds.new _ _ _
      have HA6 := Lib.hid hA6
      have hs2 : s + 2 ≤ na := by omega
      have HGH := Lib.hid (show Holds W g #[.int .i8 hx, .int .i8 hy] from HG.out.below (by rw [HSZ.out]; exact hb) HG.out.lt)
      have dA := hA6.cell
      clear hA6
      go_wp2_with fail
      refine (HAT.out px py _ (HGH.out.alloc _)).mono ?_
      obtain ⟨dn, hdn⟩ : ∃ b, (px == hx && py == hy) = b := ⟨_, rfl⟩
      rw [hdn]
      rintro e W7 ⟨rfl, hb7⟩
      have HDN := Lib.hid hdn
      have hQ7 := (HQ3.out.below ((Below.refl W.heap.size W).alloc (Nat.le_refl _) (.cells #[.int .i8 px, .int .i8 py, .int .u16 0] 101))).below hb7
      have hM7 := (hM.alloc (.cells #[.int .i8 px, .int .i8 py, .int .u16 0] 101)).below hb7 (by have := hM.lt; simp; omega)
      have hA7 := HA6.out.below hb7 HA6.out.lt
      have hB7 : Below s w W7 := (hb.alloc (by omega) _).trans (hb7.mono (by simp; omega))
      have HQ7 := Lib.hid hQ7
      have hqf : ∀ b, q'.ownBlock = some b → b < na := fun b hb => by rw [← hna]; exact (HQ3.out.far b hb).2
      have HQF := Lib.hid hqf
      clear hdn hQ7 e0 e1 e2 dA HA6 HQ3 hM hb hb7 hna hqf HQ HGH
      have dA := hA7.cell
      have hlA := hA7.lt
      have hml := hM7.lt
      cases dn
      case true =>
        have HE := Lib.hid (show SV = .tuple #[.string (wayS (decW d)), .bool true] by
          rw [← HSV.out, ← HNN.out]
          have h1 := HDN.out
          simp only [Bool.and_eq_true, beq_iff_eq] at h1
          have h2 := srch_some HS.out hi HPI.out
          rw [← h1.1, ← h1.2]
          exact h2)
        have hlk := (hM7.look progKey Try.underlying170 strZero (px, py)).1
        rw [waysOf_look, ← HF.out, alLook_mem (foundN_nodup HS.out i) (List.mem_of_getElem? HPI.out)] at hlk
        simp only [progK, Option.map_some, Option.getD_some] at hlk
        go_wp2_with fail
        simp only [Exit.jump]
        go_ret2
        exact ⟨by rw [HE.out]; rfl, hB7⟩
      case false =>
        have HDF := Lib.hid (show (px, py) ≠ (hx, hy) by
          intro h1
          simp only [Prod.mk.injEq] at h1
          have h2 := HDN.out
          rw [h1.1, h1.2] at h2
          simp at h2)
        have hcase : cap = 1 ∨ 1 < cap := by omega
        rcases hcase with hc1 | hc1
        all_goals
          go_wp2_with fail
          first | rw [← HQ2.out hc1] | (rw [← HQ1.out hc1])
          refine (HMV.out (px, py) ⟨hxy0, hxy1⟩ _).mono ?_
          rintro e w8 ⟨⟨v, rfl, hov⟩, hb8⟩
          obtain ⟨va, vc, rfl⟩ := own_slice hov
          have hat := AtRow.of_own hov
          obtain ⟨cnt, hcnt⟩ : ∃ c, (opensW L (px, py)).length = c := ⟨_, rfl⟩
          have HCN := Lib.hid hcnt
          have hc4 : cnt ≤ 4 := by rw [← hcnt]; exact opensW_len L _
          rw [hcnt] at hov ⊢
          have hvf : 0 < cnt → ∃ mb, va = some ⟨mb, 0, none⟩ ∧ na < mb := fun h0 => by
            obtain ⟨mb, c9, e9, h9, -⟩ := own_form hov h0
            simp only [Value.slice.injEq] at e9
            exact ⟨mb, e9.1, by omega⟩
          have hvn : ∀ mb, va = some ⟨mb, 0, none⟩ → na < mb := fun mb e => by
            obtain ⟨hl, h0 | ⟨g9, cap9, cur9, hv9, hb9, -⟩⟩ := hov
            · rw [e] at h0; simp at h0
            · rw [e] at hv9
              simp only [Value.slice.injEq, Option.some.injEq, Addr.mk.injEq] at hv9
              omega
          have HVF := Lib.hid hvf
          have HVN := Lib.hid hvn
          have hA8 := hA7.below hb8 hA7.lt
          have hQ8 := HQ7.out.below hb8
          have hM8 := hM7.below hb8 hM7.lt
          have hB8 : Below s w w8 := hB7.trans (hb8.mono (by omega))
          have hap : ∀ b, q'.ownBlock = some b → b ≠ na ∧ ∀ mb, va = some ⟨mb, 0, none⟩ → b ≠ mb := fun b hb => by
            have h1 := HQF.out b hb
            refine ⟨by omega, fun mb e => ?_⟩
            have := HVN.out mb e
            omega
          clear hov hcnt hvf hvn hA7 hM7 hB7 hb8 dA hlA hml HQF HQ7 HQ1 HQ2
          go_wp2_with fail
          go_loopw [9, 38] (fun q x wk => ∃ k n : Nat, k ≤ cnt ∧ x = .int .i64 k ∧ n + (i + 1) = (wyK L F ((px, py), d) k).length ∧ QIs wk (s + 2) 101 3 q n (restN (wyK L F ((px, py), d) k) (i + 1)) ∧ (∀ b, q.ownBlock = some b → b ≠ na ∧ ∀ mb, va = some ⟨mb, 0, none⟩ → b ≠ mb) ∧ MapIs wk (s + 1) progK .string (waysOf (wyK L F ((px, py), d) k)) ∧ Holds wk na #[.int .i8 px, .int .i8 py, .int .u16 0] ∧ AtRow wk va (movesV (opensW L (px, py))) ∧ Below s w wk) (fun _ x _ => 4 - (intOf x).toNat)
          case atStart => exact ⟨0, m', by omega, rfl, by rw [wyK_zero]; omega, by rw [wyK_zero]; exact hQ8, hap, by rw [wyK_zero]; exact hM8, hA8, hat, hB8⟩
          case round =>
            obtain ⟨k, n, hk, rfl, hn2, hq, hap2, hM, hA, hR2, hb⟩ := hrel
            clear hQ8 hap hM8 hA8 hat hB8
            by_cases hlt : k < cnt
            · have hdk : decide ((k : Int) < (cnt : Int)) = true := by simp; omega
              obtain ⟨mb, rfl, hmb⟩ := HVF.out (by omega)
              obtain ⟨⟨kk, dx, dy⟩, hkc⟩ : ∃ kc, (opensW L (px, py))[k]? = some kc := ⟨_, List.getElem?_eq_getElem (by rw [HCN.out]; omega)⟩
              have HKC := Lib.hid hkc
              obtain ⟨hkk, hpo⟩ := opensW_at hkc
              have HPO := Lib.hid hpo
              have f0 := hR2.cell _ _ ((movesV_at hkc 0 (by omega)).trans rfl)
              have f1 := hR2.cell _ _ ((movesV_at hkc 1 (by omega)).trans rfl)
              have f2 := hR2.cell _ _ ((movesV_at hkc 2 (by omega)).trans rfl)
              have f3 := hR2.cell _ _ ((movesV_at hkc 3 (by omega)).trans rfl)
              dsimp only at f0 f1 f2 f3 hkk hpo
              rw [Nat.add_zero] at f0
              have HQ5 := Lib.hid hq
              have HN := Lib.hid hn2
              have HAP := Lib.hid hap2
              have HR5 := Lib.hid hR2
              have hg100 := wyK_len HVL.out HS.out HPI.out hi100 k
              rw [HF.out] at hg100
              have HG1 := Lib.hid hg100
              obtain ⟨ob, hob⟩ : ∃ ob, wr.heap.size = ob := ⟨_, rfl⟩
              have hX : Holds (wr.alloc (.cells #[.int .i8 dx, .int .i8 dy, .int .u16 0, .string ⟨#[letB kk]⟩] 174)) ob #[.int .i8 dx, .int .i8 dy, .int .u16 0, .string ⟨#[letB kk]⟩] := by rw [← hob]; exact Holds.new _ _ _
              have hM6 := hM.alloc (.cells #[.int .i8 dx, .int .i8 dy, .int .u16 0, .string ⟨#[letB kk]⟩] 174)
              have hlk := (hM6.look progKey Try.underlying170 strZero (dx, dy)).2
              rw [waysOf_look] at hlk
              simp only [progK] at hlk
              have hX1 := hX.cell
              have HX := Lib.hid hX
              have hlm := hM.lt
              have hlo : na < ob := by rw [← hob]; exact hA.lt
              clear hq hn2 hap2 hR2 hkc hpo hg100 hX
              cases hal : alLook (wyK L F ((px, py), d) k) (dx, dy)
              case some u =>
                rw [hal] at hlk
                simp only [Option.map_some, Option.getD_some, Option.isSome_some] at hlk
                have HAL := Lib.hid hal
                clear hal
                go_wp2_with fail
                go_roundw
                case rel =>
                  refine ⟨k + 1, n, by omega, by go_num, ?_⟩
                  rw [wyK_succ HKC.out, visitN_skip (.inl (by rw [HAL.out]; rfl))]
                  exact ⟨HN.out, HQ5.out.below ((Below.refl _ wr).alloc (Nat.le_refl _) _), HAP.out, hM6, hA.alloc _, HR5.out.keep (fun mb' e => by
                    obtain ⟨cs, t, h1, h2⟩ := HR5.out mb' e
                    exact Below.heap_alloc _ _ _ (Array.getElem?_eq_some_iff.1 h1).1), hb.alloc (by omega) _⟩
                case measure => simp [intOf]; omega
              case none =>
                rw [hal] at hlk
                simp only [Option.map_none, Option.getD_none, Option.isSome_none] at hlk
                have HAL := Lib.hid hal
                clear hal
                have hA6 := hA.alloc (.cells #[.int .i8 dx, .int .i8 dy, .int .u16 0, .string ⟨#[letB kk]⟩] 174)
                have hQ6 := Lib.hid (HQ5.out.below ((Below.refl _ wr).alloc (Nat.le_refl _) (.cells #[.int .i8 dx, .int .i8 dy, .int .u16 0, .string ⟨#[letB kk]⟩] 174)))
                have HR6 := Lib.hid (HR5.out.keep (w' := wr.alloc (.cells #[.int .i8 dx, .int .i8 dy, .int .u16 0, .string ⟨#[letB kk]⟩] 174)) (fun mb' e => by
                    obtain ⟨cs, t, h1, h2⟩ := HR5.out mb' e
                    exact Below.heap_alloc _ _ _ (Array.getElem?_eq_some_iff.1 h1).1))
                have hB6 : Below s w (wr.alloc (.cells #[.int .i8 dx, .int .i8 dy, .int .u16 0, .string ⟨#[letB kk]⟩] 174)) := hb.alloc (by omega) _
                obtain ⟨W6, hW6⟩ : ∃ W, wr.alloc (.cells #[.int .i8 dx, .int .i8 dy, .int .u16 0, .string ⟨#[letB kk]⟩] 174) = W := ⟨_, rfl⟩
                have hz6 : W6.heap.size = ob + 1 := by rw [← hW6, ← hob]; simp
                rw [hW6] at hA6 hQ6 HR6 hB6 hM6 hlk HX hX1
                obtain ⟨-, aL⟩ := hA6.later
                obtain ⟨-, xL⟩ := HX.out.later
                have hmbl : mb < ob := by
                  obtain ⟨cs, t, h1, h2⟩ := HR5.out mb rfl
                  rw [← hob]
                  exact (Array.getElem?_eq_some_iff.1 h1).1
                have HLK := Lib.hid (wyK_look HS.out HPI.out k)
                rw [HF.out] at HLK
                clear HQ5 HR5 hM hA hb
                have hdl : (decW d).length ≤ i := decW_len i d (foundN_low i i _ HPI.out)
                obtain ⟨wa, hwa⟩ : ∃ wa, wayS (decW d) = wa := ⟨_, rfl⟩
                have hws : wa.size ≤ 100 := by rw [← hwa, wayS_size]; omega
                have HWA := Lib.hid hwa
                have hd1 : 1 ≤ d := (found_bfsN (pass := openP L) (s := (ax, ay)) i).pos _ (List.mem_of_getElem? HPI.out)
                have HD1 := Lib.hid hd1
                have HKK := Lib.hid hkk
                clear hdl hwa hd1
                go_wp2_with fail
                refine wp_region_grow 9 (by kernel_rfl) (by kernel_rfl) ?_
                simp only [List.take_succ_cons, List.take_zero, List.drop_succ_cons, List.drop_zero]
                iterate 8
                  apply wpGrow_plain rfl
                  · intro w' hw' K hK
                    have d1 := aL _ hw'
                    have d2 := xL _ hw'
                    have hlk := ((hM6.below hw' hM6.lt).look progKey Try.underlying170 strZero (px, py)).1
                    rw [waysOf_look, HLK.out] at hlk
                    simp only [progK, Option.map_some, Option.getD_some] at hlk
                    rw [HWA.out] at hlk
                    go_wp2_with fail
                    exact hK _ _ rfl hw'
                  simp only [Act.put, List.setIfInBounds_toArray, List.set_cons_succ, List.set_cons_zero]
                refine wpGrow_plain (v := .string (wa ++ ⟨#[letB kk]⟩)) rfl ?_ ?_
                · intro w' hw' K hK
                  have hadd : ¬ (9223372036854775807 < wa.size + (⟨#[letB kk]⟩ : ByteArray).size) := by
                    have : (⟨#[letB kk]⟩ : ByteArray).size = 1 := rfl
                    omega
                  go_wp2_with fail
                  exact hK _ _ rfl hw'
                simp only [Act.put, List.setIfInBounds_toArray, List.set_cons_succ, List.set_cons_zero]
                refine wpGrow_nil ?_
                intro W8 hW8
                have hA8 := hA6.below hW8 hA6.lt
                have hX8 := HX.out.below hW8 HX.out.lt
                have HQ8 := Lib.hid (hQ6.out.below hW8)
                have hB8 : Below s w W8 := hB6.trans (hW8.mono (by omega))
                have hR8 : AtRow W8 (some ⟨mb, 0, none⟩) (movesV (opensW L (px, py))) := HR6.out.keep (fun mb' e => by
                  simp only [Option.some.injEq, Addr.mk.injEq, and_true, true_and] at e
                  exact hW8.block mb' (by omega))
                obtain ⟨o8, hput8, hM9⟩ := (hM6.below hW8 hM6.lt).put progKey Try.underlying170 (dx, dy) (wa ++ ⟨#[letB kk]⟩)
                rw [alPut_new _ (by rw [waysOf_look, HAL.out]; rfl)] at hM9
                simp only [progK] at hput8
                have hs8 := hA8.lt
                have hn8 := hX8.lt
                have hX9 := hX8.putObj (l := s + 1) (by omega) o8
                have hA9 := hA8.putObj (l := s + 1) (by omega) o8
                have HQ9 := Lib.hid ((HQ8.out.keep (grownBy_putObj' W8 (s + 1) o8) (fun e => by have := (HQ8.out.far _ e).1; omega)).below ((Below.refl _ _).alloc (Nat.le_refl _) (.cells #[.int .i8 dx, .int .i8 dy, .int .u16 0] 101)))
                have hB9 : Below s w (W8.putObj (s + 1) o8) := hB8.grown (grownBy_putObj' W8 (s + 1) o8) (by omega) (fun k e => by cases e; omega)
                have hR9 : AtRow (W8.putObj (s + 1) o8) (some ⟨mb, 0, none⟩) (movesV (opensW L (px, py))) := hR8.keep (fun mb' e => by
                  simp only [Option.some.injEq, Addr.mk.injEq, and_true, true_and] at e
                  exact World.putObj_heap_other (by omega))
                have HR9 := Lib.hid hR9
                have dX := hX9.cell
                have hsz9 : (W8.putObj (s + 1) o8).heap.size = W8.heap.size := by simp
                have HSZ9 := Lib.hid hsz9
                have hnle : n ≤ 100 := by have := HN.out; have := HG1.out; omega
                have hmb8 : mb < W8.heap.size := by omega
                clear hA6 hQ6 hM6 hB6 hW8 aL xL hA8 hX8 HQ8 hB8 hsz9 hR8 hR9 HX HR6 hX1 hlk hW6
                go_wp2_with (at_builtin; refine wpList_append_q _ rfl _ _ 171 rfl rfl HQ9.out ?cB i0 (.agg #[.int .i8 0, .int .i8 0, .int .u16 0]) 4 Try.underlying171 HI.out.1 HI.out.2.1 HI.out.2.2.1 HI.out.2.2.2 rfl (by decide) ⟨W8.heap.size, 0, none⟩ 1 (progC (dx, dy)) rfl rfl ?c1 ?c2 ?c3 ?c4 ?_)
                case cB => simp; omega
                case c1 =>
                  intro m u hu
                  have hh := (Holds.new' (W8.putObj (s + 1) o8) #[.int .i8 dx, .int .i8 dy, .int .u16 0] 101 W8.heap.size HSZ9.out.symm)
                  match m, hu with
                  | 0, hu => simp [progC] at hu; subst hu; exact hh.cell 0
                  | 1, hu => simp [progC] at hu; subst hu; exact hh.cell 1
                  | 2, hu => simp [progC] at hu; subst hu; exact hh.cell 2
                case c2 => intro u hu; simp [progC] at hu; rcases hu with rfl | rfl | rfl <;> rfl
                case c3 => unfold maxLen; omega
                case c4 => omega
                intro v' w3 hq10 hgrow hown
                have hB10 : Below s w w3 := (hB9.alloc (by simp; omega) (.cells #[.int .i8 dx, .int .i8 dy, .int .u16 0] 101)).grown hgrow (by simp; omega) (fun b e => by have := (HQ9.out.far b e).1; omega)
                have hA10 : Holds w3 na #[.int .i8 px, .int .i8 py, .int .u16 0] := by
                  obtain ⟨t, ht⟩ := hA9.alloc (.cells #[.int .i8 dx, .int .i8 dy, .int .u16 0] 101)
                  exact ⟨t, (hgrow.block na (by simp; omega) (fun e => (HAP.out na e.symm).1 rfl)).trans ht⟩
                have hM10 := (hM9.alloc (.cells #[.int .i8 dx, .int .i8 dy, .int .u16 0] 101)).block (w' := w3) (hgrow.block (s + 1) (by simp; omega) (fun e => by have := (HQ9.out.far _ e.symm).1; omega))
                have hR10 : AtRow w3 (some ⟨mb, 0, none⟩) (movesV (opensW L (px, py))) := HR9.out.keep (fun mb' e => by
                  have e' := e
                  simp only [Option.some.injEq, Addr.mk.injEq, and_true, true_and] at e
                  rw [hgrow.block mb' (by simp; omega) (fun e2 => (HAP.out mb' e2.symm).2 mb' e' rfl)]
                  exact Below.heap_alloc _ _ _ (by rw [HSZ9.out]; omega))
                have hap10 : ∀ b, v'.ownBlock = some b → b ≠ na ∧ ∀ mb', some (⟨mb, 0, none⟩ : Addr) = some ⟨mb', 0, none⟩ → b ≠ mb' := fun b e => by
                  rcases hown with h | h
                  · exact HAP.out b (h ▸ e)
                  · have := h b e
                    refine ⟨by first | omega | (simp at this; omega), fun mb' e2 => ?_⟩
                    simp only [Option.some.injEq, Addr.mk.injEq, and_true, true_and] at e2
                    first | omega | (simp at this; omega)
                have HV := Lib.hid (show wyK L F ((px, py), d) (k + 1) = wyK L F ((px, py), d) k ++ [((dx, dy), 4 * d + kk)] by
                  rw [wyK_succ HKC.out]
                  exact visitN_new HAL.out HPO.out)
                have hw10 : waysOf (wyK L F ((px, py), d) k) ++ [((dx, dy), wa ++ (⟨#[letB kk]⟩ : ByteArray))] = waysOf (wyK L F ((px, py), d) (k + 1)) := by
                  rw [HV.out, waysOf_app _ _ _ _ HD1.out HKK.out, HWA.out, bytes_snoc]
                have hr10 : restN (wyK L F ((px, py), d) k) (i + 1) ++ progC (dx, dy) = restN (wyK L F ((px, py), d) (k + 1)) (i + 1) := by
                  rw [HV.out, restN_app (by have := HN.out; omega)]
                rw [hr10] at hq10
                rw [hw10] at hM10
                have HQ10 := Lib.hid hq10
                have HM10 := Lib.hid hM10
                have HAP10 := Lib.hid hap10
                have HL := Lib.hid (congrArg List.length HV.out)
                clear hq10 hgrow hown hap10 hr10 hw10 hM10 hB9 hA9 hM9 dX hX9
                go_wp2_with fail
                go_roundw
                case rel =>
                  exact ⟨k + 1, n + 1, by omega, by go_num, by rw [HL.out, List.length_append, ← HN.out]; simp; omega, HQ10.out, HAP10.out, HM10.out, hA10, hR10, hB10⟩
                case measure => simp [intOf]; omega
            · obtain rfl : k = cnt := by omega
              have hdk : decide ((k : Int) < (k : Int)) = false := by simp
              have HQE := Lib.hid hq
              have HME := Lib.hid hM
              have HE := Lib.hid (show wyK L F ((px, py), d) k = foundN (openP L) (ax, ay) (i + 1) by
                rw [← HF.out]
                exact wyK_all HPI.out (by rw [HCN.out]; omega))
              rw [HE.out] at HQE HME hn2
              have HN2 := Lib.hid hn2
              have HNO2 := Lib.hid (show ∀ (j : Nat) (p : Pt × Nat), j < i + 1 → (foundN (openP L) (ax, ay) (i + 1))[j]? = some p → p.1 ≠ (hx, hy) from fun j p hj hp => by
                obtain ⟨G, hG⟩ := foundN_grows (pass := openP L) (s := (ax, ay)) i
                have hil : i < (foundN (openP L) (ax, ay) i).length := (List.getElem?_eq_some_iff.1 HPI.out).1
                rw [hG, List.getElem?_append_left (by omega)] at hp
                rcases Nat.lt_or_ge j i with h1 | h1
                · exact HNO.out j p h1 hp
                · obtain rfl : j = i := by omega
                  rw [HPI.out] at hp
                  simp only [Option.some.injEq] at hp
                  rw [← hp]
                  exact HDF.out)
              clear hq hM hn2 hap2 hA hR2
              go_wp2_with fail
              go_step3
              exact ⟨rfl, m - 1, by have := HIM.out; omega, intoJ (i + 1) n _ rfl ⟨by have := HIM.out; omega, by omega, HN2.out, HQE.out, HME.out, HNO2.out, hb⟩⟩
end Go.Proofs.Ytaeenkjbmlgcmaa
