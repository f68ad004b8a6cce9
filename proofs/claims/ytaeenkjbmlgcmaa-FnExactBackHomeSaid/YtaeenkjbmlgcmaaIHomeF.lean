/- HomeFrom, of the program. -/
import Derived.Test.YtaeenkjbmlgcmaaISearch
import Derived.Test.YtaeenkjbmlgcmaaChkO2
namespace Go.Proofs.Ytaeenkjbmlgcmaa
open Go.RowKit
set_option linter.unusedVariables false
set_option linter.unusedSimpArgs false

theorem mowA_ones (L : Lawn) : Ones (mowA L) = true := by
  refine of_ones fun v hv => ?_
  unfold mowA at hv
  rw [Array.toList_push, List.mem_append] at hv
  rcases hv with hv | hv
  · exact ones_of (Lawn.cells_ones L) _ hv
  · simp at hv; subst hv; rfl
section
variable {ρ : Operand → Value} {w : World} {dst : Option Tmp} {x y z : Operand} {t : TypeId} {pos : String} {aft : Array Edge} {g : Option (Nat × Bool)}
set_option maxRecDepth 100000 in
theorem storeMow : (execOp ρ ⟨dst, .store 95 x y, t, pos, aft, g⟩).run Try.prog w = opStore Try.prog 95 103 (ρ x) (ρ y) w := rfl
set_option maxRecDepth 100000 in
theorem allocMow : (execOp ρ ⟨dst, .alloc 95, t, pos, aft, g⟩).run Try.prog w = .ok (.value (.pointer (some ⟨w.heap.size, 0, none⟩))) (w.alloc (.cells (mowA ⟨0, 0, fun _ _ => 0⟩) 95)) := by kernel_rfl
set_option maxRecDepth 100000 in
theorem buildMow : (execOp ρ ⟨dst, .build 95 #[(0, x)], t, pos, aft, g⟩).run Try.prog w = opBuild Try.prog 95 #[(0, ρ x)] w := by kernel_rfl
end
set_option maxRecDepth 100000 in
theorem buildMow_at (L : Lawn) (w : World) : opBuild Try.prog 95 #[(0, .agg L.cells)] w = .ok (.value (.agg (mowA L))) w := opBuild_of (by kernel_rfl) w
theorem mowA_splice (L L' : Lawn) : splice (mowA L') 0 (mowA L) = mowA L := splice_all _ _ (by rw [mowA_size, mowA_size])
theorem mowA_all (L : Lawn) : (mowA L).extract 0 103 = mowA L := by
  rw [show (103 : Nat) = (mowA L).size from (mowA_size L).symm, Array.extract_size]

/-- The code that both sides answer, and the way. -/
def homeC (L : Lawn) (x y hx hy : Int) : Int := if openC L x y hx hy = 0 then (if homeD L (hx, hy) (x, y) < 0 then 6 else 0) else openC L x y hx hy
def homeA (L : Lawn) (x y hx hy : Int) : ByteArray := if homeC L x y hx hy = 0 then homeS L (x, y) (hx, hy) else ⟨#[]⟩
theorem srch_home {L : Lawn} (hv : validB L = true) {a h : Pt} (ha : openP L a = true) (hh : openP L h = true) : srchV (foundN (openP L) a 100) h = if homeD L h a < 0 then .tuple #[.string ⟨#[]⟩, .bool false] else .tuple #[.string (homeS L a h), .bool true] := by
  unfold srchV
  by_cases hd : homeD L h a < 0
  · rw [if_pos hd, waysOf_none hv hh ha hd]
    rfl
  · have hd2 : homeD L h a = ((homeD L h a).toNat : Int) := by omega
    rw [if_neg hd, waysOf_home hv hh ha hd2]
    rfl

attribute [local go_sem ↓] loadRow loadGrid loadLawn loadMirror storeRow storeGrid storeLawn allocRow allocGrid allocLawn buildZero buildSides loadMow storeMow allocMow buildMow
attribute [local go_sem] mowA_size mowA_ones mowA_splice mowA_all buildMow_at
set_option maxRecDepth 100000 in
set_option maxHeartbeats 2000000 in
theorem implHomeF_any (L : Lawn) (hL : L.Fits) (x y hx hy : Int) (w : World) :
    Calls Try.prog 22 #[.agg L.cells, .agg #[.int .i8 x, .int .i8 y], .agg #[.int .i8 hx, .int .i8 hy]] w fun e w' => e = .returned (.tuple #[.string (homeA L x y hx hy), .int .i64 (homeC L x y hx hy)]) ∧ Below w.heap.size w w' := by
  have HCK := Lib.hid (fun (g : Nat) (w : World) (h : Holds w g #[.int .i8 x, .int .i8 y, .int .i8 hx, .int .i8 hy]) => checkOpen_two L hL x y hx hy g w h)
  have HL := Lib.hid hL
  obtain ⟨c, hc⟩ : ∃ c, openC L x y hx hy = c := ⟨_, rfl⟩
  have HC := Lib.hid hc
  rw [hc] at HCK
  have HHC := Lib.hid (show homeC L x y hx hy = if c = 0 then (if homeD L (hx, hy) (x, y) < 0 then 6 else 0) else c by rw [← hc]; rfl)
  have HHA := Lib.hid (show homeA L x y hx hy = if homeC L x y hx hy = 0 then homeS L (x, y) (hx, hy) else ⟨#[]⟩ from rfl)
  obtain ⟨hcv, e1⟩ : ∃ v, homeC L x y hx hy = v := ⟨_, rfl⟩
  obtain ⟨hav, e2⟩ : ∃ v, homeA L x y hx hy = v := ⟨_, rfl⟩
  rw [e1] at HHC HHA ⊢
  rw [e2] at HHA ⊢
  clear hc e1 e2 hL
  obtain ⟨s, hs⟩ : ∃ s, w.heap.size = s := ⟨_, rfl⟩
  obtain ⟨W0, hW0⟩ : ∃ W0, (((w.alloc (.cells L.cells 29)).alloc (.cells #[.int .i8 x, .int .i8 y] 37)).alloc (.cells #[.int .i8 hx, .int .i8 hy] 37)).alloc (.cells #[.int .i8 x, .int .i8 y, .int .i8 hx, .int .i8 hy] 37) = W0 := ⟨_, rfl⟩
  have g0 : Holds W0 s L.cells := by rw [← hW0, ← hs]; exact (((Holds.new _ _ _).alloc _).alloc _).alloc _
  have g1 : Holds W0 (s + 1) #[.int .i8 x, .int .i8 y] := by rw [← hW0, ← hs]; exact ((Holds.new' _ _ _ _ (by simp)).alloc _).alloc _
  have g2 : Holds W0 (s + 1 + 1) #[.int .i8 hx, .int .i8 hy] := by rw [← hW0, ← hs]; exact (Holds.new' _ _ _ _ (by simp)).alloc _
  have g3 : Holds W0 (s + 1 + 1 + 1) #[.int .i8 x, .int .i8 y, .int .i8 hx, .int .i8 hy] := by rw [← hW0, ← hs]; exact Holds.new' _ _ _ _ (by simp)
  have hb0 : Below s w W0 := by rw [← hW0, ← hs]; exact ((((Below.refl w.heap.size w).alloc (Nat.le_refl _) _).alloc (by simp) _).alloc (by simp; omega) _).alloc (by simp; omega) _
  have HG := Lib.hid (And.intro g0 (And.intro g1 (And.intro g2 (And.intro g3 hb0))))
  rw [hs]
  clear g0 g1 g2 g3 hb0
  go_enter Try.func22, Try.ntmps22
  go_wp2_with fail
  refine (HCK.out _ _ HG.out.2.2.2.1).mono ?_
  rintro e w1 ⟨rfl, hb1⟩
  have q0 := HG.out.1.below hb1 HG.out.1.lt
  have q1 := HG.out.2.1.below hb1 HG.out.2.1.lt
  have q2 := HG.out.2.2.1.below hb1 HG.out.2.2.1.lt
  have qb := HG.out.2.2.2.2.trans (hb1.mono (by have := HG.out.1.lt; omega))
  clear hb1 HG hW0
  by_cases hc0 : c = 0
  case neg =>
    have hcn : (c == 0) = false := by simpa using hc0
    have HE := Lib.hid (show hcv = c by rw [HHC.out, if_neg hc0])
    have HE2 := Lib.hid (show hav = ⟨#[]⟩ by rw [HHA.out, HE.out, if_neg hc0])
    clear hc0
    go_wp2_with fail
    go_ret2
    exact ⟨by rw [HE2.out, HE.out]; rfl, qb⟩
  case pos =>
    subst hc0
    obtain ⟨hV, ⟨hI, hI2⟩, hO, hO2⟩ := openC_zero HC.out
    have HS := Lib.hid (fun (w : World) (hg : Holds w (s + 1 + 1) #[.int .i8 hx, .int .i8 hy]) => search_any L HL.out hV (x, y) (hx, hy) hO (s + 1 + 1) w hg)
    have hsr := srch_home hV (show openP L (x, y) = true from hO) (show openP L (hx, hy) = true from hO2)
    rw [hsr] at HS
    have HCO := Lib.hid (fun w => come_any L x y w)
    obtain ⟨r0, -⟩ := q0.facts
    obtain ⟨-, -, d1, -⟩ := q1.facts
    clear hsr hI hI2
    have k3 := Holds.new w1 (mowA L) 95
    have k1 := q1.alloc (.cells (mowA L) 95)
    have k2 := q2.alloc (.cells (mowA L) 95)
    have kb := qb.alloc (by have := q0.lt; omega) (.cells (mowA L) 95)
    obtain ⟨nb, hnb⟩ : ∃ nb, w1.heap.size = nb := ⟨_, rfl⟩
    obtain ⟨W2, hW2⟩ : ∃ W, w1.alloc (.cells (mowA L) 95) = W := ⟨_, rfl⟩
    rw [hnb] at k3
    rw [hW2] at k1 k2 k3 kb
    have hz : W2.heap.size = nb + 1 := by rw [← hW2, ← hnb]; simp
    obtain ⟨l0, -⟩ := k3.later
    obtain ⟨-, l1⟩ := k1.later
    have K2 := Lib.hid k2
    have KB := Lib.hid kb
    have hsn : s < nb := by rw [← hnb]; exact q0.lt
    clear q0 q1 q2 qb k2 kb k3 k1
    obtain ⟨n, hn⟩ : ∃ n, homeD L (hx, hy) (x, y) = n := ⟨_, rfl⟩
    obtain ⟨hsv, hhsv⟩ : ∃ v, homeS L (x, y) (hx, hy) = v := ⟨_, rfl⟩
    rw [hn, hhsv] at HS
    rw [hn] at HHC
    rw [hhsv] at HHA
    have HAN := Lib.hid (show (if n < 0 then Value.tuple #[.string ⟨#[]⟩, .bool false] else .tuple #[.string hsv, .bool true]) = .tuple #[.string hav, .bool (decide (0 ≤ n))] ∧ (0 ≤ n → hcv = 0) ∧ (n < 0 → hcv = 6 ∧ hav = ⟨#[]⟩) by
      have h1 := HHC.out
      have h2 := HHA.out
      simp only [if_true] at h1
      by_cases h0 : n < 0
      · rw [if_pos h0] at h1
        subst h1
        rw [if_neg (by decide)] at h2
        rw [if_pos h0, h2, decide_eq_false (by omega)]
        exact ⟨rfl, fun h => by omega, fun _ => ⟨rfl, rfl⟩⟩
      · rw [if_neg h0] at h1
        subst h1
        rw [if_pos rfl] at h2
        rw [if_neg h0, h2, decide_eq_true (by omega)]
        exact ⟨rfl, fun _ => rfl, fun h => by omega⟩)
    rw [HAN.out.1] at HS
    have HN := Lib.hid HAN.out.2
    clear HHC HHA hn hhsv HAN hV hO hO2 HC HCK
    obtain ⟨fb, hfb⟩ : ∃ b, decide (0 ≤ n) = b := ⟨_, rfl⟩
    have HFB := Lib.hid hfb
    rw [hfb] at HS
    clear hfb
    go_wp2_with fail
    refine wp_region_grow 11 (by kernel_rfl) (by kernel_rfl) ?_
    simp only [List.take_succ_cons, List.take_zero, List.drop_succ_cons, List.drop_zero]
    iterate 11
      apply wpGrow_plain rfl
      · intro w' hw' K hK
        have e0 := l0 _ hw'
        have e1 := l1 _ hw'
        go_wp2_with (first | (go_at_call 65; refine (HCO.out _).mono ?_; rintro e w5 ⟨rfl, hb5⟩) | (go_at_call 64; refine (HS.out _ (K2.out.below hw' K2.out.lt)).mono ?_; rintro e w5 ⟨rfl, hb5⟩))
        first | exact hK _ _ rfl hw' | exact hK _ _ rfl (below_onto hw' hb5)
      simp only [Act.put, List.setIfInBounds_toArray, List.set_cons_succ, List.set_cons_zero]
    refine wpGrow_nil ?_
    intro W3 hW3
    have mb := KB.out.trans (hW3.mono (by omega))
    clear hW3 l0 l1 hW2 hnb
    cases fb
    case false =>
      have HF := Lib.hid (HN.out.2 (by have := of_decide_eq_false HFB.out; omega))
      go_wp2_with fail
      go_ret2
      exact ⟨by rw [HF.out.1, HF.out.2]; rfl, mb⟩
    case true =>
      have HF := Lib.hid (HN.out.1 (of_decide_eq_true HFB.out))
      go_wp2_with fail
      go_ret2
      exact ⟨by rw [HF.out]; rfl, mb⟩
end Go.Proofs.Ytaeenkjbmlgcmaa
