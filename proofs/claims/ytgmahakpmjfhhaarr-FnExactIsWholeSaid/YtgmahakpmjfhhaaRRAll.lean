/- All cells of a lawn, as the model lists them. -/
import Derived.Test.YtgmahakpmjfhhaaRREach
import Derived.Test.YtgmahakpmjfhhaaRRAt
import Derived.Maps.AppendAt
namespace Go.Proofs.YtgmahakpmjfhhaaRR
open Go.RowKit
attribute [local go_sem ↓] loadRow loadGrid loadLawn loadMirror storeRow storeGrid storeLawn allocRow allocGrid allocLawn buildZero buildSides

/-- The cells of a list of cells, behind each other. -/
def flatV {W H : Nat} (l : List (Fin W × Fin H)) : List Value := l.flatMap fun c => [.int .i8 c.1.val, .int .i8 c.2.val]
theorem flatV_length {W H : Nat} (l : List (Fin W × Fin H)) : (flatV l).length = l.length * 2 := by
  induction l with
  | nil => rfl
  | cons a l ih => simp [flatV] at ih ⊢; omega
theorem flatV_append {W H : Nat} (l l' : List (Fin W × Fin H)) : flatV (l ++ l') = flatV l ++ flatV l' := by simp [flatV]
theorem flatV_get {W H : Nat} : ∀ (l : List (Fin W × Fin H)) (i : Nat) (c : Fin W × Fin H), l[i]? = some c → (flatV l)[i * 2]? = some (.int .i8 c.1.val) ∧ (flatV l)[i * 2 + 1]? = some (.int .i8 c.2.val)
  | [], i, c, h => by simp at h
  | a :: l, 0, c, h => by simp at h; subst h; exact ⟨rfl, rfl⟩
  | a :: l, i + 1, c, h => by
    have ih := flatV_get l i c (by simpa using h)
    simp only [flatV, List.flatMap_cons] at ih ⊢
    rw [show (i + 1) * 2 = i * 2 + 2 by omega, show i * 2 + 2 + 1 = i * 2 + 1 + 2 by omega]
    simpa using ih

theorem flatV_ints {W H : Nat} (l : List (Fin W × Fin H)) (n : Nat) (hn : l.length = n) : ∀ j, j < n * 2 → ∃ z, (flatV l)[j]? = some (.int .i8 z) := by
  intro j hj
  obtain ⟨c, hc⟩ : ∃ c, l[j / 2]? = some c := ⟨_, List.getElem?_eq_getElem (by omega)⟩
  obtain ⟨h1, h2⟩ := flatV_get _ _ _ hc
  rcases Nat.mod_two_eq_zero_or_one j with h | h
  · exact ⟨_, by rw [show j = j / 2 * 2 by omega]; exact h1⟩
  · exact ⟨_, by rw [show j = j / 2 * 2 + 1 by omega]; exact h2⟩

theorem cellInfo : (Try.prog.info? 35).map (fun i => (i.zero, i.size, i.bytes)) = some (some (.agg #[.int .i8 0, .int .i8 0]), 2, 2) := by kernel_rfl
theorem below_own {B : Nat} {w W W' : World} {e : TypeId} {size n : Nat} {v : Value} {xs : List Value} (h : Below B w W) (ho : W.ownsRow B e size v n xs) (hg : W.grownBy W' v.ownBlock) (hB : B ≤ W.heap.size) : Below B w W' := by
  refine h.grown hg hB fun k hk => ?_
  rcases ho.2 with ⟨rfl, -⟩ | ⟨g, cap, cur, rfl, hb, -⟩
  · simp [Value.ownBlock] at hk
  · simp only [Value.ownBlock, Option.some.injEq] at hk
    exact hk ▸ hb

set_option maxRecDepth 100000 in
set_option maxHeartbeats 1000000 in
theorem l01All_any (Wn Hn : Nat) (hW : Wn ≤ 10) (hH : Hn ≤ 10) (L : Lawn) (hLw : L.wide = Wn) (hLh : L.high = Hn) (b : Nat) (w : World) (h : Holds w b L.cells) :
    Calls Try.prog 113 #[.pointer (some ⟨b, 0, none⟩)] w fun e w' => ∃ v, e = .returned v ∧ w'.ownsRow w.heap.size 35 2 v (Hn * Wn) (flatV (allC Wn Hn)) ∧ Below w.heap.size w w' := by
  obtain ⟨i0, hi, hz0, hz1, hz2⟩ := info_parts cellInfo
  have c0 : ∀ w', Below w.heap.size w w' → w'.cell? ⟨b, 0, none⟩ = some (.int .i8 Wn) ∧ w'.cell? ⟨b, 1, none⟩ = some (.int .i8 Hn) := fun w' hb => by
    have := (h.below hb h.lt).cell
    rw [this, this, Lawn.cells_0, Lawn.cells_1, hLw, hLh]
    exact ⟨rfl, rfl⟩
  have HC := Lib.hid c0
  have HI := Lib.hid (show Try.prog.info? 35 = some i0 ∧ i0.zero = some (.agg #[.int .i8 0, .int .i8 0]) ∧ i0.size = 2 ∧ i0.bytes = 2 from ⟨hi, hz0, hz1, hz2⟩)
  clear c0 hi hz0 hz1 hz2 hLw hLh h
  go_enter Try.func113, Try.ntmps113
  go_wp2_with fail
  have hm : (w.alloc (.cells #[] 35)).ownsRow w.heap.size 35 2 (.slice (some ⟨w.heap.size, 0, none⟩) 0 0) 0 [] := World.ownsRow_made w #[] 0 (Nat.le_refl _) (by simp [maxLen]) rfl
  have hb0 := (Below.refl w.heap.size w).alloc (Nat.le_refl _) (.cells #[] 35)
  obtain ⟨W0, hW0⟩ : ∃ W0, w.alloc (.cells #[] 35) = W0 := ⟨_, rfl⟩
  rw [hW0] at hm hb0 ⊢
  clear hW0
  go_loopw [3, 4, 5] (fun v y _ wr => ∃ k : Nat, k ≤ Hn ∧ y = .int .i8 k ∧ wr.ownsRow w.heap.size 35 2 v (k * Wn) (flatV ((allC Wn Hn).take (k * Wn))) ∧ Below w.heap.size w wr) (fun _ y _ _ => Hn - (intOf y).toNat)
  case atStart => exact ⟨0, by omega, rfl, by simpa [flatV] using hm, hb0⟩
  case round =>
    obtain ⟨k, hk, rfl, ho, hb⟩ := hrel
    obtain ⟨c0, c1⟩ := HC.out _ hb
    have HO := Lib.hid ho
    clear ho hm hb0
    by_cases hlt : k < Hn
    · have hd : decide ((k : Int) < (Hn : Int)) = true := by simp; omega
      go_wp2_with fail
      clear c0 c1
      go_loopw [3, 5] (fun v x wi => ∃ j : Nat, j ≤ Wn ∧ x = .int .i8 j ∧ wi.ownsRow w.heap.size 35 2 v (k * Wn + j) (flatV ((allC Wn Hn).take (k * Wn + j))) ∧ Below w.heap.size w wi) (fun _ x _ => Wn - (intOf x).toNat)
      case atStart => exact ⟨0, by omega, rfl, HO.out, hb⟩
      case round =>
        obtain ⟨j, hj, rfl, hoi, hbi⟩ := hrel
        obtain ⟨c0, c1⟩ := HC.out _ hbi
        have HOI := Lib.hid hoi
        clear hoi
        by_cases hjt : j < Wn
        · have hdj : decide ((j : Int) < (Wn : Int)) = true := by simp; omega
          have hkw : k * Wn ≤ 90 := Nat.le_trans (Nat.mul_le_mul (show k ≤ 9 by omega) hW) (by omega)
          go_wp2_with (at_builtin; refine wpList_append_own _ rfl _ _ 42 rfl w.heap.size 35 i0 (.agg #[.int .i8 0, .int .i8 0]) 2 2 Try.underlying42 HI.out.1 HI.out.2.1 HI.out.2.2.1 HI.out.2.2.2 rfl (by decide) _ _ _ rfl (HOI.out.alloc _) ⟨wr.heap.size, 0, none⟩ 1 1 [.int .i8 j, .int .i8 k] rfl rfl ?c1 ?c2 ?c3 ?c4 ?c5 ?_)
          case c1 =>
            intro i u hu
            match i, hu with
            | 0, hu => simp at hu; subst hu; exact (Holds.new wr #[.int .i8 j, .int .i8 k] 35).cell 0
            | 1, hu => simp at hu; subst hu; exact (Holds.new wr #[.int .i8 j, .int .i8 k] 35).cell 1
          case c2 => intro u hu; simp at hu; rcases hu with rfl | rfl <;> rfl
          case c3 => unfold maxLen; omega
          case c4 => omega
          case c5 => have := hbi.size; simp; omega
          · intro v' w1 hown' hgrow _
            have hs : w.heap.size ≤ wr.heap.size := hbi.size
            have hb1 : Below w.heap.size w w1 := below_own (hbi.alloc hs _) (HOI.out.alloc _) hgrow (by simp; omega)
            have ho1 : w1.ownsRow w.heap.size 35 2 v' (k * Wn + (j + 1)) (flatV ((allC Wn Hn).take (k * Wn + (j + 1)))) := by
              rw [← Nat.add_assoc, allC_take Wn Hn k j hjt hlt, flatV_append]
              exact hown'
            have HO1 := Lib.hid ho1
            clear hown' hgrow ho1 c0 c1
            go_wp2_with fail
            go_roundw
            case rel => exact ⟨j + 1, by omega, by go_num, HO1.out, hb1⟩
            case measure => simp [intOf]; omega
        · have hdj : decide ((j : Int) < (Wn : Int)) = false := by simp; omega
          go_wp2_with fail
          go_roundw
          case rel => exact ⟨k + 1, by omega, by go_num, by rw [Nat.add_mul, Nat.one_mul]; rw [show j = Wn by omega] at HOI; exact HOI.out, hbi⟩
          case measure => simp [intOf]; omega
    · have hd : decide ((k : Int) < (Hn : Int)) = false := by simp; omega
      go_wp2_with fail
      go_ret
      obtain rfl : k = Hn := by omega
      refine ⟨_, rfl, ?_, hb⟩
      have := HO.out
      rwa [List.take_of_length_le (by rw [allC_length]; omega)] at this

theorem own_cell {w : World} {B : Nat} {e : TypeId} {size n g cap : Nat} {xs : List Value} (h : w.ownsRow B e size (.slice (some ⟨g, 0, none⟩) n cap) n xs) (i : Nat) (u : Value) (hu : xs[i]? = some u) : w.cell? ⟨g, i, none⟩ = some u := by
  rcases h.2 with ⟨h0, -⟩ | ⟨g', cap', cur, he, hb, hg, hn, hm, hs, ht⟩
  · simp at h0
  · simp only [Value.slice.injEq, Option.some.injEq, Addr.mk.injEq] at he
    obtain ⟨⟨rfl, -⟩, -, rfl⟩ := he
    have hlt : i < xs.length := (List.getElem?_eq_some_iff.1 hu).1
    rw [← ht] at hu
    simp only [World.cell?, hg]
    rw [List.getElem?_take] at hu
    split at hu
    · simpa using hu
    · cases hu
theorem own_form {w : World} {B : Nat} {e : TypeId} {size n : Nat} {v : Value} {xs : List Value} (h : w.ownsRow B e size v n xs) (hn : 0 < n) : ∃ g cap, v = .slice (some ⟨g, 0, none⟩) n cap ∧ B ≤ g ∧ g < w.heap.size := by
  rcases h.2 with ⟨-, h0⟩ | ⟨g, cap, cur, he, hb, hg, -⟩
  · omega
  · exact ⟨g, cap, he, hb, (Array.getElem?_eq_some_iff.1 hg).1⟩

/-- The cells of a kind. -/
def ofKind (L : Lawn) (W H : Nat) (K : Int) : List (Fin W × Fin H) := (allC W H).filter fun c => L.kind c.2 c.1 == K
def ofKindTo (L : Lawn) (W H : Nat) (K : Int) (i : Nat) : List (Fin W × Fin H) := ((allC W H).take i).filter fun c => L.kind c.2 c.1 == K

theorem ofKindTo_hit {L : Lawn} {W H : Nat} {K : Int} {i : Nat} {c : Fin W × Fin H} (hc : (allC W H)[i]? = some c) (hk : L.kind c.2 c.1 = K) : ofKindTo L W H K (i + 1) = ofKindTo L W H K i ++ [c] := by
  unfold ofKindTo
  rw [List.take_add_one, hc]
  simp [hk]
theorem ofKindTo_miss {L : Lawn} {W H : Nat} {K : Int} {i : Nat} {c : Fin W × Fin H} (hc : (allC W H)[i]? = some c) (hk : ¬ L.kind c.2 c.1 = K) : ofKindTo L W H K (i + 1) = ofKindTo L W H K i := by
  unfold ofKindTo
  rw [List.take_add_one, hc]
  simp [hk]
theorem ofKindTo_le (L : Lawn) (W H : Nat) (K : Int) (i : Nat) : (ofKindTo L W H K i).length ≤ i := by
  unfold ofKindTo
  refine Nat.le_trans (List.length_filter_le _ _) ?_
  simp; omega

set_option maxRecDepth 100000 in
set_option maxHeartbeats 1000000 in
theorem l01Cells_any (Wn Hn : Nat) (hW : Wn ≤ 10) (hH : Hn ≤ 10) (hW1 : 1 ≤ Wn) (hH1 : 1 ≤ Hn) (L : Lawn) (hL : L.Fits) (hLw : L.wide = Wn) (hLh : L.high = Hn) (K : Int) (b : Nat) (w : World) (h : Holds w b L.cells) :
    Calls Try.prog 107 #[.pointer (some ⟨b, 0, none⟩), .int .i64 K] w fun e w' => ∃ v, e = .returned v ∧ w'.ownsRow w.heap.size 35 2 v (ofKind L Wn Hn K).length (flatV (ofKind L Wn Hn K)) ∧ Below w.heap.size w w' := by
  obtain ⟨i0, hi, hz0, hz1, hz2⟩ := info_parts cellInfo
  have HI := Lib.hid (show Try.prog.info? 35 = some i0 ∧ i0.zero = some (.agg #[.int .i8 0, .int .i8 0]) ∧ i0.size = 2 ∧ i0.bytes = 2 from ⟨hi, hz0, hz1, hz2⟩)
  have HH := Lib.hid h
  have HL := Lib.hid hL
  clear hi hz0 hz1 hz2 hL
  go_enter Try.func107, Try.ntmps107
  go_wp2_with fail
  have hm : (w.alloc (.cells #[] 35)).ownsRow w.heap.size 35 2 (.slice (some ⟨w.heap.size, 0, none⟩) 0 0) 0 [] := World.ownsRow_made w #[] 0 (Nat.le_refl _) (by simp [maxLen]) rfl
  have hb0 := (Below.refl w.heap.size w).alloc (Nat.le_refl _) (.cells #[] 35)
  have hs0 : w.heap.size < (w.alloc (.cells #[] 35)).heap.size := by simp
  obtain ⟨W0, hW0⟩ : ∃ W0, w.alloc (.cells #[] 35) = W0 := ⟨_, rfl⟩
  rw [hW0] at hm hb0 hs0 ⊢
  clear hW0
  refine (l01All_any Wn Hn hW hH L hLw hLh b W0 (h.below hb0 h.lt)).mono ?_
  rintro e w1 ⟨vA, rfl, hoA, hb1⟩
  clear h hLw hLh
  have hn : 0 < Hn * Wn := Nat.mul_pos (by omega) (by omega)
  have hn1 : Hn * Wn ≤ 100 := Nat.le_trans (Nat.mul_le_mul hH hW) (by omega)
  obtain ⟨g, cap, rfl, hg0, hg1⟩ := own_form hoA hn
  have hb2 : Below w.heap.size w w1 := hb0.trans (hb1.mono (by omega))
  have hm1 : w1.ownsRow w.heap.size 35 2 (.slice (some ⟨w.heap.size, 0, none⟩) 0 0) 0 [] := hm.kept (row := none) ⟨hb1.os, hb1.tape, hb1.output, hb1.size, fun k hk _ => hb1.block k hk⟩ (by simp [Value.ownBlock])
  clear hm hb0 hb1
  obtain ⟨N, hN⟩ : ∃ N, Hn * Wn = N := ⟨_, rfl⟩
  have hall : (allC Wn Hn).length = N := by rw [allC_length, hN]
  rw [hN] at hoA hn hn1 ⊢
  have HA := Lib.hid hall
  clear hN hall
  go_wp2_with fail
  have hs0' : w.heap.size ≤ g := by omega
  have hne : w.heap.size ≠ g := by omega
  go_loopw [5, 7] (fun v x wr => ∃ i : Nat, i ≤ N ∧ x = .int .i64 i ∧ wr.ownsRow w.heap.size 35 2 v (ofKindTo L Wn Hn K i).length (flatV (ofKindTo L Wn Hn K i)) ∧ wr.ownsRow W0.heap.size 35 2 (.slice (some ⟨g, 0, none⟩) N cap) N (flatV (allC Wn Hn)) ∧ v.ownBlock ≠ some g ∧ g < wr.heap.size ∧ Below w.heap.size w wr) (fun _ x _ => N - (intOf x).toNat)
  case atStart => exact ⟨0, by omega, rfl, by simpa [ofKindTo, flatV] using hm1, hoA, by simp [Value.ownBlock]; exact hne, hg1, hb2⟩
  case round =>
    obtain ⟨i, hi, rfl, ho, hA, hv, hg, hb⟩ := hrel
    have HO := Lib.hid ho
    have HAo := Lib.hid hA
    have HV := Lib.hid hv
    clear ho hA hv hm1 hoA hb2
    by_cases hlt : i < N
    · have hd : decide ((i : Int) < (N : Int)) = true := by simp; omega
      obtain ⟨c, hc⟩ : ∃ c, (allC Wn Hn)[i]? = some c := ⟨_, List.getElem?_eq_getElem (by rw [HA.out]; exact hlt)⟩
      have HC := Lib.hid hc
      obtain ⟨ca, cb⟩ := flatV_get _ _ _ hc
      have ca := own_cell HAo.out _ _ ca
      have cb := own_cell HAo.out _ _ cb
      clear hc
      go_wp2_with fail
      refine (at_any L HL.out b c.1.val c.2.val (by have := c.1.isLt; omega) (by have := c.2.isLt; omega) _ (HH.out.below hb HH.out.lt)).mono ?_
      rintro e w2 ⟨rfl, hb3⟩
      have hb4 : Below w.heap.size w w2 := below_onto hb hb3
      have hk3 : wr.grownBy w2 none := ⟨hb3.os, hb3.tape, hb3.output, hb3.size, fun k hk _ => hb3.block k hk⟩
      have HO2 := Lib.hid (HO.out.kept hk3 (by cases hx : Value.ownBlock _ <;> simp))
      have HA2 := Lib.hid (HAo.out.kept hk3 (by simp [Value.ownBlock]))
      have hg2 : g < w2.heap.size := Nat.lt_of_lt_of_le hg hb3.size
      clear hk3 hb3 hb ca cb
      by_cases hk : L.kind c.2.val c.1.val = K
      · have hkd : ((L.kind c.2.val c.1.val : Int) == K) = true := by simp [hk]
        have HK := Lib.hid hk
        obtain ⟨ca, cb⟩ := flatV_get _ _ _ HC.out
        have ca := own_cell HA2.out _ _ ca
        have cb := own_cell HA2.out _ _ cb
        have hle := ofKindTo_le L Wn Hn K i
        clear hk
        go_wp2_with (at_builtin; refine wpList_append_own_at _ rfl _ _ 42 rfl w.heap.size 35 i0 (.agg #[.int .i8 0, .int .i8 0]) 2 2 Try.underlying42 HI.out.1 HI.out.2.1 HI.out.2.2.1 HI.out.2.2.2 rfl (by decide) _ _ _ rfl (HO2.out.alloc _) ⟨w2.heap.size, 0, none⟩ 1 1 [.int .i8 c.1.val, .int .i8 c.2.val] rfl rfl ?c1 ?c2 ?c3 ?c4 ?c5 ?_)
        case c1 =>
          intro m u hu
          match m, hu with
          | 0, hu => simp at hu; subst hu; exact (Holds.new w2 #[.int .i8 c.1.val, .int .i8 c.2.val] 35).cell 0
          | 1, hu => simp at hu; subst hu; exact (Holds.new w2 #[.int .i8 c.1.val, .int .i8 c.2.val] 35).cell 1
        case c2 => intro u hu; simp at hu; rcases hu with rfl | rfl <;> rfl
        case c3 => unfold maxLen; omega
        case c4 => omega
        case c5 => have := hb4.size; simp; omega
        · intro v' w3 hown' hgrow _ hat
          have hs : w.heap.size ≤ w2.heap.size := hb4.size
          have hb5 : Below w.heap.size w w3 := below_own (hb4.alloc hs _) (HO2.out.alloc _) hgrow (by simp; omega)
          have ho3 : w3.ownsRow w.heap.size 35 2 v' (ofKindTo L Wn Hn K (i + 1)).length (flatV (ofKindTo L Wn Hn K (i + 1))) := by
            rw [ofKindTo_hit HC.out HK.out, flatV_append, List.length_append]
            exact hown'
          have hA3 : w3.ownsRow W0.heap.size 35 2 (.slice (some ⟨g, 0, none⟩) N cap) N (flatV (allC Wn Hn)) := (HA2.out.alloc _).kept hgrow (.inr (Ne.symm HV.out))
          have hv3 : v'.ownBlock ≠ some g := by
            rcases hat with h | h
            · rw [h]; exact HV.out
            · rw [h]; simp; omega
          have hg3 : g < w3.heap.size := Nat.lt_of_lt_of_le (by simp; omega) hgrow.size
          have HO3 := Lib.hid ho3
          have HA3 := Lib.hid hA3
          have HV3 := Lib.hid hv3
          clear hown' hgrow ho3 hA3 hv3 hat ca cb hb4
          go_wp2_with fail
          go_roundw
          case rel => exact ⟨i + 1, by omega, by go_num, HO3.out, HA3.out, HV3.out, hg3, hb5⟩
          case measure => simp [intOf]; omega
      · have hkd : ((L.kind c.2.val c.1.val : Int) == K) = false := by simp [hk]
        have ho3 := ofKindTo_miss (L := L) (K := K) HC.out hk
        rw [← ho3] at HO2
        have HO3 := HO2
        clear ho3 HO2 hk
        go_wp2_with fail
        go_roundw
        case rel => exact ⟨i + 1, by omega, by go_num, HO3.out, HA2.out, HV.out, hg2, hb4⟩
        case measure => simp [intOf]; omega
    · have hd : decide ((i : Int) < (N : Int)) = false := by simp; omega
      go_wp2_with fail
      go_ret
      refine ⟨_, rfl, ?_, hb⟩
      have := HO.out
      unfold ofKindTo at this
      rwa [List.take_of_length_le (by rw [HA.out]; omega)] at this
end Go.Proofs.YtgmahakpmjfhhaaRR
