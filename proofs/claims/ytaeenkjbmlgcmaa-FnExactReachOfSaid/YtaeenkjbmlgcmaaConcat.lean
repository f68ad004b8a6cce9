/- slices.Grow of nothing and slices.Concat of two rows of cells, of the program. -/
import Derived.Test.YtaeenkjbmlgcmaaSortOwn
import Derived.Test.YtaeenkjbmlgcmaaCollectC
import Derived.Lib.AppendZerosOnto
namespace Go.Proofs.Ytaeenkjbmlgcmaa
open Go.RowKit
set_option linter.unusedVariables false
set_option linter.unusedSimpArgs false
attribute [local go_sem ↓] loadRow loadGrid loadLawn loadMirror storeRow storeGrid storeLawn allocRow allocGrid allocLawn buildZero buildSides

set_option maxRecDepth 100000 in
set_option maxHeartbeats 1000000 in
theorem growNil_any (n : Nat) (h1 : 1 ≤ n) (h2 : n ≤ 2000000) (w : World) :
    Calls Try.prog 143 #[.slice none 0 0, .int .i64 n] w fun e w' =>
      (∃ v, e = .returned v ∧ w'.ownsRow w.heap.size 37 2 v 0 []) ∧ Below w.heap.size w w' := by
  obtain ⟨ci, hi, hz0, hz1, hz2⟩ := info_parts cellInfo
  have hbb : Try.t37.bytes = 2 := rfl
  have h48i : ¬ (281474976710656 < (n : Int) * (Try.t37.bytes : Int)) := by rw [hbb]; omega
  have h48' : ¬ (281474976710656 < Builtin.nextslicecap n 0 * Try.t37.bytes) := by rw [hbb]; unfold Builtin.nextslicecap; split <;> omega
  have hn0 : ¬ (n = 0) := by omega
  have hn2 : ¬ (n * 2 = 0) := by omega
  have h63 : ¬ (9223372036854775807 < (n : Int)) := by omega
  have hng : ¬ ((n : Int) < 0) := by omega
  obtain ⟨G, hG⟩ : ∃ G, (Question.appendCap n 0 37).cut (w.tape w.drawn (Question.appendCap n 0 37)) = G := ⟨_, rfl⟩
  have hG0 : grownCap w n 0 37 = G := hG
  have hG1 : n ≤ G := by rw [← hG0]; exact grownCap_ge w _ _ _
  have hG2 : G ≤ maxLen := by rw [← hG0]; exact grownCap_le_maxLen w n 0 _ (by unfold maxLen; omega)
  have hG63 : G ≤ 9223372036854775807 := by unfold maxLen at hG2; omega
  obtain ⟨cs, hcs⟩ : ∃ cs, Builtin.zeroCells #[Value.int IntKind.i8 0, Value.int IntKind.i8 0] n ++ Builtin.zeroCells #[Value.int IntKind.i8 0, Value.int IntKind.i8 0] (G - n) = cs := ⟨_, rfl⟩
  have hsz : cs.size = G * 2 := by
    rw [← hcs]
    simp [Builtin.zeroCells]
    omega
  have hd1 : decide ((n : Int) < 0) = false := decide_eq_false (by omega)
  have hd2 : decide (0 < n) = true := decide_eq_true (by omega)
  have hw : wrap64 ((n : Int) - 0) = n := by unfold wrap64; omega
  have HCS := Lib.hid hcs
  have HSZ := Lib.hid hsz
  have HG2 := Lib.hid hG2
  clear hi hz0 hz1 hz2 hbb hG0 hcs hsz hG2
  go_enter Try.func143, Try.ntmps143
  go_wp2_with fail
  go_ret
  refine ⟨⟨_, rfl, by simp, .inr ⟨w.heap.size, G, cs, rfl, Nat.le_refl _, ?_, by omega, HG2.out, HSZ.out, by simp⟩⟩, ((Below.refl _ _).alloc (Nat.le_refl _) _).drew⟩
  rw [HCS.out]
  exact heap_alloc_new w _

/-- A row of cells that lay there. -/
def RowP (w : World) (v : Value) (l : List Pt) : Prop := (l = [] ∧ v = .slice none 0 0) ∨ ∃ g c, v = .slice (some ⟨g, 0, none⟩) l.length c ∧ g < w.heap.size ∧ ∀ w', Below w.heap.size w w' → ∀ (i : Nat) u, (flatP l)[i]? = some u → w'.cell? ⟨g, i, none⟩ = some u
theorem RowP.below {w w' : World} {v : Value} {l : List Pt} (h : RowP w v l) (hb : Below w.heap.size w w') : RowP w' v l := by
  rcases h with h | ⟨g, c, h1, h2, h3⟩
  · exact .inl h
  · exact .inr ⟨g, c, h1, Nat.lt_of_lt_of_le h2 hb.size, fun w2 h4 => h3 w2 (below_onto hb h4)⟩
theorem RowP.slice {w : World} {v : Value} {l : List Pt} (h : RowP w v l) : ∃ a c, v = .slice a l.length c := by
  rcases h with ⟨rfl, rfl⟩ | ⟨g, c, h1, -⟩
  · exact ⟨_, _, rfl⟩
  · exact ⟨_, _, h1⟩

set_option maxRecDepth 100000 in
set_option maxHeartbeats 2000000 in
theorem concat_two (l1 l2 : List Pt) (h1 : 1 ≤ l1.length) (h2 : l1.length + l2.length ≤ 1048577) (v1 v2 : Value) (g cap : Nat) (w : World) (hr : Holds w g #[v1, v2]) (hv1 : RowP w v1 l1) (hv2 : RowP w v2 l2) :
    Calls Try.prog 113 #[.slice (some ⟨g, 0, none⟩) 2 cap] w fun e w' => (∃ v, e = .returned v ∧ w'.ownsRow w.heap.size 37 2 v (l1.length + l2.length) (flatP (l1 ++ l2))) ∧ Below w.heap.size w w' := by
  obtain ⟨ci, hi, hz0, hz1, hz2⟩ := info_parts cellInfo
  have HCI := Lib.hid (show Try.prog.info? 37 = some ci ∧ ci.zero = some (.agg #[.int .i8 0, .int .i8 0]) ∧ ci.size = 2 ∧ ci.bytes = 2 from ⟨hi, hz0, hz1, hz2⟩)
  obtain ⟨a1, c1, e1⟩ := hv1.slice
  obtain ⟨a2, c2, e2⟩ := hv2.slice
  have HV1 := Lib.hid hv1
  have HV2 := Lib.hid hv2
  have HF1 := Lib.hid (flatP_len l1)
  have HF2 := Lib.hid (flatP_len l2)
  obtain ⟨n1, hn1⟩ : ∃ n, l1.length = n := ⟨_, rfl⟩
  obtain ⟨n2, hn2⟩ : ∃ n, l2.length = n := ⟨_, rfl⟩
  rw [hn1] at h1 h2 e1 HF1 ⊢
  rw [hn2] at h2 e2 HF2 ⊢
  have HN1 := Lib.hid hn1
  have HN2 := Lib.hid hn2
  subst e1 e2
  have HGR := Lib.hid (fun w => growNil_any (n1 + n2) (by omega) (by omega) w)
  have hw1 : wrap64 ((n1 : Int) + (n2 : Int)) = (n1 : Int) + n2 := by unfold wrap64; omega
  have hw0 : wrap64 ((0 : Int) + (n1 : Int)) = (n1 : Int) := by unfold wrap64; omega
  have hd1 : decide ((n1 : Int) < 0) = false := decide_eq_false (by omega)
  have hd2 : decide ((n1 : Int) + n2 < 0) = false := decide_eq_false (by omega)
  have q0 : w.cell? ⟨g, 0, none⟩ = some (.slice a1 n1 c1) := hr.cell 0
  have q1 : w.cell? ⟨g, 1, none⟩ = some (.slice a2 n2 c2) := hr.cell 1
  have hgl := hr.lt
  obtain ⟨B, hB⟩ : ∃ B, w.heap.size = B := ⟨_, rfl⟩
  rw [hB]
  have HB := Lib.hid hB
  clear hB hi hz0 hz1 hz2 hv1 hv2 hn1 hn2
  go_enter Try.func113, Try.ntmps113
  go_wp2_with fail
  go_loopw [3, 5, 11] (fun z _ i wr => wr = w ∧ ∃ k : Nat, k ≤ 2 ∧ i = .int .i64 k ∧ z = .int .i64 (if k = 0 then 0 else if k = 1 then (n1 : Int) else (n1 : Int) + n2)) (fun _ _ i _ => 2 - (intOf i).toNat)
  case atStart => exact ⟨rfl, 0, by omega, rfl, rfl⟩
  case round =>
    obtain ⟨hwr, k, hk, rfl, rfl⟩ := hrel
    rw [hwr]
    clear hwr wr
    rcases (by omega : k = 0 ∨ k = 1 ∨ k = 2) with rfl | rfl | rfl
    · simp only [if_true]
      go_wp2_with fail
      go_roundw
      case rel => exact ⟨trivial, 1, by omega, by go_num, rfl⟩
      case measure => simp [intOf]
    · simp only [Nat.one_ne_zero, if_false, if_true]
      go_wp2_with fail
      go_roundw
      case rel => exact ⟨trivial, 2, by omega, by go_num, rfl⟩
      case measure => simp [intOf]
    · simp only [show ¬ (2 = 0) by omega, show ¬ (2 = 1) by omega, if_false]
      have hcast : ((n1 : Int) + n2) = ((n1 + n2 : Nat) : Int) := by omega
      rw [hcast]
      clear hcast
      go_wp2_with fail
      refine (HGR.out _).mono ?_
      rintro e w1 ⟨⟨v, rfl, ho⟩, hb⟩
      have hgl2 := hgl
      have HR := Lib.hid hr
      rw [HB.out] at ho hb hgl
      have HO := Lib.hid ho
      clear q0 q1 hr HGR ho hgl2
      go_wp2_with fail
      go_loopw [6, 8, 27] (fun v _ i wr2 => Below B w wr2 ∧ ∃ k : Nat, k ≤ 2 ∧ i = .int .i64 k ∧ ((k = 0 ∧ wr2.ownsRow B 37 2 v 0 []) ∨ (k = 1 ∧ wr2.ownsRow B 37 2 v n1 (flatP l1)) ∨ (k = 2 ∧ wr2.ownsRow B 37 2 v (n1 + n2) (flatP (l1 ++ l2))))) (fun _ _ i _ => 2 - (intOf i).toNat)
      case atStart => exact ⟨hb, 0, by omega, rfl, .inl ⟨rfl, HO.out⟩⟩
      case round =>
        obtain ⟨hb2, k, hk, rfl, hcs⟩ := hrel
        clear HO hb
        have HBS := Lib.hid (show B ≤ wr.heap.size by have := hb2.size; rw [HB.out] at this; exact this)
        have HRW := HR.out.below (by rw [← HB.out] at hb2; exact hb2) (by rw [HB.out]; exact hgl)
        have q0 : wr.cell? ⟨g, 0, none⟩ = some (.slice a1 n1 c1) := HRW.cell 0
        have q1 : wr.cell? ⟨g, 1, none⟩ = some (.slice a2 n2 c2) := HRW.cell 1
        clear HRW
        rcases hcs with ⟨rfl, ho⟩ | ⟨rfl, ho⟩ | ⟨rfl, ho⟩
        · obtain ⟨aa, cc, rfl⟩ := own_slice ho
          have HOO := Lib.hid ho
          rcases HV1.out with ⟨hl, -⟩ | ⟨g1, c1', hv, hg1, hcell⟩
          · have := HN1.out; rw [hl] at this; simp at this; omega
          simp only [Value.slice.injEq] at hv
          obtain ⟨rfl, -, rfl⟩ := hv
          have HCC := Lib.hid (hcell wr (by rw [HB.out]; exact hb2))
          have HFF := HF1
          clear ho hcell hg1
          go_wp2_with (at_builtin; refine wpList_append_own_at _ rfl _ _ 45 rfl B 37 ci (.agg #[.int .i8 0, .int .i8 0]) 2 2 Try.underlying45 HCI.out.1 HCI.out.2.1 HCI.out.2.2.1 HCI.out.2.2.2 rfl (by decide) _ _ _ rfl HOO.out ⟨g1, 0, none⟩ n1 _ (flatP l1) rfl HFF.out ?c1 ?c2 ?c3 ?c4 ?c5 ?_)
          case c1 => intro j u hu; have h9 := HCC.out j u hu; by_cases h0 : j = 0 <;> simpa [Addr.add, h0] using h9
          case c2 =>
            intro u hu
            unfold flatP at hu
            simp only [List.mem_flatMap, List.mem_cons, List.not_mem_nil, or_false] at hu
            obtain ⟨c, -, rfl | rfl⟩ := hu <;> rfl
          case c3 => unfold maxLen; omega
          case c4 => omega
          case c5 => exact HBS.out
          intro v' w3 hown' hgrow _ hat
          · have HO3 := Lib.hid hown'
            have hb3 : Below B w w3 := hb2.grown hgrow HBS.out (fun k hk => own_far HOO.out k hk)
            clear hown' hgrow hat HCC q0 q1
            go_wp2_with fail
            go_roundw
            case rel => exact ⟨hb3, 1, by omega, by go_num, .inr (.inl ⟨rfl, by simpa using HO3.out⟩)⟩
            case measure => simp [intOf]
        · have hle : ∃ ga cc, u6 = .slice (some ⟨ga, 0, none⟩) n1 cc ∧ n1 ≤ cc := by
            rcases ho.2 with ⟨-, h0⟩ | ⟨ga, cc, cur, h3, -, -, h4, -⟩
            · omega
            · exact ⟨ga, cc, h3, h4⟩
          obtain ⟨ga, cc, rfl, hle⟩ := hle
          have HOO := Lib.hid ho
          rcases HV2.out with ⟨hl, hv⟩ | ⟨g2, c2', hv, hg2, hcell⟩
          · have hn20 : n2 = 0 := by rw [← HN2.out, hl]; rfl
            simp only [Value.slice.injEq] at hv
            obtain ⟨rfl, -, rfl⟩ := hv
            subst hn20
            have HL := Lib.hid hl
            clear ho hl
            go_wp2_with fail
            go_roundw
            case rel => exact ⟨hb2, 2, by omega, by go_num, .inr (.inr ⟨rfl, by rw [HL.out, List.append_nil]; exact HOO.out⟩)⟩
            case measure => simp [intOf]
          · simp only [Value.slice.injEq] at hv
            obtain ⟨rfl, -, rfl⟩ := hv
            have HCC := Lib.hid (hcell wr (by rw [HB.out]; exact hb2))
            have HFF := HF2
            clear ho hcell hg2
            go_wp2_with (at_builtin; refine wpList_append_own_at _ rfl _ _ 45 rfl B 37 ci (.agg #[.int .i8 0, .int .i8 0]) 2 2 Try.underlying45 HCI.out.1 HCI.out.2.1 HCI.out.2.2.1 HCI.out.2.2.2 rfl (by decide) _ _ _ rfl HOO.out ⟨g2, 0, none⟩ n2 _ (flatP l2) rfl HFF.out ?c1 ?c2 ?c3 ?c4 ?c5 ?_)
            case c1 => intro j u hu; have h9 := HCC.out j u hu; by_cases h0 : j = 0 <;> simpa [Addr.add, h0] using h9
            case c2 =>
              intro u hu
              unfold flatP at hu
              simp only [List.mem_flatMap, List.mem_cons, List.not_mem_nil, or_false] at hu
              obtain ⟨c, -, rfl | rfl⟩ := hu <;> rfl
            case c3 => unfold maxLen; omega
            case c4 => omega
            case c5 => exact HBS.out
            intro v' w3 hown' hgrow _ hat
            · have HO3 := Lib.hid hown'
              have hb3 : Below B w w3 := hb2.grown hgrow HBS.out (fun k hk => own_far HOO.out k hk)
              clear hown' hgrow hat HCC q0 q1
              have HAP := Lib.hid (show flatP (l1 ++ l2) = flatP l1 ++ flatP l2 from by simp [flatP])
              go_wp2_with fail
              go_roundw
              case rel => exact ⟨hb3, 2, by omega, by go_num, .inr (.inr ⟨rfl, by rw [HAP.out]; exact HO3.out⟩)⟩
              case measure => simp [intOf]
        · have HOO := Lib.hid ho
          clear ho
          go_wp2_with fail
          go_ret
          exact ⟨⟨_, rfl, HOO.out⟩, hb2⟩
end Go.Proofs.Ytaeenkjbmlgcmaa
