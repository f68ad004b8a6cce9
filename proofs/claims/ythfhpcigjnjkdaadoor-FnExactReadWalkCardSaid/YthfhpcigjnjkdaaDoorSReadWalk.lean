/- The model's reading of Walk. -/
import Derived.Test.YthfhpcigjnjkdaaDoorStrV
import Derived.Test.YthfhpcigjnjkdaaDoorSplit
import Derived.Test.YthfhpcigjnjkdaaDoorDecimal
import Derived.Test.YthfhpcigjnjkdaaDoorWalkT
namespace Go.Proofs.YthfhpcigjnjkdaaDoor
open Go.RowKit
set_option linter.unusedVariables false
set_option linter.unusedSimpArgs false

theorem cellInfoWalk : (Tryd.prog.info? 106).map (fun i => (i.zero, i.size, i.bytes)) = some (some (.agg #[.int .i8 0, .int .i8 0]), 2, 2) := by kernel_rfl
/-- What is read of Walk. -/
def readWalk (t : List UInt8) : Option (List (Int × Int)) := (readL 32 (pairSp 44 9 9) 201) t
theorem readWalk_ok {t : List UInt8} {qs : List (Int × Int)} {k : Nat} (h : ((splitS 32 t).take k).mapM (pairSp 44 9 9) = some qs) : ∀ a ∈ qs, pairOk 9 9 a = true := (mapM_some (tx := pairT 44) (ok := pairOk 9 9) (fun w a => (pairSp_iff (by decide) (by decide) (by decide) w a).1) h).2

set_option maxRecDepth 100000 in
set_option maxHeartbeats 4000000 in
theorem sreadWalk_any (s : ByteArray) (hs : s.size ≤ 1048576) (w : World) :
    Calls Tryd.prog 31 #[.string s] w fun e w' => (∃ v, e = .returned (.tuple #[v, .int .i64 (rdC readWalk s.data.toList)]) ∧ w'.ownsRow w.heap.size 106 2 v (rdQ readWalk s.data.toList).length (prV (rdQ readWalk s.data.toList))) ∧ Below w.heap.size w w' := by
  obtain ⟨ci, hi, hq0, hq1, hq2⟩ := info_parts cellInfoWalk
  have HCI := Lib.hid (show Tryd.prog.info? 106 = some ci ∧ ci.zero = some (.agg #[.int .i8 0, .int .i8 0]) ∧ ci.size = 2 ∧ ci.bytes = 2 from ⟨hi, hq0, hq1, hq2⟩)
  clear hi hq0 hq1 hq2
  have hlen : s.data.toList.length = s.size := by rw [Array.length_toList]; rfl
  have HSP0 := Lib.hid (fun w => split_any s hs 32 w)
  obtain ⟨t, ht⟩ : ∃ t, s.data.toList = t := ⟨_, rfl⟩
  have hst : s.toList = t := by rw [Lib.toList_data, ht]
  rw [ht] at HSP0 hlen ⊢
  obtain ⟨u, hu⟩ : ∃ u, w.heap.size = u := ⟨_, rfl⟩
  have HU := Lib.hid hu
  obtain ⟨W1, hW1⟩ : ∃ W1, w.alloc (.cells #[] 106) = W1 := ⟨_, rfl⟩
  have hm1 : W1.ownsRow u 106 2 (.slice (some ⟨u, 0, none⟩) 0 0) 0 [] := by
    have := World.ownsRow_made (base := u) (e := 106) (size := 2) w #[] 0 (by omega) (by simp [maxLen]) rfl
    rw [hW1, hu] at this
    exact this
  have HM := Lib.hid hm1
  have hB1 : Below u w W1 := by rw [← hW1]; exact (Below.refl u w).alloc (by omega) _
  have hW1s : u < W1.heap.size := by rw [← hW1]; simp; omega
  rw [hu]
  by_cases he : t = []
  · have hne : s.toList.isEmpty = true := by rw [hst, he]; rfl
    have HR := Lib.hid (rd_nil (rd := readWalk) he)
    clear HSP0 hst ht he hlen hm1
    go_enter Tryd.func31, Tryd.ntmps31
    go_wp2_with fail
    try simp only [HU.out]
    try rw [hW1]
    go_ret2
    exact ⟨⟨_, by rw [HR.out.2]; rfl, by rw [HR.out.1]; exact HM.out⟩, hB1⟩
  have hne : s.toList.isEmpty = false := by
    rw [hst]
    cases t with
    | nil => exact absurd rfl he
    | cons => rfl
  have hsn := splitS_ne 32 t
  have hsl := splitS_len 32 t
  have HXL := Lib.hid (show ∀ (k : Nat) x, (splitS 32 t)[k]? = some x → x.length ≤ 1048576 from fun k x h => by
    have := splitS_mem_len (List.mem_of_getElem? h)
    omega)
  have HBAD := Lib.hid (show ∀ (k : Nat) x, (splitS 32 t)[k]? = some x → (pairSp 44 9 9) x = none → rdQ readWalk t = [] ∧ rdC readWalk t = 5 from fun k x h h2 => rd_none he (readL_bad h h2))
  have HEND := Lib.hid (show ∀ (k : Nat) qs, ((splitS 32 t).take k).mapM (pairSp 44 9 9) = some qs → (splitS 32 t).length ≤ k → if qs.length ≤ 201 then rdQ readWalk t = qs ∧ rdC readWalk t = 0 else rdQ readWalk t = [] ∧ rdC readWalk t = 5 from fun k qs h h2 => by
    have := readL_end (most := 201) h h2
    split at this
    · rename_i hl; rw [if_pos hl]; exact rd_some he this
    · rename_i hl; rw [if_neg hl]; exact rd_none he this)
  have HLONG := Lib.hid (show 201 < (splitS 32 t).length → rdQ readWalk t = [] ∧ rdC readWalk t = 5 from fun h => rd_none he (readL_long h))
  have HOKS := Lib.hid (show ∀ (k : Nat) qs, ((splitS 32 t).take k).mapM (pairSp 44 9 9) = some qs → (∀ a ∈ qs, pairOk 9 9 a = true) ∧ (k ≤ (splitS 32 t).length → qs.length = k) from fun k qs h => ⟨readWalk_ok h, fun hk => by rw [mapM_len h, List.length_take]; omega⟩)
  obtain ⟨ws, hws⟩ : ∃ ws, splitS 32 t = ws := ⟨_, rfl⟩
  rw [hws] at HSP0 HXL HBAD HEND HLONG HOKS hsn hsl
  have hwl : 0 < ws.length := List.length_pos_iff.2 hsn
  obtain ⟨N, hN⟩ : ∃ N, ws.length = N := ⟨_, rfl⟩
  rw [hN] at HSP0 HEND HLONG HOKS hwl hsl
  have HQ := Lib.hid (show ∀ i, i < N → ∃ x, ws[i]? = some x from fun i h => ⟨_, List.getElem?_eq_getElem (by omega)⟩)
  obtain ⟨RC, hRC⟩ : ∃ RC, rdC readWalk t = RC := ⟨_, rfl⟩
  obtain ⟨RQ, hRQ⟩ : ∃ RQ, rdQ readWalk t = RQ := ⟨_, rfl⟩
  rw [hRC, hRQ] at HBAD HEND HLONG ⊢
  have hN2 : N ≤ 1048577 := by omega
  clear hst ht he hws hsn hN hlen hm1 hRC hRQ hsl hu
  go_enter Tryd.func31, Tryd.ntmps31
  go_wp2_with fail
  try simp only [HU.out]
  try rw [hW1]
  clear hW1
  refine (HSP0.out _).mono ?_
  rintro e W2 ⟨⟨wv, rfl, how⟩, hb2⟩
  have hmm := own_below HM.out hb2
  have HM2 := Lib.hid hmm
  have hB2 : Below u w W2 := hB1.trans (hb2.mono (by omega))
  obtain ⟨g, cap, rfl, hug, hgl⟩ := own_form how (by omega)
  have HW := Lib.hid how
  have hgu : g ≠ u := by omega
  clear how hb2 hB1 HM hmm HSP0
  by_cases hbig : 201 < N
  · have dl : decide ((201 : Int) < (N : Int)) = true := by simp; omega
    have HB := Lib.hid (HLONG.out hbig)
    go_wp2_with fail
    go_ret2
    exact ⟨⟨_, by rw [HB.out.2]; rfl, by rw [HB.out.1]; exact HM2.out⟩, hB2⟩
  have dl : decide ((201 : Int) < (N : Int)) = false := by simp; omega
  go_wp2_with fail
  obtain ⟨u1, hu1⟩ : ∃ u1, W1.heap.size = u1 := ⟨_, rfl⟩
  rw [hu1] at HW hug hW1s
  clear hu1
  go_loopw [4, 6] (fun v i wr => ∃ (k : Nat) (qs : List (Int × Int)), k ≤ N ∧ i = .int .i64 (k : Int) ∧ (ws.take k).mapM (pairSp 44 9 9) = some qs ∧ wr.ownsRow u 106 2 v k (prV qs) ∧ wr.ownsRow u1 9 1 (.slice (some ⟨g, 0, none⟩) N cap) N (strV ws) ∧ v.ownBlock ≠ some g ∧ Below u w wr) (fun _ i _ => N - (intOf i).toNat)
  case atStart => exact ⟨0, [], by omega, rfl, rfl, HM2.out, HW.out, (fun e => hgu (by cases e; rfl)), hB2⟩
  case round =>
    obtain ⟨k, qs, hk, rfl, hmp, hv, hw, hvg, hb⟩ := hrel
    have HV := Lib.hid hv
    have HW := Lib.hid hw
    have HMP := Lib.hid hmp
    have HVG := Lib.hid hvg
    clear hv hmp HM2 hB2 hvg
    by_cases hlt : k < N
    · have hd : decide ((k : Int) < (N : Int)) = true := by simp; omega
      obtain ⟨x, hx⟩ := HQ.out k hlt
      have c0 := own_cell hw _ _ (strV_get hx)
      have HX := Lib.hid hx
      have hxl := HXL.out k x hx
      have HSX := Lib.hid (show ∀ w, Calls Tryd.prog 57 #[.string ⟨x.toArray⟩, .int .u8 (44 : Int)] w fun e w' => (∃ v, e = .returned v ∧ w'.ownsRow w.heap.size 9 1 v (splitS 44 x).length (strV (splitS 44 x))) ∧ Below w.heap.size w w' from fun w => by
        have := split_any ⟨x.toArray⟩ (by simp [ByteArray.size]; omega) 44 w
        simpa using this)
      have HPL := Lib.hid (show ∀ y ∈ splitS 44 x, y.length ≤ 1048576 from fun y hy => by have := splitS_mem_len hy; omega)
      clear hw hx
      go_wp2_with fail
      refine (HSX.out _).mono ?_
      rintro e W3 ⟨⟨pv, rfl, hp⟩, hb3⟩
      have HV3 := Lib.hid (own_below HV.out hb3)
      have HW3 := Lib.hid (own_below HW.out hb3)
      have hB3 := hb.trans (hb3.mono (by have := hb.size; have := HU.out; omega))
      have hu3 := hB3.size
      clear hb3 c0 HSX HV HW hb
      by_cases h2 : (splitS 44 x).length = 2
      case neg =>
        have hq : (((splitS 44 x).length : Int) == 2) = false := by rw [beq_eq_false_iff_ne]; omega
        have HB := Lib.hid (HBAD.out k x HX.out (pairSp_other h2))
        obtain ⟨pa, pc, rfl⟩ := own_slice hp
        have hfin : (W3.alloc (.cells #[] 106)).ownsRow u 106 2 (.slice (some ⟨W3.heap.size, 0, none⟩) 0 0) 0 [] := World.ownsRow_made (base := u) (e := 106) (size := 2) W3 #[] 0 (by have := HU.out; omega) (by simp [maxLen]) rfl
        have HF := Lib.hid hfin
        obtain ⟨M, hM⟩ : ∃ M, (splitS 44 x).length = M := ⟨_, rfl⟩
        rw [hM] at hq ⊢
        clear hfin hp h2 hM
        go_wp2_with fail
        go_ret2
        exact ⟨⟨_, by rw [HB.out.2]; rfl, by rw [HB.out.1]; exact HF.out⟩, hB3.alloc (by have := HU.out; omega) _⟩
      case pos =>
        obtain ⟨a, b, hab⟩ : ∃ a b, splitS 44 x = [a, b] := by
          match h : splitS 44 x, h2 with
          | [a, b], _ => exact ⟨a, b, rfl⟩
        have HSPX := Lib.hid (pairSp_two (m1 := 9) (m2 := 9) hab)
        rw [hab] at hp HPL
        have hla := HPL.out a (by simp)
        have hlb := HPL.out b (by simp)
        obtain ⟨gp, pc, rfl, -, -⟩ := own_form hp (by simp)
        have HP := Lib.hid hp
        have c0 := own_cell hp 0 _ (strV_get (i := 0) rfl)
        have HNA := Lib.hid (show ∀ w, Calls Tryd.prog 72 #[.string ⟨a.toArray⟩] w fun e w' => e = .returned (.tuple #[.int .i64 (((numO a).getD 0 : Nat) : Int), .bool (numO a).isSome]) ∧ Below w.heap.size w w' from fun w => by
          have := number_any ⟨a.toArray⟩ (by simp [ByteArray.size]; omega) w
          simpa using this)
        have HNB := Lib.hid (show ∀ w, Calls Tryd.prog 72 #[.string ⟨b.toArray⟩] w fun e w' => e = .returned (.tuple #[.int .i64 (((numO b).getD 0 : Nat) : Int), .bool (numO b).isSome]) ∧ Below w.heap.size w w' from fun w => by
          have := number_any ⟨b.toArray⟩ (by simp [ByteArray.size]; omega) w
          simpa using this)
        have hq : ((([a, b] : List (List UInt8)).length : Int) == 2) = true := rfl
        clear hp h2 hab HPL
        simp only [List.length_cons, List.length_nil, Nat.zero_add, Nat.reduceAdd] at c0 hq HP ⊢
        go_wp2_with fail
        refine (HNA.out _).mono ?_
        rintro e W4 ⟨rfl, hb4⟩
        have HV4 := Lib.hid (own_below HV3.out hb4)
        have HW4 := Lib.hid (own_below HW3.out hb4)
        have hp4 := own_below HP.out hb4
        have hB4 := hB3.trans (hb4.mono (by have := HU.out; omega))
        have c1 := own_cell hp4 1 _ (strV_get (i := 1) rfl)
        have hu4 := hB4.size
        clear hb4 c0 HNA HV3 HW3 hB3 hp4 hu3
        go_wp2_with fail
        refine (HNB.out _).mono ?_
        rintro e W5 ⟨rfl, hb5⟩
        have HV5 := Lib.hid (own_below HV4.out hb5)
        have HW5 := Lib.hid (own_below HW4.out hb5)
        have hB5 := hB4.trans (hb5.mono (by have := HU.out; omega))
        have hu5 := hB5.size
        clear hb5 c1 HNB HV4 HW4 hB4 hu4
        have hfin : (W5.alloc (.cells #[] 106)).ownsRow u 106 2 (.slice (some ⟨W5.heap.size, 0, none⟩) 0 0) 0 [] := World.ownsRow_made (base := u) (e := 106) (size := 2) W5 #[] 0 (by have := HU.out; omega) (by simp [maxLen]) rfl
        have HF := Lib.hid hfin
        clear hfin
        cases hna : numO a with
        | none =>
          have HB := Lib.hid (HBAD.out k x HX.out (by rw [HSPX.out, hna]))
          simp only [hna]
          obtain ⟨zb, hzb⟩ : ∃ z, (((numO b).getD 0 : Nat) : Int) = z := ⟨_, rfl⟩
          obtain ⟨sb, hsb⟩ : ∃ z, (numO b).isSome = z := ⟨_, rfl⟩
          simp only [hzb, hsb]
          clear hzb hsb hna
          go_wp2_with fail
          go_ret2
          exact ⟨⟨_, by rw [HB.out.2]; rfl, by rw [HB.out.1]; exact HF.out⟩, hB5.alloc (by have := HU.out; omega) _⟩
        | some na =>
          cases hnb : numO b with
          | none =>
            have HB := Lib.hid (HBAD.out k x HX.out (by rw [HSPX.out, hna, hnb]))
            simp only [hna, hnb]
            clear hna hnb
            go_wp2_with fail
            go_ret2
            exact ⟨⟨_, by rw [HB.out.2]; rfl, by rw [HB.out.1]; exact HF.out⟩, hB5.alloc (by have := HU.out; omega) _⟩
          | some nb =>
            simp only [hna, hnb, Option.getD_some, Option.isSome_some]
            by_cases hba : 9 < na
            · have HB := Lib.hid (HBAD.out k x HX.out (by rw [HSPX.out, hna, hnb]; simp only; rw [if_neg (by omega)]))
              have d1 : decide ((9 : Int) < (na : Int)) = true := by simp; omega
              clear hna hnb
              go_wp2_with fail
              go_ret2
              exact ⟨⟨_, by rw [HB.out.2]; rfl, by rw [HB.out.1]; exact HF.out⟩, hB5.alloc (by have := HU.out; omega) _⟩
            have d1 : decide ((9 : Int) < (na : Int)) = false := by simp; omega
            by_cases hbb : 9 < nb
            · have HB := Lib.hid (HBAD.out k x HX.out (by rw [HSPX.out, hna, hnb]; simp only; rw [if_neg (by omega)]))
              have d2 : decide ((9 : Int) < (nb : Int)) = true := by simp; omega
              clear hna hnb
              go_wp2_with fail
              go_ret2
              exact ⟨⟨_, by rw [HB.out.2]; rfl, by rw [HB.out.1]; exact HF.out⟩, hB5.alloc (by have := HU.out; omega) _⟩
            have d2 : decide ((9 : Int) < (nb : Int)) = false := by simp; omega
            have HNX := Lib.hid (mapM_next HMP.out HX.out (show (pairSp 44 9 9) x = some ((na : Int), (nb : Int)) by rw [HSPX.out, hna, hnb]; simp only; rw [if_pos (by omega)]))
            clear hna hnb HF HSPX HMP
            go_wp2_with (at_builtin; refine wpList_append_own_at _ rfl _ _ 44 rfl u 106 ci (.agg #[.int .i8 0, .int .i8 0]) 2 2 Tryd.underlying44 HCI.out.1 HCI.out.2.1 HCI.out.2.2.1 HCI.out.2.2.2 rfl (by decide) _ _ _ rfl (HV5.out.alloc _) ⟨W5.heap.size, 0, none⟩ 1 1 [.int .i8 (na : Int), .int .i8 (nb : Int)] rfl rfl ?c1 ?c2 ?c3 ?c4 ?c5 ?_)
            case c1 =>
              intro m z hz
              match m, hz with
              | 0, hz => simp at hz; subst hz; exact (Holds.new W5 #[.int .i8 (na : Int), .int .i8 (nb : Int)] 106).cell 0
              | 1, hz => simp at hz; subst hz; exact (Holds.new W5 #[.int .i8 (na : Int), .int .i8 (nb : Int)] 106).cell 1
            case c2 => intro z hz; simp at hz; rcases hz with rfl | rfl <;> rfl
            case c3 => unfold maxLen; omega
            case c4 => omega
            case c5 => have := HU.out; simp; omega
            intro v' w9 hown' hgrow _ hat
            have hB9 : Below u w w9 := (hB5.alloc (by have := HU.out; omega) _).grown hgrow (by have := HU.out; simp; omega) (fun k hk => by have := own_far HV5.out k hk; omega)
            have HW9 := Lib.hid ((HW5.out.alloc _).kept hgrow (.inr (fun e => HVG.out e.symm)))
            have hglt : g < W5.heap.size := (HW5.out.lt g rfl).2
            have hvg9 : v'.ownBlock ≠ some g := by
              rcases hat with h | h
              · rw [h]; exact HVG.out
              · rw [h]; intro e; have := Option.some.inj e; first | omega | (simp at this; omega) | trace_state
            have ho9 : w9.ownsRow u 106 2 v' (k + 1) (prV (qs ++ [((na : Int), (nb : Int))])) := by
              rw [prV_append]
              exact hown'
            have HV9 := Lib.hid ho9
            clear HV5 HW5 hB5 hown' hgrow hat ho9 HVG
            go_wp2_with fail
            go_roundw
            case rel => exact ⟨k + 1, _, by omega, by go_num, HNX.out, HV9.out, HW9.out, hvg9, hB9⟩
            case measure => simp [intOf]; omega
    · have hd : decide ((k : Int) < (N : Int)) = false := by simp; omega
      obtain rfl : k = N := by omega
      have hE := HEND.out k qs HMP.out (Nat.le_refl _)
      have hO := HOKS.out k qs HMP.out
      have hql := hO.2 (Nat.le_refl _)
      rw [hql] at hE
      have HQL := Lib.hid hql
      rw [if_pos (by omega)] at hE
      have HE := Lib.hid hE
      clear hO hql hw hE
      go_wp2_with fail
      go_ret2
      exact ⟨⟨_, by rw [HE.out.2]; rfl, by rw [HE.out.1, HQL.out]; exact HV.out⟩, hb⟩
end Go.Proofs.YthfhpcigjnjkdaaDoor
