/- The model's reading of rounds. -/
import Derived.Test.YthfhpcigjnjkdaaDoorStrV
import Derived.Test.YthfhpcigjnjkdaaDoorSplit
import Derived.Test.YthfhpcigjnjkdaaDoorDecimal
import Derived.Test.YthfhpcigjnjkdaaDoorSTextR
namespace Go.Proofs.YthfhpcigjnjkdaaDoor
open Go.RowKit
set_option linter.unusedVariables false
set_option linter.unusedSimpArgs false

theorem cellInfoRounds : (Tryd.prog.info? 143).map (fun i => (i.zero, i.size, i.bytes)) = some (some (.agg #[.int .i8 0, .bool false]), 2, 2) := by kernel_rfl
/-- What is read of rounds. -/
def readRounds (t : List UInt8) : Option (List (Int × Bool)) := (readL 32 rndSp 60) t
theorem readRounds_ok {t : List UInt8} {qs : List (Int × Bool)} {k : Nat} (h : ((splitS 32 t).take k).mapM rndSp = some qs) : ∀ a ∈ qs, rndOk a = true := (mapM_some (tx := rndT) (ok := rndOk) (fun w a => (rndSp_iff w a).1) h).2
theorem ok_of_readR {B : Nat} {qs : List (Int × Bool)} {n : Nat} (hn : qs.length = n) (hm : n ≤ 2000000) (hok : ∀ a ∈ qs, rndOk a = true) (v : Value) (w : World) (ho : w.ownsRow B 143 2 v n (rndV qs)) :
    Calls Tryd.prog 100 #[v] w fun e w' => e = .returned (.bool (decide (n ≤ 60))) ∧ Below w.heap.size w w' := by
  have key := rounds_any B qs n hn hm (fun a ha => by have := hok a ha; simp [rndOk] at this; omega) v w ho
  have e : roundsB qs = decide (n ≤ 60) := by
    unfold roundsB
    rw [List.all_eq_true.2 hok, Bool.true_and, hn]
  rw [e] at key
  exact key
theorem rndV_append (qs : List (Int × Bool)) (a : Int × Bool) : rndV (qs ++ [a]) = rndV qs ++ [.int .i8 a.1, .bool a.2] := by simp [rndV]

set_option maxRecDepth 100000 in
set_option maxHeartbeats 4000000 in
theorem sreadRounds_any (s : ByteArray) (hs : s.size ≤ 1048576) (w : World) :
    Calls Tryd.prog 53 #[.string s] w fun e w' => (∃ v, e = .returned (.tuple #[v, .int .i64 (rdC readRounds s.data.toList)]) ∧ w'.ownsRow w.heap.size 143 2 v (rdQ readRounds s.data.toList).length (rndV (rdQ readRounds s.data.toList))) ∧ Below w.heap.size w w' := by
  obtain ⟨ci, hi, hq0, hq1, hq2⟩ := info_parts cellInfoRounds
  have HCI := Lib.hid (show Tryd.prog.info? 143 = some ci ∧ ci.zero = some (.agg #[.int .i8 0, .bool false]) ∧ ci.size = 2 ∧ ci.bytes = 2 from ⟨hi, hq0, hq1, hq2⟩)
  clear hi hq0 hq1 hq2
  have hlen : s.data.toList.length = s.size := by rw [Array.length_toList]; rfl
  have HSP0 := Lib.hid (fun w => split_any s hs 32 w)
  obtain ⟨t, ht⟩ : ∃ t, s.data.toList = t := ⟨_, rfl⟩
  have hst : s.toList = t := by rw [Lib.toList_data, ht]
  rw [ht] at HSP0 hlen ⊢
  obtain ⟨u, hu⟩ : ∃ u, w.heap.size = u := ⟨_, rfl⟩
  have HU := Lib.hid hu
  obtain ⟨W1, hW1⟩ : ∃ W1, w.alloc (.cells #[] 143) = W1 := ⟨_, rfl⟩
  have hm1 : W1.ownsRow u 143 2 (.slice (some ⟨u, 0, none⟩) 0 0) 0 [] := by
    have := World.ownsRow_made (base := u) (e := 143) (size := 2) w #[] 0 (by omega) (by simp [maxLen]) rfl
    rw [hW1, hu] at this
    exact this
  have HM := Lib.hid hm1
  have hB1 : Below u w W1 := by rw [← hW1]; exact (Below.refl u w).alloc (by omega) _
  have hW1s : u < W1.heap.size := by rw [← hW1]; simp; omega
  rw [hu]
  by_cases he : t = []
  · have hne : s.toList.isEmpty = true := by rw [hst, he]; rfl
    have HR := Lib.hid (rd_nil (rd := readRounds) he)
    clear HSP0 hst ht he hlen hm1
    go_enter Tryd.func53, Tryd.ntmps53
    go_wp2_with fail
    try simp only [HU.out]
    try rw [hW1]
    go_ret2
    exact ⟨⟨_, by rw [HR.out.2]; rfl, by rw [HR.out.1]; exact HM.out⟩, hB1⟩
  have hne : s.toList.isEmpty = false := by
    rw [hst]
    cases t with
    | nil => exact absurd rfl he
    | cons => rfl
  have hsn := splitS_ne 32 t
  have hsl := splitS_len 32 t
  have HXL := Lib.hid (show ∀ (k : Nat) x, (splitS 32 t)[k]? = some x → x.length ≤ 1048576 from fun k x h => by
    have := splitS_mem_len (List.mem_of_getElem? h)
    omega)
  have HBAD := Lib.hid (show ∀ (k : Nat) x, (splitS 32 t)[k]? = some x → rndSp x = none → rdQ readRounds t = [] ∧ rdC readRounds t = 5 from fun k x h h2 => rd_none he (readL_bad h h2))
  have HEND := Lib.hid (show ∀ (k : Nat) qs, ((splitS 32 t).take k).mapM rndSp = some qs → (splitS 32 t).length ≤ k → if qs.length ≤ 60 then rdQ readRounds t = qs ∧ rdC readRounds t = 0 else rdQ readRounds t = [] ∧ rdC readRounds t = 5 from fun k qs h h2 => by
    have := readL_end (most := 60) h h2
    split at this
    · rename_i hl; rw [if_pos hl]; exact rd_some he this
    · rename_i hl; rw [if_neg hl]; exact rd_none he this)
  have HLONG := Lib.hid (show 60 < (splitS 32 t).length → rdQ readRounds t = [] ∧ rdC readRounds t = 5 from fun h => rd_none he (readL_long h))
  have HOKS := Lib.hid (show ∀ (k : Nat) qs, ((splitS 32 t).take k).mapM rndSp = some qs → (∀ a ∈ qs, rndOk a = true) ∧ (k ≤ (splitS 32 t).length → qs.length = k) from fun k qs h => ⟨readRounds_ok h, fun hk => by rw [mapM_len h, List.length_take]; omega⟩)
  obtain ⟨ws, hws⟩ : ∃ ws, splitS 32 t = ws := ⟨_, rfl⟩
  rw [hws] at HSP0 HXL HBAD HEND HLONG HOKS hsn hsl
  have hwl : 0 < ws.length := List.length_pos_iff.2 hsn
  obtain ⟨N, hN⟩ : ∃ N, ws.length = N := ⟨_, rfl⟩
  rw [hN] at HSP0 HEND HLONG HOKS hwl hsl
  have HQ := Lib.hid (show ∀ i, i < N → ∃ x, ws[i]? = some x from fun i h => ⟨_, List.getElem?_eq_getElem (by omega)⟩)
  obtain ⟨RC, hRC⟩ : ∃ RC, rdC readRounds t = RC := ⟨_, rfl⟩
  obtain ⟨RQ, hRQ⟩ : ∃ RQ, rdQ readRounds t = RQ := ⟨_, rfl⟩
  rw [hRC, hRQ] at HBAD HEND HLONG ⊢
  have hN2 : N ≤ 1048577 := by omega
  clear hst ht he hws hsn hN hlen hm1 hRC hRQ hsl hu
  go_enter Tryd.func53, Tryd.ntmps53
  go_wp2_with fail
  try simp only [HU.out]
  try rw [hW1]
  clear hW1
  refine (HSP0.out _).mono ?_
  rintro e W2 ⟨⟨wv, rfl, how⟩, hb2⟩
  have hmm := own_below HM.out hb2
  have HM2 := Lib.hid hmm
  have hB2 : Below u w W2 := hB1.trans (hb2.mono (by omega))
  obtain ⟨g, cap, rfl, hug, hgl⟩ := own_form how (by omega)
  have HW := Lib.hid how
  have hgu : g ≠ u := by omega
  clear how hb2 hB1 HM hmm HSP0
  go_wp2_with fail
  obtain ⟨u1, hu1⟩ : ∃ u1, W1.heap.size = u1 := ⟨_, rfl⟩
  rw [hu1] at HW hug hW1s
  clear hu1
  go_loopw [4, 6] (fun v i wr => ∃ (k : Nat) (qs : List (Int × Bool)), k ≤ N ∧ i = .int .i64 (k : Int) ∧ (ws.take k).mapM rndSp = some qs ∧ wr.ownsRow u 143 2 v k (rndV qs) ∧ wr.ownsRow u1 9 1 (.slice (some ⟨g, 0, none⟩) N cap) N (strV ws) ∧ v.ownBlock ≠ some g ∧ Below u w wr) (fun _ i _ => N - (intOf i).toNat)
  case atStart => exact ⟨0, [], by omega, rfl, rfl, HM2.out, HW.out, (fun e => hgu (by cases e; rfl)), hB2⟩
  case round =>
    obtain ⟨k, qs, hk, rfl, hmp, hv, hw, hvg, hb⟩ := hrel
    have HV := Lib.hid hv
    have HW := Lib.hid hw
    have HMP := Lib.hid hmp
    have HVG := Lib.hid hvg
    clear hv hmp HM2 hB2 hvg
    by_cases hlt : k < N
    · have hd : decide ((k : Int) < (N : Int)) = true := by simp; omega
      obtain ⟨x, hx⟩ := HQ.out k hlt
      have c0 := own_cell hw _ _ (strV_get hx)
      have HX := Lib.hid hx
      have hxl := HXL.out k x hx
      have HF := Lib.hid (show (wr.alloc (.cells #[] 143)).ownsRow u 143 2 (.slice (some ⟨wr.heap.size, 0, none⟩) 0 0) 0 [] from World.ownsRow_made (base := u) (e := 143) (size := 2) wr #[] 0 (by have := hb.size; have := HU.out; omega) (by simp [maxLen]) rfl)
      clear hx
      by_cases h2 : x.length = 2
      case neg =>
        have hq : ((x.length : Int) == 2) = false := by rw [beq_eq_false_iff_ne]; omega
        have HB := Lib.hid (HBAD.out k x HX.out (rndSp_other h2))
        obtain ⟨sx, hsx⟩ : ∃ sx : ByteArray, (⟨x.toArray⟩ : ByteArray) = sx := ⟨_, rfl⟩
        have hsz : (sx.size : Int) = (x.length : Int) := by rw [← hsx]; simp [ByteArray.size]
        have hq2 : ((sx.size : Int) == 2) = false := by rw [hsz]; exact hq
        have hq3 : ¬ sx.size = 2 := fun e => by rw [e] at hq2; exact absurd hq2 (by decide)
        have hq4 : (sx.size == 2) = false := by simpa using hq3
        have hq5 : ¬ (sx.size : Int) = 2 := by omega
        rw [hsx] at c0
        clear h2 hsx hq hsz hw
        go_wp2_with fail
        go_ret2
        exact ⟨⟨_, by rw [HB.out.2]; rfl, by rw [HB.out.1]; exact HF.out⟩, hb.alloc (by have := hb.size; have := HU.out; omega) _⟩
      case pos =>
        obtain ⟨a, b, rfl⟩ : ∃ a b, x = [a, b] := by
          match x, h2 with
          | [a, b], _ => exact ⟨a, b, rfl⟩
        have hq : (((⟨#[a, b]⟩ : ByteArray).size : Int) == 2) = true := rfl
        have c0 : wr.cell? ⟨g, k, none⟩ = some (.string ⟨#[a, b]⟩) := c0
        by_cases ha : a = 99
        · subst ha
          have HSPX := Lib.hid (show rndSp [99, b] = (numO [b]).map fun (n : Nat) => ((n : Int), false) by rw [rndSp_two rfl, if_pos (.inl rfl)]; rfl)
          clear h2 hw hxl
          have i0 : (⟨#[99, b]⟩ : ByteArray)[0]'(by show 0 < 2; decide) = 99 := rfl
          have HNB := Lib.hid (show ∀ w, Calls Tryd.prog 72 #[.string ⟨#[b]⟩] w fun e w' => e = .returned (.tuple #[.int .i64 (((numO [b]).getD 0 : Nat) : Int), .bool (numO [b]).isSome]) ∧ Below w.heap.size w w' from fun w => number_any ⟨#[b]⟩ (by simp [ByteArray.size]) w)
          have hsl : (⟨#[99, b]⟩ : ByteArray).extract 1 2 = ⟨#[b]⟩ := rfl
          have hsz : ((⟨#[99, b]⟩ : ByteArray).size : Int) = 2 := rfl
          go_wp2_with fail
          refine (HNB.out _).mono ?_
          rintro e W5 ⟨rfl, hb5⟩
          have HV5 := Lib.hid (own_below HV.out hb5)
          have HW5 := Lib.hid (own_below HW.out hb5)
          have hB5 := hb.trans (hb5.mono (by have := hb.size; have := HU.out; omega))
          have hu5 := hB5.size
          have hw5 := HW5.out
          have c5 := own_cell hw5 _ _ (strV_get HX.out)
          have HF2 := Lib.hid (show (W5.alloc (.cells #[] 143)).ownsRow u 143 2 (.slice (some ⟨W5.heap.size, 0, none⟩) 0 0) 0 [] from World.ownsRow_made (base := u) (e := 143) (size := 2) W5 #[] 0 (by have := HU.out; omega) (by simp [maxLen]) rfl)
          clear hb5 hw5 HNB HV HW hb HF c0
          cases hnb : numO [b] with
          | none =>
            have HB := Lib.hid (HBAD.out k _ HX.out (by rw [HSPX.out, hnb]; rfl))
            simp only [hnb]
            clear hnb c5
            go_wp2_with fail
            go_ret2
            exact ⟨⟨_, by rw [HB.out.2]; rfl, by rw [HB.out.1]; exact HF2.out⟩, hB5.alloc (by have := HU.out; omega) _⟩
          | some nb =>
            have hn9 := numO_one hnb
            simp only [hnb, Option.getD_some, Option.isSome_some]
            have HNX := Lib.hid (mapM_next HMP.out HX.out (show rndSp [99, b] = some ((nb : Int), false) by rw [HSPX.out, hnb]; rfl))
            clear hnb HF2 HSPX HMP
            go_wp2_with (at_builtin; refine wpList_append_own_at _ rfl _ _ 74 rfl u 143 ci (.agg #[.int .i8 0, .bool false]) 2 2 Tryd.underlying74 HCI.out.1 HCI.out.2.1 HCI.out.2.2.1 HCI.out.2.2.2 rfl (by decide) _ _ _ rfl (HV5.out.alloc _) ⟨W5.heap.size, 0, none⟩ 1 1 [.int .i8 (nb : Int), .bool false] rfl rfl ?c1 ?c2 ?c3 ?c4 ?c5 ?_)
            case c1 =>
              intro m z hz
              match m, hz with
              | 0, hz => simp at hz; subst hz; exact (Holds.new W5 #[.int .i8 (nb : Int), .bool false] 143).cell 0
              | 1, hz => simp at hz; subst hz; exact (Holds.new W5 #[.int .i8 (nb : Int), .bool false] 143).cell 1
            case c2 => intro z hz; simp at hz; rcases hz with rfl | rfl <;> rfl
            case c3 => unfold maxLen; omega
            case c4 => omega
            case c5 => have := HU.out; simp; omega
            intro v' w9 hown' hgrow _ hat
            have hB9 : Below u w w9 := (hB5.alloc (by have := HU.out; omega) _).grown hgrow (by have := HU.out; simp; omega) (fun k hk => by have := own_far HV5.out k hk; omega)
            have HW9 := Lib.hid ((HW5.out.alloc _).kept hgrow (.inr (fun e => HVG.out e.symm)))
            have hglt : g < W5.heap.size := (HW5.out.lt g rfl).2
            have hvg9 : v'.ownBlock ≠ some g := by
              rcases hat with h | h
              · rw [h]; exact HVG.out
              · rw [h]; intro e; have := Option.some.inj e; first | omega | (simp at this; omega)
            have ho9 : w9.ownsRow u 143 2 v' (k + 1) (rndV (qs ++ [((nb : Int), false)])) := by
              rw [rndV_append]
              exact hown'
            have HV9 := Lib.hid ho9
            clear HV5 HW5 hB5 hown' hgrow hat ho9 HVG
            go_wp2_with fail
            go_roundw
            case rel => exact ⟨k + 1, _, by omega, by go_num, HNX.out, HV9.out, HW9.out, hvg9, hB9⟩
            case measure => simp [intOf]; omega
        by_cases ha2 : a = 104
        · subst ha2
          have HSPX := Lib.hid (show rndSp [104, b] = (numO [b]).map fun (n : Nat) => ((n : Int), true) by rw [rndSp_two rfl, if_pos (.inr rfl)]; rfl)
          clear h2 hw hxl ha
          have i0 : (⟨#[104, b]⟩ : ByteArray)[0]'(by show 0 < 2; decide) = 104 := rfl
          have HNB := Lib.hid (show ∀ w, Calls Tryd.prog 72 #[.string ⟨#[b]⟩] w fun e w' => e = .returned (.tuple #[.int .i64 (((numO [b]).getD 0 : Nat) : Int), .bool (numO [b]).isSome]) ∧ Below w.heap.size w w' from fun w => number_any ⟨#[b]⟩ (by simp [ByteArray.size]) w)
          have hsl : (⟨#[104, b]⟩ : ByteArray).extract 1 2 = ⟨#[b]⟩ := rfl
          have hsz : ((⟨#[104, b]⟩ : ByteArray).size : Int) = 2 := rfl
          go_wp2_with fail
          refine (HNB.out _).mono ?_
          rintro e W5 ⟨rfl, hb5⟩
          have HV5 := Lib.hid (own_below HV.out hb5)
          have HW5 := Lib.hid (own_below HW.out hb5)
          have hB5 := hb.trans (hb5.mono (by have := hb.size; have := HU.out; omega))
          have hu5 := hB5.size
          have hw5 := HW5.out
          have c5 := own_cell hw5 _ _ (strV_get HX.out)
          have HF2 := Lib.hid (show (W5.alloc (.cells #[] 143)).ownsRow u 143 2 (.slice (some ⟨W5.heap.size, 0, none⟩) 0 0) 0 [] from World.ownsRow_made (base := u) (e := 143) (size := 2) W5 #[] 0 (by have := HU.out; omega) (by simp [maxLen]) rfl)
          clear hb5 hw5 HNB HV HW hb HF c0
          cases hnb : numO [b] with
          | none =>
            have HB := Lib.hid (HBAD.out k _ HX.out (by rw [HSPX.out, hnb]; rfl))
            simp only [hnb]
            clear hnb c5
            go_wp2_with fail
            go_ret2
            exact ⟨⟨_, by rw [HB.out.2]; rfl, by rw [HB.out.1]; exact HF2.out⟩, hB5.alloc (by have := HU.out; omega) _⟩
          | some nb =>
            have hn9 := numO_one hnb
            simp only [hnb, Option.getD_some, Option.isSome_some]
            have HNX := Lib.hid (mapM_next HMP.out HX.out (show rndSp [104, b] = some ((nb : Int), true) by rw [HSPX.out, hnb]; rfl))
            clear hnb HF2 HSPX HMP
            go_wp2_with (at_builtin; refine wpList_append_own_at _ rfl _ _ 74 rfl u 143 ci (.agg #[.int .i8 0, .bool false]) 2 2 Tryd.underlying74 HCI.out.1 HCI.out.2.1 HCI.out.2.2.1 HCI.out.2.2.2 rfl (by decide) _ _ _ rfl (HV5.out.alloc _) ⟨W5.heap.size, 0, none⟩ 1 1 [.int .i8 (nb : Int), .bool true] rfl rfl ?c1 ?c2 ?c3 ?c4 ?c5 ?_)
            case c1 =>
              intro m z hz
              match m, hz with
              | 0, hz => simp at hz; subst hz; exact (Holds.new W5 #[.int .i8 (nb : Int), .bool true] 143).cell 0
              | 1, hz => simp at hz; subst hz; exact (Holds.new W5 #[.int .i8 (nb : Int), .bool true] 143).cell 1
            case c2 => intro z hz; simp at hz; rcases hz with rfl | rfl <;> rfl
            case c3 => unfold maxLen; omega
            case c4 => omega
            case c5 => have := HU.out; simp; omega
            intro v' w9 hown' hgrow _ hat
            have hB9 : Below u w w9 := (hB5.alloc (by have := HU.out; omega) _).grown hgrow (by have := HU.out; simp; omega) (fun k hk => by have := own_far HV5.out k hk; omega)
            have HW9 := Lib.hid ((HW5.out.alloc _).kept hgrow (.inr (fun e => HVG.out e.symm)))
            have hglt : g < W5.heap.size := (HW5.out.lt g rfl).2
            have hvg9 : v'.ownBlock ≠ some g := by
              rcases hat with h | h
              · rw [h]; exact HVG.out
              · rw [h]; intro e; have := Option.some.inj e; first | omega | (simp at this; omega)
            have ho9 : w9.ownsRow u 143 2 v' (k + 1) (rndV (qs ++ [((nb : Int), true)])) := by
              rw [rndV_append]
              exact hown'
            have HV9 := Lib.hid ho9
            clear HV5 HW5 hB5 hown' hgrow hat ho9 HVG
            go_wp2_with fail
            go_roundw
            case rel => exact ⟨k + 1, _, by omega, by go_num, HNX.out, HV9.out, HW9.out, hvg9, hB9⟩
            case measure => simp [intOf]; omega
        have HB := Lib.hid (HBAD.out k _ HX.out (by rw [rndSp_two rfl, if_neg (by rintro (h | h); exact ha h; exact ha2 h)]))
        have i0 : (⟨#[a, b]⟩ : ByteArray)[0]'(by show 0 < 2; decide) = a := rfl
        have q1 : ((a.toNat : Int) == 99) = false := by
          rw [beq_eq_false_iff_ne]
          intro h
          exact ha (UInt8.toNat_inj.1 (by simpa using Int.ofNat_inj.1 h))
        have q2 : ((a.toNat : Int) == 104) = false := by
          rw [beq_eq_false_iff_ne]
          intro h
          exact ha2 (UInt8.toNat_inj.1 (by simpa using Int.ofNat_inj.1 h))
        have q7 : ((a.toNat : Int) != 99) = true := by rw [bne, q1]; rfl
        have q8 : ((a.toNat : Int) != 104) = true := by rw [bne, q2]; rfl
        have q3 : ¬ a.toNat = 99 := fun e => ha (UInt8.toNat_inj.1 e)
        have q4 : ¬ a.toNat = 104 := fun e => ha2 (UInt8.toNat_inj.1 e)
        have q5 : ¬ (a.toNat : Int) = 99 := by omega
        have q6 : ¬ (a.toNat : Int) = 104 := by omega
        clear h2 hw hxl
        go_wp2_with fail
        go_ret2
        exact ⟨⟨_, by rw [HB.out.2]; rfl, by rw [HB.out.1]; exact HF.out⟩, hb.alloc (by have := hb.size; have := HU.out; omega) _⟩
    · have hd : decide ((k : Int) < (N : Int)) = false := by simp; omega
      obtain rfl : k = N := by omega
      have hE := HEND.out k qs HMP.out (Nat.le_refl _)
      have hO := HOKS.out k qs HMP.out
      have hql := hO.2 (Nat.le_refl _)
      rw [hql] at hE
      have HOK := Lib.hid (fun v (h : wr.ownsRow u 143 2 v k (rndV qs)) => ok_of_readR hql (by omega) hO.1 v wr h)
      have HQL := Lib.hid hql
      clear hO hql hw
      by_cases h30 : k ≤ 60
      · rw [if_pos h30] at hE
        have HE := Lib.hid hE
        rw [decide_eq_true h30] at HOK
        clear hE
        go_wp2_with fail
        refine (HOK.out _ HV.out).mono ?_
        rintro e W5 ⟨rfl, hb5⟩
        have HV5 := Lib.hid (own_below HV.out hb5)
        have hB5 := hb.trans (hb5.mono (by have := hb.size; have := HU.out; omega))
        clear hb5 HV HW HOK
        go_wp2_with fail
        go_ret2
        exact ⟨⟨_, by rw [HE.out.2]; rfl, by rw [HE.out.1, HQL.out]; exact HV5.out⟩, hB5⟩
      · rw [if_neg h30] at hE
        have HE := Lib.hid hE
        rw [decide_eq_false h30] at HOK
        clear hE
        go_wp2_with fail
        refine (HOK.out _ HV.out).mono ?_
        rintro e W5 ⟨rfl, hb5⟩
        have hB5 := hb.trans (hb5.mono (by have := hb.size; have := HU.out; omega))
        have hu5 := hB5.size
        have hfin : (W5.alloc (.cells #[] 143)).ownsRow u 143 2 (.slice (some ⟨W5.heap.size, 0, none⟩) 0 0) 0 [] := World.ownsRow_made (base := u) (e := 143) (size := 2) W5 #[] 0 (by have := HU.out; omega) (by simp [maxLen]) rfl
        have HF := Lib.hid hfin
        clear hb5 HV HW HOK hfin
        go_wp2_with fail
        go_ret2
        exact ⟨⟨_, by rw [HE.out.2]; rfl, by rw [HE.out.1]; exact HF.out⟩, hB5.alloc (by have := HU.out; omega) _⟩
end Go.Proofs.YthfhpcigjnjkdaaDoor
