/- The program's reading of Weather. -/
import Derived.Test.YthfhpcigjnjkdaaDoorSReadWeather
import Derived.Test.YthfhpcigjnjkdaaDoorRdNum
import Derived.Test.YthfhpcigjnjkdaaDoorJoinT
namespace Go.Proofs.YthfhpcigjnjkdaaDoor
open Go.RowKit
set_option linter.unusedVariables false
set_option linter.unusedSimpArgs false

theorem rd8_rangeWeather (l : List UInt8) : -128 ≤ rd8 l ∧ rd8 l ≤ 127 := by
  unfold rd8
  cases h : Lib.parseIntB 8 l with
  | ok v => have := Lib.parseIntB_bounds h; simp at this ⊢; omega
  | «syntax» => simp
  | range => simp
theorem own_baseWeather {w : World} {B B' : Nat} {e : TypeId} {size n : Nat} {v : Value} {xs : List Value} (h : w.ownsRow B e size v n xs) (hb : B' ≤ B) : w.ownsRow B' e size v n xs :=
  ⟨h.1, h.2.imp id fun ⟨g, cap, cur, h1, h2, h3⟩ => ⟨g, cap, cur, h1, by omega, h3⟩⟩
theorem cut_lenWeather (l : List UInt8) (c : UInt8) : (Lib.cut l [c]).1.length ≤ l.length ∧ (Lib.cut l [c]).2.1.length ≤ l.length := by
  unfold Lib.cut
  split
  · simp; omega
  · simp

set_option maxRecDepth 100000 in
set_option maxHeartbeats 4000000 in
theorem ireadWeather_any (s : ByteArray) (hs : s.size ≤ 1048576) (w : World) (hE : ErrsUp w) :
    Calls Tryd.prog 23 #[.string s] w fun e w' => (∃ v, e = .returned (.tuple #[v, .int .i64 (rdC readWeather s.data.toList)]) ∧ w'.ownsRow w.heap.size 93 2 v (rdQ readWeather s.data.toList).length (prV (rdQ readWeather s.data.toList))) ∧ Below w.heap.size w w' := by
  obtain ⟨ci, hi, hq0, hq1, hq2⟩ := info_parts cellInfoWeather
  have HCI := Lib.hid (show Tryd.prog.info? 93 = some ci ∧ ci.zero = some (.agg #[.int .i8 0, .int .i8 0]) ∧ ci.size = 2 ∧ ci.bytes = 2 from ⟨hi, hq0, hq1, hq2⟩)
  clear hi hq0 hq1 hq2
  have hlen : s.data.toList.length = s.size := by rw [Array.length_toList]; rfl
  have HSP := Lib.hid (splitN_one s hs 32 31 (by decide) (by decide) w)
  have HEE := Lib.hid hE
  obtain ⟨t, ht⟩ : ∃ t, s.data.toList = t := ⟨_, rfl⟩
  have hst : s.toList = t := by rw [Lib.toList_data, ht]
  rw [ht] at HSP hlen ⊢
  obtain ⟨u, hu⟩ : ∃ u, w.heap.size = u := ⟨_, rfl⟩
  by_cases he : t = []
  · have hne : s.toList.isEmpty = true := by rw [hst, he]; rfl
    have HR := Lib.hid (rd_nil (rd := readWeather) he)
    clear HSP hst ht he hlen hE hu
    go_enter Tryd.func23, Tryd.ntmps23
    go_wp2_with fail
    go_ret2
    exact ⟨⟨_, by rw [HR.out.2]; rfl, by rw [HR.out.1]; exact ⟨rfl, .inl ⟨rfl, rfl⟩⟩⟩, Below.refl _ _⟩
  have hne : s.toList.isEmpty = false := by
    rw [hst]
    cases t with
    | nil => exact absurd rfl he
    | cons => rfl
  have h1 : ∀ a, pairOk 50 40 a = true → (32 : UInt8) ∉ pairT 47 a := fun a h => pair_mem (by decide) (by decide) (by decide) (by decide) h
  have h2 : ∀ w a, (pairSp 47 50 40) w = some a ↔ (w = pairT 47 a ∧ pairOk 50 40 a = true) := fun w a => pairSp_iff (by decide) (by decide) (by decide) w a
  have h3 : ∀ a, pairOk 50 40 a = true → (pairPr 47) (pairT 47 a) = a := fun a h => pairPr_tx (by decide) (by decide) (by decide) h
  obtain ⟨ls, hls⟩ : ∃ ls, Lib.splitK [32] 0 (min 31 (t.length + 1) - 1) t = ls := ⟨_, rfl⟩
  have HXL := Lib.hid (show ∀ (k : Nat) x, ls[k]? = some x → x.length ≤ 1048576 from fun k x h => by
    have := splitK_mem_len (c := 32) (l := x) (t := t) (by rw [hls]; exact List.mem_of_getElem? h)
    omega)
  have hout : ∀ qs, ls.map (pairPr 47) = qs → (((weatherS qs).toList == s.toList) = true ∧ rdQ readWeather t = qs ∧ rdC readWeather t = 0) ∨ (((weatherS qs).toList == s.toList) = false ∧ rdQ readWeather t = [] ∧ rdC readWeather t = 5) := fun qs hq => by
    have e : (weatherS qs).toList = lineL (pairT 47) (pairOk 50 40) 30 qs := by
      unfold weatherS
      rw [Lib.toList_data]
    rw [e, hst]
    cases hr : readL 32 (pairSp 47 50 40) 30 t with
    | some as' =>
      obtain ⟨h4, h5, h6, h7⟩ := back_some h1 h2 h3 hr
      rw [hls, hq] at h4
      subst h4
      exact .inl ⟨by rw [h5]; simp, rd_some he hr⟩
    | none =>
      have h4 := back_none h1 h2 he hr qs
      exact .inr ⟨by rw [beq_eq_false_iff_ne]; exact h4, rd_none he hr⟩
  rw [hls] at HSP
  obtain ⟨qs, hqs⟩ : ∃ qs, ls.map (pairPr 47) = qs := ⟨_, rfl⟩
  have HOUT := Lib.hid (hout qs hqs)
  obtain ⟨N, hN⟩ : ∃ N, ls.length = N := ⟨_, rfl⟩
  have hql : qs.length = N := by rw [← hqs, List.length_map, hN]
  have hrange : ∀ a ∈ qs, (-128 ≤ a.1 ∧ a.1 ≤ 127) ∧ -128 ≤ a.2 ∧ a.2 ≤ 127 := fun a ha => by
    rw [← hqs] at ha
    obtain ⟨x, -, rfl⟩ := List.mem_map.1 ha
    exact ⟨rd8_rangeWeather _, rd8_rangeWeather _⟩
  have HTX := Lib.hid (show N ≤ 31 → ∀ (B : Nat) (v : Value) (w : World), w.ownsRow B 93 2 v N (prV qs) → Calls Tryd.prog 20 #[v] w fun e w' => e = .returned (.string (weatherS qs)) ∧ Below w.heap.size w w' from fun hN B v w ho => by
    have := implWText_any B N v (by omega) (zsOf qs) (by rw [zsOf_length, hql]) (zsOf_range hrange) w (by rw [zsOf_row]; exact ho)
    rwa [pairsZ_zsOf qs hql] at this)
  have HQ := Lib.hid (show ∀ i, i < N → ∃ x, ls[i]? = some x from fun i h => ⟨_, List.getElem?_eq_getElem (by omega)⟩)
  have HNX := Lib.hid (show ∀ (i : Nat) x, ls[i]? = some x → prV ((ls.take (i + 1)).map (pairPr 47)) = prV ((ls.take i).map (pairPr 47)) ++ [.int .i8 (rd8 (Lib.cut x [47]).1), .int .i8 (rd8 (Lib.cut x [47]).2.1)] from fun i x h => by
    rw [List.take_add_one, h, Option.toList_some, List.map_append, List.map_cons, List.map_nil, prV_append]; rfl)
  have HALL := Lib.hid (show (ls.take N).map (pairPr 47) = qs by rw [List.take_of_length_le (by omega), hqs])
  have HQL := Lib.hid hql
  have HCU := Lib.hid (show ∀ x : List UInt8, x.length ≤ 1048576 → ∀ w, Calls Tryd.prog 73 #[.string ⟨x.toArray⟩, .string ⟨#[47]⟩] w fun e w' => e = .returned (.tuple #[.string ⟨(Lib.cut x [47]).1.toArray⟩, .string ⟨(Lib.cut x [47]).2.1.toArray⟩, .bool (Lib.cut x [47]).2.2]) ∧ Below w.heap.size w w' from fun x h w => by
    have := cut_one ⟨x.toArray⟩ (by simp [ByteArray.size]; omega) 47 w
    simpa using this)
  have HRN := Lib.hid (show ∀ x : List UInt8, x.length ≤ 1048576 → ∀ w, ErrsUp w → Calls Tryd.prog 74 #[.string ⟨x.toArray⟩] w fun e w' => e = .returned (.int .i8 (rd8 x)) ∧ Below w.heap.size w w' from fun x h w hw => by
    have := readNumber_any ⟨x.toArray⟩ (by simp [ByteArray.size]; omega) w hw
    simpa using this)
  obtain ⟨RC, hRC⟩ : ∃ RC, rdC readWeather t = RC := ⟨_, rfl⟩
  obtain ⟨RQ, hRQ⟩ : ∃ RQ, rdQ readWeather t = RQ := ⟨_, rfl⟩
  rw [hRC, hRQ] at HOUT ⊢
  rw [hN] at HSP
  rw [hu] at HSP ⊢
  have HU := Lib.hid hu
  clear hst ht he hlen hE hout h1 h2 h3 hls hqs hN hql hrange hRC hRQ hs hu
  go_enter Tryd.func23, Tryd.ntmps23
  go_wp2_with fail
  refine HSP.out.mono ?_
  rintro e W2 ⟨⟨cap, rfl, hNN, hpc⟩, hb2⟩
  have HPC := Lib.hid hpc
  have hE2 := HEE.out.below hb2 (by have := HU.out; omega)
  obtain ⟨u2, hu2⟩ : ∃ u2, W2.heap.size = u2 := ⟨_, rfl⟩
  have huu : u ≤ u2 := by rw [← hu2]; have := hb2.size; have := HU.out; omega
  have hE0 := HEE.out
  have hglt : 0 < N → u < u2 := fun h => by
    obtain ⟨x, hx⟩ := HQ.out 0 h
    have := cell_block (hpc 0 x hx)
    simp at this
    omega
  have HGL := Lib.hid hglt
  have HE2 := Lib.hid hE2
  have HU2 := Lib.hid hu2
  have HB2 := Lib.hid hb2
  clear hpc hE2 hE0 hglt HEE HSP hu2 hb2
  go_wp2_with fail
  go_loopw [4, 15] (fun v i wr => ∃ (k : Nat), k ≤ N ∧ i = .int .i64 (k : Int) ∧ wr.ownsRow u2 93 2 v k (prV ((ls.take k).map (pairPr 47))) ∧ Below u2 W2 wr) (fun _ i _ => N - (intOf i).toNat)
  case atStart => exact ⟨0, by omega, rfl, ⟨rfl, .inl ⟨rfl, rfl⟩⟩, Below.refl _ _⟩
  case round =>
    obtain ⟨k, hk, rfl, hv, hb⟩ := hrel
    have HV := Lib.hid hv
    have hsz := hb.size
    clear hv
    by_cases hlt : k < N
    · have hd : decide ((k : Int) < (N : Int)) = true := by simp; omega
      obtain ⟨x, hx⟩ := HQ.out k hlt
      have c0 : wr.cell? ⟨u, k, none⟩ = some (.string ⟨x.toArray⟩) := by
        rw [World.cell?_of_block (hb.block _ (by have := HGL.out (by omega); simpa using this))]
        exact HPC.out k x hx
      have hxl := HXL.out k x hx
      have HX := HNX.out k x hx
      have HC := Lib.hid (HCU.out x hxl)
      obtain ⟨hl1, hl2⟩ := cut_lenWeather x 47
      obtain ⟨⟨A, B, fb⟩, hcut⟩ : ∃ p, Lib.cut x [47] = p := ⟨_, rfl⟩
      rw [hcut] at HX HC hl1 hl2
      simp only at HX HC hl1 hl2
      have HR1 := Lib.hid (HRN.out A (by omega))
      have HR2 := Lib.hid (HRN.out B (by omega))
      obtain ⟨za, hza⟩ : ∃ z, rd8 A = z := ⟨_, rfl⟩
      obtain ⟨zb, hzb⟩ : ∃ z, rd8 B = z := ⟨_, rfl⟩
      rw [hza] at HX HR1
      rw [hzb] at HX HR2
      have HXX := Lib.hid HX
      clear hx HX hcut hza hzb
      go_wp2_with fail
      refine (HC.out _).mono ?_
      rintro e W3 ⟨rfl, hb3⟩
      have HV3 := Lib.hid (own_below HV.out hb3)
      have hB3 := hb.trans (hb3.mono (by have := HU2.out; omega))
      have hs3 := hB3.size
      clear hb3 HV hb c0 HC
      go_wp2_with fail
      refine (HR1.out _ (HE2.out.below hB3 (by have := HU2.out; omega))).mono ?_
      rintro e W4 ⟨rfl, hb4⟩
      have HV4 := Lib.hid (own_below HV3.out hb4)
      have hB4 := hB3.trans (hb4.mono (by have := HU2.out; omega))
      have hs4 := hB4.size
      clear hb4 HV3 hB3 HR1
      go_wp2_with fail
      refine (HR2.out _ (HE2.out.below hB4 (by have := HU2.out; omega))).mono ?_
      rintro e W5 ⟨rfl, hb5⟩
      have HV5 := Lib.hid (own_below HV4.out hb5)
      have hB5 := hB4.trans (hb5.mono (by have := HU2.out; omega))
      have hs5 := hB5.size
      clear hb5 HV4 hB4 HR2
      go_wp2_with (at_builtin; refine wpList_append_own_at _ rfl _ _ 34 rfl u2 93 ci (.agg #[.int .i8 0, .int .i8 0]) 2 2 Tryd.underlying34 HCI.out.1 HCI.out.2.1 HCI.out.2.2.1 HCI.out.2.2.2 rfl (by decide) _ _ _ rfl (HV5.out.alloc _) ⟨W5.heap.size, 0, none⟩ 1 1 [.int .i8 za, .int .i8 zb] rfl rfl ?c1 ?c2 ?c3 ?c4 ?c5 ?_)
      case c1 =>
        intro m z hz
        match m, hz with
        | 0, hz => simp at hz; subst hz; exact (Holds.new W5 #[.int .i8 za, .int .i8 zb] 93).cell 0
        | 1, hz => simp at hz; subst hz; exact (Holds.new W5 #[.int .i8 za, .int .i8 zb] 93).cell 1
      case c2 => intro z hz; simp at hz; rcases hz with rfl | rfl <;> rfl
      case c3 => unfold maxLen; omega
      case c4 => omega
      case c5 => have := HU2.out; simp; omega
      intro v' w9 hown' hgrow _ hat
      have hB9 : Below u2 W2 w9 := (hB5.alloc (by have := HU2.out; omega) _).grown hgrow (by have := HU2.out; simp; omega) (fun k hk => by have := own_far HV5.out k hk; omega)
      have ho9 : w9.ownsRow u2 93 2 v' (k + 1) (prV ((ls.take (k + 1)).map (pairPr 47))) := by
        rw [HXX.out]
        simpa only [List.map_take] using hown'
      have HV9 := Lib.hid ho9
      clear HV5 hB5 hown' hgrow hat ho9 HXX
      go_wp2_with fail
      go_roundw
      case rel => exact ⟨k + 1, by omega, by go_num, HV9.out, hB9⟩
      case measure => simp [intOf]; omega
    · have hd : decide ((k : Int) < (N : Int)) = false := by simp; omega
      obtain rfl : k = N := by omega
      have hv := HV.out
      rw [HALL.out] at hv
      have HV0 := Lib.hid hv
      have hb0 : Below u w wr := HB2.out.trans (hb.mono huu)
      clear hv HV
      go_wp2_with fail
      refine (HTX.out (by omega) u2 _ _ HV0.out).mono ?_
      rintro e W5 ⟨rfl, hb5⟩
      have HV5 := Lib.hid (own_below HV0.out hb5)
      have hB5 := hb0.trans (hb5.mono (by have := hb0.size; have := HU.out; omega))
      obtain ⟨T, hT⟩ : ∃ T, weatherS qs = T := ⟨_, rfl⟩
      rw [hT] at HOUT ⊢
      clear hb5 HV0 hb0 hT HTX
      rcases HOUT.out with ⟨q1, q2⟩ | ⟨q1, q2⟩
      · have HE := Lib.hid q2
        clear q2 HOUT
        go_wp2_with fail
        go_ret2
        exact ⟨⟨_, by rw [HE.out.2]; rfl, by rw [HE.out.1, HQL.out]; exact own_baseWeather HV5.out huu⟩, hB5⟩
      · have HE := Lib.hid q2
        clear q2 HOUT
        go_wp2_with fail
        go_ret2
        exact ⟨⟨_, by rw [HE.out.2]; rfl, by rw [HE.out.1]; exact ⟨rfl, .inl ⟨rfl, rfl⟩⟩⟩, hB5⟩
end Go.Proofs.YthfhpcigjnjkdaaDoor
