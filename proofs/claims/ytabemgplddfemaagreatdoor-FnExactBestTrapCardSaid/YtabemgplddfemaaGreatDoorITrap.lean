/- BestTrap, of the program. -/
import Derived.Test.YtabemgplddfemaaGreatDoorMostOf
import Derived.Test.YtabemgplddfemaaGreatDoorMapSt
import Derived.Test.YtabemgplddfemaaGreatDoorTrapP
import Derived.Test.YtabemgplddfemaaGreatDoorMoleM
import Derived.Test.YtabemgplddfemaaGreatDoorZE
import Derived.RegionTactic
import Derived.ChangeAlike
namespace Go.Proofs.YtabemgplddfemaaGreatDoor
open Go.RowKit Go.Shelf
set_option linter.unusedVariables false
set_option linter.unusedSimpArgs false
attribute [local go_sem ↓] loadRow loadGrid loadLawn loadMirror storeRow storeGrid storeLawn allocRow allocGrid allocLawn buildZero buildSides loadR8 loadL8 loadLv storeR8 storeLv allocR8 allocLv buildZLv storeCl

theorem flat_trapW (L : Lawn) (g : Nat → Nat → Int) (N : Nat) {W H : Nat} (c : Fin W × Fin H) : flatP (trapW L g N c) = flatV (pathQ L g (toQ (ptOf c)) N) := flat_ptQ _

set_option maxRecDepth 100000 in
set_option maxHeartbeats 4000000 in
theorem itrap_good (L : Lawn) (hL : L.Fits) (g : Nat → Nat → Int) (hv : levB L g = true) (N : Nat) (hN : N ≤ 60) (Wn Hn : Nat) (hW : Wn ≤ 10) (hH : Hn ≤ 10) (hW1 : 1 ≤ Wn) (hH1 : 1 ≤ Hn) (hLw : L.wide = Wn) (hLh : L.high = Hn) {a0 a1 a2 a3 a4 : Addr} (w : World) (hE : ErrsIn w a0 a1 a2 a3 a4) :
    Calls Tryz.prog 8 #[.agg L.cells, .agg (levV g), .int .i64 N] w fun e w' => e = .returned (cellNN3 (trapA L g N Wn Hn)) ∧ Below w.heap.size w w' := by
  obtain ⟨s, hs⟩ : ∃ s, w.heap.size = s := ⟨_, rfl⟩
  have hup : upZ (N : Int) 60 = true := by unfold upZ; simp; omega
  have HCK := Lib.hid (show ∀ (w : World), ErrsIn w a0 a1 a2 a3 a4 → Calls Tryz.prog 19 #[.agg L.cells, .agg (levV g), .int .i64 N, .slice none 0 0] w fun e w' => e = .returned .nilIface ∧ Below w.heap.size w w' from fun w hE => by
    have h := checkMoles_any L hL g N w.heap.size 0 (.slice none 0 0) (by omega) [] rfl w hE (World.ownsRow_nil _ _ _ _)
    rwa [hup, chkE_good hv (fun c hc => by simp at hc)] at h)
  have HCE := Lib.hid (fun w => cells_loop Wn Hn hW hH hW1 hH1 L hLw hLh hL (levB_true hv).1 0 rfl w)
  have HPN := Lib.hid (fun (c : Fin Wn × Fin Hn) (hc : c ∈ ofKind L Wn Hn 0) (w : World) => by
    have hq : grassP L (ptQ (toQ (ptOf c))) = true := by rw [toQ_pt hW hH]; exact ofKind_grass hLw hLh hc
    have h := passNights_any L hL g hv (toQ (ptOf c)) hq N hN w
    rw [← flat_trapW] at h
    have e : ptQ (toQ (ptOf c)) = ptOf c := toQ_pt hW hH c
    have e1 : ((toQ (ptOf c)).1.val : Int) = (c.1.val : Int) := congrArg Prod.fst e
    have e2 : ((toQ (ptOf c)).2.val : Int) = (c.2.val : Int) := congrArg Prod.snd e
    rw [e1, e2] at h
    exact h)
  have HPL := Lib.hid (fun c : Fin Wn × Fin Hn => trapW_length L g N c)
  have HPQ := Lib.hid (fun c : Fin Wn × Fin Hn => trapW_q10 L g N c)
  have HTQ := Lib.hid (fun l : List (Fin Wn × Fin Hn) => trapC_q10 L g N l)
  have HTS := Lib.hid (fun (l : List (Fin Wn × Fin Hn)) c => trapC_snoc L g N l c)
  have HTL := Lib.hid (fun l : List (Fin Wn × Fin Hn) => trapC_le L g N l)
  have hT0 : trapC L g N ([] : List (Fin Wn × Fin Hn)) = [] := rfl
  have HMO := Lib.hid (mostOf_any (trapC L g N (ofKind L Wn Hn 0)) (trapC_q10 L g N _))
  unfold trapA
  obtain ⟨T, hT⟩ : ∃ T, @trapC L g N Wn Hn = T := ⟨_, rfl⟩
  obtain ⟨Pw, hP⟩ : ∃ P, @trapW L g N Wn Hn = P := ⟨_, rfl⟩
  have hSl : (ofKind L Wn Hn 0).length ≤ 100 := by
    refine Nat.le_trans (List.length_filter_le _ _) ?_
    rw [allC_length]
    exact Nat.le_trans (Nat.mul_le_mul hH hW) (by omega)
  obtain ⟨S, hS⟩ : ∃ S, ofKind L Wn Hn 0 = S := ⟨_, rfl⟩
  rw [hT] at HTQ HTS HTL HMO hT0 ⊢
  rw [hP] at HPN HPL HPQ HTS
  rw [hS] at HCE HPN HMO hSl ⊢
  obtain ⟨A, hA⟩ : ∃ A, mostR (mostL (visN (T S)) ((visS (T S)).map ptOf)) = A := ⟨_, rfl⟩
  rw [hA] at HMO ⊢
  obtain ⟨n, hn⟩ : ∃ n, S.length = n := ⟨_, rfl⟩
  rw [hn] at HCE hSl
  have HN := Lib.hid hn
  have HT0 := Lib.hid hT0
  have hmk := fun w => run_makeMap (P := Tryz.prog) 61 w
  clear hL hv hup hW hH hW1 hH1 hLw hLh hT hP hS hA hn hT0
  obtain ⟨W0, hW0⟩ : ∃ W0, ((w.alloc (.cells L.cells 33)).alloc (.cells (levV g) 35)).alloc (.cells #[.int .i8 0, .int .i8 0] 30) = W0 := ⟨_, rfl⟩
  have g0 : Holds W0 s L.cells := by rw [← hW0]; exact ((Holds.new' _ _ _ _ hs.symm).alloc _).alloc _
  have g1 : Holds W0 (s + 1) (levV g) := by rw [← hW0]; exact (Holds.new' _ _ _ _ (by simp <;> omega)).alloc _
  have g2 : Holds W0 (s + 1 + 1) #[.int .i8 0, .int .i8 0] := by rw [← hW0]; exact Holds.new' _ _ _ _ (by simp <;> omega)
  have hb : Below s w W0 := by rw [← hW0]; exact (((Below.refl s w).alloc (by omega) _).alloc (by simp; omega) _).alloc (by simp; omega) _
  have hE0 : ErrsIn W0 a0 a1 a2 a3 a4 := hE.below (hs.symm ▸ hb)
  obtain ⟨r0, -, -, -, l0⟩ := g0.facts
  obtain ⟨r1, -, -, -, l1⟩ := g1.facts
  rw [hs]
  go_enter Tryz.func8, Tryz.ntmps8
  go_wp2_with fail
  try rw [hW0]
  clear hW0
  refine (HCK.out _ hE0).mono ?_
  rintro e w1 ⟨rfl, hb1⟩
  have hb2 : Below s w w1 := hb.trans (hb1.mono (by have := hb.size; omega))
  have m0 := g0.below hb1 g0.lt
  have m1 := g1.below hb1 g1.lt
  have m2 := g2.below hb1 g2.lt
  clear g0 g1 g2 r0 r1 l0 l1 hb hb1 HCK hE0
  have hs1 : s + 1 + 1 < w1.heap.size := m2.lt
  have JM : Hid (MapSt (w1.alloc (.map #[] 0)) w1.heap.size cellK valK (visM [])) := Lib.hid (MapSt.made w1)
  have k0 := m0.alloc (.map #[] 0)
  have k1 := m1.alloc (.map #[] 0)
  have k2 := m2.alloc (.map #[] 0)
  have hb3 : Below s w (w1.alloc (.map #[] 0)) := hb2.alloc (by have := hb2.size; omega) _
  obtain ⟨b, hbb⟩ : ∃ b, w1.heap.size = b := ⟨_, rfl⟩
  obtain ⟨W2, hW2⟩ : ∃ W2, w1.alloc (.map #[] 0) = W2 := ⟨_, rfl⟩
  rw [hW2] at JM k0 k1 k2 hb3
  rw [hbb] at JM hs1
  have hW2s : W2.heap.size = b + 1 := by rw [← hW2, ← hbb]; simp
  have HW2 := Lib.hid hW2
  have HBB := Lib.hid hbb
  have HWS := Lib.hid hW2s
  obtain ⟨r0, -, -, -, l0⟩ := k0.facts
  obtain ⟨r00, -, -, -, l00⟩ := m0.facts
  clear m0 m1 m2 hb2 hW2 hbb hW2s
  go_wp2_with fail
  try simp only [HW2.out, HBB.out]
  refine (HCE.out _).mono ?_
  rintro e w3 ⟨⟨v, rfl, ho⟩, hb4⟩
  rw [HWS.out] at ho
  obtain ⟨aS, cS, rfl⟩ := own_slice ho
  have HO := Lib.hid ho
  have j0 := k0.below hb4 k0.lt
  have j1 := k1.below hb4 k1.lt
  have j2 := k2.below hb4 k2.lt
  have JM3 := Lib.hid (JM.out.below hb4 JM.out.lt)
  have hb5 : Below s w w3 := hb3.trans (hb4.mono (by have := hb3.size; omega))
  clear ho k0 k1 k2 JM hb3 hb4 HCE r0 l0 r00 l00 HWS HW2 HBB
  go_wp2_with fail
  go_loopw [36] (fun i wr => ∃ k : Nat, k ≤ n ∧ i = .int .i64 k ∧ wr.ownsRow (b + 1) 30 2 (.slice aS n cS) n (flatV S) ∧ MapSt wr b cellK valK (visM (T (S.take k))) ∧ Holds wr s L.cells ∧ Holds wr (s + 1) (levV g) ∧ Holds wr (s + 1 + 1) #[.int .i8 0, .int .i8 0] ∧ Below s w wr) (fun i _ => 300 - (intOf i).toNat)
  case atStart => exact ⟨0, Nat.zero_le _, rfl, HO.out, by rw [List.take_zero, HT0.out]; exact JM3.out, j0, j1, j2, hb5⟩
  case round =>
    obtain ⟨k, hk, rfl, ho, hM, q0, q1, q2, hb⟩ := hrel
    have HO1 := Lib.hid ho
    have HM1 := Lib.hid hM
    clear ho hM HO JM3 j0 j1 j2 hb5 HT0
    by_cases hlt : k < n
    · have hd : decide ((k : Int) < (n : Int)) = true := by simp; omega
      obtain ⟨c, hc⟩ : ∃ c, S[k]? = some c := ⟨_, List.getElem?_eq_getElem (by rw [HN.out]; exact hlt)⟩
      have HCS := Lib.hid (HPN.out c (List.mem_of_getElem? hc))
      have HTK := Lib.hid (show T (S.take (k + 1)) = T (S.take k) ++ newK (Pw c) (N + 1) by rw [← HTS.out, List.take_add_one, hc]; rfl)
      obtain ⟨ga, cap, he, hBg, hgw⟩ := own_form HO1.out (by omega)
      simp only [Value.slice.injEq, true_and] at he
      obtain ⟨rfl, rfl⟩ := he
      obtain ⟨fa, fb⟩ := flatV_get _ _ _ hc
      have ca := own_cell HO1.out _ _ fa
      have cb := own_cell HO1.out _ _ fb
      have hpl := HPL.out c
      have hpq := HPQ.out c
      obtain ⟨ps, hps⟩ : ∃ ps, Pw c = ps := ⟨_, rfl⟩
      obtain ⟨G9, hG9⟩ : ∃ G, (stQ L g (toQ (ptOf c)) N).1 = G := ⟨_, rfl⟩
      obtain ⟨px, hpx⟩ : ∃ p : Int, (c.1.val : Int) = p := ⟨_, rfl⟩
      obtain ⟨py, hpy⟩ : ∃ p : Int, (c.2.val : Int) = p := ⟨_, rfl⟩
      rw [hps, hG9, hpx, hpy] at HCS
      rw [hps] at HTK hpl hpq
      rw [hpx] at ca
      rw [hpy] at cb
      have HPS := Lib.hid hpl
      have HQ10 := Lib.hid hpq
      clear hc fa fb hps hG9 hpx hpy hpl hpq
      have n1 := Holds.new wr #[.int .i8 px, .int .i8 py] 30
      have p0 := q0.alloc (.cells #[.int .i8 px, .int .i8 py] 30)
      have p1 := q1.alloc (.cells #[.int .i8 px, .int .i8 py] 30)
      have p2 := q2.alloc (.cells #[.int .i8 px, .int .i8 py] 30)
      have HO3 := Lib.hid (HO1.out.alloc (.cells #[.int .i8 px, .int .i8 py] 30))
      have HM2 := Lib.hid (HM1.out.alloc (.cells #[.int .i8 px, .int .i8 py] 30))
      have hb4 := hb.alloc (by have := hb.size; omega) (.cells #[.int .i8 px, .int .i8 py] 30)
      have hbl := HM1.out.lt
      obtain ⟨B, hB⟩ : ∃ B, wr.heap.size = B := ⟨_, rfl⟩
      obtain ⟨w4, hw4⟩ : ∃ w4, wr.alloc (.cells #[.int .i8 px, .int .i8 py] 30) = w4 := ⟨_, rfl⟩
      have hw4s : w4.heap.size = B + 1 := by rw [← hw4, ← hB]; simp
      rw [hw4] at n1 p0 p1 p2 HO3 HM2 hb4
      rw [hB] at n1 hbl
      obtain ⟨-, -, dN, -, lN⟩ := n1.facts
      obtain ⟨r0, -, -, -, l0⟩ := q0.facts
      obtain ⟨r1, -, -, -, l1⟩ := q1.facts
      obtain ⟨r0', -, -, -, l0'⟩ := p0.facts
      obtain ⟨r1', -, -, -, l1'⟩ := p1.facts
      have HWB := Lib.hid hw4
      have HB := Lib.hid hB
      have HW4S := Lib.hid hw4s
      clear hw4 hB hw4s
      go_wp2_with fail
      try simp only [HWB.out, HB.out]
      refine (HCS.out _).mono ?_
      rintro e w5 ⟨⟨v2, rfl, ho2⟩, hb6⟩
      rw [HW4S.out] at ho2
      have hb7 := hb4.trans (hb6.mono (by have := hb4.size; omega))
      have x0 := (p0.below hb6 p0.lt).alloc (.cells (levV G9) 35)
      have x1 := (p1.below hb6 p1.lt).alloc (.cells (levV G9) 35)
      have x2 := (p2.below hb6 p2.lt).alloc (.cells (levV G9) 35)
      have hl5 : B + 1 ≤ w5.heap.size := by have := hb6.size; have := HW4S.out; omega
      have HO5 := Lib.hid ((own_below HO3.out hb6).alloc (.cells (levV G9) 35))
      have HP5 := Lib.hid (ho2.alloc (.cells (levV G9) 35))
      have HM5 := Lib.hid ((HM2.out.below hb6 HM2.out.lt).alloc (.cells (levV G9) 35))
      have hb8 := hb7.alloc (by have := hb7.size; omega) (.cells (levV G9) 35)
      obtain ⟨gp, cp, rfl, hBp, hgpw⟩ := own_form ho2 (by omega)
      have hg1 : ga < B := by rw [← HB.out]; exact hgw
      clear n1 p0 p1 p2 HO3 HM2 hb4 hb6 hb7 ho2 dN lN r0 r1 l0 l1 r0' r1' l0' l1' ca cb q0 q1 q2 hb HO1 HM1 HWB HCS
      obtain ⟨w6, hw6⟩ : ∃ w6, w5.alloc (.cells (levV G9) 35) = w6 := ⟨_, rfl⟩
      rw [hw6] at x0 x1 x2 HO5 HP5 HM5 hb8
      have HW6 := Lib.hid hw6
      clear hw6
      go_wp2_with fail
      try simp only [HW6.out]
      clear HW6
      go_loopw [51] (fun t wi => ∃ i : Nat, i ≤ N + 1 ∧ t = .int .i64 i ∧ wi.ownsRow (b + 1) 30 2 (.slice (some ⟨ga, 0, none⟩) n cS) n (flatV S) ∧ wi.ownsRow (B + 1) 30 2 (.slice (some ⟨gp, 0, none⟩) (N + 1) cp) (N + 1) (flatP ps) ∧ MapSt wi b cellK valK (visM (T (S.take k) ++ newK ps i)) ∧ Holds wi s L.cells ∧ Holds wi (s + 1) (levV g) ∧ Holds wi (s + 1 + 1) #[.int .i8 0, .int .i8 0] ∧ Below s w wi) (fun t _ => 100 - (intOf t).toNat)
      case atStart => exact ⟨0, Nat.zero_le _, rfl, HO5.out, HP5.out, by rw [show newK ps 0 = [] from rfl, List.append_nil]; exact HM5.out, x0, x1, x2, hb8⟩
      case round =>
        obtain ⟨i, hi, rfl, ho, hp, hM, q0, q1, q2, hb⟩ := hrel
        have HO1 := Lib.hid ho
        have HP1 := Lib.hid hp
        have HM1 := Lib.hid hM
        clear ho hp hM HO5 HP5 HM5 x0 x1 x2 hb8
        by_cases hlt2 : i < N + 1
        · have hd2 : decide ((i : Int) < (N : Int) + 1) = true := by simp; omega
          obtain ⟨a, ha⟩ : ∃ a, ps[i]? = some a := ⟨_, List.getElem?_eq_getElem (by rw [HPS.out]; exact hlt2)⟩
          obtain ⟨fa, fb⟩ := flatP_get _ _ _ ha
          have ca := own_cell HP1.out _ _ fa
          have cb := own_cell HP1.out _ _ fb
          have hidx := idx_first ha
          have HHIT := Lib.hid (fun h => newK_hit ha h)
          have HMISS := Lib.hid (fun h => newK_miss ha h)
          obtain ⟨px2, py2⟩ := a
          dsimp only at ca cb
          have hq10 : ∀ c ∈ T (S.take k) ++ newK ps i, ∃ d : Q10, ptOf d = c := fun c hc => by
            rcases List.mem_append.1 hc with h | h
            · exact HTQ.out _ c h
            · exact newK_q10 HQ10.out i c h
          have hlen := visM_len10 hq10
          have hrg := visN_le (T (S.take k) ++ newK ps i) (px2, py2)
          have hln : (T (S.take k) ++ newK ps i).length ≤ 10000 := by
            have h1 := HTL.out (S.take k)
            have h2 := newK_le ps i
            have h3 : (S.take k).length ≤ 100 := by rw [List.length_take]; omega
            have h4 := Nat.mul_le_mul h3 (show N + 1 ≤ 61 by omega)
            rw [List.length_append]
            omega
          obtain ⟨cs, hcs⟩ : ∃ cs, T (S.take k) ++ newK ps i = cs := ⟨_, rfl⟩
          have HIX := Lib.hid (show ∀ w', w'.ownsRow (B + 1) 30 2 (.slice (some ⟨gp, 0, none⟩) (N + 1) cp) (N + 1) (flatP ps) → Calls Tryz.prog 24 #[.slice (some ⟨gp, 0, none⟩) (N + 1) cp, .agg #[.int .i8 px2, .int .i8 py2]] w' fun e w'' => e = .returned (.int .i64 (idxP ps (px2, py2))) ∧ Below w'.heap.size w' w'' from fun w' h => indexC_at (B + 1) (N + 1) _ (by omega) ps HPS.out px2 py2 w' h)
          obtain ⟨zi, hzi⟩ : ∃ z, idxP ps (px2, py2) = z := ⟨_, rfl⟩
          rw [hzi] at hidx HIX
          have HCSX := Lib.hid hcs
          rw [hcs] at hlen hrg hln
          have HM1 := Lib.hid (show MapSt _ b cellK valK (visM cs) from hcs ▸ HM1.out)
          clear fa fb ha hq10 hcs hzi
          have n1 := Holds.new wr #[.int .i8 px2, .int .i8 py2] 30
          have p0 := q0.alloc (.cells #[.int .i8 px2, .int .i8 py2] 30)
          have p1 := q1.alloc (.cells #[.int .i8 px2, .int .i8 py2] 30)
          have p2 := q2.alloc (.cells #[.int .i8 px2, .int .i8 py2] 30)
          have HO3 := Lib.hid (HO1.out.alloc (.cells #[.int .i8 px2, .int .i8 py2] 30))
          have HP3 := Lib.hid (HP1.out.alloc (.cells #[.int .i8 px2, .int .i8 py2] 30))
          have HM3 := Lib.hid (HM1.out.alloc (.cells #[.int .i8 px2, .int .i8 py2] 30))
          have hb4 := hb.alloc (by have := hb.size; omega) (.cells #[.int .i8 px2, .int .i8 py2] 30)
          obtain ⟨u, hu⟩ : ∃ u, wr.heap.size = u := ⟨_, rfl⟩
          have hbl2 : b < u := by rw [← hu]; exact HM1.out.lt
          have hgl : gp < u ∧ ga < u := by rw [← hu]; exact ⟨(own_lt HP1.out).2, (own_lt HO1.out).2⟩
          obtain ⟨w7, hw7⟩ : ∃ w7, wr.alloc (.cells #[.int .i8 px2, .int .i8 py2] 30) = w7 := ⟨_, rfl⟩
          rw [hw7] at n1 p0 p1 p2 HO3 HP3 HM3 hb4
          rw [hu] at n1
          obtain ⟨-, -, dN, -, lN⟩ := n1.facts
          have HW7 := Lib.hid hw7
          have HU := Lib.hid hu
          clear hw7 hu q0 q1 q2 HO1 HP1 HM1 hb
          go_wp2_with fail
          try simp only [HW7.out, HU.out]
          refine (HIX.out _ HP3.out).mono ?_
          rintro e w8 ⟨rfl, hb9⟩
          have hb5 := hb4.trans (hb9.mono (by have := hb4.size; omega))
          have n2 := n1.below hb9 n1.lt
          have y0 := p0.below hb9 p0.lt
          have y1 := p1.below hb9 p1.lt
          have y2 := p2.below hb9 p2.lt
          have HO4 := Lib.hid (own_below HO3.out hb9)
          have HP4 := Lib.hid (own_below HP3.out hb9)
          have HM4 := Lib.hid (HM3.out.below hb9 HM3.out.lt)
          have hsb : s + 1 + 1 < b := hs1
          clear n1 p0 p1 p2 HO3 HP3 HM3 hb4 hb9 dN lN ca cb HW7 HU HIX
          cases hcc : (ps.take i).contains (px2, py2) with
          | true =>
            rw [hcc] at hidx
            have hidx2 : (zi == (i : Int)) = false := hidx
            have HT := Lib.hid (show T (S.take k) ++ newK ps (i + 1) = cs by rw [HMISS.out hcc]; exact HCSX.out)
            clear hidx hcc
            go_wp2_with fail
            go_roundw
            case rel => exact ⟨i + 1, by omega, by go_num, HO4.out, HP4.out, by rw [HT.out]; exact HM4.out, y0, y1, y2, hb5⟩
            case measure => simp [intOf]; omega
          | false =>
            rw [hcc] at hidx
            have hidx2 : (zi == (i : Int)) = true := hidx
            have HT := Lib.hid (show T (S.take k) ++ newK ps (i + 1) = cs ++ [(px2, py2)] by rw [HHIT.out hcc, ← List.append_assoc, HCSX.out])
            obtain ⟨o, j, hj, he1, he2, he3⟩ := HM4.out.entry cellKey (by omega) Tryz.underlying61 zeroK64 (px2, py2)
            obtain ⟨o', he4, he5⟩ := he3 (visN cs (px2, py2) + 1)
            have hlk := fun (w' : World) (hw : w'.heap[b]? = w8.heap[b]?) => ((HM4.out.block hw).is.look cellKey Tryz.underlying61 zeroK64 (px2, py2)).1
            have hlk2 := fun (w' : World) (hw : w'.heap[b]? = some o) => ((he2 w' hw).is.look cellKey Tryz.underlying61 zeroK64 (px2, py2)).1
            simp only [cellK, cellV, valK, alLook_put, if_true, Option.getD_some] at he1 he4 hlk hlk2
            have hT : (alLook (visM cs) (px2, py2)).getD 0 = visN cs (px2, py2) := rfl
            rw [hT] at he1 hlk hlk2
            have hbM := HM4.out.lt
            have hpo : ∀ (w' : World), w'.heap.size = w8.heap.size → (w'.putObj b o).heap[b]? = some o := fun w' hw => by
              have h2 : b < w'.heap.size := by rw [hw]; exact hbM
              unfold World.putObj
              simp [h2]
            have f1 := hlk w8.drew rfl
            have f2 := he1 w8.drew rfl
            have f3 := hlk2 (w8.drew.putObj b o) (hpo _ rfl)
            have f4 := he4 (w8.drew.putObj b o) (hpo _ rfl)
            have HE5 := Lib.hid he5
            obtain ⟨-, sN⟩ := n2.later
            obtain ⟨-, -, dN, -, -⟩ := n2.facts
            clear hlk hlk2 he1 he4 he3 he2 hT he5 hpo hidx hcc
            obtain ⟨tt, htt⟩ : ∃ tt, visN cs (px2, py2) = tt := ⟨_, rfl⟩
            rw [htt] at f1 f2 f3 f4 HE5 hrg
            have HTT := Lib.hid htt
            clear htt
            go_wp2_with fail
            go_region
            have hOn : Only [b] w8 ((w8.drew.putObj b o).putObj b o') := (((Only.refl [b] w8).drew).putT (by simp) o).putT (by simp) o'
            have HO5 := Lib.hid (hOn.own HO4.out (fun z hz => by have := own_far HO4.out z hz; simp; omega))
            have HP5 := Lib.hid (hOn.own HP4.out (fun z hz => by have := own_far HP4.out z hz; simp; omega))
            have z0 := hOn.holds y0 (by simp; omega)
            have z1 := hOn.holds y1 (by simp; omega)
            have z2 := hOn.holds y2 (by simp; omega)
            have hb7 := hb5.trans (hOn.toBelow (B := s) (by simp; omega) (by have := hb5.size; omega))
            have hM7 := HE5.out ((w8.drew.putObj b o).putObj b o') (by
              have h2 : b < (w8.drew.putObj b o).heap.size := by simp [World.putObj]; exact hbM
              show ((w8.drew.putObj b o).heap.setIfInBounds b o')[b]? = some o'
              rw [Array.getElem?_setIfInBounds, if_pos rfl, if_pos h2])
            have HM7 := Lib.hid (show MapSt ((w8.drew.putObj b o).putObj b o') b cellK valK (visM (T (S.take k) ++ newK ps (i + 1))) by
              have e : visN cs (px2, py2) = tt := HTT.out
              rw [HT.out, visM_snoc, e]
              exact hM7)
            clear hOn hM7 hb5 y0 y1 y2 HO4 HP4 HM4 n2 sN dN f1 f2 f3 f4 HE5
            go_wp2_with fail
            go_roundw
            case rel => exact ⟨i + 1, by omega, by go_num, HO5.out, HP5.out, HM7.out, z0, z1, z2, hb7⟩
            case measure => simp [intOf]; omega
        · obtain rfl : i = N + 1 := by omega
          have hd2 : decide (((N + 1 : Nat) : Int) < (N : Int) + 1) = false := by simp
          have HM2 := Lib.hid (show MapSt wr b cellK valK (visM (T (S.take (k + 1)))) by rw [HTK.out]; exact HM1.out)
          clear HP1 HM1
          go_wp2_with fail
          go_roundw
          case rel => exact ⟨k + 1, by omega, by go_num, HO1.out, HM2.out, q0, q1, q2, hb⟩
          case measure => simp [intOf]; omega
    · obtain rfl : k = n := by omega
      have hd : decide ((k : Int) < (k : Int)) = false := by simp
      have HMk := Lib.hid (show MapIs wr b cellK valK (visM (T S)) by
        have h := HM1.out.is
        rwa [List.take_of_length_le (by rw [HN.out]; exact Nat.le_refl _)] at h)
      go_wp2_with fail
      refine (HMO.out b _ HMk.out).mono ?_
      rintro e w5 ⟨rfl, hb5⟩
      obtain ⟨⟨ax, ay⟩, az, ac⟩ := A
      have j0 := q2.below hb5 q2.lt
      have hb6 := hb.trans (hb5.mono (by have := hb.size; omega))
      have HJ := Lib.hid j0
      have HB6 := Lib.hid hb6
      obtain ⟨r9, f9, -, -, l9⟩ := j0.facts
      clear j0 hb6 hb5 HM1 HO1 HMk HMO hb q0 q1 q2
      simp only [cellNN3]
      go_wp2_with fail
      exact bodyPost_ret (results_cell_nn rfl (by kernel_rfl) _ rfl rfl rfl (HJ.out.setRow _) rfl) rfl ⟨rfl, below_setRow' HB6.out (by omega) _⟩

set_option maxRecDepth 100000 in
set_option maxHeartbeats 4000000 in
theorem itrap_bad (L : Lawn) (hL : L.Fits) (g : Nat → Nat → Int) (n : Int) (k : Nat) (hk : chkE L g (upZ n 60) [] = some k) {a0 a1 a2 a3 a4 : Addr} (w : World) (hE : ErrsIn w a0 a1 a2 a3 a4) :
    Calls Tryz.prog 8 #[.agg L.cells, .agg (levV g), .int .i64 n] w fun e w' => e = .returned (cellNN3 ((0, 0), 0, errZ k)) ∧ Below w.heap.size w w' := by
  obtain ⟨s, hs⟩ : ∃ s, w.heap.size = s := ⟨_, rfl⟩
  obtain ⟨aE, hv, hco⟩ := chk_code (a0 := a0) (a1 := a1) (a2 := a2) (a3 := a3) (a4 := a4) hk
  have HCK := Lib.hid (show ∀ (w : World), ErrsIn w a0 a1 a2 a3 a4 → Calls Tryz.prog 19 #[.agg L.cells, .agg (levV g), .int .i64 n, .slice none 0 0] w fun e w' => e = .returned (.iface 159 (.pointer (some aE))) ∧ Below w.heap.size w w' from fun w hE => by
    have h := checkMoles_any L hL g n w.heap.size 0 (.slice none 0 0) (by omega) [] rfl w hE (World.ownsRow_nil _ _ _ _)
    rwa [hk, hv] at h)
  have HCO := Lib.hid hco
  obtain ⟨z, hz⟩ : ∃ z, errZ k = z := ⟨_, rfl⟩
  rw [hz] at HCO ⊢
  clear hL hk hv hco hz
  obtain ⟨W0, hW0⟩ : ∃ W0, ((w.alloc (.cells L.cells 33)).alloc (.cells (levV g) 35)).alloc (.cells #[.int .i8 0, .int .i8 0] 30) = W0 := ⟨_, rfl⟩
  have g0 : Holds W0 s L.cells := by rw [← hW0]; exact ((Holds.new' _ _ _ _ hs.symm).alloc _).alloc _
  have g1 : Holds W0 (s + 1) (levV g) := by rw [← hW0]; exact (Holds.new' _ _ _ _ (by simp <;> omega)).alloc _
  have g2 : Holds W0 (s + 1 + 1) #[.int .i8 0, .int .i8 0] := by rw [← hW0]; exact Holds.new' _ _ _ _ (by simp <;> omega)
  have hb : Below s w W0 := by rw [← hW0]; exact (((Below.refl s w).alloc (by omega) _).alloc (by simp; omega) _).alloc (by simp; omega) _
  have hE0 : ErrsIn W0 a0 a1 a2 a3 a4 := hE.below (hs.symm ▸ hb)
  obtain ⟨r0, -, -, -, l0⟩ := g0.facts
  obtain ⟨r1, -, -, -, l1⟩ := g1.facts
  rw [hs]
  go_enter Tryz.func8, Tryz.ntmps8
  go_wp2_with fail
  try rw [hW0]
  clear hW0
  refine (HCK.out _ hE0).mono ?_
  rintro e w1 ⟨rfl, hb1⟩
  have hb2 : Below s w w1 := hb.trans (hb1.mono (by have := hb.size; omega))
  have m2 := g2.below hb1 g2.lt
  have HE1 := Lib.hid (hE0.below hb1)
  have HJ := Lib.hid m2
  have HB2 := Lib.hid hb2
  obtain ⟨r9, f9, -, -, l9⟩ := m2.facts
  clear g0 g1 g2 r0 r1 l0 l1 hb hb1 hE0 m2 hb2 HCK
  go_wp2_with fail
  refine (HCO.out _ HE1.out).mono ?_
  rintro e w2 ⟨rfl, hw2⟩
  rw [hw2]
  clear hw2
  go_wp2_with fail
  exact bodyPost_ret (results_cell_nn rfl (by kernel_rfl) _ rfl rfl rfl (HJ.out.setRow _) rfl) rfl ⟨rfl, below_setRow' HB2.out (by omega) _⟩
end Go.Proofs.YtabemgplddfemaaGreatDoor
