/- The program's reading of a lawn. -/
import Derived.Test.YthfhpcigjnjkdaaDoorSRdLn
import Derived.Test.YthfhpcigjnjkdaaDoorIRdLv
namespace Go.Proofs.YthfhpcigjnjkdaaDoor
open Go.RowKit
set_option linter.unusedVariables false
set_option linter.unusedSimpArgs false
attribute [local go_sem ↓] loadRow loadGrid loadLawn loadMirror storeRow storeGrid storeLawn allocRow allocGrid allocLawn buildZero buildSides

theorem indexKd_any (b : UInt8) (w : World) :
    Calls Tryd.prog 63 #[.string ⟨#[46, 35, 84, 61]⟩, .int .u8 (b.toNat : Int)] w fun e w' => e = .returned (.int .i64 (kd b)) ∧ w' = w := by
  have := Tryd.strings_IndexByte ⟨#[46, 35, 84, 61]⟩ (b.toNat : Int) w
  rw [show ((b.toNat : Int).toNat.toUInt8) = b by simp] at this
  rw [show (⟨#[46, 35, 84, 61]⟩ : ByteArray).data.toList = [46, 35, 84, 61] from rfl, kd_index] at this
  exact this

set_option maxRecDepth 100000 in
set_option maxHeartbeats 4000000 in
theorem ireadLn_any (s : ByteArray) (hs : s.size ≤ 1048576) (w : World) :
    Calls Tryd.prog 15 #[.string s] w fun e w' => e = .returned (.tuple #[.agg (rnL s.data.toList).cells, .int .i64 (rnC s.data.toList)]) ∧ Below w.heap.size w w' := by
  have hlen : s.data.toList.length = s.size := by rw [Array.length_toList]; rfl
  have HCU := Lib.hid (fun w => Tryd.strings_CutSuffix s ⟨#[10]⟩ w (by omega))
  obtain ⟨t, ht⟩ : ∃ t, s.data.toList = t := ⟨_, rfl⟩
  rw [ht, show (⟨#[10]⟩ : ByteArray).data.toList = [10] from rfl] at HCU
  rw [ht] at hlen ⊢
  clear ht
  have hle := Lib.trimSuffix_le t [10]
  obtain ⟨SX, hSX⟩ : ∃ SX : ByteArray, ⟨(Lib.trimSuffix t [10]).toArray⟩ = SX := ⟨_, rfl⟩
  have hsx : SX.data.toList = Lib.trimSuffix t [10] := by rw [← hSX]
  have hsz : SX.size ≤ 1048576 := by rw [← hSX]; simp [ByteArray.size]; omega
  have hSP := fun w => splitN_one SX hsz 10 11 (by decide) (by decide) w
  rw [hsx] at hSP
  rw [hSX] at HCU
  obtain ⟨u, hu⟩ : ∃ u, w.heap.size = u := ⟨_, rfl⟩
  have HU := Lib.hid hu
  obtain ⟨W1, hW1⟩ : ∃ W1, w.alloc (.cells (Lawn.cells ⟨0, 0, fun _ _ => 0⟩) 26) = W1 := ⟨_, rfl⟩
  have g0 : Holds W1 u Lawn.zero.cells := by rw [← hW1]; exact Holds.new' _ _ _ _ hu.symm
  have hB1 : Below u w W1 := by rw [← hW1]; exact (Below.refl u w).alloc (by omega) _
  have hs1 := g0.lt
  obtain ⟨LZ, hLZ⟩ : ∃ LZ, Lawn.zero = LZ := ⟨_, rfl⟩
  rw [hLZ] at g0
  have HLZ := Lib.hid hLZ
  have HZE := Lib.hid (show Lawn.cells ⟨0, 0, fun _ _ => 0⟩ = LZ.cells by rw [← hLZ]; rfl)
  have hnone : ¬ GoodLn t → rnC t = 5 ∧ rnL t = LZ := fun h => by rw [← hLZ]; exact rn_none h
  obtain ⟨RC, hRC⟩ : ∃ RC, rnC t = RC := ⟨_, rfl⟩
  obtain ⟨RL, hRL⟩ : ∃ RL, rnL t = RL := ⟨_, rfl⟩
  rw [hRC, hRL] at hnone ⊢
  have HRC := Lib.hid hRC
  have HRL := Lib.hid hRL
  clear hRC hRL
  obtain ⟨r0, fr0, -, -, -⟩ := g0.facts
  have gz := g0.setRow LZ.cells
  rw [hu]
  cases hen : Lib.hasSuffix t [10] with
  | false =>
    have HE := Lib.hid (hnone fun hg => by rw [good_end hg] at hen; cases hen)
    rw [hen] at HCU
    clear hen hnone hSP hsx hSX hle hlen hLZ
    go_enter Tryd.func15, Tryd.ntmps15
    go_wp2_with fail
    try simp only [hu]
    try rw [hW1]
    clear hW1 hu
    have hze := HZE.out
    refine (HCU.out _).mono ?_
    rintro e W2 ⟨rfl, hw2⟩
    rw [hw2]
    clear hw2
    go_wp2_with fail
    try rw [hze]
    exact bodyPost_ret (results_cell_tmp_holds rfl wideLawn _ rfl gz (by simp)) rfl ⟨by rw [HE.out.1, HE.out.2]; rfl, below_setRow' hB1 (by omega) _⟩
  | true =>
  obtain ⟨ls, hls⟩ : ∃ ls, Lib.splitK [10] 0 (min 11 ((Lib.trimSuffix t [10]).length + 1) - 1) (Lib.trimSuffix t [10]) = ls := ⟨_, rfl⟩
  obtain ⟨hr1, hr2⟩ := cut_rows hen hls
  have hln : ls ≠ [] := by rw [← hls]; exact splitK_join 10 _ _
  have HXL := Lib.hid (show ∀ (k : Nat) x, ls[k]? = some x → x.length ≤ 1048576 from fun k x h => by
    have := splitK_mem_len (c := 10) (l := x) (t := Lib.trimSuffix t [10]) (by rw [hls]; exact List.mem_of_getElem? h)
    omega)
  rw [hls] at hSP
  rw [hen] at HCU
  obtain ⟨N, hN⟩ : ∃ N, ls.length = N := ⟨_, rfl⟩
  have hN1 : 1 ≤ N := by have := List.length_pos_iff.2 hln; omega
  rw [hN] at hSP hr1 hr2
  have HQ := Lib.hid (show ∀ i, i < N → ∃ x, ls[i]? = some x from fun i h => ⟨_, List.getElem?_eq_getElem (by omega)⟩)
  obtain ⟨l0, hl0⟩ := HQ.out 0 (by omega)
  obtain ⟨S0, hS0, hz0, -⟩ := row_text l0
  have hR : N ≤ 10 → hgT t = N ∧ wdT t = S0.size ∧ (splitS 10 t)[N]? = some [] ∧ ∀ k, k < N → (splitS 10 t)[k]? = ls[k]? := fun h => by
    have e := hr1 h
    refine ⟨by unfold hgT; rw [e]; simp [hN], ?_, by rw [e, List.getElem?_append_right (by omega), hN]; simp, fun k hk => by rw [e, List.getElem?_append_left (by omega)]⟩
    unfold wdT
    rw [hz0]
    simp only [List.getD_eq_getElem?_getD, e, List.getElem?_append_left (show 0 < ls.length by omega), hl0, Option.getD_some]
  obtain ⟨b1, hb1⟩ : ∃ b, inB (S0.size : Int) 1 10 = b := ⟨_, rfl⟩
  obtain ⟨b2, hb2⟩ : ∃ b, inB (N : Int) 1 10 = b := ⟨_, rfl⟩
  obtain ⟨LN, cN, hn, hn1, hn2⟩ : ∃ (LN : Lawn) (c : Int), newOf (S0.size : Int) (N : Int) = .tuple #[.agg LN.cells, .int .i64 c] ∧ ((b1 && b2) = true → LN = ⟨(S0.size : Int), (N : Int), fun _ _ => 0⟩ ∧ c = 0) ∧ (¬ (b1 && b2) = true → LN = Lawn.zero ∧ c = 2) := by
    unfold newOf
    rw [hb1, hb2]
    by_cases h : (b1 && b2) = true
    · rw [if_pos h]; exact ⟨_, _, rfl, fun _ => ⟨rfl, rfl⟩, fun h2 => absurd h h2⟩
    · rw [if_neg h]; exact ⟨_, _, rfl, fun h2 => absurd h2 h, fun _ => ⟨rfl, rfl⟩⟩
  have hnw : ∀ w : World, Calls Tryd.prog 62 #[.int .i64 (S0.size : Int), .int .i64 (N : Int)] w fun e w' => e = .returned (.tuple #[.agg LN.cells, .int .i64 cN]) ∧ Below w.heap.size w w' := fun w => hn ▸ implNew_any (S0.size : Int) (N : Int) w
  have HNW := Lib.hid hnw
  clear hn hnw
  have hNN : N ≤ 11 := by
    obtain ⟨w', hw'⟩ : ∃ w' : World, w' = w := ⟨_, rfl⟩
    rw [← hN, ← hls]
    exact splitK_le 10 _ _ (by omega)
  have HSP := Lib.hid (show ∀ w, Calls Tryd.prog 61 #[.string SX, .string ⟨#[10]⟩, .int .i64 11] w fun e w' => (∃ cap, e = .returned (.slice (some ⟨w.heap.size, 0, none⟩) N cap)) ∧ (∀ (j : Nat) l, ls[j]? = some l → w'.cell? ⟨w.heap.size, j, none⟩ = some (.string ⟨l.toArray⟩)) ∧ Below w.heap.size w w' from fun w =>
    (hSP w).mono fun e w' ⟨⟨cap, h1, h2, h3⟩, h4⟩ => ⟨⟨cap, h1⟩, h3, h4⟩)
  have HL0 := Lib.hid (show ∀ (wr : World) (g : Nat), (∀ (j : Nat) x, ls[j]? = some x → wr.cell? ⟨g, j, none⟩ = some (.string ⟨x.toArray⟩)) → wr.cell? ⟨g, 0, none⟩ = some (.string S0) from fun wr g h => by rw [hS0]; exact h 0 l0 hl0)
  have hl0b : S0.size ≤ 1048576 := by rw [hz0]; exact HXL.out 0 l0 hl0
  have hN0 : (0 : Int) < (N : Int) := by omega
  clear gz hz0 hS0
  go_enter Tryd.func15, Tryd.ntmps15
  go_wp2_with fail
  try simp only [hu]
  try rw [hW1]
  clear hW1 hu r0 fr0
  have hze := HZE.out
  refine (HCU.out _).mono ?_
  rintro e W2 ⟨rfl, hw2⟩
  rw [hw2]
  clear hw2 HCU
  go_wp2_with fail
  refine (HSP.out _).mono ?_
  rintro e W3 ⟨⟨cap, rfl⟩, hcs, hb3⟩
  have k0 := g0.below hb3 g0.lt
  have hB3 : Below u w W3 := hB1.trans (hb3.mono (by omega))
  obtain ⟨g, hg⟩ : ∃ g, W1.heap.size = g := ⟨_, rfl⟩
  rw [hg] at hcs hs1 ⊢
  have c0 := HL0.out _ _ hcs
  have hgl : g < W3.heap.size := by
    have := cell_block (hcs 0 l0 hl0)
    simpa using this
  have HC := Lib.hid hcs
  clear hcs hb3 hB1 HSP g0 hg
  go_wp2_with fail
  refine (HNW.out _).mono ?_
  rintro e W4 ⟨rfl, hb4⟩
  have m0 := k0.below hb4 k0.lt
  have HC4 := Lib.hid (cells_below HC.out hgl hb4)
  have hB4 : Below u w W4 := hB3.trans (hb4.mono (by have := k0.lt; omega))
  have hgl4 : g < W4.heap.size := by have := hb4.size; omega
  clear hb4 k0 HC hB3 c0 hgl HNW
  by_cases hbb : (b1 && b2) = true
  case neg =>
    obtain ⟨rfl, rfl⟩ := hn2 hbb
    have HE := Lib.hid (hnone fun hg => hbb (by
      rcases Nat.lt_or_ge 10 N with h | h
      · have := hr2 h
        have := hg.2.1.2
        omega
      · obtain ⟨q1, q2, -, -⟩ := hR h
        have h1 := hg.2.1
        have h2 := hg.2.2.1
        rw [q1] at h1
        rw [q2] at h2
        rw [← hb1, ← hb2]
        simp [inB]
        omega))
    obtain ⟨p, hp⟩ : ∃ p, W4.heap.size = p := ⟨_, rfl⟩
    have i0 := m0.alloc (.cells Lawn.zero.cells 26)
    have hB5 : Below u w (W4.alloc (.cells Lawn.zero.cells 26)) := hB4.alloc (by omega) _
    obtain ⟨r0, fr0, -, -, -⟩ := i0.facts
    have gz := i0.setRow LZ.cells
    clear hnone hr1 hr2 hR hbb hp hLZ hn1 hn2
    go_wp2_with fail
    try rw [hze]
    exact bodyPost_ret (results_cell_tmp_holds rfl wideLawn _ rfl gz (by simp)) rfl ⟨by rw [HE.out.1, HE.out.2]; rfl, below_setRow' hB5 (by omega) _⟩
  obtain ⟨rfl, rfl⟩ := hn1 hbb
  have hbb1 : b1 = true ∧ b2 = true := by simpa using hbb
  obtain ⟨p1, p2⟩ := inB_true (hb1.trans hbb1.1)
  obtain ⟨p3, p4⟩ := inB_true (hb2.trans hbb1.2)
  obtain ⟨q1, q2, q3, q4⟩ := hR (by omega)
  have HG4 := Lib.hid (show ∀ k l, k < N → ls[k]? = some l → l.length ≠ S0.size → RC = 5 ∧ RL = LZ from fun k l hk hl h => hnone fun hg => h (by
    rw [← q2]
    exact (hg.2.2.2 k l (by omega) (by rw [q4 k hk]; exact hl)).1))
  have HG5 := Lib.hid (show ∀ k l j b, k < N → ls[k]? = some l → l[j]? = some b → kd b < 0 → RC = 5 ∧ RL = LZ from fun k l j b hk hl hb h => hnone fun hg => by
    have := (hg.2.2.2 k l (by omega) (by rw [q4 k hk]; exact hl)).2 j b hb
    omega)
  have HG6 := Lib.hid (show rowsOk t N → RC = 0 ∧ RL = ⟨(S0.size : Int), (N : Int), fillC (codeT t) S0.size N 0⟩ from fun h4 => by
    have := rn_some (t := t) ⟨by rw [q1]; exact q3, by omega, by omega, by rw [q1]; exact h4⟩
    rw [q1, q2, HRC.out, HRL.out] at this
    exact this)
  have HRS := Lib.hid (show ∀ k l, k < N → rowsOk t k → ls[k]? = some l → l.length = S0.size → (∀ (x : Nat) b, x < l.length → l[x]? = some b → 0 ≤ kd b) → rowsOk t (k + 1) from fun k l hk h hl h1 h2 => rowsOk_snoc h (by rw [q4 k hk]; exact hl) (by rw [q2]; exact h1) h2)
  have HR0 := Lib.hid (rowsOk_zero t)
  have HCD := Lib.hid (show ∀ l y x b, y < N → ls[y]? = some l → l[x]? = some b → codeT t y x = kd b from fun l y x b hy hl hb => codeT_get (by rw [q4 y hy]; exact hl) hb)
  obtain ⟨C, hC⟩ : ∃ C, codeT t = C := ⟨_, rfl⟩
  obtain ⟨P, hP⟩ : ∃ P, rowsOk t = P := ⟨_, rfl⟩
  obtain ⟨W, hW⟩ : ∃ W, S0.size = W := ⟨_, rfl⟩
  rw [hW] at HG4 HG6 HRS p1 p2 ⊢
  rw [hC] at HG6 HCD
  rw [hP] at HG6 HRS HR0
  have w1 : IntKind.i64.wrap (W : Int) = (W : Int) := IntWalk.i64_in _ (by omega)
  obtain ⟨p, hp⟩ : ∃ p, W4.heap.size = p := ⟨_, rfl⟩
  have i0 := m0.alloc (.cells (Lawn.cells ⟨(W : Int), (N : Int), fun _ _ => 0⟩) 26)
  have ip := Holds.new' W4 (Lawn.cells ⟨(W : Int), (N : Int), fun _ _ => 0⟩) 26 p hp.symm
  have HC5 := Lib.hid (cells_below HC4.out hgl4 ((Below.refl W4.heap.size W4).alloc (Nat.le_refl _) (.cells (Lawn.cells ⟨(W : Int), (N : Int), fun _ _ => 0⟩) 26)))
  have hB5 : Below u w (W4.alloc (.cells (Lawn.cells ⟨(W : Int), (N : Int), fun _ _ => 0⟩) 26)) := hB4.alloc (by omega) _
  go_wp2_with fail
  obtain ⟨W5, hW5⟩ : ∃ W5, W4.alloc (.cells (Lawn.cells ⟨(W : Int), (N : Int), fun _ _ => 0⟩) 26) = W5 := ⟨_, rfl⟩
  rw [hW5] at i0 ip HC5 hB5
  rw [hp] at hgl4
  try simp only [hp]
  try rw [hW5]
  clear hn1 hn2 hW5 hp m0 HC4 hB4 hnone hr1 hr2 hR hbb hbb1 hb1 hb2 q1 q2 q3 q4 hC hP hen hls hln hSP hsx hSX hle hlen hLZ hl0 HL0 hN hW hl0b
  have hup : u < p := by omega
  go_loopw [38] (fun i wr => ∃ (k : Nat), k ≤ N ∧ i = .int .i64 (k : Int) ∧ P k ∧ Holds wr u LZ.cells ∧ Holds wr p (Lawn.cells ⟨(W : Int), (N : Int), fillC C W k 0⟩) ∧ (∀ (j : Nat) x, ls[j]? = some x → wr.cell? ⟨g, j, none⟩ = some (.string ⟨x.toArray⟩)) ∧ Below u w wr) (fun i _ => N - (intOf i).toNat)
  case atStart => exact ⟨0, by omega, rfl, HR0.out, i0, by rw [fillC_zero]; exact ip, HC5.out, hB5⟩
  case round =>
    obtain ⟨k, hk, rfl, hpk, k0, kp, hcs, hb⟩ := hrel
    have HPK := Lib.hid hpk
    have HC := Lib.hid hcs
    clear hpk i0 ip HC5 hB5 hcs
    by_cases hlt : k < N
    · have hd : decide ((k : Int) < (N : Int)) = true := by simp; omega
      obtain ⟨l, hl⟩ := HQ.out k (by omega)
      obtain ⟨S, hS, hz, hGS⟩ := row_text l
      have HCS := Lib.hid (show ∀ wr : World, (∀ (j : Nat) x, ls[j]? = some x → wr.cell? ⟨g, j, none⟩ = some (.string ⟨x.toArray⟩)) → wr.cell? ⟨g, k, none⟩ = some (.string S) from fun wr h => by rw [hS]; exact h k l hl)
      have d0 := HCS.out _ HC.out
      have dW : wr.cell? ⟨p, 0, none⟩ = some (.int .i8 (W : Int)) := (kp.cell 0).trans (Lawn.cells_0 _)
      have HZ := Lib.hid hz
      have HGSS := Lib.hid hGS
      have HE4 := Lib.hid (HG4.out k l hlt hl)
      have HE5 := Lib.hid (fun j b hb h => HG5.out k l j b hlt hl hb h)
      have HRN := Lib.hid (HRS.out k l hlt HPK.out hl)
      have HCK := Lib.hid (fun j b hb => HCD.out l k j b hlt hl hb)
      obtain ⟨r0, fr0, -, -, -⟩ := k0.facts
      clear hl hS hGS hz
      by_cases hSW : S.size = W
      case neg =>
        have hd2 : decide ((S.size : Int) = (W : Int)) = false := by simp; omega
        have hd3 : ((S.size : Int) == (W : Int)) = false := by simp; omega
        have hd4 : ((S.size : Int) != (W : Int)) = true := by simp; omega
        have HE := Lib.hid (HE4.out (by rw [← HZ.out]; exact hSW))
        have gz := k0.setRow LZ.cells
        clear hSW
        go_wp2_with fail
        try rw [hze]
        exact bodyPost_ret (results_cell_tmp_holds rfl wideLawn _ rfl gz (by simp)) rfl ⟨by rw [HE.out.1, HE.out.2]; rfl, below_setRow' hb (by omega) _⟩
      have hd2 : decide ((S.size : Int) = (W : Int)) = true := by simp; omega
      have hd3 : ((S.size : Int) == (W : Int)) = true := by simp; omega
      have hd4 : ((S.size : Int) != (W : Int)) = false := by simp; omega
      have HSW := Lib.hid hSW
      clear hSW HE4
      go_wp2_with fail
      clear d0 dW hd2 hd3 hd4 r0 fr0
      go_loopw [52] (fun i wr => ∃ (j : Nat), j ≤ S.size ∧ i = .int .i64 (j : Int) ∧ (∀ (x : Nat) b, x < j → l[x]? = some b → 0 ≤ kd b) ∧ Holds wr u LZ.cells ∧ Holds wr p (Lawn.cells ⟨(W : Int), (N : Int), fillC C W k j⟩) ∧ (∀ (j : Nat) x, ls[j]? = some x → wr.cell? ⟨g, j, none⟩ = some (.string ⟨x.toArray⟩)) ∧ Below u w wr) (fun i _ => S.size - (intOf i).toNat)
      case atStart => exact ⟨0, by omega, rfl, (fun x b h => absurd h (Nat.not_lt_zero _)), k0, kp, HC.out, hb⟩
      case round =>
        clear k0 kp HC hb
        obtain ⟨j, hj, rfl, hpj, k0, kp, hcs, hb⟩ := hrel
        have HPJ := Lib.hid hpj
        have HC := Lib.hid hcs
        clear hpj hcs
        by_cases hjs : j < S.size
        · have hdj : decide ((j : Int) < (S.size : Int)) = true := by simp; omega
          have hjt : j < W := by rw [← HSW.out]; exact hjs
          have hjs2 : (j : Int) < (S.size : Int) := by omega
          have hj0 : (0 : Int) ≤ (j : Int) := by omega
          have hbj := HGSS.out j hjs
          obtain ⟨z, hz⟩ : ∃ z, kd (S[j]'hjs) = z := ⟨_, rfl⟩
          have HKL := Lib.hid (show ∀ w, Calls Tryd.prog 63 #[.string ⟨#[46, 35, 84, 61]⟩, .int .u8 ((S[j]'hjs).toNat : Int)] w fun e w' => e = .returned (.int .i64 z) ∧ w' = w from fun w => by rw [← hz]; exact indexKd_any _ w)
          have hzr := kd_range (S[j]'hjs)
          rw [hz] at hzr
          have HE := Lib.hid (fun h => HE5.out j _ hbj (by rw [hz]; exact h))
          have HCC := Lib.hid (show C k j = z by rw [HCK.out j _ hbj, hz])
          have HPN := Lib.hid (show 0 ≤ z → ∀ (x : Nat) b, x < j + 1 → l[x]? = some b → 0 ≤ kd b from fun h x b hx hb => by
            rcases Nat.lt_or_ge x j with h1 | h1
            · exact HPJ.out x b h1 hb
            · have e : x = j := by omega
              rw [e, hbj] at hb
              cases hb
              rw [hz]; exact h)
          clear hbj hz
          go_wp2_with fail
          refine (HKL.out _).mono ?_
          rintro e W6 ⟨rfl, hw6⟩
          rw [hw6]
          clear hw6 HKL
          by_cases hzn : z < 0
          · have hdz : decide (z < 0) = true := by simpa using hzn
            have HEE := Lib.hid (HE.out hzn)
            obtain ⟨r0, fr0, -, -, -⟩ := k0.facts
            have gz := k0.setRow LZ.cells
            clear hzn hzr
            go_wp2_with fail
            try rw [hze]
            exact bodyPost_ret (results_cell_tmp_holds rfl wideLawn _ rfl gz (by simp)) rfl ⟨by rw [HEE.out.1, HEE.out.2]; rfl, below_setRow' hb (by omega) _⟩
          · have hdz : decide (z < 0) = false := by simp; omega
            have hwu : IntKind.u8.wrap z = z := IntWalk.u8_in _ (by omega)
            have HPX := Lib.hid (HPN.out (by omega))
            obtain ⟨-, -, cc, fr, hl⟩ := kp.facts
            have ck : wr.cell? ⟨p, 2 + k * 10 + j, none⟩ = some (.int .u8 (fillC C W k j k j)) := (cc _).trans (Lawn.cells_get _ k j (by omega) (by omega))
            have hk0 : (0 : Int) ≤ (k : Int) := by omega
            have hk1 : (k : Int) < 10 := by omega
            have hj1 : (j : Int) < 10 := by omega
            clear hzn hzr cc
            go_wp2_with fail
            go_roundw
            case rel =>
              refine ⟨j + 1, by omega, by go_num, HPX.out, k0.setCell_other _ _ (by dsimp only; omega), ?_, cells_set HC.out p _ _ (by omega), hb.setCell (p := ⟨p, 2 + k * 10 + j, none⟩) (by dsimp only; omega) _⟩
              have := kp.setCell (2 + k * 10 + j) (.int .u8 z)
              rw [Lawn.cells_put _ k j (by omega) (by omega), ← HCC.out, fill_put hjt] at this
              rw [← HCC.out]
              exact this
            case measure => simp [intOf]; omega
        · have hdj : decide ((j : Int) < (S.size : Int)) = false := by simp; omega
          obtain rfl : j = S.size := by omega
          have HPX := Lib.hid (HRN.out (by rw [← HZ.out]; exact HSW.out) (fun x b hx hb => HPJ.out x b (by rw [HZ.out]; exact hx) hb))
          rw [HSW.out, fillC_row] at kp
          go_wp2_with fail
          go_roundw
          case rel => exact ⟨k + 1, by omega, by go_num, HPX.out, k0, kp, HC.out, hb⟩
          case measure => simp [intOf]; omega
    · have hd : decide ((k : Int) < (N : Int)) = false := by simp; omega
      obtain rfl : k = N := by omega
      have HE := Lib.hid (HG6.out HPK.out)
      obtain ⟨r0, fr0, -, -, -⟩ := k0.facts
      obtain ⟨rp, -, -, -, -⟩ := kp.facts
      have gz := k0.setRow (Lawn.cells ⟨(W : Int), (k : Int), fillC C W k 0⟩)
      clear HC kp
      go_wp2_with fail
      exact bodyPost_ret (results_cell_tmp_holds rfl wideLawn _ rfl gz (by simp)) rfl ⟨by rw [HE.out.1, HE.out.2]; rfl, below_setRow' hb (by omega) _⟩
end Go.Proofs.YthfhpcigjnjkdaaDoor
