/- The text of levels: pure; the program's row, its each over a row, and its text. -/
import Derived.Test.YthfhpcigjnjkdaaDoorVLev
import Derived.Test.YthfhpcigjnjkdaaDoorBld
import Derived.Test.YthfhpcigjnjkdaaDoorTabT
namespace Go.Proofs.YthfhpcigjnjkdaaDoor
open Go.RowKit Go.Shelf
set_option linter.unusedVariables false
set_option linter.unusedSimpArgs false
attribute [local go_sem ↓] loadRow loadGrid loadLawn loadMirror storeRow storeGrid storeLawn allocRow allocGrid allocLawn buildZero buildSides loadR8 loadL8 loadLv storeR8 storeLv allocR8 allocLv buildZLv

/-- The levels of a row. -/
def rowL (g : Nat → Nat → Int) (W y : Nat) : List Int := (List.range W).map (g y)
theorem rowL_get (g : Nat → Nat → Int) {W y x : Nat} (h : x < W) : (rowL g W y)[x]? = some (g y x) := by unfold rowL; rw [List.getElem?_map, List.getElem?_range h]; rfl
theorem rowL_length (g : Nat → Nat → Int) (W y : Nat) : (rowL g W y).length = W := by simp [rowL]
/-- The text of a row. -/
def rowLT (g : Nat → Nat → Int) (W y : Nat) : List UInt8 := joinS 32 ((rowL g W y).map sgT)
/-- The text of the first rows. -/
def levsT (g : Nat → Nat → Int) (W k : Nat) : List UInt8 := (List.range k).flatMap fun y => rowLT g W y ++ [10]
theorem levsT_succ (g : Nat → Nat → Int) (W k : Nat) : levsT g W (k + 1) = levsT g W k ++ (rowLT g W k ++ [10]) := by simp [levsT, List.range_succ]
theorem sgT_len7 (x : Int) : (sgT x).length ≤ 7 := by
  unfold sgT
  split
  · have := dd_len3 (-x).toNat
    simp; omega
  · have := dd_len3 x.toNat
    omega
theorem rowLT_len (g : Nat → Nat → Int) {W : Nat} (hW : W ≤ 10) (y : Nat) : (rowLT g W y).length ≤ 80 := by
  have := join_le (tx := sgT) (rowL g W y) sgT_len7
  rw [rowL_length] at this
  unfold rowLT
  omega
theorem levsT_len (g : Nat → Nat → Int) {W : Nat} (hW : W ≤ 10) : ∀ k, (levsT g W k).length ≤ k * 81
  | 0 => by simp [levsT]
  | k + 1 => by
    have ih := levsT_len g hW k
    have := rowLT_len g hW k
    rw [levsT_succ]
    simp only [List.length_append, List.length_singleton]
    omega
def levS (L : Lawn) (g : Nat → Nat → Int) : ByteArray := if levB L g then ⟨(levsT g L.wide.toNat L.high.toNat).toArray⟩ else ⟨#[]⟩

set_option maxRecDepth 100000 in
set_option maxHeartbeats 1000000 in
theorem lvrow_any (L : Lawn) (b y W : Nat) (hy : y < 10) (hW : W ≤ 10) (hLw : L.wide = W) (w : World) :
    Calls Tryd.prog 91 #[.pointer (some ⟨b, 0, none⟩), .agg L.cells, .int .i8 y] w fun e w' => e = .returned (.slice (some ⟨b, y * 10, none⟩) W W) ∧ Below w.heap.size w w' := by
  have g0 := Holds.new w L.cells 26
  have hb0 := (Below.refl w.heap.size w).alloc (Nat.le_refl _) (.cells L.cells 26)
  have c0 := (g0.cell 0).trans (Lawn.cells_0 L)
  rw [hLw] at c0
  have hy0 : (0 : Int) ≤ y := by omega
  have hy1 : (y : Int) < 10 := by omega
  have hW0 : (0 : Int) ≤ W := by omega
  have hW1 : (W : Int) ≤ 10 := by omega
  go_enter Tryd.func91, Tryd.ntmps91
  go_wp2_with fail
  obtain ⟨W0, hW0⟩ : ∃ W0, w.alloc (.cells L.cells 26) = W0 := ⟨_, rfl⟩
  rw [hW0] at c0 hb0 ⊢
  clear hW0 g0
  go_quiet (fail)
  all_goals
    go_wp2
    go_ret
    exact ⟨rfl, below_drewN hb0 _⟩

theorem lvone_any (z : Int) (h0 : -128 ≤ z) (h1 : z ≤ 127) (w : World) (hT : TabUp w) :
    Calls Tryd.prog 92 #[.int .i8 z] w fun e w' => e = .returned (.string ⟨(sgT z).toArray⟩) ∧ Below w.heap.size w w' := by
  have e1 : IntKind.i64.wrap z = z := IntWalk.i64_in _ (by omega)
  have HC := Lib.hid (itoaS_any z (by omega) (by omega) w hT)
  go_enter Tryd.func92, Tryd.ntmps92
  go_wp2_with fail
  refine HC.out.mono ?_
  rintro e w2 ⟨rfl, hb⟩
  go_wp2_with fail
  go_ret
  exact ⟨rfl, hb⟩

set_option maxRecDepth 100000 in
set_option maxHeartbeats 2000000 in
theorem lveach_any (g : Nat → Nat → Int) (b y W : Nat) (hy : y < 10) (hW : W ≤ 10) (hg : LevFits g) (w : World) (h : Holds w b (levV g)) (hT : TabUp w) :
    Calls Tryd.prog 90 #[.slice (some ⟨b, y * 10, none⟩) W W, .func (.func 92) #[] #[]] w fun e w' => (∃ v, e = .returned v ∧ w'.ownsRow w.heap.size 9 1 v W (strV ((rowL g W y).map sgT))) ∧ Below w.heap.size w w' := by
  obtain ⟨i0, hi, hz0, hz1, hz2⟩ := info_parts strInfo
  have HI := Lib.hid (show Tryd.prog.info? 9 = some i0 ∧ i0.zero = some (.string ⟨#[]⟩) ∧ i0.size = 1 ∧ i0.bytes = 16 from ⟨hi, hz0, hz1, hz2⟩)
  have hE : ∀ args w, (callFunc 92 args).run Tryd.prog w = .ok (.enter 92 args) w := fun args w => by kernel_rfl
  have hm : w.ownsRow w.heap.size 9 1 (.slice none 0 0) 0 [] := World.ownsRow_nil _ _ _ _
  have H := Lib.hid h
  have hbl := h.lt
  have HM := Lib.hid hm
  have HTT := Lib.hid hT
  have HG := Lib.hid (show ∀ k, k < W → -128 ≤ g y k ∧ g y k ≤ 127 from fun k hk => hg y k hy (by omega))
  have HNX := Lib.hid (show ∀ k, k < W → strV (((rowL g W y).take (k + 1)).map sgT) = strV (((rowL g W y).take k).map sgT) ++ [.string ⟨(sgT (g y k)).toArray⟩] from fun k h => by
    rw [List.take_add_one, rowL_get g h]; simp [strV])
  have HALL := Lib.hid (show strV (((rowL g W y).take W).map sgT) = strV ((rowL g W y).map sgT) from by rw [List.take_of_length_le (by rw [rowL_length]; exact Nat.le_refl _)])
  clear hi hz0 hz1 hz2 h hm hT hg
  obtain ⟨u, hu⟩ : ∃ u, w.heap.size = u := ⟨_, rfl⟩
  rw [hu] at HM hbl ⊢
  have HU := Lib.hid hu
  go_enter Tryd.func90, Tryd.ntmps90
  go_wp2_with fail
  go_loopw [5, 7, 10] (fun x _ i wr => ∃ k : Nat, k ≤ W ∧ i = .int .i64 k ∧ wr.ownsRow u 9 1 x k (strV (((rowL g W y).take k).map sgT)) ∧ Below u w wr) (fun _ _ i _ => W - (intOf i).toNat)
  case atStart => exact ⟨0, by omega, rfl, HM.out, by rw [← HU.out]; exact Below.refl _ _⟩
  case round =>
    obtain ⟨k, hk, rfl, ho, hb⟩ := hrel
    have HO := Lib.hid ho
    clear ho
    have hus : u ≤ wr.heap.size := by have := hb.size; have := HU.out; omega
    by_cases hlt : k < W
    · have hd : decide ((k : Int) < (W : Int)) = true := by simp; omega
      have c0 : wr.cell? ⟨b, y * 10 + k, none⟩ = some (.int .i8 (g y k)) := by
        rw [World.cell?_of_block (hb.block _ (by dsimp only; omega)), H.out.cell]
        exact levV_get g y k hy (by omega)
      obtain ⟨hx0, hx1⟩ := HG.out k hlt
      have HX := HNX.out k hlt
      obtain ⟨z, hz⟩ : ∃ z, g y k = z := ⟨_, rfl⟩
      rw [hz] at c0 hx0 hx1 HX
      have HON := Lib.hid (lvone_any z hx0 hx1 wr (HTT.out.below hb (by have := HU.out; omega)))
      have HXX := Lib.hid HX
      clear hz HX
      go_wp2_with fail
      refine HON.out.mono ?_
      rintro e w2 ⟨rfl, hb2⟩
      have HO2 := Lib.hid (own_below HO.out hb2)
      have hb3 := hb.trans (hb2.mono hus)
      have hus3 : u ≤ w2.heap.size := Nat.le_trans hus hb2.size
      clear hb2 hb c0 HO HON
      go_wp2_with (at_builtin; refine wpList_append_own_at _ rfl _ _ 81 rfl u 9 i0 (.string ⟨#[]⟩) 1 16 Tryd.underlying81 HI.out.1 HI.out.2.1 HI.out.2.2.1 HI.out.2.2.2 rfl (by decide) _ _ _ rfl (HO2.out.alloc _) ⟨w2.heap.size, 0, none⟩ 1 1 [.string ⟨(sgT z).toArray⟩] rfl rfl ?c1 ?c2 ?c3 ?c4 ?c5 ?_)
      case c1 =>
        intro m t ht
        match m, ht with
        | 0, ht => simp at ht; subst ht; exact (Holds.new w2 #[.string ⟨(sgT z).toArray⟩] 9).cell 0
      case c2 => intro t ht; simp at ht; subst ht; rfl
      case c3 => unfold maxLen; omega
      case c4 => omega
      case c5 => simp; omega
      intro v' w3 hown' hgrow _ hat
      have hb5 : Below u w w3 := (hb3.alloc hus3 _).grown hgrow (by simp; omega) (fun k hk => by have := own_far HO2.out k hk; omega)
      have HO3 := Lib.hid (show w3.ownsRow u 9 1 v' (k + 1) (strV (((rowL g W y).take (k + 1)).map sgT)) by rw [HXX.out]; simpa only [List.map_take] using hown')
      clear hown' hgrow hat hb3
      go_wp2_with fail
      go_roundw
      case rel => exact ⟨k + 1, by omega, by go_num, HO3.out, hb5⟩
      case measure => simp [intOf]; omega
    · obtain rfl : k = W := by omega
      have hd : decide ((k : Int) < (k : Int)) = false := by simp
      have HO3 := Lib.hid (show wr.ownsRow u 9 1 u5 k (strV ((rowL g k y).map sgT)) by
        have := HO.out
        rwa [HALL.out] at this)
      go_wp2_with fail
      go_ret
      exact ⟨⟨_, rfl, HO3.out⟩, hb⟩

set_option maxRecDepth 100000 in
set_option maxHeartbeats 2000000 in
theorem ilevT_loop (Wn Hn : Nat) (hW : Wn ≤ 10) (hH : Hn ≤ 10) (L : Lawn) (hL : L.Fits) (hLw : L.wide = Wn) (hLh : L.high = Hn) (g : Nat → Nat → Int) (hg : LevFits g) (hV : levB L g = true) (w : World) (hT : TabUp w) :
    Calls Tryd.prog 44 #[.agg L.cells, .agg (levV g)] w fun e w' => e = .returned (.string ⟨(levsT g Wn Hn).toArray⟩) ∧ Below w.heap.size w w' := by
  have HV := Lib.hid (show ∀ w : World, Calls Tryd.prog 89 #[.agg L.cells, .agg (levV g)] w fun e w' => e = .returned (.bool true) ∧ Below w.heap.size w w' from fun w => hV ▸ implLevels_any L hL g w)
  have HROW := Lib.hid (fun (b y : Nat) (hy : y < 10) (w : World) => lvrow_any L b y Wn hy hW hLw w)
  have HEA := Lib.hid (fun (b y : Nat) (hy : y < 10) (w : World) (h : Holds w b (levV g)) (hT : TabUp w) => lveach_any g b y Wn hy hW hg w h hT)
  have HJ := Lib.hid (show ∀ (y B : Nat) (v : Value) (w : World), w.ownsRow B 9 1 v Wn (strV ((rowL g Wn y).map sgT)) → Calls Tryd.prog 70 #[v, .string ⟨#[32]⟩] w fun e w' => e = .returned (.string ⟨(rowLT g Wn y).toArray⟩) ∧ Below w.heap.size w w' from fun y B v w ho =>
    join_own 32 ((rowL g Wn y).map sgT) Wn (by rw [List.length_map, rowL_length]) B v w ho (by omega) (by have := rowLT_len g hW y; unfold rowLT at this; omega))
  have HSU := Lib.hid (fun k => levsT_succ g Wn k)
  have HLE := Lib.hid (fun k => levsT_len g hW k)
  have HRL := Lib.hid (fun y => rowLT_len g hW y)
  have HTT := Lib.hid hT
  obtain ⟨u, hu⟩ : ∃ u, w.heap.size = u := ⟨_, rfl⟩
  have HU := Lib.hid hu
  obtain ⟨W1, hW1⟩ : ∃ W1, (w.alloc (.cells L.cells 26)).alloc (.cells (levV g) 64) = W1 := ⟨_, rfl⟩
  have g0 : Holds W1 u L.cells := by rw [← hW1]; exact (Holds.new' _ _ _ _ hu.symm).alloc _
  have g1 : Holds W1 (u + 1) (levV g) := by rw [← hW1]; exact Holds.new' _ _ _ _ (by simp; omega)
  have hB1 : Below u w W1 := by rw [← hW1]; exact ((Below.refl u w).alloc (by omega) _).alloc (by simp; omega) _
  have HLW := Lib.hid (show ∀ wr, Holds wr u L.cells → wr.cell? ⟨u, 1, none⟩ = some (.int .i8 (Hn : Int)) from fun wr h => (h.cell 1).trans (by rw [Lawn.cells_1, hLh]))
  clear hL hLw hLh hg hV hT
  rw [hu]
  obtain ⟨r0, -, -, -, l0⟩ := g0.facts
  obtain ⟨r1, -, -, -, l1⟩ := g1.facts
  go_enter Tryd.func44, Tryd.ntmps44
  go_wp2_with fail
  try simp only [hu, Nat.add_assoc, Nat.reduceAdd]
  try rw [hW1]
  clear hW1 hu r0 r1 l0 l1
  refine (HV.out _).mono ?_
  rintro e W2 ⟨rfl, hb2⟩
  have j0 := g0.below hb2 g0.lt
  have j1 := g1.below hb2 g1.lt
  have hB2 : Below u w W2 := hB1.trans (hb2.mono (by have := g1.lt; omega))
  clear hb2 hB1 g0 g1 HV
  obtain ⟨b, hbe⟩ : ∃ b, W2.heap.size = b := ⟨_, rfl⟩
  have hub : u + 1 < b := by have := j1.lt; omega
  have k0 := j0.alloc (.cells #[.pointer none, .slice none 0 0] 130)
  have k1 := j1.alloc (.cells #[.pointer none, .slice none 0 0] 130)
  have hB3 : Below u w (W2.alloc (.cells #[.pointer none, .slice none 0 0] 130)) := hB2.alloc (by omega) _
  have gB : Bld (W2.alloc (.cells #[.pointer none, .slice none 0 0] 130)) b b [] := by rw [← hbe]; exact Bld.made W2 _ (Nat.le_refl _)
  have hsz : b < (W2.alloc (.cells #[.pointer none, .slice none 0 0] 130)).heap.size := by simp; omega
  obtain ⟨W3, hW3⟩ : ∃ W3, W2.alloc (.cells #[.pointer none, .slice none 0 0] 130) = W3 := ⟨_, rfl⟩
  rw [hW3] at k0 k1 hB3 gB hsz
  have c1 := HLW.out _ k0
  go_wp2_with fail
  try simp only [hbe]
  try rw [hW3]
  clear hW3 hbe j0 j1 hB2 c1
  go_loopw [6, 7, 14] (fun _ _ i wr => ∃ k : Nat, k ≤ Hn ∧ i = .int .i8 (k : Int) ∧ Holds wr u L.cells ∧ Holds wr (u + 1) (levV g) ∧ Bld wr b b (Lib.byteCells (levsT g Wn k)) ∧ b < wr.heap.size ∧ Below u w wr) (fun _ _ i _ => Hn - (intOf i).toNat)
  case atStart => exact ⟨0, by omega, rfl, k0, k1, gB, hsz, hB3⟩
  case round =>
    obtain ⟨k, hk, rfl, m0, m1, mB, hbs, hb⟩ := hrel
    have HBB := Lib.hid mB
    clear k0 k1 gB hsz hB3 mB
    by_cases hlt : k < Hn
    · have hd : decide ((k : Int) < (Hn : Int)) = true := by simp; omega
      obtain ⟨r0, -, -, -, -⟩ := m0.facts
      have HR := Lib.hid (HROW.out (u + 1) k (by omega) wr)
      have HS := Lib.hid (HSU.out k)
      have hl1 := HLE.out k
      have hl2 := HRL.out k
      go_wp2_with fail
      refine HR.out.mono ?_
      rintro e w2 ⟨rfl, hb2⟩
      have p0 := m0.below hb2 m0.lt
      have p1 := m1.below hb2 m1.lt
      have PB := Lib.hid (bld_below HBB.out hb2)
      have pb : Below u w w2 := hb.trans (hb2.mono (by omega))
      have pbs : b < w2.heap.size := by have := hb2.size; omega
      have HE := Lib.hid (HEA.out (u + 1) k (by omega) w2 p1 (HTT.out.below pb (by have := HU.out; omega)))
      clear hb2 m0 m1 HBB hb hbs r0 HR
      go_wp2_with fail
      refine HE.out.mono ?_
      rintro e w3 ⟨⟨v, rfl, hov⟩, hb2⟩
      have m0 := p0.below hb2 p0.lt
      have m1 := p1.below hb2 p1.lt
      have MB := Lib.hid (bld_below PB.out hb2)
      have mb : Below u w w3 := pb.trans (hb2.mono (by omega))
      have mbs : b < w3.heap.size := by have := hb2.size; omega
      have HJJ := Lib.hid (HJ.out k _ v w3 hov)
      clear hb2 p0 p1 PB pb pbs hov HE
      go_wp2_with fail
      refine HJJ.out.mono ?_
      rintro e w4 ⟨rfl, hb2⟩
      have p0 := m0.below hb2 m0.lt
      have p1 := m1.below hb2 m1.lt
      have PB := Lib.hid (bld_below MB.out hb2)
      have pb : Below u w w4 := mb.trans (hb2.mono (by omega))
      have pbs : b < w4.heap.size := by have := hb2.size; omega
      obtain ⟨RT, hRT⟩ : ∃ R, rowLT g Wn k = R := ⟨_, rfl⟩
      obtain ⟨TT, hTT⟩ : ∃ R, levsT g Wn k = R := ⟨_, rfl⟩
      rw [hRT] at hl2 HS ⊢
      rw [hTT] at hl1 HS PB
      have e9 : (⟨RT.toArray⟩ : ByteArray) ++ ⟨#[10]⟩ = ⟨(RT ++ [10]).toArray⟩ := str_snoc RT 10
      have HWS := Lib.hid (writeString_any b b (Lib.byteCells TT) ((⟨RT.toArray⟩ : ByteArray) ++ ⟨#[10]⟩) w4 PB.out (by rw [e9, size_of_list, Lib.byteCells_length, List.length_append, List.length_singleton]; omega) (by omega))
      have HE9 := Lib.hid e9
      clear hb2 m0 m1 MB mb mbs HJJ hRT hTT PB e9
      go_wp2_with fail
      refine HWS.out.mono ?_
      rintro e w5 ⟨rfl, mB, hb2, -⟩
      have m0 := p0.below hb2 (by omega)
      have m1 := p1.below hb2 (by omega)
      have mb : Below u w w5 := pb.trans (hb2.mono (by omega))
      have mbs : b < w5.heap.size := by have := hb2.size; omega
      have MB := Lib.hid (show Bld w5 b b (Lib.byteCells (levsT g Wn (k + 1))) by
        rw [HS.out]
        rw [HE9.out, Lib.strCells_toArray, ← Lib.byteCells_append] at mB
        exact mB)
      clear hb2 p0 p1 pb pbs mB HWS
      go_wp2_with fail
      go_roundw
      case rel => exact ⟨k + 1, by omega, by go_num, m0, m1, MB.out, mbs, mb⟩
      case measure => simp [intOf]; omega
    · have hd : decide ((k : Int) < (Hn : Int)) = false := by simp; omega
      obtain rfl : k = Hn := by omega
      have HST := Lib.hid (Tryd.Builder_String_any_k b b _ wr HBB.out (by omega))
      clear HBB
      go_wp2_with fail
      refine HST.out.mono ?_
      rintro e w5 ⟨rfl, -, hb2, -⟩
      have mb : Below u w w5 := hb.trans (hb2.mono (by omega))
      clear hb2 hb
      go_wp2_with fail
      go_ret
      exact ⟨rfl, mb⟩

set_option maxRecDepth 100000 in
set_option maxHeartbeats 1000000 in
theorem ilevT_any (L : Lawn) (hL : L.Fits) (g : Nat → Nat → Int) (hg : LevFits g) (w : World) (hT : TabUp w) :
    Calls Tryd.prog 44 #[.agg L.cells, .agg (levV g)] w fun e w' => e = .returned (.string (levS L g)) ∧ Below w.heap.size w w' := by
  cases hv : levB L g with
  | true =>
    obtain ⟨h1, h2, -⟩ := validB_true (levB_true hv).1
    have := ilevT_loop L.wide.toNat L.high.toNat (by omega) (by omega) L hL (by omega) (by omega) g hg hv w hT
    unfold levS
    rw [if_pos hv]
    exact this
  | false =>
    have HE := Lib.hid (show levS L g = ⟨#[]⟩ by unfold levS; rw [if_neg (by rw [hv]; simp)])
    have HV := Lib.hid (show ∀ w : World, Calls Tryd.prog 89 #[.agg L.cells, .agg (levV g)] w fun e w' => e = .returned (.bool false) ∧ Below w.heap.size w w' from fun w => hv ▸ implLevels_any L hL g w)
    clear hv hL hg hT
    go_enter Tryd.func44, Tryd.ntmps44
    go_wp2_with fail
    have hb0 := ((Below.refl w.heap.size w).alloc (Nat.le_refl _) (.cells L.cells 26)).alloc (by simp) (.cells (levV g) 64)
    refine (HV.out _).mono ?_
    rintro e w1 ⟨rfl, hb1⟩
    have hb2 := below_onto hb0 hb1
    clear hb0 hb1
    go_wp2_with fail
    go_ret
    exact ⟨by rw [HE.out]; rfl, hb2⟩
end Go.Proofs.YthfhpcigjnjkdaaDoor
