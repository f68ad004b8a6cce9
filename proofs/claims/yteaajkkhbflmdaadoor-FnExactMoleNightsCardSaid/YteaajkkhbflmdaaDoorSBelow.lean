/- l06Below, of the model. -/
import Derived.Test.YteaajkkhbflmdaaDoorChkMole
import Derived.Test.YteaajkkhbflmdaaDoorZG
import Derived.BigQuiet
namespace Go.Proofs.YteaajkkhbflmdaaDoor
open Go.RowKit Go.Shelf
set_option linter.unusedVariables false
set_option linter.unusedSimpArgs false
attribute [local go_sem ↓] loadRow loadGrid loadLawn loadMirror storeRow storeGrid storeLawn allocRow allocGrid allocLawn buildZero buildSides loadR8 loadL8 loadLv storeR8 storeLv allocR8 allocLv buildZLv

theorem chkC_is (L : Lawn) (g : Nat → Nat → Int) (fine : Bool) (cs : List Pt) : chkC L g fine cs = if levB L g = false then 1 else if (fine && cs.all fun c => isB L c.1 c.2) = false then 2 else if (cs.all fun c => grassB L c.1 c.2) = false then 4 else 0 := by
  have e1 : cs.any (fun c => !isB L c.1 c.2) = !(cs.all fun c => isB L c.1 c.2) := by rw [List.not_all_eq_any_not]
  have e2 : cs.any (fun c => !grassB L c.1 c.2) = !(cs.all fun c => grassB L c.1 c.2) := by rw [List.not_all_eq_any_not]
  unfold chkC chkE
  rw [e1, e2]
  cases levB L g <;> cases fine <;> cases cs.all (fun c => isB L c.1 c.2) <;> cases cs.all (fun c => grassB L c.1 c.2) <;> rfl
set_option maxRecDepth 100000 in
set_option maxHeartbeats 2000000 in
theorem sbelow_any (L : Lawn) (hL : L.Fits) (g : Nat → Nat → Int) (hg : LevFits g) (a b : Nat) (fine : Bool) (B n : Nat) (v : Value) (hn : n ≤ 100) (cs : List Pt) (hl : cs.length = n) (hf : ∀ c ∈ cs, (-128 ≤ c.1 ∧ c.1 ≤ 127) ∧ -128 ≤ c.2 ∧ c.2 ≤ 127) (w : World) (h : Holds w a L.cells) (hh : Holds w b (levV g)) (ho : w.ownsRow B 39 2 v n (flatP cs)) :
    Calls Tryd.prog 39 #[.pointer (some ⟨a, 0, none⟩), .pointer (some ⟨b, 0, none⟩), v, .bool fine] w fun e w' => e = .returned (.int .i64 (chkC L g fine cs)) ∧ Below w.heap.size w w' := by
  have HOK := Lib.hid (l06Ok_any L hL g hg a b w h hh)
  have HC := Lib.hid (chkC_is L g fine cs)
  have HIS := Lib.hid (fun (x y : Int) (h1 : (-128 ≤ x ∧ x ≤ 127) ∧ -128 ≤ y ∧ y ≤ 127) (w : World) (h : Holds w a L.cells) => l01Is_any L hL a x y w h h1.1.1 h1.1.2 h1.2.1 h1.2.2)
  have HGR := Lib.hid (fun (hv : validB L = true) (x y : Int) (h1 : (-128 ≤ x ∧ x ≤ 127) ∧ -128 ≤ y ∧ y ≤ 127) (w : World) (h : Holds w a L.cells) => grass_any L hv hL a x y h1.1.1 h1.1.2 h1.2.1 h1.2.2 w h)
  have HV := Lib.hid (fun h : levB L g = true => (levB_true h).1)
  have HF := Lib.hid hf
  have HL := Lib.hid hl
  obtain ⟨FA, hFA⟩ : ∃ F : Nat → Bool, (fun i => fine && (cs.take i).all fun c => isB L c.1 c.2) = F := ⟨_, rfl⟩
  have HA0 : Hid (FA 0 = fine) := Lib.hid (by rw [← hFA]; simp)
  have HAS := Lib.hid (show ∀ i c, cs[i]? = some c → FA (i + 1) = (FA i && isB L c.1 c.2) from fun i c h => by
    rw [← hFA]
    show (fine && (cs.take (i + 1)).all _) = (fine && (cs.take i).all _ && _)
    rw [List.take_add_one, h, Option.toList_some, List.all_append]
    simp [Bool.and_assoc])
  have HAN : Hid (FA n = (fine && cs.all fun c => isB L c.1 c.2)) := Lib.hid (by rw [← hFA]; show (fine && (cs.take n).all _) = _; rw [List.take_of_length_le (by omega)])
  obtain ⟨av, cv, rfl⟩ := own_slice ho
  have HO := Lib.hid ho
  generalize levB L g = lv at HOK HC HV
  clear hL hg hl hf ho hFA
  go_enter Tryd.func39, Tryd.ntmps39
  go_wp2_with fail
  refine HOK.out.mono ?_
  rintro e w1 ⟨rfl, hb1⟩
  have ka := h.below hb1 h.lt
  have ho1 := own_below HO.out hb1
  have HO1 := Lib.hid ho1
  clear HOK h hh HO ho1
  cases lv
  case false =>
    go_wp2_with fail
    go_ret
    exact ⟨by rw [HC.out]; rfl, hb1⟩
  case true =>
    have HVV := Lib.hid (HV.out rfl)
    clear HV
    go_wp2_with fail
    go_loopw [3, 9] (fun f x wr => ∃ i : Nat, i ≤ n ∧ x = .int .i64 i ∧ f = .bool (FA i) ∧ Below w1.heap.size w1 wr) (fun _ x _ => n - (intOf x).toNat)
    case atStart => exact ⟨0, by omega, rfl, by rw [HA0.out], Below.refl _ _⟩
    case round =>
      obtain ⟨i, hi, rfl, rfl, hb⟩ := hrel
      by_cases hlt : i < n
      · have hd : decide ((i : Int) < (n : Int)) = true := by simp; omega
        obtain ⟨⟨cx, cy⟩, hc⟩ : ∃ c, cs[i]? = some c := ⟨_, List.getElem?_eq_getElem (by rw [HL.out]; exact hlt)⟩
        have HCR := Lib.hid (HF.out _ (List.mem_of_getElem? hc))
        have hac := HAS.out i _ hc
        have oa := own_below HO1.out hb
        obtain ⟨ga, cap, he, hBg, hgw⟩ := own_form oa (by omega)
        simp only [Value.slice.injEq, true_and] at he
        obtain ⟨rfl, rfl⟩ := he
        obtain ⟨fa, fb⟩ := flatP_get _ _ _ hc
        have ca := own_cell oa _ _ fa
        have cb := own_cell oa _ _ fb
        dsimp only at ca cb
        have kA := ka.below hb ka.lt
        obtain ⟨z, hz⟩ : ∃ z, FA i = z := ⟨_, rfl⟩
        rw [hz] at hac
        rw [hz]
        have HAC := Lib.hid hac
        clear hac hz fa fb hc oa
        cases z
        case false =>
          go_wp2_with fail
          go_roundw
          case rel => exact ⟨i + 1, by omega, by go_num, by rw [HAC.out]; rfl, hb⟩
          case measure => simp [intOf]; omega
        case true =>
          go_wp2_with fail
          refine (HIS.out cx cy HCR.out _ kA).mono ?_
          rintro e w2 ⟨rfl, hb2⟩
          have hb3 := below_onto hb hb2
          clear hb hb2 ca cb kA
          go_wp2_with fail
          go_roundw
          case rel => exact ⟨i + 1, by omega, by go_num, by rw [HAC.out, Bool.true_and], hb3⟩
          case measure => simp [intOf]; omega
      · have hd : decide ((i : Int) < (n : Int)) = false := by simp; omega
        obtain rfl : i = n := by omega
        rw [HAN.out]
        obtain ⟨fn, hfn⟩ : ∃ fn, (fine && cs.all fun c => isB L c.1 c.2) = fn := ⟨_, rfl⟩
        have HC2 := Lib.hid HC.out
        rw [hfn] at HC2
        rw [hfn]
        clear hfn HC HA0 HAS HAN
        cases fn
        case false =>
          go_wp2_with fail
          go_ret
          exact ⟨by rw [HC2.out]; rfl, below_onto hb1 hb⟩
        case true =>
          have hb4 := below_onto hb1 hb
          have kA := ka.below hb ka.lt
          have HO2 := Lib.hid (own_below HO1.out hb)
          have HN : Hid ((cs.take i).all (fun c => grassB L c.1 c.2) = cs.all fun c => grassB L c.1 c.2) := Lib.hid (by rw [List.take_of_length_le (by rw [HL.out]; exact Nat.le_refl _)])
          clear hb hb1 ka HO1 hd hlt
          go_wp2_with fail
          go_loopw [10] (fun x wr2 => ∃ j : Nat, j ≤ i ∧ x = .int .i64 j ∧ (cs.take j).all (fun c => grassB L c.1 c.2) = true ∧ Below wr.heap.size wr wr2) (fun x _ => i - (intOf x).toNat)
          case atStart => exact ⟨0, by omega, rfl, by simp, Below.refl _ _⟩
          case round =>
            obtain ⟨j, hj, rfl, hall, hb⟩ := hrel
            have HALL := Lib.hid hall
            clear hall
            by_cases hlt : j < i
            · have hd : decide ((j : Int) < (i : Int)) = true := by simp; omega
              obtain ⟨⟨cx, cy⟩, hc⟩ : ∃ c, cs[j]? = some c := ⟨_, List.getElem?_eq_getElem (by rw [HL.out]; exact hlt)⟩
              have HCR := Lib.hid (HF.out _ (List.mem_of_getElem? hc))
              have oa := own_below HO2.out hb
              obtain ⟨ga, cap, he, hBg, hgw⟩ := own_form oa (by omega)
              simp only [Value.slice.injEq, true_and] at he
              obtain ⟨rfl, rfl⟩ := he
              obtain ⟨fa, fb⟩ := flatP_get _ _ _ hc
              have ca := own_cell oa _ _ fa
              have cb := own_cell oa _ _ fb
              dsimp only at ca cb
              have kB := kA.below hb kA.lt
              obtain ⟨z, hz⟩ : ∃ z, grassB L cx cy = z := ⟨_, rfl⟩
              have HG := Lib.hid (HGR.out HVV.out cx cy HCR.out _ kB)
              rw [hz] at HG
              have HAJ : Hid ((cs.take (j + 1)).all (fun c => grassB L c.1 c.2) = z) := Lib.hid (by rw [List.take_add_one, hc, Option.toList_some, List.all_append, HALL.out]; simp [hz])
              have HAF : Hid (z = false → (cs.all fun c => grassB L c.1 c.2) = false) := Lib.hid (fun h => by
                rw [List.all_eq_false]
                exact ⟨_, List.mem_of_getElem? hc, by simp [hz, h]⟩)
              clear hz fa fb hc oa
              go_wp2_with fail
              refine HG.out.mono ?_
              rintro e w2 ⟨rfl, hb2⟩
              have hb3 := below_onto hb hb2
              clear hb hb2 ca cb HG kB
              cases z
              case false =>
                have HAF2 := Lib.hid (HAF.out rfl)
                clear HAF
                go_wp2_with fail
                go_ret
                exact ⟨by rw [HC2.out, HAF2.out]; rfl, below_onto hb4 hb3⟩
              case true =>
                go_wp2_with fail
                go_roundw
                case rel => exact ⟨j + 1, by omega, by go_num, HAJ.out, hb3⟩
                case measure => simp [intOf]; omega
            · have hd : decide ((j : Int) < (i : Int)) = false := by simp; omega
              obtain rfl : j = i := by omega
              have HZ := Lib.hid (HN.out.symm.trans HALL.out)
              go_wp2_with fail
              go_ret
              exact ⟨by rw [HC2.out, HZ.out]; rfl, below_onto hb4 hb⟩
end Go.Proofs.YteaajkkhbflmdaaDoor
