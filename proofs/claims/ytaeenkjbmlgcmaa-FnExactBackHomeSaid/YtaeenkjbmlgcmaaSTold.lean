/- l04Told of the model, over any cells. -/
import Derived.Test.YtaeenkjbmlgcmaaJStepsFrom
import Derived.Test.YtaeenkjbmlgcmaaZG
namespace Go.Proofs.Ytaeenkjbmlgcmaa
open Go.RowKit
set_option linter.unusedVariables false
set_option linter.unusedSimpArgs false
attribute [local go_sem ↓] loadRow loadGrid loadLawn loadMirror storeRow storeGrid storeLawn allocRow allocGrid allocLawn buildZero buildSides

def isP (L : Lawn) (c : Pt) : Bool := isB L c.1 c.2
/-- The code of a lawn and of cells that have to be open. -/
def toldC (L : Lawn) (l : List Pt) (fine : Bool) : Int := if validB L then (if fine && l.all (isP L) then (if l.all (openP L) then 0 else 4) else 2) else 1

set_option maxRecDepth 100000 in
set_option maxHeartbeats 1000000 in
theorem l04Told_list (L : Lawn) (hL : L.Fits) (l : List Pt) (n cap : Nat) (hn : l.length = n) (hn2 : n ≤ 1000) (hl : ∀ c ∈ l, (-128 ≤ c.1 ∧ c.1 ≤ 127) ∧ -128 ≤ c.2 ∧ c.2 ≤ 127) (fine : Bool) (b g : Nat) (w : World) (h : Holds w b L.cells)
    (hc : ∀ w', Below w.heap.size w w' → ∀ (i : Nat) (c : Pt), l[i]? = some c → w'.cell? ⟨g, i * 2, none⟩ = some (.int .i8 c.1) ∧ w'.cell? ⟨g, i * 2 + 1, none⟩ = some (.int .i8 c.2)) :
    Calls Try.prog 68 #[.pointer (some ⟨b, 0, none⟩), .slice (some ⟨g, 0, none⟩) n cap, .bool fine] w fun e w' => e = .returned (.int .i64 (toldC L l fine)) ∧ Below w.heap.size w w' := by
  have HOK := Lib.hid (fun (w : World) (h : Holds w b L.cells) => l01Ok_any L hL b w h)
  have HIS := Lib.hid (show ∀ c ∈ l, ∀ (w : World), Holds w b L.cells → Calls Try.prog 58 #[.pointer (some ⟨b, 0, none⟩), .agg #[.int .i8 c.1, .int .i8 c.2]] w fun e w' => e = .returned (.bool (isP L c)) ∧ Below w.heap.size w w' from
    fun c hc w h => l01Is_any L hL b c.1 c.2 w h (hl c hc).1.1 (hl c hc).1.2 (hl c hc).2.1 (hl c hc).2.2)
  have HOP := Lib.hid (show validB L = true → ∀ c : Pt, isP L c = true → ∀ w, Holds w b L.cells → Calls Try.prog 59 #[.pointer (some ⟨b, 0, none⟩), .agg #[.int .i8 c.1, .int .i8 c.2]] w fun e w' => e = .returned (.bool (openP L c)) ∧ Below w.heap.size w w' from fun h1 c h2 w h => by
    obtain ⟨x, y⟩ := c
    have h2' : isB L x y = true := h2
    have hxy := isB_near h1 h2'
    obtain ⟨a, rfl⟩ : ∃ a : Nat, x = a := ⟨x.toNat, by omega⟩
    obtain ⟨c, rfl⟩ : ∃ c : Nat, y = c := ⟨y.toNat, by omega⟩
    have := open_any L hL b a c (by omega) (by omega) w h
    show Calls _ _ _ _ (fun e w' => e = .returned (.bool (openB L a c)) ∧ _)
    unfold openB
    rw [h2']
    exact this)
  have HC := Lib.hid (show toldC L l fine = if validB L then (if fine && l.all (isP L) then (if l.all (openP L) then 0 else 4) else 2) else 1 from rfl)
  obtain ⟨v, hv⟩ : ∃ v, validB L = v := ⟨_, rfl⟩
  obtain ⟨C, hC⟩ : ∃ C, toldC L l fine = C := ⟨_, rfl⟩
  rw [hv] at HOK HOP HC
  rw [hC] at HC ⊢
  have HN := Lib.hid hn
  have HCELL := Lib.hid hc
  have hbl := h.lt
  have hb0 := Below.refl w.heap.size w
  clear hv hC hL hl hn hc
  go_enter Try.func68, Try.ntmps68
  go_wp2_with fail
  refine (HOK.out _ h).mono ?_
  rintro e w1 ⟨rfl, hb1⟩
  have k0 := h.below hb1 h.lt
  clear h hb0 HOK
  cases v
  · have HC2 := HC.out
    simp only [Bool.false_eq_true, if_false] at HC2
    subst HC2
    go_wp2_with fail
    go_ret
    exact ⟨rfl, hb1⟩
  · have HOP2 := Lib.hid (HOP.out rfl)
    have HC2 := HC.out
    simp only [if_true] at HC2
    have HC3 := Lib.hid HC2
    clear HOP HC HC2
    go_wp2_with fail
    go_loopw [2, 7] (fun t i wr => ∃ k : Nat, k ≤ n ∧ i = .int .i64 k ∧ t = .bool (fine && (l.take k).all (isP L)) ∧ Holds wr b L.cells ∧ Below w.heap.size w wr) (fun _ i _ => n - (intOf i).toNat)
    case atStart => exact ⟨0, by omega, rfl, by simp, k0, hb1⟩
    case round =>
      obtain ⟨k, hk, rfl, rfl, j0, hb⟩ := hrel
      clear k0 hb1
      obtain ⟨t, ht⟩ : ∃ t, (fine && (l.take k).all (isP L)) = t := ⟨_, rfl⟩
      have HTK := Lib.hid ht
      rw [ht]
      clear ht
      by_cases hlt : k < n
      · have hd : decide ((k : Int) < (n : Int)) = true := by simp; omega
        obtain ⟨c, hq⟩ : ∃ c, l[k]? = some c := ⟨_, List.getElem?_eq_getElem (by rw [HN.out]; exact hlt)⟩
        have htk : (fine && (l.take (k + 1)).all (isP L)) = (t && isP L c) := by
          rw [List.take_add_one, hq, List.all_append, ← HTK.out]
          simp [Bool.and_assoc]
        have HTQ := Lib.hid htk
        obtain ⟨q0, q1⟩ := HCELL.out wr hb k c hq
        have HIC := Lib.hid (HIS.out c (List.mem_of_getElem? hq))
        obtain ⟨cx, cy⟩ := c
        dsimp only at q0 q1
        obtain ⟨u, hu⟩ : ∃ u, isP L (cx, cy) = u := ⟨_, rfl⟩
        rw [hu] at HIC HTQ
        clear htk hq hu
        cases t
        · have hf : (fine && (l.take (k + 1)).all (isP L)) = false := by rw [HTQ.out]; simp
          have HF := Lib.hid hf
          clear hf
          go_wp2_with fail
          exact ⟨⟨k + 1, by omega, by go_num, by rw [HF.out], j0, hb⟩, by simp [intOf]; omega⟩
        · have hf : (fine && (l.take (k + 1)).all (isP L)) = u := by rw [HTQ.out]; simp
          have HF := Lib.hid hf
          clear hf
          go_wp2_with fail
          refine (HIC.out _ j0).mono ?_
          rintro e w5 ⟨rfl, hb5⟩
          have v0 := j0.below hb5 j0.lt
          have hb6 := below_onto hb hb5
          clear j0 hb hb5 q0 q1
          go_wp2_with fail
          exact ⟨⟨k + 1, by omega, by go_num, by rw [HF.out], v0, hb6⟩, by simp [intOf]; omega⟩
      · have hd : decide ((k : Int) < (n : Int)) = false := by simp; omega
        have htk : l.take k = l := List.take_of_length_le (by rw [HN.out]; omega)
        have HT2 := HTK.out
        rw [htk] at HT2
        have HC2 := HC3.out
        rw [HT2] at HC2
        have HT3 := Lib.hid HT2
        clear htk HT2 HTK
        cases t
        · simp only [Bool.false_eq_true, if_false] at HC2
          subst HC2
          go_wp2_with fail
          go_ret
          exact ⟨rfl, hb⟩
        · simp only [if_true] at HC2
          have HC4 := Lib.hid HC2
          have hall : ∀ c ∈ l, isP L c = true := by
            have h3 := HT3.out
            simp only [Bool.and_eq_true, List.all_eq_true] at h3
            exact h3.2
          have HALL := Lib.hid hall
          clear HC2 hall
          go_wp2_with fail
          go_loopw [8] (fun i wr => ∃ k : Nat, k ≤ n ∧ i = .int .i64 k ∧ (l.take k).all (openP L) = true ∧ Holds wr b L.cells ∧ Below w.heap.size w wr) (fun i _ => n - (intOf i).toNat)
          case atStart => exact ⟨0, by omega, rfl, by simp, j0, hb⟩
          case round =>
            obtain ⟨k, hk2, rfl, ho, j0, hb⟩ := hrel
            have HO := Lib.hid ho
            clear ho
            by_cases hlt : k < n
            · have hd : decide ((k : Int) < (n : Int)) = true := by simp; omega
              obtain ⟨c, hq⟩ : ∃ c, l[k]? = some c := ⟨_, List.getElem?_eq_getElem (by rw [HN.out]; exact hlt)⟩
              have HTQ := Lib.hid (show (l.take (k + 1)).all (openP L) = openP L c by
                rw [List.take_add_one, hq, List.all_append, HO.out]; simp)
              have HNO := Lib.hid (show openP L c = false → l.all (openP L) = false from fun h0 => by
                rw [List.all_eq_false]
                exact ⟨c, List.mem_of_getElem? hq, by simp [h0]⟩)
              obtain ⟨q0, q1⟩ := HCELL.out wr hb k c hq
              have HIC := Lib.hid (HOP2.out c (HALL.out c (List.mem_of_getElem? hq)))
              obtain ⟨cx, cy⟩ := c
              dsimp only at q0 q1
              obtain ⟨u, hu⟩ : ∃ u, openP L (cx, cy) = u := ⟨_, rfl⟩
              rw [hu] at HIC HTQ HNO
              clear hq hu
              go_wp2_with fail
              refine (HIC.out _ j0).mono ?_
              rintro e w5 ⟨rfl, hb5⟩
              have v0 := j0.below hb5 j0.lt
              have hb6 := below_onto hb hb5
              clear j0 hb hb5 q0 q1
              cases u
              · have HC2 := HC4.out
                rw [HNO.out rfl] at HC2
                simp only [Bool.false_eq_true, if_false] at HC2
                subst HC2
                go_wp2_with fail
                go_ret
                exact ⟨rfl, hb6⟩
              · go_wp2_with fail
                exact ⟨⟨k + 1, by omega, by go_num, HTQ.out, v0, hb6⟩, by simp [intOf]; omega⟩
            · have hd : decide ((k : Int) < (n : Int)) = false := by simp; omega
              have htk : l.take k = l := List.take_of_length_le (by rw [HN.out]; omega)
              have HO2 := HO.out
              rw [htk] at HO2
              have HC2 := HC4.out
              rw [HO2] at HC2
              simp only [if_true] at HC2
              subst HC2
              clear htk HO2
              go_wp2_with fail
              go_ret
              exact ⟨rfl, hb⟩
end Go.Proofs.Ytaeenkjbmlgcmaa
