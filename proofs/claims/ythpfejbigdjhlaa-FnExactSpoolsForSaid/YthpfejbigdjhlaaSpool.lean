/- Trimmers behind an interface: one with spools. -/
import Derived.Test.YthpfejbigdjhlaaLineFor
import Derived.Test.YthpfejbigdjhlaaPieces
namespace Go.Proofs.Ythpfejbigdjhlaa
open Go.RowKit
set_option linter.unusedVariables false
set_option linter.unusedSimpArgs false
attribute [local go_sem ↓] loadRow loadGrid loadLawn loadMirror storeRow storeGrid storeLawn allocRow allocGrid allocLawn buildZero buildSides loadSd storeSd allocSd buildSd loadWr storeWr allocWr loadW5 storeW5 allocW5

/-- What is left of a spool, and how many spools are used, behind one side; behind c sides; behind the first kinds of sides. -/
def spStep (h line : Int) (s : Int × Int) : Int × Int := if s.1 < line then (h - line, s.2 + 1) else (s.1 - line, s.2)
def spN (h line : Int) : Nat → Int × Int → Int × Int
  | 0, s => s
  | c + 1, s => spStep h line (spN h line c s)
def spK (f u : Sd) (h : Int) : Nat → Int × Int
  | 0 => (0, 0)
  | k + 1 => spN h (u k) (f k).toNat (spK f u h k)
/-- A trimmer can go along all sides of a kind. -/
def okS (f u : Sd) (h : Int) (k : Nat) : Bool := decide (f k ≤ 0) || decide (u k ≤ h)
def okAll (f u : Sd) (h : Int) : Bool := (List.range 5).all (okS f u h)
theorem spN_bound {h line : Int} (hl : 0 ≤ line ∧ line ≤ h) (hh : h ≤ 5000) {s : Int × Int} (hs : 0 ≤ s.1 ∧ s.1 ≤ h) : ∀ c : Nat, (0 ≤ (spN h line c s).1 ∧ (spN h line c s).1 ≤ h) ∧ s.2 ≤ (spN h line c s).2 ∧ (spN h line c s).2 ≤ s.2 + c
  | 0 => by simp [spN]; omega
  | c + 1 => by
    have := spN_bound hl hh hs c
    simp only [spN, spStep]
    split <;> simp only <;> omega
theorem spK_bound {f u : Sd} {h : Int} (hf : ∀ j, 0 ≤ f j ∧ f j ≤ 400) (hu : ∀ j, j < 5 → 0 ≤ u j ∧ u j ≤ 100) (hh : 1 ≤ h ∧ h ≤ 5000) : ∀ k : Nat, k ≤ 5 → (∀ j, j < k → okS f u h j = true) → (0 ≤ (spK f u h k).1 ∧ (spK f u h k).1 ≤ h) ∧ 0 ≤ (spK f u h k).2 ∧ (spK f u h k).2 ≤ 400 * k
  | 0, _, _ => by simp [spK]; omega
  | k + 1, hk, hok => by
    have ih := spK_bound hf hu hh k (by omega) (fun j hj => hok j (by omega))
    have h1 := hok k (by omega)
    have bf := hf k
    have bu := hu k (by omega)
    simp only [spK]
    simp only [okS, Bool.or_eq_true, decide_eq_true_eq] at h1
    rcases h1 with h1 | h1
    · rw [show (f k).toNat = 0 by omega]
      simp only [spN]
      omega
    · have := spN_bound ⟨bu.1, h1⟩ hh.2 ih.1 (f k).toNat
      omega
theorem okAll_not {f u : Sd} {h : Int} {k : Nat} (hk : k < 5) (h1 : 0 < f k) (h2 : ¬ u k ≤ h) : okAll f u h = false := by
  unfold okAll
  rw [List.all_eq_false]
  exact ⟨k, by simpa using hk, by simp [okS]; omega⟩
theorem okAll_yes {f u : Sd} {h : Int} (hok : ∀ j, j < 5 → okS f u h j = true) : okAll f u h = true := by simpa [okAll] using hok

def spoolV (b : Nat) : Value := .iface 89 (.pointer (some ⟨b, 0, none⟩))
/-- The cells of a trimmer with spools. -/
def spoolC (h : Int) (s : Int × Int) : Array Value := #[.int .i64 h, .int .i64 s.1, .int .i64 s.2]

set_option maxRecDepth 100000 in
set_option maxHeartbeats 1000000 in
theorem spoolTrim_any (b : Nat) (h line l n : Int) (e1 : IntKind.i64.wrap (h - line) = h - line) (e2 : IntKind.i64.wrap (l - line) = l - line) (e3 : IntKind.i64.wrap (n + 1) = n + 1) (w : World) (hh : Holds w b (spoolC h (l, n))) :
    Calls Try.prog 129 #[.pointer (some ⟨b, 0, none⟩), .int .i64 line] w fun e w' => (∃ v, e = .returned v) ∧ Holds w' b (spoolC h (spStep h line (l, n))) ∧ Only [b] w w' := by
  have c0 : w.cell? ⟨b, 0, none⟩ = some (.int .i64 h) := hh.cell 0
  have c1 : w.cell? ⟨b, 1, none⟩ = some (.int .i64 l) := hh.cell 1
  have c2 : w.cell? ⟨b, 2, none⟩ = some (.int .i64 n) := hh.cell 2
  obtain ⟨-, -, -, z, hl⟩ := hh.facts
  by_cases hlt : l < line
  · have hd : decide (l < line) = true := by simpa using hlt
    have HS := Lib.hid (show spStep h line (l, n) = (h - line, n + 1) by unfold spStep; rw [if_pos hlt])
    have HW := Lib.hid (show Holds (((w.setCell ⟨b, 1, none⟩ (.int .i64 h)).setCell ⟨b, 2, none⟩ (.int .i64 (n + 1))).setCell ⟨b, 1, none⟩ (.int .i64 (h - line))) b (spoolC h (h - line, n + 1)) from by
      have := ((hh.setCell 1 (.int .i64 h)).setCell 2 (.int .i64 (n + 1))).setCell 1 (.int .i64 (h - line))
      simpa [spoolC] using this)
    have HO := Lib.hid (show Only [b] w (((w.setCell ⟨b, 1, none⟩ (.int .i64 h)).setCell ⟨b, 2, none⟩ (.int .i64 (n + 1))).setCell ⟨b, 1, none⟩ (.int .i64 (h - line))) from (((Only.refl [b] w).setCell (a := ⟨b, 1, none⟩) (.inl (by simp)) _).setCell (a := ⟨b, 2, none⟩) (.inl (by simp)) _).setCell (a := ⟨b, 1, none⟩) (.inl (by simp)) _)
    clear hlt hh
    go_enter Try.func129, Try.ntmps129
    go_wp2_with fail
    go_end0
    exact ⟨⟨_, rfl⟩, by rw [HS.out]; exact HW.out, HO.out⟩
  · have hd : decide (l < line) = false := by simpa using hlt
    have HS := Lib.hid (show spStep h line (l, n) = (l - line, n) by unfold spStep; rw [if_neg hlt])
    have HW := Lib.hid (show Holds (w.setCell ⟨b, 1, none⟩ (.int .i64 (l - line))) b (spoolC h (l - line, n)) from by
      have := hh.setCell 1 (.int .i64 (l - line))
      simpa [spoolC] using this)
    have HO := Lib.hid (show Only [b] w (w.setCell ⟨b, 1, none⟩ (.int .i64 (l - line))) from (Only.refl [b] w).setCell (a := ⟨b, 1, none⟩) (.inl (by simp)) _)
    clear hlt hh
    go_enter Try.func129, Try.ntmps129
    go_wp2_with fail
    go_end0
    exact ⟨⟨_, rfl⟩, by rw [HS.out]; exact HW.out, HO.out⟩
set_option maxRecDepth 100000 in
theorem spoolUsed_any (b : Nat) (h : Int) (s : Int × Int) (w : World) (hh : Holds w b (spoolC h s)) :
    Calls Try.prog 130 #[.pointer (some ⟨b, 0, none⟩)] w fun e w' => e = .returned (.int .i64 s.2) ∧ w' = w := by
  have c2 : w.cell? ⟨b, 2, none⟩ = some (.int .i64 s.2) := hh.cell 2
  have hl := hh.lt
  go_enter Try.func130, Try.ntmps130
  go_wp2_with fail
  go_ret
  exact ⟨rfl, rfl⟩
theorem assertSpool (b : Nat) (w : World) : (Instr.typeAssert (.iface 89 (.pointer (some ⟨b, 0, none⟩))) 119 89 true).run Try.prog w = .ok (.tuple #[.pointer (some ⟨b, 0, none⟩), .bool true]) w := by kernel_rfl
set_option maxRecDepth 100000 in
theorem canTrimSpool_any (b : Nat) (h line : Int) (s : Int × Int) (d : Bool) (hd : decide (line ≤ h) = d) (w : World) (hh : Holds w b (spoolC h s)) :
    Calls Try.prog 97 #[spoolV b, .int .i64 line] w fun e w' => e = .returned (.bool d) ∧ w' = w := by
  subst hd
  unfold spoolV
  have ht := fun w => assertSpool b w
  have c0 : w.cell? ⟨b, 0, none⟩ = some (.int .i64 h) := hh.cell 0
  have hl := hh.lt
  go_enter Try.func97, Try.ntmps97
  go_wp2_with fail
  go_ret
  exact ⟨rfl, rfl⟩

/-- What the trimmer with spools uses. -/
def spoolR (f u : Sd) (h : Int) : Value := if okAll f u h then .tuple #[.int .i64 (spK f u h 5).2, .int .i64 0] else .tuple #[.int .i64 0, .int .i64 6]

set_option maxRecDepth 100000 in
set_option maxHeartbeats 2000000 in
theorem trimSpool_any (f u : Sd) (h : Int) (hf : ∀ j, 0 ≤ f j ∧ f j ≤ 400) (hu : ∀ j, j < 5 → 0 ≤ u j ∧ u j ≤ 100) (hh : 1 ≤ h ∧ h ≤ 5000) (b : Nat) (w : World) (hb : Holds w b (spoolC h (0, 0))) :
    Calls Try.prog 66 #[spoolV b, .agg (sdV f), .agg (wrV u)] w fun e w' => e = .returned (spoolR f u h) ∧ Only [b] w w' := by
  have HF := Lib.hid hf
  have HU := Lib.hid hu
  have HH := Lib.hid hh
  have hbw := hb.lt
  clear hf hu hh
  unfold spoolV
  go_enter Try.func66, Try.ntmps66
  go_wp2_with fail
  obtain ⟨W0, hW0⟩ : ∃ W0, (w.alloc (.cells (sdV f) 28)).alloc (.cells (wrV u) 45) = W0 := ⟨_, rfl⟩
  have g0 : Holds W0 b (spoolC h (0, 0)) := by rw [← hW0]; exact (hb.alloc _).alloc _
  have g1 : Holds W0 (w.heap.size + 1) (wrV u) := by rw [← hW0]; exact Holds.new' _ _ _ _ (by simp)
  have hO : Only [b] w W0 := by rw [← hW0]; exact ((Only.refl _ w).alloc _).alloc _
  rw [hW0]
  clear hW0 hb
  obtain ⟨s, hs⟩ : ∃ s, w.heap.size = s := ⟨_, rfl⟩
  rw [hs] at g1 hbw ⊢
  clear hs
  go_loopw [12] (fun q wr => ∃ k : Nat, k ≤ 5 ∧ q = .int .i64 k ∧ (∀ j, j < k → okS f u h j = true) ∧ Holds wr b (spoolC h (spK f u h k)) ∧ Holds wr (s + 1) (wrV u) ∧ Only [b] w wr) (fun q _ => 5 - (intOf q).toNat)
  case atStart => exact ⟨0, by omega, rfl, fun j hj => by omega, g0, g1, hO⟩
  case round =>
    obtain ⟨k, hk, rfl, hok, k0, k1, hb⟩ := hrel
    have HOK := Lib.hid hok
    clear g0 g1 hO hok
    by_cases hlt : k < 5
    · have hd : decide ((k : Int) < (5 : Int)) = true := by simp; omega
      have hix := sd_index f k hlt
      have cu := k1.wr k hlt
      have hl1 := k1.lt
      have bf := HF.out k
      have bu := HU.out k hlt
      have bk := spK_bound HF.out HU.out HH.out k (by omega) HOK.out
      have hwu : IntKind.i64.wrap (u k) = u k := IntWalk.i64_in _ (by omega)
      obtain ⟨d, hdd⟩ : ∃ d, decide (u k ≤ h) = d := ⟨_, rfl⟩
      have HD := Lib.hid hdd
      go_wp2_with fail
      clear cu hix hdd
      go_loopw [21] (fun q wk => ∃ c : Nat, (c : Int) ≤ f k ∧ q = .int .i64 c ∧ (0 < c → d = true) ∧ Holds wk b (spoolC h (spN h (u k) c (spK f u h k))) ∧ Holds wk (s + 1) (wrV u) ∧ Only [b] w wk) (fun q _ => (f k).toNat - (intOf q).toNat)
      case atStart => exact ⟨0, bf.1, rfl, fun h => absurd h (by omega), k0, k1, hb⟩
      case round =>
        obtain ⟨c, hc, rfl, hcd, j0, j1, hb'⟩ := hrel
        clear k0 k1 hb
        have HCD := Lib.hid hcd
        clear hcd
        by_cases hct : (c : Int) < f k
        · have hdc : decide ((c : Int) < f k) = true := by simpa using hct
          have HCT := Lib.hid (fun w hw => canTrimSpool_any b h (u k) (spN h (u k) c (spK f u h k)) d HD.out w hw)
          unfold spoolV at HCT
          go_wp2_with fail
          refine (HCT.out _ j0).mono ?_
          rintro e w2 ⟨rfl, hw⟩
          rw [hw]
          clear hw
          cases d
          · have HR := Lib.hid (show spoolR f u h = .tuple #[.int .i64 0, .int .i64 6] by
              have := HD.out
              unfold spoolR; rw [okAll_not hlt (by omega) (by simpa using this)]; rfl)
            go_wp2_with fail
            go_ret2
            exact ⟨by rw [HR.out]; rfl, hb'⟩
          · have huk : u k ≤ h := by simpa using HD.out
            have bn := spN_bound (c := c) ⟨bu.1, huk⟩ HH.out.2 bk.1
            have HT := Lib.hid (fun (w : World) (hw : Holds w b (spoolC h (spN h (u k) c (spK f u h k)))) => spoolTrim_any b h (u k) (spN h (u k) c (spK f u h k)).1 (spN h (u k) c (spK f u h k)).2 (IntWalk.i64_in _ (by have := HH.out; omega)) (IntWalk.i64_in _ (by have := HH.out; omega)) (IntWalk.i64_in _ (by omega)) w hw)
            clear bn huk
            go_wp2_with fail
            refine (HT.out _ j0).mono ?_
            rintro e w2 ⟨⟨v, rfl⟩, j2, hO2⟩
            have j3 := hO2.holds j1 (by simp; omega)
            have hb2 := hb'.trans hO2
            clear j0 j1 hO2 hb'
            go_wp2_with fail
            go_roundw
            case rel => exact ⟨c + 1, by omega, by go_num, fun _ => trivial, j2, j3, hb2⟩
            case measure => simp [intOf]; omega
        · have hdc : decide ((c : Int) < f k) = false := by simpa using hct
          have HV := Lib.hid (show spK f u h (k + 1) = spN h (u k) c (spK f u h k) by simp only [spK]; rw [show (f k).toNat = c by omega])
          have HOK2 := Lib.hid (show ∀ j, j < k + 1 → okS f u h j = true from fun j hj => by
            by_cases e : j = k
            · subst e
              rcases Nat.eq_zero_or_pos c with h0 | h0
              · subst h0; simp [okS]; omega
              · have := HCD.out h0
                rw [this] at HD
                simp [okS, HD.out]
            · exact HOK.out j (by omega))
          go_wp2_with fail
          go_roundw
          case rel => exact ⟨k + 1, by omega, by go_num, HOK2.out, by rw [HV.out]; exact j0, j1, hb'⟩
          case measure => simp [intOf]; omega
    · obtain rfl : k = 5 := by omega
      have hd : decide (((5 : Nat) : Int) < (5 : Int)) = false := by decide
      have HUS := Lib.hid (spoolUsed_any b _ _ _ k0)
      have HR := Lib.hid (show spoolR f u h = .tuple #[.int .i64 (spK f u h 5).2, .int .i64 0] by unfold spoolR; rw [okAll_yes HOK.out]; rfl)
      go_wp2_with fail
      refine HUS.out.mono ?_
      rintro e w2 ⟨rfl, hw⟩
      rw [hw]
      clear hw
      go_wp2_with fail
      go_ret2
      exact ⟨by rw [HR.out]; rfl, hb⟩
end Go.Proofs.Ythpfejbigdjhlaa
