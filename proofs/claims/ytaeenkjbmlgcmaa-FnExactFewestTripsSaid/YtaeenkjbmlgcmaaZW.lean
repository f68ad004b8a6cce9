/- The model's table of the steps between targets. l04Goals, of the model. TripTo and CheckTrips, of the model. CheckTrips, of the model. -/
import Derived.Test.YtaeenkjbmlgcmaaZU
import Derived.Test.YtaeenkjbmlgcmaaZV
import Derived.Test.YtaeenkjbmlgcmaaSReachO
import Derived.Deep.Upon
import Derived.Test.YtaeenkjbmlgcmaaSTold
namespace Go.Proofs.Ytaeenkjbmlgcmaa
open Go.RowKit
set_option linter.unusedVariables false
set_option linter.unusedSimpArgs false
attribute [local go_sem ↓] loadRow loadGrid loadLawn loadMirror storeRow storeGrid storeLawn allocRow allocGrid allocLawn buildZero buildSides loadG64 storeG64 allocG64 buildG64 loadT36 storeT36 allocT36 buildT36

/-- append of cells to an empty row without room. -/
theorem append_cells (w : World) (B : Nat) (hB : B ≤ w.heap.size) (ci : TypeInfo) (hci : Try.prog.info? 37 = some ci ∧ ci.zero = some (.agg #[.int .i8 0, .int .i8 0]) ∧ ci.size = 2 ∧ ci.bytes = 2) (g : Nat) (hown : w.ownsRow B 37 2 (.slice (some ⟨g, 0, none⟩) 0 0) 0 []) (l : List Pt) (hl : l.length ≤ 1048576) (v : Value) (hv : RowP w v l) :
    ∃ v' w', (Builtin.append_ #[45, 45] 45 #[.slice (some ⟨g, 0, none⟩) 0 0, v]).run Try.prog w = .ok v' w' ∧ w'.ownsRow B 37 2 v' l.length (flatP l) ∧ Below w.heap.size w w' := by
  rcases hv with ⟨rfl, rfl⟩ | ⟨gv, c, rfl, hgv, hcell⟩
  · have := run_append_nothing (P := Try.prog) w 45 45 45 37 ci Try.underlying45 hci.1
    have hs : Src Try.prog ci.size 45 (.slice none 0 0) 0 [] w := Src.ofNil w Try.underlying45 0
    refine ⟨_, _, this _ 0 0 (by omega) _ hs, ?_, Below.refl _ _⟩
    exact hown
  · exact append_empty (P := Try.prog) w B hB 45 45 37 ci (.agg #[.int .i8 0, .int .i8 0]) 2 2 Try.underlying45 hci.1 hci.2.1 hci.2.2.1 hci.2.2.2 rfl (by decide) g hown ⟨gv, 0, none⟩ l.length c (flatP l) (flatP_len l)
      (fun j u hu => by have h9 := hcell w (Below.refl _ _) j u hu; by_cases h0 : j = 0 <;> simpa [Addr.add, h0] using h9)
      (fun u hu => by
        unfold flatP at hu
        simp only [List.mem_flatMap, List.mem_cons, List.not_mem_nil, or_false] at hu
        obtain ⟨c, -, rfl | rfl⟩ := hu <;> rfl) (by unfold maxLen; omega) (by omega)

/-- All steps between the cells of tours are told. -/
def pairB (L : Lawn) (l : List Pt) (h : Pt) (n : Nat) : Bool := (List.range (n + 1)).all fun i => (List.range (n + 1)).all fun j => decide (0 ≤ tbT L l h i j)
/-- The table when the rows before i and of row i the places before k are filled. -/
def TabTo (T : Nat → Nat → Int) (tb : Nat → Nat → Int) (n i k : Nat) : Prop := ∀ a c, a < 6 → c < 6 → T a c = if (a < i ∧ c ≤ n) ∨ (a = i ∧ c < k) then tb a c else 0

set_option maxRecDepth 100000 in
set_option maxHeartbeats 4000000 in
theorem lTable_any (L : Lawn) (hL : L.Fits) (hV : validB L = true) (g : Nat) (hx hy : Int) (l : List Pt) (n : Nat) (hl : l.length = n) (hn5 : n ≤ 5) (hop : ∀ c ∈ (hx, hy) :: l, openP L c = true) (v : Value) (w : World) (hg : Holds w g L.cells) (hv : RowP w v l) :
    Calls Try.prog 123 #[.pointer (some ⟨g, 0, none⟩), .agg #[.int .i8 hx, .int .i8 hy], v] w fun e w' => (∃ T, e = .returned (.tuple #[.agg (tab36 T), .bool (pairB L l (hx, hy) n)]) ∧ (pairB L l (hx, hy) n = true → TabTo T (tbT L l (hx, hy)) n (n + 1) 0)) ∧ Below w.heap.size w w' := by
  have HRO := Lib.hid (fun (b sx sy : Nat) (hsx : sx < 10) (hsy : sy < 10) (hs : passG L false ((sx : Int), (sy : Int)) = true) (w : World) (h : Holds w b L.cells) => reach_open L hL hV b sx sy hsx hsy hs w h)
  have HCS := Lib.hid (show ∀ i, i ≤ n → ∃ a c : Nat, (l ++ [(hx, hy)])[i]? = some ((a : Int), (c : Int)) ∧ a < 10 ∧ c < 10 ∧ passG L false ((a : Int), (c : Int)) = true ∧ csT l (hx, hy) i = ((a : Int), (c : Int)) from fun i hi => by
    have hlen : i < (l ++ [(hx, hy)]).length := by rw [List.length_append, hl]; simp; omega
    obtain ⟨⟨cx, cy⟩, hc⟩ : ∃ c, (l ++ [(hx, hy)])[i]? = some c := ⟨_, List.getElem?_eq_getElem hlen⟩
    have hm : openP L (cx, cy) = true := hop _ (by
      have := List.mem_of_getElem? hc
      rcases List.mem_append.1 this with h | h
      · exact List.mem_cons_of_mem _ h
      · rw [List.mem_singleton.1 h]; simp)
    have hnear := openP_near hV _ hm
    dsimp only at hnear
    refine ⟨cx.toNat, cy.toNat, ?_, by omega, by omega, ?_, ?_⟩
    · rw [hc, Int.toNat_of_nonneg hnear.1.1, Int.toNat_of_nonneg hnear.2.1]
    · rw [Int.toNat_of_nonneg hnear.1.1, Int.toNat_of_nonneg hnear.2.1]; exact hm
    · unfold csT; rw [List.getD_eq_getElem?_getD, hc, Int.toNat_of_nonneg hnear.1.1, Int.toNat_of_nonneg hnear.2.1]; rfl)
  obtain ⟨ci, hi, hz0, hz1, hz2⟩ := info_parts cellInfo
  have HCI := Lib.hid (show Try.prog.info? 37 = some ci ∧ ci.zero = some (.agg #[.int .i8 0, .int .i8 0]) ∧ ci.size = 2 ∧ ci.bytes = 2 from ⟨hi, hz0, hz1, hz2⟩)
  have HTB := Lib.hid (show ∀ i j, tbT L l (hx, hy) i j = stepsAt (found (passG L false) (csT l (hx, hy) i) 100) (csT l (hx, hy) j).1 (csT l (hx, hy) j).2 from fun i j => by
    have : passG L false = openP L := by funext c; rfl
    rw [this]; rfl)
  have HPB : Hid (pairB L l (hx, hy) n = (List.range (n + 1)).all fun i => (List.range (n + 1)).all fun j => decide (0 ≤ tbT L l (hx, hy) i j)) := Lib.hid rfl
  have HLE := Lib.hid (show (l ++ [(hx, hy)]).length = n + 1 by rw [List.length_append, hl]; rfl)
  obtain ⟨PB, hPB⟩ : ∃ b, pairB L l (hx, hy) n = b := ⟨_, rfl⟩
  obtain ⟨tb, htb⟩ : ∃ f, tbT L l (hx, hy) = f := ⟨_, rfl⟩
  obtain ⟨cs, hcs⟩ : ∃ f, csT l (hx, hy) = f := ⟨_, rfl⟩
  rw [hPB, htb] at HPB
  rw [htb, hcs] at HTB
  rw [hcs] at HCS
  rw [hPB, htb]
  have HL := Lib.hid hl
  have HV := Lib.hid hv
  have HG := Lib.hid hg
  obtain ⟨av, cv, rfl⟩ : ∃ a c, v = .slice a n c := by
    obtain ⟨a, c, e⟩ := hv.slice
    exact ⟨a, c, by rw [e, hl]⟩
  obtain ⟨s, hs⟩ : ∃ s, w.heap.size = s := ⟨_, rfl⟩
  have HS := Lib.hid hs
  rw [hs]
  clear hPB htb hcs hl hv hg hop hL hV hi hz0 hz1 hz2
  go_enter Try.func123, Try.ntmps123
  go_wp2_with fail
  obtain ⟨W0, hW0⟩ : ∃ W0, ((w.alloc (.cells #[.int .i8 hx, .int .i8 hy] 37)).alloc (.cells (tab36 fun _ _ => 0) 123)).alloc (.cells (tab36 fun _ _ => 0) 123) = W0 := ⟨_, rfl⟩
  have g0 : Holds W0 s #[.int .i8 hx, .int .i8 hy] := by rw [← hW0, ← hs]; exact ((Holds.new _ _ _).alloc _).alloc _
  have g1 : Holds W0 (s + 1) (tab36 fun _ _ => 0) := by rw [← hW0, ← hs]; exact (Holds.new' _ _ _ _ (by simp)).alloc _
  have g2 : Holds W0 (s + 1 + 1) (tab36 fun _ _ => 0) := by rw [← hW0, ← hs]; exact Holds.new' _ _ _ _ (by simp)
  have hb0 : Below s w W0 := by rw [← hW0, ← hs]; exact (((Below.refl w.heap.size w).alloc (Nat.le_refl _) _).alloc (by simp) _).alloc (by simp; omega) _
  try rw [hW0]
  clear hW0 hs
  have HG0 := Lib.hid (And.intro g0 (And.intro g1 (And.intro g2 hb0)))
  have HVW := Lib.hid (HV.out.below (show Below w.heap.size w W0 by rw [HS.out]; exact hb0))
  clear g0 g1 g2 hb0
  refine wp_region_growW 6 5 [fun q => q, fun _ => .slice av n cv, fun q => q, fun _ => .agg #[.int .i8 hx, .int .i8 hy], fun q => q, fun q => q]
    [fun q w' => ∃ g, q = .slice (some ⟨g, 0, none⟩) 0 0 ∧ w'.ownsRow W0.heap.size 37 2 q 0 [], fun _ _ => True, fun q w' => w'.ownsRow W0.heap.size 37 2 q n (flatP l), fun _ _ => True, fun q w' => ∃ g, q = .slice (some ⟨g, 0, none⟩) 1 1 ∧ Holds w' g #[.int .i8 hx, .int .i8 hy], fun q w' => w'.ownsRow W0.heap.size 37 2 q (n + 1) (flatP (l ++ [(hx, hy)]))]
    [[], [], [0], [], [], [2, 4]] ?_ (by kernel_rfl) (by kernel_rfl) (by kernel_rfl) (by kernel_rfl) ?_
  · intro j q w1 w2 h1 hb
    match j with
    | 0 => obtain ⟨g, e, ho⟩ := h1; exact ⟨g, e, own_below ho hb⟩
    | 1 => trivial
    | 2 => exact own_below h1 hb
    | 3 => trivial
    | 4 => obtain ⟨g, e, ho⟩ := h1; exact ⟨g, e, ho.below hb ho.lt⟩
    | 5 => exact own_below h1 hb
    | j + 6 => exact trivial
  intro sv
  simp only [List.take_succ_cons, List.take_zero, List.drop_succ_cons, List.drop_zero]
  refine seqW_val rfl rfl (fun _ => rfl) ?_ ?_
  · intro w' hw' _ K hK
    have HM1 := Lib.hid (ownsRow_low (World.ownsRow_made (e := 37) (size := 2) w' #[] 0 (Nat.le_refl w'.heap.size) (by simp [maxLen]) rfl) hw'.size)
    go_wp2_with fail
    exact hK _ _ _ rfl ((Below.refl _ _).alloc (Nat.le_refl _) _) ⟨_, rfl, HM1.out⟩
  simp only [Act.put, List.setIfInBounds_toArray, List.set_cons_succ, List.set_cons_zero]
  refine seqW_lit rfl rfl (fun _ => rfl) (fun _ _ => trivial) ?_ ?_
  · intro w' hw' _ K hK
    go_wp2_with fail
    exact hK _ _ rfl (Below.refl _ _)
  simp only [Act.put, List.setIfInBounds_toArray, List.set_cons_succ, List.set_cons_zero]
  refine seqW_val rfl rfl (fun _ => rfl) ?_ ?_
  · intro w' hw' hd K hK
    obtain ⟨g, e, ho⟩ := hd 0 (by simp)
    obtain ⟨v', w'', hrun, ho', hb⟩ := append_cells w' W0.heap.size hw'.size ci HCI.out g (e ▸ ho) l (by rw [HL.out]; omega) (.slice av n cv) (HVW.out.below hw')
    rw [← e] at hrun
    exact op_append rfl rfl rfl hrun (hK v' _ _ rfl hb (by show w''.ownsRow _ _ _ _ n _; rw [← HL.out]; exact ho'))
  simp only [Act.put, List.setIfInBounds_toArray, List.set_cons_succ, List.set_cons_zero]
  refine seqW_lit rfl rfl (fun _ => rfl) (fun _ _ => trivial) ?_ ?_
  · intro w' hw' _ K hK
    have f1 := (HG0.out.1.below hw' HG0.out.1.lt).cell 0
    have f2 := (HG0.out.1.below hw' HG0.out.1.lt).cell 1
    simp only [List.getElem?_toArray, List.getElem?_cons_zero, List.getElem?_cons_succ] at f1 f2
    go_wp2_with fail
    exact hK _ _ rfl (Below.refl _ _)
  simp only [Act.put, List.setIfInBounds_toArray, List.set_cons_succ, List.set_cons_zero]
  refine seqW_val rfl rfl (fun _ => rfl) ?_ ?_
  · intro w' hw' _ K hK
    go_wp2_with fail
    exact hK _ _ _ rfl ((Below.refl _ _).alloc (Nat.le_refl _) _) ⟨_, rfl, Holds.new _ _ _⟩
  simp only [Act.put, List.setIfInBounds_toArray, List.set_cons_succ, List.set_cons_zero]
  refine seqW_write rfl rfl (fun _ => rfl) ?_ ?_
  · intro w' hw' hd K hK
    have h3 := hd 2 (by simp)
    obtain ⟨g5, e5, hh5⟩ := hd 4 (by simp)
    obtain ⟨v', w'', hrun, ho', hgr, -⟩ := run_append_own (P := Try.prog) w' W0.heap.size 45 45 37 ci (.agg #[.int .i8 0, .int .i8 0]) 2 2 Try.underlying45 HCI.out.1 HCI.out.2.1 HCI.out.2.2.1 HCI.out.2.2.2 rfl (by decide) (sv 2) n (flatP l) h3 ⟨g5, 0, none⟩ 1 1 [.int .i8 hx, .int .i8 hy] rfl
      (fun j u hu => by
        match j, hu with
        | 0, hu => simp at hu; subst hu; exact hh5.cell 0
        | 1, hu => simp at hu; subst hu; exact hh5.cell 1)
      (fun z hz => by simp at hz; rcases hz with rfl | rfl <;> rfl) (by unfold maxLen; omega) (by omega) hw'.size
    rw [← e5] at hrun
    refine op_append rfl rfl rfl hrun (hK v' _ _ rfl (hw'.grown hgr hw'.size (fun k hk => own_far h3 k hk)) ?_)
    show w''.ownsRow _ _ _ _ _ (flatP (l ++ [(hx, hy)]))
    have : flatP (l ++ [(hx, hy)]) = flatP l ++ [.int .i8 hx, .int .i8 hy] := by simp [flatP]
    rw [this]
    exact ho'
  simp only [Act.put, List.setIfInBounds_toArray, List.set_cons_succ, List.set_cons_zero]
  refine seqW_nil ?_
  intro W1 hW1 h6
  obtain ⟨gc, cc, e6, hg61, hg62⟩ := own_form (show W1.ownsRow W0.heap.size 37 2 (sv 5) (n + 1) (flatP (l ++ [(hx, hy)])) from h6) (by omega)
  have h6' : W1.ownsRow W0.heap.size 37 2 (.slice (some ⟨gc, 0, none⟩) (n + 1) cc) (n + 1) (flatP (l ++ [(hx, hy)])) := e6 ▸ h6
  rw [e6]
  have hgL : Holds W1 g L.cells := (HG.out.below (show Below w.heap.size w W0 by rw [HS.out]; exact HG0.out.2.2.2) HG.out.lt).below hW1 (by have := HG.out.lt; have := HG0.out.2.2.2.size; omega)
  have hgs : g < s := by have := HG.out.lt; have := HS.out; omega
  obtain ⟨N, hN⟩ : ∃ N, n + 1 = N := ⟨_, rfl⟩
  rw [hN] at h6' ⊢
  rw [hN] at HPB HLE
  have hgc2 : s + 1 + 1 < gc := by have := HG0.out.2.2.1.lt; omega
  have HW := Lib.hid (And.intro hgL (And.intro (HG0.out.2.1.below hW1 HG0.out.2.1.lt) (And.intro (HG0.out.2.2.1.below hW1 HG0.out.2.2.1.lt) (And.intro (HG0.out.2.2.2.trans (hW1.mono (by have := HG0.out.1.lt; omega))) h6'))))
  have hN6 : N ≤ 6 := by omega
  have hW1s : s + 1 + 1 < W1.heap.size := HW.out.2.2.1.lt
  clear hgL h6 h6' e6 hW1 HVW HG0 HCI HG HV hg61 hg62
  go_wp2_with fail
  go_loopw [10, 11, 12] (fun j _ _ wr => ∃ (i : Nat) (T : Nat → Nat → Int), i ≤ N ∧ j = .int .i64 i ∧ TabTo T tb n i 0 ∧ (∀ a, a < i → ∀ c, c ≤ n → 0 ≤ tb a c) ∧ Holds wr (s + 1 + 1) (tab36 T) ∧ Holds wr (s + 1) (tab36 fun _ _ => 0) ∧ Only [s + 1 + 1] W1 wr ∧ Below s w wr) (fun j _ _ _ => N - (intOf j).toNat)
  case atStart => exact ⟨0, fun _ _ => 0, by omega, rfl, fun a c _ _ => by rw [if_neg (by omega)], fun a h => by omega, HW.out.2.2.1, HW.out.2.1, Only.refl _ _, HW.out.2.2.2.1⟩
  case round =>
    obtain ⟨i, T, hi, rfl, hT, hpos, h2, h1, hO, hb⟩ := hrel
    have HT := Lib.hid hT
    have HPOS := Lib.hid hpos
    have HO := Lib.hid hO
    have HH2 := Lib.hid h2
    have HH1 := Lib.hid h1
    have HB := Lib.hid hb
    have hgw := hO.holds HW.out.1 (by simp; omega)
    have hcw := hO.own HW.out.2.2.2.2 (fun z hz => by simp [Value.ownBlock] at hz; simp; omega)
    have HGW := Lib.hid hgw
    have HCW := Lib.hid hcw
    have hszw := hO.size
    clear hT hpos h2 h1 hO hb
    by_cases hlt : i < N
    · have hd : decide ((i : Int) < (N : Int)) = true := by simp; omega
      obtain ⟨a, c, hic, ha10, hc10, hpass, hcsi⟩ := HCS.out i (by omega)
      have f0 := flatP_at (l ++ [(hx, hy)]) i 0 (by omega)
      have f1 := flatP_at (l ++ [(hx, hy)]) i 1 (by omega)
      rw [hic] at f0 f1
      have e0 : wr.cell? ⟨gc, i * 2, none⟩ = some (.int .i8 (a : Nat)) := own_cell hcw _ _ f0
      have e1 : wr.cell? ⟨gc, i * 2 + 1, none⟩ = some (.int .i8 (c : Nat)) := own_cell hcw _ _ f1
      have HR := Lib.hid (HRO.out g a c ha10 hc10 hpass wr hgw)
      have HTBI := Lib.hid (show ∀ k, tb i k = stepsAt (found (passG L false) ((a : Int), (c : Int)) 100) (cs k).1 (cs k).2 from fun k => by rw [HTB.out, hcsi])
      obtain ⟨F, hF⟩ : ∃ F, found (passG L false) ((a : Int), (c : Int)) 100 = F := ⟨_, rfl⟩
      rw [hF] at HR HTBI
      clear hic f0 f1 hF hpass hcsi hgw hcw
      go_wp2_with fail
      refine HR.out.mono ?_
      rintro e w2 ⟨rfl, hb1⟩
      obtain ⟨u, hu⟩ : ∃ u, w2.heap.size = u := ⟨_, rfl⟩
      have k2 := (HH2.out.below hb1 HH2.out.lt).alloc (.cells (grid64 (gridF F)) 89)
      have k1 := (HH1.out.below hb1 HH1.out.lt).alloc (.cells (grid64 (gridF F)) 89)
      have ku := Holds.new w2 (grid64 (gridF F)) 89
      have kO := (HO.out.onto hb1).alloc (.cells (grid64 (gridF F)) 89)
      have kb := (HB.out.trans (hb1.mono (by have := HH1.out.lt; omega))).alloc (by have := hb1.size; have := HH1.out.lt; omega) (.cells (grid64 (gridF F)) 89)
      have hus : W1.heap.size ≤ u := by have := hb1.size; omega
      obtain ⟨W2, hW2⟩ : ∃ W2, w2.alloc (.cells (grid64 (gridF F)) 89) = W2 := ⟨_, rfl⟩
      rw [hW2] at k2 k1 ku kO kb
      rw [hu] at ku
      have HK := Lib.hid (And.intro k2 (And.intro k1 (And.intro ku (And.intro kO kb))))
      clear k2 k1 ku kO kb hb1 e0 e1 HR
      go_wp2_with fail
      try rw [hW2]
      try simp only [hu]
      clear hW2 hu
      go_loopw [12] (fun j wk => ∃ (k : Nat) (T' : Nat → Nat → Int), k ≤ N ∧ j = .int .i64 k ∧ TabTo T' tb n i k ∧ (∀ c, c < k → 0 ≤ tb i c) ∧ Holds wk (s + 1 + 1) (tab36 T') ∧ Holds wk (s + 1) (tab36 fun _ _ => 0) ∧ Holds wk u (grid64 (gridF F)) ∧ Only [s + 1 + 1] W1 wk ∧ Below s w wk) (fun j _ => N - (intOf j).toNat)
      case atStart => exact ⟨0, T, by omega, rfl, HT.out, fun c h => by omega, HK.out.1, HK.out.2.1, HK.out.2.2.1, HK.out.2.2.2.1, HK.out.2.2.2.2⟩
      case round =>
        obtain ⟨k, T', hk, rfl, hT', hpos', h2, h1, hu, hO, hb⟩ := hrel
        have HT' := Lib.hid hT'
        have HPOS' := Lib.hid hpos'
        have HH2' := Lib.hid h2
        have HH1' := Lib.hid h1
        have HHU := Lib.hid hu
        have HO' := Lib.hid hO
        have HB' := Lib.hid hb
        have hcw := hO.own HW.out.2.2.2.2 (fun z hz => by simp [Value.ownBlock] at hz; simp; omega)
        have HCW' := Lib.hid hcw
        clear hT' hpos' h2 h1 hu hO hb HK hcw
        by_cases hltk : k < N
        · have hdk : decide ((k : Int) < (N : Int)) = true := by simp; omega
          obtain ⟨a2, c2, hic, ha10', hc10', -, hcsk⟩ := HCS.out k (by omega)
          have f0 := flatP_at (l ++ [(hx, hy)]) k 0 (by omega)
          have f1 := flatP_at (l ++ [(hx, hy)]) k 1 (by omega)
          rw [hic] at f0 f1
          obtain ⟨D, hD⟩ : ∃ D, tb i k = D := ⟨_, rfl⟩
          have HDD := Lib.hid hD
          have hGD : gridF F c2 a2 = D := by rw [← hD, HTBI.out, hcsk]; rfl
          have hi6 : (i : Int) < 6 := by omega
          have hk6 : (k : Int) < 6 := by omega
          have hi0 : (0 : Int) ≤ (i : Int) := by omega
          have hk0 : (0 : Int) ≤ (k : Int) := by omega
          have ha9 : (a2 : Int) < 10 := by omega
          have hc9 : (c2 : Int) < 10 := by omega
          have FX := Lib.hid (show ∀ w', Below wr.heap.size wr w' → w'.cell? ⟨gc, k * 2, none⟩ = some (.int .i8 (a2 : Nat)) ∧ w'.cell? ⟨gc, k * 2 + 1, none⟩ = some (.int .i8 (c2 : Nat)) ∧ w'.cell? ⟨u, c2 * 10 + a2, none⟩ = some (.int .i64 D) from fun w' hw' =>
            ⟨own_cell (own_below HCW'.out hw') _ _ f0, own_cell (own_below HCW'.out hw') _ _ f1, by rw [(HHU.out.below hw' HHU.out.lt).cell, grid64_get _ _ _ hc10' ha10', hGD]⟩)
          clear hD hGD hic f0 f1 hcsk
          go_wp2_with fail
          refine wp_region_grow 17 (by kernel_rfl) (by kernel_rfl) ?_
          simp only [List.take_succ_cons, List.take_zero, List.drop_succ_cons, List.drop_zero]
          iterate 17
            apply wpGrow_plain rfl
            · intro w' hw' K hK
              obtain ⟨q1, q2, q3⟩ := FX.out _ hw'
              go_wp2_with fail
              exact hK _ _ rfl hw'
            simp only [Act.put, List.setIfInBounds_toArray, List.set_cons_succ, List.set_cons_zero]
          refine wpGrow_nil ?_
          intro W5 hW5
          have n2 := HH2'.out.below hW5 HH2'.out.lt
          have n1 := HH1'.out.below hW5 HH1'.out.lt
          have nu := HHU.out.below hW5 HHU.out.lt
          have nO := HO'.out.onto hW5
          have nb := HB'.out.trans (hW5.mono (by have := HH1'.out.lt; omega))
          have hold := (n2.cell (i * 6 + k)).trans (tab36_get T' (by omega : i < 6) (by omega : k < 6))
          obtain ⟨-, ff, -, z2, l2⟩ := n2.facts
          have m2 := n2.setCell (i * 6 + k) (.int .i64 D)
          rw [tab36_set T' i k D (by omega) (by omega)] at m2
          have m1 := n1.setCell_other (a := ⟨s + 1 + 1, i * 6 + k, none⟩) (.int .i64 D) (by dsimp only; omega)
          have mu := nu.setCell_other (a := ⟨s + 1 + 1, i * 6 + k, none⟩) (.int .i64 D) (by dsimp only; omega)
          have mO := nO.setCell (a := ⟨s + 1 + 1, i * 6 + k, none⟩) (.inl (by simp)) (.int .i64 D)
          have mb := nb.setCell (p := ⟨s + 1 + 1, i * 6 + k, none⟩) (by dsimp only; omega) (.int .i64 D)
          have HTN := Lib.hid (show TabTo (upd T' i k D) tb n i (k + 1) from fun x y hx hy => by
            unfold upd
            by_cases e : x = i ∧ y = k
            · rw [if_pos e, if_pos (by omega), e.1, e.2, HDD.out]
            · rw [if_neg e, HT'.out x y hx hy]
              by_cases e2 : x < i ∧ y ≤ n ∨ x = i ∧ y < k
              · rw [if_pos e2, if_pos (by omega)]
              · rw [if_neg e2, if_neg (by omega)])
          obtain ⟨W6, hW6⟩ : ∃ W6, W5.setCell ⟨s + 1 + 1, i * 6 + k, none⟩ (.int .i64 D) = W6 := ⟨_, rfl⟩
          rw [hW6] at m2 m1 mu mO mb
          have HM := Lib.hid (And.intro m2 (And.intro m1 (And.intro mu (And.intro mO mb))))
          have r0 : W6.cell? ⟨s + 1 + 1, i * 6 + k, none⟩ = some (.int .i64 D) := (m2.cell (i * 6 + k)).trans (by rw [tab36_get _ (by omega) (by omega)]; simp [upd])
          have rrow := m2.row
          obtain ⟨-, gg, -, y2, o2⟩ := m1.facts
          have rrow1 := m1.row
          clear n2 n1 nu nO nb m2 m1 mu mO mb hW5 FX
          by_cases hneg : D < 0
          · have hdn : decide (D < 0) = true := decide_eq_true hneg
            have HPF := Lib.hid (show PB = false by
              rw [HPB.out]
              cases hh : (List.range N).all (fun i => (List.range N).all fun j => decide (0 ≤ tb i j)) with
              | false => rfl
              | true =>
                have h1 := List.all_eq_true.1 (List.all_eq_true.1 hh i (List.mem_range.2 hlt)) k (List.mem_range.2 hltk)
                rw [HDD.out] at h1
                have := of_decide_eq_true h1
                omega)
            go_wp2_with fail
            exact bodyPost_ret (results_cell_tmp_holds rfl wideT36 _ rfl (HM.out.2.1.setRow _) (by simp)) rfl ⟨⟨_, by rw [HPF.out]; rfl, fun h => by rw [HPF.out] at h; cases h⟩, below_setRow' HM.out.2.2.2.2 (by omega) _⟩
          · have hdn : decide (D < 0) = false := decide_eq_false hneg
            have HPN := Lib.hid (show ∀ c, c < k + 1 → 0 ≤ tb i c from fun c hc => by
              rcases Nat.lt_or_ge c k with h | h
              · exact HPOS'.out c h
              · have : c = k := by omega
                rw [this, HDD.out]; omega)
            go_wp2_with fail
            go_roundw
            case rel => exact ⟨k + 1, _, by omega, by go_num, HTN.out, HPN.out, HM.out.1, HM.out.2.1, HM.out.2.2.1, HM.out.2.2.2.1, HM.out.2.2.2.2⟩
            case measure => simp [intOf]; omega
        · have hkN : k = N := by omega
          subst hkN
          have hdk : decide ((k : Int) < (k : Int)) = false := by simp
          have HTN := Lib.hid (show TabTo T' tb n (i + 1) 0 from fun x y hx hy => by
            rw [HT'.out x y hx hy]
            by_cases e2 : x < i ∧ y ≤ n ∨ x = i ∧ y < k
            · rw [if_pos e2, if_pos (by omega)]
            · rw [if_neg e2, if_neg (by omega)])
          have HPN := Lib.hid (show ∀ a, a < i + 1 → ∀ c, c ≤ n → 0 ≤ tb a c from fun a ha c hc => by
            rcases Nat.lt_or_ge a i with h | h
            · exact HPOS.out a h c hc
            · have : a = i := by omega
              rw [this]; exact HPOS'.out c (by omega))
          go_wp2_with fail
          go_roundw
          case rel => exact ⟨i + 1, T', by omega, by go_num, HTN.out, HPN.out, HH2'.out, HH1'.out, HO'.out, HB'.out⟩
          case measure => simp [intOf]; omega
    · have hiN : i = N := by omega
      subst hiN
      have hd : decide ((i : Int) < (i : Int)) = false := by simp
      have HPF := Lib.hid (show PB = true by
        rw [HPB.out, List.all_eq_true]
        intro a ha
        rw [List.all_eq_true]
        intro c hc
        exact decide_eq_true (HPOS.out a (List.mem_range.1 ha) c (by have := List.mem_range.1 hc; omega)))
      have rrow := HH2.out.row
      have rrow1 := HH1.out.row
      obtain ⟨-, gg, -, y2, o2⟩ := HH1.out.facts
      clear hgw hcw
      go_wp2_with fail
      exact bodyPost_ret (results_cell_tmp_holds rfl wideT36 _ rfl (HH1.out.setRow _) (by simp)) rfl ⟨⟨T, by rw [HPF.out]; rfl, fun _ => by rw [hN]; exact HT.out⟩, below_setRow' HB.out (by omega) _⟩
end Go.Proofs.Ytaeenkjbmlgcmaa

namespace Go.Proofs.Ytaeenkjbmlgcmaa
open Go.RowKit
set_option linter.unusedVariables false
set_option linter.unusedSimpArgs false
attribute [local go_sem ↓] loadRow loadGrid loadLawn loadMirror storeRow storeGrid storeLawn allocRow allocGrid allocLawn buildZero buildSides loadG64 storeG64 allocG64 buildG64 loadT36 storeT36 allocT36 buildT36

def inZ (n a b : Int) : Bool := decide (a ≤ n) && decide (n ≤ b)
theorem in00_is (n a b : Int) (w : World) : Calls Try.prog 89 #[.int .i64 n, .int .i64 a, .int .i64 b] w fun e w' => e = .returned (.bool (inZ n a b)) ∧ w' = w := by
  by_cases h1 : a ≤ n
  · have d1 : decide (a ≤ n) = true := by simpa using h1
    by_cases h2 : n ≤ b
    · have d2 : decide (n ≤ b) = true := by simpa using h2
      rw [show inZ n a b = true by simp [inZ, h1, h2]]
      go_enter Try.func89, Try.ntmps89
      go_wp2
      go_ret
      exact ⟨rfl, rfl⟩
    · have d2 : decide (n ≤ b) = false := by simpa using h2
      rw [show inZ n a b = false by simp [inZ]; omega]
      go_enter Try.func89, Try.ntmps89
      go_wp2
      go_ret
      exact ⟨rfl, rfl⟩
  · have d1 : decide (a ≤ n) = false := by simpa using h1
    rw [show inZ n a b = false by simp [inZ]; omega]
    go_enter Try.func89, Try.ntmps89
    go_wp2
    go_ret
    exact ⟨rfl, rfl⟩
theorem full4_is (n : Int) (w : World) : Calls Try.prog 69 #[.int .i64 n] w fun e w' => e = .returned (.bool (upZ n 400)) ∧ w' = w := by
  have HIN := Lib.hid (fun w => in00_is n 0 400 w)
  have hu : upZ n 400 = inZ n 0 400 := by unfold upZ inZ; rfl
  rw [hu]
  obtain ⟨r, hr⟩ : ∃ r, inZ n 0 400 = r := ⟨_, rfl⟩
  rw [hr] at HIN ⊢
  clear hr hu
  go_enter Try.func69, Try.ntmps69
  go_wp2_with fail
  refine (HIN.out _).mono ?_
  rintro e w' ⟨rfl, rfl⟩
  go_wp2_with fail
  go_ret
  exact ⟨rfl, rfl⟩
theorem pair_goal {L : Lawn} {l : List Pt} {h : Pt} {full : Int} (h0 : askZ L (h :: l) full l.length = 0) : pairB L l h l.length = l.all (reachQ4 L h) := by
  cases hr : l.all (reachQ4 L h) with
  | true =>
    have hz : goalZ L l h full = 0 := by unfold goalZ; rw [if_pos h0, if_pos hr]
    have hp := (goal_pairs hz).2.2
    unfold pairB
    rw [List.all_eq_true]
    intro i hi
    rw [List.all_eq_true]
    intro j hj
    have := List.mem_range.1 hi
    have := List.mem_range.1 hj
    exact decide_eq_true (hp i j (by omega) (by omega)).1
  | false =>
    cases hp : pairB L l h l.length with
    | false => rfl
    | true =>
      have key : l.all (reachQ4 L h) = true := by
       rw [List.all_eq_true]
       intro c hc
       obtain ⟨k, hk, hkc⟩ := List.getElem_of_mem hc
       unfold pairB at hp
       have h1 := List.all_eq_true.1 (List.all_eq_true.1 hp l.length (List.mem_range.2 (by omega))) k (List.mem_range.2 (by omega))
       have h2 := of_decide_eq_true h1
       unfold tbT at h2
       rw [csT_home, csT_at (List.getElem?_eq_getElem hk), hkc] at h2
       exact decide_eq_true h2
      rw [hr] at key
      cases key

set_option maxRecDepth 100000 in
set_option maxHeartbeats 4000000 in
theorem lGoals_any (L : Lawn) (hL : L.Fits) (g : Nat) (hx hy full : Int) (l : List Pt) (n : Nat) (hl : l.length = n) (hn2 : n ≤ 1048576) (hli : ∀ c ∈ (hx, hy) :: l, (-128 ≤ c.1 ∧ c.1 ≤ 127) ∧ -128 ≤ c.2 ∧ c.2 ≤ 127) (v : Value) (w : World) (hg : Holds w g L.cells) (hv : RowP w v l) :
    Calls Try.prog 79 #[.pointer (some ⟨g, 0, none⟩), .agg #[.int .i8 hx, .int .i8 hy], .int .i64 full, v] w fun e w' => (∃ T, e = .returned (.tuple #[.agg (tab36 T), .int .i64 (goalZ L l (hx, hy) full)]) ∧ (goalZ L l (hx, hy) full = 0 → TabTo T (tbT L l (hx, hy)) n (n + 1) 0)) ∧ Below w.heap.size w w' := by
  have HOK := Lib.hid (fun (w : World) (h : Holds w g L.cells) => l01Ok_any L hL g w h)
  have hli' : ∀ c ∈ l ++ [(hx, hy)], (-128 ≤ c.1 ∧ c.1 ≤ 127) ∧ -128 ≤ c.2 ∧ c.2 ≤ 127 := fun c hc => hli c (by
    rcases List.mem_append.1 hc with h | h
    · exact List.mem_cons_of_mem _ h
    · rw [List.mem_singleton.1 h]; simp)
  have HIS := Lib.hid (show ∀ c ∈ l ++ [(hx, hy)], ∀ (w : World), Holds w g L.cells → Calls Try.prog 58 #[.pointer (some ⟨g, 0, none⟩), .agg #[.int .i8 c.1, .int .i8 c.2]] w fun e w' => e = .returned (.bool (isP L c)) ∧ Below w.heap.size w w' from
    fun c hc w h => l01Is_any L hL g c.1 c.2 w h (hli' c hc).1.1 (hli' c hc).1.2 (hli' c hc).2.1 (hli' c hc).2.2)
  have HFU := Lib.hid (fun w => full4_is full w)
  have hlen : (l ++ [(hx, hy)]).length = n + 1 := by rw [List.length_append, hl]; rfl
  have HTO := Lib.hid (fun (hn : n ≤ 5) (gg cap : Nat) (w : World) (h : Holds w g L.cells) hc => l04Told_list L hL (l ++ [(hx, hy)]) (n + 1) cap hlen (by omega) hli' true g gg w h hc)
  have hall : ∀ p : Pt → Bool, (l ++ [(hx, hy)]).all p = ((hx, hy) :: l).all p := fun p => by rw [List.all_append, List.all_cons, Bool.and_comm]; simp
  have HTA := Lib.hid (fun (hV : validB L = true) (hn5 : n ≤ 5) (hop : ∀ c ∈ (hx, hy) :: l, openP L c = true) (v : Value) (w : World) (hg : Holds w g L.cells) (hv : RowP w v l) => lTable_any L hL hV g hx hy l n hl hn5 hop v w hg hv)
  have HPG := Lib.hid (fun (h0 : askZ L ((hx, hy) :: l) full l.length = 0) => hl ▸ pair_goal h0)
  have HTC : Hid (toldC L (l ++ [(hx, hy)]) true = if validB L then (if (l ++ [(hx, hy)]).all (isP L) then (if (l ++ [(hx, hy)]).all (openP L) then 0 else 4) else 2) else 1) := Lib.hid rfl
  have HGZ : Hid (goalZ L l (hx, hy) full = if askZ L ((hx, hy) :: l) full l.length = 0 then (if l.all (reachQ4 L (hx, hy)) then 0 else 6) else askZ L ((hx, hy) :: l) full l.length) := Lib.hid rfl
  have HAZ : Hid (askZ L ((hx, hy) :: l) full l.length = if validB L then (if ((hx, hy) :: l).all (isP L) && upZ full 400 then (if 5 < l.length then 3 else if ((hx, hy) :: l).all (openP L) then 0 else 4) else 2) else 1) := Lib.hid rfl
  have HOP := Lib.hid (show ((hx, hy) :: l).all (openP L) = true → ∀ c ∈ (hx, hy) :: l, openP L c = true from fun h => by simpa [List.all_eq_true] using h)
  rw [hall] at HTC
  rw [hall] at HTC
  have HPI := Lib.hid (hall (isP L))
  obtain ⟨G, hG⟩ : ∃ G, goalZ L l (hx, hy) full = G := ⟨_, rfl⟩
  obtain ⟨C, hC⟩ : ∃ G, askZ L ((hx, hy) :: l) full l.length = G := ⟨_, rfl⟩
  obtain ⟨TC, hTC⟩ : ∃ G, toldC L (l ++ [(hx, hy)]) true = G := ⟨_, rfl⟩
  obtain ⟨vB, hvB⟩ : ∃ b, validB L = b := ⟨_, rfl⟩
  obtain ⟨P, hP⟩ : ∃ b, ((hx, hy) :: l).all (isP L) = b := ⟨_, rfl⟩
  obtain ⟨O, hO⟩ : ∃ b, ((hx, hy) :: l).all (openP L) = b := ⟨_, rfl⟩
  obtain ⟨U, hU⟩ : ∃ b, upZ full 400 = b := ⟨_, rfl⟩
  obtain ⟨R, hR⟩ : ∃ b, l.all (reachQ4 L (hx, hy)) = b := ⟨_, rfl⟩
  obtain ⟨PB, hPB⟩ : ∃ b, pairB L l (hx, hy) n = b := ⟨_, rfl⟩
  obtain ⟨tb, htb⟩ : ∃ f, tbT L l (hx, hy) = f := ⟨_, rfl⟩
  rw [hC, hPB, hR] at HPG
  rw [hG, hC, hR] at HGZ
  rw [hC, hvB, hP, hU, hO, hl] at HAZ
  rw [hTC, hvB, hP, hO] at HTC
  rw [hTC] at HTO
  rw [hvB] at HOK
  rw [hvB, hPB, htb] at HTA
  rw [hO] at HOP
  rw [hU] at HFU
  rw [hP] at HPI
  rw [hG, htb]
  obtain ⟨ci, hi, hz0, hz1, hz2⟩ := info_parts cellInfo
  have HCI := Lib.hid (show Try.prog.info? 37 = some ci ∧ ci.zero = some (.agg #[.int .i8 0, .int .i8 0]) ∧ ci.size = 2 ∧ ci.bytes = 2 from ⟨hi, hz0, hz1, hz2⟩)
  have HLE := Lib.hid hlen
  have HL := Lib.hid hl
  have HV := Lib.hid hv
  have HG := Lib.hid hg
  obtain ⟨av, cv, rfl⟩ : ∃ a c, v = .slice a n c := by
    obtain ⟨a, c, e⟩ := hv.slice
    exact ⟨a, c, by rw [e, hl]⟩
  obtain ⟨s, hs⟩ : ∃ s, w.heap.size = s := ⟨_, rfl⟩
  have HS := Lib.hid hs
  rw [hs]
  clear hG hC hTC hvB hP hO hU hR hPB htb hli hli' hL hall hlen hl hv hg hi hz0 hz1 hz2
  go_enter Try.func79, Try.ntmps79
  go_wp2_with fail
  obtain ⟨W0, hW0⟩ : ∃ W0, (w.alloc (.cells #[.int .i8 hx, .int .i8 hy] 37)).alloc (.cells (tab36 fun _ _ => 0) 123) = W0 := ⟨_, rfl⟩
  have g0 : Holds W0 s #[.int .i8 hx, .int .i8 hy] := by rw [← hW0, ← hs]; exact (Holds.new _ _ _).alloc _
  have g1 : Holds W0 (s + 1) (tab36 fun _ _ => 0) := by rw [← hW0, ← hs]; exact Holds.new' _ _ _ _ (by simp)
  have hb0 : Below s w W0 := by rw [← hW0, ← hs]; exact ((Below.refl w.heap.size w).alloc (Nat.le_refl _) _).alloc (by simp) _
  try rw [hW0]
  clear hW0 hs
  have HG0 := Lib.hid (And.intro g0 (And.intro g1 hb0))
  have HVW := Lib.hid (HV.out.below (show Below w.heap.size w W0 by rw [HS.out]; exact hb0))
  clear g0 g1 hb0
  refine wp_region_growW 6 5 [fun q => q, fun _ => .slice av n cv, fun q => q, fun _ => .agg #[.int .i8 hx, .int .i8 hy], fun q => q, fun q => q]
    [fun q w' => ∃ g, q = .slice (some ⟨g, 0, none⟩) 0 0 ∧ w'.ownsRow W0.heap.size 37 2 q 0 [], fun _ _ => True, fun q w' => w'.ownsRow W0.heap.size 37 2 q n (flatP l), fun _ _ => True, fun q w' => ∃ g, q = .slice (some ⟨g, 0, none⟩) 1 1 ∧ Holds w' g #[.int .i8 hx, .int .i8 hy], fun q w' => w'.ownsRow W0.heap.size 37 2 q (n + 1) (flatP (l ++ [(hx, hy)]))]
    [[], [], [0], [], [], [2, 4]] ?_ (by kernel_rfl) (by kernel_rfl) (by kernel_rfl) (by kernel_rfl) ?_
  · intro j q w1 w2 h1 hb
    match j with
    | 0 => obtain ⟨g, e, ho⟩ := h1; exact ⟨g, e, own_below ho hb⟩
    | 1 => trivial
    | 2 => exact own_below h1 hb
    | 3 => trivial
    | 4 => obtain ⟨g, e, ho⟩ := h1; exact ⟨g, e, ho.below hb ho.lt⟩
    | 5 => exact own_below h1 hb
    | j + 6 => exact trivial
  intro sv
  simp only [List.take_succ_cons, List.take_zero, List.drop_succ_cons, List.drop_zero]
  refine seqW_val rfl rfl (fun _ => rfl) ?_ ?_
  · intro w' hw' _ K hK
    have HM1 := Lib.hid (ownsRow_low (World.ownsRow_made (e := 37) (size := 2) w' #[] 0 (Nat.le_refl w'.heap.size) (by simp [maxLen]) rfl) hw'.size)
    go_wp2_with fail
    exact hK _ _ _ rfl ((Below.refl _ _).alloc (Nat.le_refl _) _) ⟨_, rfl, HM1.out⟩
  simp only [Act.put, List.setIfInBounds_toArray, List.set_cons_succ, List.set_cons_zero]
  refine seqW_lit rfl rfl (fun _ => rfl) (fun _ _ => trivial) ?_ ?_
  · intro w' hw' _ K hK
    go_wp2_with fail
    exact hK _ _ rfl (Below.refl _ _)
  simp only [Act.put, List.setIfInBounds_toArray, List.set_cons_succ, List.set_cons_zero]
  refine seqW_val rfl rfl (fun _ => rfl) ?_ ?_
  · intro w' hw' hd K hK
    obtain ⟨g, e, ho⟩ := hd 0 (by simp)
    obtain ⟨v', w'', hrun, ho', hb⟩ := append_cells w' W0.heap.size hw'.size ci HCI.out g (e ▸ ho) l (by rw [HL.out]; omega) (.slice av n cv) (HVW.out.below hw')
    rw [← e] at hrun
    exact op_append rfl rfl rfl hrun (hK v' _ _ rfl hb (by show w''.ownsRow _ _ _ _ n _; rw [← HL.out]; exact ho'))
  simp only [Act.put, List.setIfInBounds_toArray, List.set_cons_succ, List.set_cons_zero]
  refine seqW_lit rfl rfl (fun _ => rfl) (fun _ _ => trivial) ?_ ?_
  · intro w' hw' _ K hK
    have f1 := (HG0.out.1.below hw' HG0.out.1.lt).cell 0
    have f2 := (HG0.out.1.below hw' HG0.out.1.lt).cell 1
    simp only [List.getElem?_toArray, List.getElem?_cons_zero, List.getElem?_cons_succ] at f1 f2
    go_wp2_with fail
    exact hK _ _ rfl (Below.refl _ _)
  simp only [Act.put, List.setIfInBounds_toArray, List.set_cons_succ, List.set_cons_zero]
  refine seqW_val rfl rfl (fun _ => rfl) ?_ ?_
  · intro w' hw' _ K hK
    go_wp2_with fail
    exact hK _ _ _ rfl ((Below.refl _ _).alloc (Nat.le_refl _) _) ⟨_, rfl, Holds.new _ _ _⟩
  simp only [Act.put, List.setIfInBounds_toArray, List.set_cons_succ, List.set_cons_zero]
  refine seqW_write rfl rfl (fun _ => rfl) ?_ ?_
  · intro w' hw' hd K hK
    have h3 := hd 2 (by simp)
    obtain ⟨g5, e5, hh5⟩ := hd 4 (by simp)
    obtain ⟨v', w'', hrun, ho', hgr, -⟩ := run_append_own (P := Try.prog) w' W0.heap.size 45 45 37 ci (.agg #[.int .i8 0, .int .i8 0]) 2 2 Try.underlying45 HCI.out.1 HCI.out.2.1 HCI.out.2.2.1 HCI.out.2.2.2 rfl (by decide) (sv 2) n (flatP l) h3 ⟨g5, 0, none⟩ 1 1 [.int .i8 hx, .int .i8 hy] rfl
      (fun j u hu => by
        match j, hu with
        | 0, hu => simp at hu; subst hu; exact hh5.cell 0
        | 1, hu => simp at hu; subst hu; exact hh5.cell 1)
      (fun z hz => by simp at hz; rcases hz with rfl | rfl <;> rfl) (by unfold maxLen; omega) (by omega) hw'.size
    rw [← e5] at hrun
    refine op_append rfl rfl rfl hrun (hK v' _ _ rfl (hw'.grown hgr hw'.size (fun k hk => own_far h3 k hk)) ?_)
    show w''.ownsRow _ _ _ _ _ (flatP (l ++ [(hx, hy)]))
    have : flatP (l ++ [(hx, hy)]) = flatP l ++ [.int .i8 hx, .int .i8 hy] := by simp [flatP]
    rw [this]
    exact ho'
  simp only [Act.put, List.setIfInBounds_toArray, List.set_cons_succ, List.set_cons_zero]
  refine seqW_nil ?_
  intro W1 hW1 h6
  obtain ⟨gc, cc, e6, hg61, hg62⟩ := own_form (show W1.ownsRow W0.heap.size 37 2 (sv 5) (n + 1) (flatP (l ++ [(hx, hy)])) from h6) (by omega)
  have h6' : W1.ownsRow W0.heap.size 37 2 (.slice (some ⟨gc, 0, none⟩) (n + 1) cc) (n + 1) (flatP (l ++ [(hx, hy)])) := e6 ▸ h6
  rw [e6]
  have hgL : Holds W1 g L.cells := (HG.out.below (show Below w.heap.size w W0 by rw [HS.out]; exact HG0.out.2.2) HG.out.lt).below hW1 (by have := HG.out.lt; have := HG0.out.2.2.size; omega)
  have hgs : g < s := by have := HG.out.lt; have := HS.out; omega
  obtain ⟨N, hN⟩ : ∃ N, n + 1 = N := ⟨_, rfl⟩
  rw [hN] at h6' ⊢
  rw [hN] at HLE HTO
  have HRP := Lib.hid (show RowP W1 (.slice av n cv) l from HVW.out.below hW1)
  have HW := Lib.hid (And.intro hgL (And.intro (HG0.out.1.below hW1 HG0.out.1.lt) (And.intro (HG0.out.2.1.below hW1 HG0.out.2.1.lt) (And.intro (HG0.out.2.2.trans (hW1.mono (by have := HG0.out.1.lt; omega))) h6'))))
  clear hgL h6 h6' e6 hW1 HVW HG0 HCI HG HV hg61 hg62
  go_wp2_with fail
  refine (HOK.out _ HW.out.1).mono ?_
  rintro e w2 ⟨rfl, hb1⟩
  have hsz1 := HW.out.2.2.1.lt
  have HX := Lib.hid (And.intro (HW.out.1.below hb1 HW.out.1.lt) (And.intro (HW.out.2.1.below hb1 HW.out.2.1.lt) (And.intro (HW.out.2.2.1.below hb1 HW.out.2.2.1.lt) (And.intro (HW.out.2.2.2.1.trans (hb1.mono (by omega))) (And.intro (own_below HW.out.2.2.2.2 hb1) (HRP.out.below hb1))))))
  clear HW HRP hb1
  cases vB with
  | false =>
    have HGV := Lib.hid (show G = 1 by
      have h1 := HAZ.out
      simp only [Bool.false_eq_true, if_false] at h1
      rw [HGZ.out, h1]; rfl)
    have rrow1 := HX.out.2.2.1.row
    obtain ⟨-, gg, -, y2, o2⟩ := HX.out.2.2.1.facts
    go_wp2_with fail
    exact bodyPost_ret (results_cell_tmp_holds rfl wideT36 _ rfl (HX.out.2.2.1.setRow _) (by simp)) rfl ⟨⟨_, by rw [HGV.out]; rfl, fun h => by rw [HGV.out] at h; cases h⟩, below_setRow' HX.out.2.2.2.1 (by omega) _⟩
  | true =>
    have HAZ2 := Lib.hid (show C = if P && U then (if 5 < n then 3 else if O then 0 else 4) else 2 by have h1 := HAZ.out; simpa using h1)
    have HTC2 := Lib.hid (show TC = if P then (if O then 0 else 4) else 2 by have h1 := HTC.out; simpa using h1)
    clear HAZ HTC HOK
    go_wp2_with fail
    refine (HFU.out _).mono ?_
    rintro e w3 ⟨rfl, hw3⟩
    rw [hw3]
    clear hw3 w3 HFU
    go_wp2_with fail
    go_loopw [11, 12] (fun t i wr => ∃ k : Nat, k ≤ N ∧ i = .int .i64 k ∧ t = .bool (U && ((l ++ [(hx, hy)]).take k).all (isP L)) ∧ Holds wr g L.cells ∧ Holds wr s #[.int .i8 hx, .int .i8 hy] ∧ Holds wr (s + 1) (tab36 fun _ _ => 0) ∧ Below s w wr ∧ wr.ownsRow W0.heap.size 37 2 (.slice (some ⟨gc, 0, none⟩) N cc) N (flatP (l ++ [(hx, hy)])) ∧ RowP wr (.slice av n cv) l) (fun _ i _ => N - (intOf i).toNat)
    case atStart => exact ⟨0, by omega, rfl, by simp, HX.out.1, HX.out.2.1, HX.out.2.2.1, HX.out.2.2.2.1, HX.out.2.2.2.2.1, HX.out.2.2.2.2.2⟩
    case round =>
      obtain ⟨k, hk, rfl, rfl, j0, j1, j2, jb, jo, jr⟩ := hrel
      clear HX
      have HJ := Lib.hid (And.intro j0 (And.intro j1 (And.intro j2 (And.intro jb (And.intro jo jr)))))
      obtain ⟨t, ht⟩ : ∃ t, (U && ((l ++ [(hx, hy)]).take k).all (isP L)) = t := ⟨_, rfl⟩
      have HTK := Lib.hid ht
      rw [ht]
      clear ht j0 j1 j2 jb jo jr
      by_cases hlt : k < N
      · have hd : decide ((k : Int) < (N : Int)) = true := by simp; omega
        obtain ⟨c, hq⟩ : ∃ c, (l ++ [(hx, hy)])[k]? = some c := ⟨_, List.getElem?_eq_getElem (by rw [HLE.out]; exact hlt)⟩
        have HTQ := Lib.hid (show (U && ((l ++ [(hx, hy)]).take (k + 1)).all (isP L)) = (t && isP L c) by
          rw [List.take_add_one, hq, List.all_append, ← HTK.out]
          simp [Bool.and_assoc])
        have f0 := flatP_at (l ++ [(hx, hy)]) k 0 (by omega)
        have f1 := flatP_at (l ++ [(hx, hy)]) k 1 (by omega)
        rw [hq] at f0 f1
        have q0 : wr.cell? ⟨gc, k * 2, none⟩ = some (.int .i8 c.1) := own_cell HJ.out.2.2.2.2.1 _ _ f0
        have q1 : wr.cell? ⟨gc, k * 2 + 1, none⟩ = some (.int .i8 c.2) := own_cell HJ.out.2.2.2.2.1 _ _ f1
        clear f0 f1
        have HIC := Lib.hid (HIS.out c (List.mem_of_getElem? hq))
        obtain ⟨cx, cy⟩ := c
        dsimp only at q0 q1
        obtain ⟨u, hu⟩ : ∃ u, isP L (cx, cy) = u := ⟨_, rfl⟩
        rw [hu] at HIC HTQ
        clear hq hu
        cases t
        · have HF := Lib.hid (show (U && ((l ++ [(hx, hy)]).take (k + 1)).all (isP L)) = false by rw [HTQ.out]; simp)
          go_wp2_with fail
          exact ⟨⟨k + 1, by omega, by go_num, by rw [HF.out], HJ.out.1, HJ.out.2.1, HJ.out.2.2.1, HJ.out.2.2.2.1, HJ.out.2.2.2.2.1, HJ.out.2.2.2.2.2⟩, by simp [intOf]; omega⟩
        · have HF := Lib.hid (show (U && ((l ++ [(hx, hy)]).take (k + 1)).all (isP L)) = u by rw [HTQ.out]; simp)
          go_wp2_with fail
          refine (HIC.out _ HJ.out.1).mono ?_
          rintro e w5 ⟨rfl, hb5⟩
          have HJ5 := Lib.hid (And.intro (HJ.out.1.below hb5 HJ.out.1.lt) (And.intro (HJ.out.2.1.below hb5 HJ.out.2.1.lt) (And.intro (HJ.out.2.2.1.below hb5 HJ.out.2.2.1.lt) (And.intro (HJ.out.2.2.2.1.trans (hb5.mono (by have := HJ.out.2.1.lt; omega))) (And.intro (own_below HJ.out.2.2.2.2.1 hb5) (HJ.out.2.2.2.2.2.below hb5))))))
          clear hb5 q0 q1 HJ
          go_wp2_with fail
          exact ⟨⟨k + 1, by omega, by go_num, by rw [HF.out], HJ5.out.1, HJ5.out.2.1, HJ5.out.2.2.1, HJ5.out.2.2.2.1, HJ5.out.2.2.2.2.1, HJ5.out.2.2.2.2.2⟩, by simp [intOf]; omega⟩
      · have hd : decide ((k : Int) < (N : Int)) = false := by simp; omega
        have htk : (l ++ [(hx, hy)]).take k = l ++ [(hx, hy)] := List.take_of_length_le (by rw [HLE.out]; omega)
        have HT2 := HTK.out
        rw [htk, HPI.out] at HT2
        have HT3 := Lib.hid (show (P && U) = t by rw [Bool.and_comm]; exact HT2)
        clear htk HT2 HTK
        have rrow1 := HJ.out.2.2.1.row
        obtain ⟨-, gg, -, y2, o2⟩ := HJ.out.2.2.1.facts
        cases t with
        | false =>
          have HGV := Lib.hid (show G = 2 by
            have h1 := HAZ2.out
            rw [HT3.out] at h1
            simp only [Bool.false_eq_true, if_false] at h1
            rw [HGZ.out, h1]; rfl)
          go_wp2_with fail
          exact bodyPost_ret (results_cell_tmp_holds rfl wideT36 _ rfl (HJ.out.2.2.1.setRow _) (by simp)) rfl ⟨⟨_, by rw [HGV.out]; rfl, fun h => by rw [HGV.out] at h; cases h⟩, below_setRow' HJ.out.2.2.2.1 (by omega) _⟩
        | true =>
          have HC3 := Lib.hid (show C = if 5 < n then 3 else if O then 0 else 4 by
            have h1 := HAZ2.out
            rw [HT3.out] at h1
            simpa using h1)
          have HTC3 := Lib.hid (show TC = if O then 0 else 4 by
            have h0 := HT3.out
            simp only [Bool.and_eq_true] at h0
            have h1 := HTC2.out
            rw [h0.1] at h1
            simpa using h1)
          clear HAZ2 HTC2
          by_cases hn5 : 5 < n
          · have hd5 : decide ((5 : Int) < (n : Int)) = true := by simp; omega
            have HGV := Lib.hid (show G = 3 by
              have h1 := HC3.out
              rw [if_pos hn5] at h1
              rw [HGZ.out, h1]; rfl)
            go_wp2_with fail
            exact bodyPost_ret (results_cell_tmp_holds rfl wideT36 _ rfl (HJ.out.2.2.1.setRow _) (by simp)) rfl ⟨⟨_, by rw [HGV.out]; rfl, fun h => by rw [HGV.out] at h; cases h⟩, below_setRow' HJ.out.2.2.2.1 (by omega) _⟩
          · have hd5 : decide ((5 : Int) < (n : Int)) = false := by simp; omega
            have HTO2 := Lib.hid (HTO.out (by omega) gc cc wr HJ.out.1 (fun w' hw' i c hc => by
              have f0 := flatP_at (l ++ [(hx, hy)]) i 0 (by omega)
              have f1 := flatP_at (l ++ [(hx, hy)]) i 1 (by omega)
              rw [hc] at f0 f1
              exact ⟨own_cell (own_below HJ.out.2.2.2.2.1 hw') _ _ f0, own_cell (own_below HJ.out.2.2.2.2.1 hw') _ _ f1⟩))
            have HC4 := Lib.hid (show C = if O then 0 else 4 by have h1 := HC3.out; rw [if_neg hn5] at h1; exact h1)
            clear HC3 rrow1 gg y2 o2
            go_wp2_with fail
            refine HTO2.out.mono ?_
            rintro e w5 ⟨rfl, hb5⟩
            have HJ5 := Lib.hid (And.intro (HJ.out.1.below hb5 HJ.out.1.lt) (And.intro (HJ.out.2.1.below hb5 HJ.out.2.1.lt) (And.intro (HJ.out.2.2.1.below hb5 HJ.out.2.2.1.lt) (And.intro (HJ.out.2.2.2.1.trans (hb5.mono (by have := HJ.out.2.1.lt; omega))) (HJ.out.2.2.2.2.2.below hb5)))))
            clear hb5 HJ HTO2
            have rrow1 := HJ5.out.2.2.1.row
            obtain ⟨-, gg, -, y2, o2⟩ := HJ5.out.2.2.1.facts
            cases O with
            | false =>
              have hT4 : TC = 4 := by have h1 := HTC3.out; simpa using h1
              subst hT4
              have HGV := Lib.hid (show G = 4 by
                have h1 := HC4.out
                simp only [Bool.false_eq_true, if_false] at h1
                rw [HGZ.out, h1]; rfl)
              go_wp2_with fail
              exact bodyPost_ret (results_cell_tmp_holds rfl wideT36 _ rfl (HJ5.out.2.2.1.setRow _) (by simp)) rfl ⟨⟨_, by rw [HGV.out]; rfl, fun h => by rw [HGV.out] at h; cases h⟩, below_setRow' HJ5.out.2.2.2.1 (by omega) _⟩
            | true =>
              have hT4 : TC = 0 := by have h1 := HTC3.out; simpa using h1
              subst hT4
              have hC0 : C = 0 := by have h1 := HC4.out; simpa using h1
              have HGR := Lib.hid (show G = if PB = true then 0 else 6 by rw [HGZ.out, if_pos hC0, HPG.out hC0])
              have d0 : w5.cell? ⟨s, 0, none⟩ = some (.int .i8 hx) := HJ5.out.2.1.cell 0
              have d1 : w5.cell? ⟨s, 1, none⟩ = some (.int .i8 hy) := HJ5.out.2.1.cell 1
              have HTA2 := Lib.hid (HTA.out trivial (by omega) (HOP.out rfl) (.slice av n cv) w5 HJ5.out.1 HJ5.out.2.2.2.2)
              clear rrow1 gg y2 o2 hC0 HTA HTC3 HC4
              go_wp2_with fail
              refine HTA2.out.mono ?_
              rintro e w6 ⟨⟨T, rfl, hTT⟩, hb6⟩
              have HTT := Lib.hid hTT
              have k1 := (HJ5.out.2.2.1.below hb6 HJ5.out.2.2.1.lt).alloc (.cells (tab36 T) 123)
              have k2 := Holds.new w6 (tab36 T) 123
              have kb := (HJ5.out.2.2.2.1.trans (hb6.mono (by have := HJ5.out.2.1.lt; omega))).alloc (by have := hb6.size; have := HJ5.out.2.1.lt; omega) (.cells (tab36 T) 123)
              have rrow2 := k2.row
              have rrow1 := k1.row
              obtain ⟨-, gg, -, y2, o2⟩ := k1.facts
              have HK := Lib.hid (And.intro k1 kb)
              clear k1 k2 kb hb6 hTT d0 d1
              cases PB with
              | false =>
                have HGV := Lib.hid (show G = 6 by rw [HGR.out]; rfl)
                go_wp2_with fail
                exact bodyPost_ret (results_cell_tmp_holds rfl wideT36 _ rfl (HK.out.1.setRow _) (by simp)) rfl ⟨⟨_, by rw [HGV.out]; rfl, fun h => by rw [HGV.out] at h; cases h⟩, below_setRow' HK.out.2 (by omega) _⟩
              | true =>
                have HGV := Lib.hid (show G = 0 by rw [HGR.out]; rfl)
                go_wp2_with fail
                exact bodyPost_ret (results_cell_tmp_holds rfl wideT36 _ rfl (HK.out.1.setRow _) (by simp)) rfl ⟨⟨T, by rw [HGV.out]; rfl, fun _ => HTT.out trivial⟩, below_setRow' HK.out.2 (by omega) _⟩
end Go.Proofs.Ytaeenkjbmlgcmaa

namespace Go.Proofs.Ytaeenkjbmlgcmaa
open Go.RowKit
set_option linter.unusedVariables false
set_option linter.unusedSimpArgs false
attribute [local go_sem ↓] loadRow loadGrid loadLawn loadMirror storeRow storeGrid storeLawn allocRow allocGrid allocLawn buildZero buildSides loadG64 storeG64 allocG64 buildG64 loadT36 storeT36 allocT36 buildT36

section
variable {f g : Nat → Nat → Int} {n : Nat} (h : ∀ i j, i ≤ n → j ≤ n → f i j = g i j)
include h
theorem goT_congr : ∀ (m : Nat) (o : List Nat), o.length = m → (∀ x ∈ o, x ≤ n) → goT f n o = goT g n o
  | 0, o, hm, _ => by rw [List.length_eq_zero_iff.1 hm]; rfl
  | m + 1, o, hm, ho => by
    rcases List.eq_nil_or_concat o with rfl | ⟨q, k, rfl⟩
    · rfl
    · rw [List.concat_eq_append] at hm ho ⊢
      have ih := goT_congr m q (by simpa using hm) fun x hx => ho x (by simp [hx])
      rw [goT_snoc, goT_snoc, ih]
      have hl : (goT g n q).2 ≤ n := by
        rw [goT_last]
        cases hq : q.getLast? with
        | none => simp
        | some x => exact ho x (by simp [List.mem_of_getLast? hq])
      rw [h _ _ hl (ho k (by simp))]
theorem tripT_congr {o : List Nat} (ho : ∀ x ∈ o, x ≤ n) : tripT f n o = tripT g n o := by
  unfold tripT
  have e := goT_congr h _ o rfl ho
  have hl : (goT g n o).2 ≤ n := by
    rw [goT_last]
    cases hq : o.getLast? with
    | none => simp
    | some x => exact ho x (List.mem_of_getLast? hq)
  rw [e, h _ _ hl (Nat.le_refl n)]
theorem bestOf5_congr {o : List Nat} (hs : o ∈ subs5) (ho : ∀ x ∈ o, x ≤ n) : bestOf5 f n o = bestOf5 g n o := by
  unfold bestOf5
  have key : ∀ (l : List (List Nat)) (b : Option (List Nat × Int)), (∀ p ∈ l, ∀ x ∈ p, x ≤ n) → l.foldl (bestT f n) b = l.foldl (bestT g n) b := by
    intro l
    induction l with
    | nil => intro b _; rfl
    | cons p l ih =>
      intro b hp
      rw [List.foldl_cons, List.foldl_cons]
      have e : bestT f n b p = bestT g n b p := by
        unfold bestT
        rw [tripT_congr h (hp p (by simp))]
      rw [e]
      exact ih _ fun q hq => hp q (by simp [hq])
  rw [key]
  intro p hp x hx
  have := List.all_eq_true.1 (perms_chain o hs).2.2.2 p hp
  simp only [Bool.and_eq_true, beq_iff_eq, List.all_eq_true, List.contains_iff_mem] at this
  exact ho x (this.2 x hx)
end
theorem tab_good {T tb : Nat → Nat → Int} {n : Nat} (hn : n ≤ 5) (hT : TabTo T tb n (n + 1) 0) (hb : ∀ i j, i ≤ n → j ≤ n → 0 ≤ tb i j ∧ tb i j < 100) : (∀ i j, i < 6 → j < 6 → 0 ≤ T i j ∧ T i j < 100) ∧ ∀ i j, i ≤ n → j ≤ n → T i j = tb i j := by
  constructor
  · intro i j hi hj
    rw [hT i j hi hj]
    split
    · rename_i h
      exact hb i j (by omega) (by omega)
    · omega
  · intro i j hi hj
    rw [hT i j (by omega) (by omega), if_pos (by omega)]

set_option maxRecDepth 100000 in
set_option maxHeartbeats 4000000 in
theorem specTrip_any (L : Lawn) (hL : L.Fits) (hx hy : Int) (l : List Pt) (n : Nat) (hl : l.length = n) (hn2 : n ≤ 1048576) (hli : ∀ c ∈ (hx, hy) :: l, (-128 ≤ c.1 ∧ c.1 ≤ 127) ∧ -128 ≤ c.2 ∧ c.2 ≤ 127) (v : Value) (w : World) (hv : RowP w v l) :
    Calls Try.prog 32 #[.agg L.cells, .agg #[.int .i8 hx, .int .i8 hy], v] w fun e w' => (∃ u, e = .returned (.tuple #[u, .int .i64 (tripZ L l (hx, hy)).2, .int .i64 (goalZ L l (hx, hy) 0)]) ∧ w'.ownsRow w.heap.size 2 1 u (tripZ L l (hx, hy)).1.length (ordV (tripZ L l (hx, hy)).1)) ∧ Below w.heap.size w w' := by
  have HGO := Lib.hid (fun (g : Nat) (w : World) (hg : Holds w g L.cells) (hv : RowP w v l) => lGoals_any L hL g hx hy 0 l n hl hn2 hli v w hg hv)
  have HTZ : Hid (tripZ L l (hx, hy) = if goalZ L l (hx, hy) 0 = 0 then bestOf5 (tbT L l (hx, hy)) n (List.range n) else ([], 0)) := Lib.hid (by unfold tripZ; rw [hl])
  have H5 := Lib.hid (fun (hz : goalZ L l (hx, hy) 0 = 0) => (hl ▸ goal_five hz : n ≤ 5))
  have HBM := Lib.hid (fun (h5 : n ≤ 5) => (best_mem (tb := tbT L l (hx, hy)) (n := n) (range_sub h5)).1)
  have HLB := Lib.hid (fun (hz : goalZ L l (hx, hy) 0 = 0) (T : Nat → Nat → Int) (hT : TabTo T (tbT L l (hx, hy)) n (n + 1) 0) (g Bs : Nat) (sv : Value) (w : World) (hg : Holds w g (tab36 T)) (hsv : w.ownsRow Bs 2 1 sv n (ordV (List.range n))) => (by
    have hn5 : n ≤ 5 := hl ▸ goal_five hz
    have hb := (goal_pairs hz).2.2
    rw [hl] at hb
    obtain ⟨t1, t2⟩ := tab_good hn5 hT hb
    have := lBest_any T n hn5 t1 (List.range n) n (by simp) hn5 (fun x hx => by have := List.mem_range.1 hx; omega) (range_sub hn5) g sv Bs w hg hsv
    rw [bestOf5_congr t2 (range_sub hn5) (fun x hx => by have := List.mem_range.1 hx; omega)] at this
    exact this : Calls Try.prog 80 #[.pointer (some ⟨g, 0, none⟩), .int .i64 n, sv] w fun e w' => (∃ u, e = .returned (.tuple #[u, .int .i64 (bestOf5 (tbT L l (hx, hy)) n (List.range n)).2]) ∧ w'.ownsRow w.heap.size 2 1 u n (ordV (bestOf5 (tbT L l (hx, hy)) n (List.range n)).1)) ∧ Below w.heap.size w w'))
  obtain ⟨G, hG⟩ : ∃ G, goalZ L l (hx, hy) 0 = G := ⟨_, rfl⟩
  obtain ⟨tb, htb⟩ : ∃ f, tbT L l (hx, hy) = f := ⟨_, rfl⟩
  obtain ⟨TZ, hTZ⟩ : ∃ f, tripZ L l (hx, hy) = f := ⟨_, rfl⟩
  obtain ⟨⟨Q, S⟩, hQS⟩ : ∃ f, bestOf5 tb n (List.range n) = f := ⟨_, rfl⟩
  rw [hG, htb] at HGO HLB
  rw [hG, htb, hTZ, hQS] at HTZ
  rw [hQS] at HLB
  rw [htb, hQS, List.length_range] at HBM
  rw [hG] at H5
  rw [hG, hTZ]
  dsimp only at HLB HBM
  obtain ⟨ci, hi, hz0, hz1, hz2⟩ := info_parts i64I
  have HCI := Lib.hid (show Try.prog.info? 2 = some ci ∧ ci.zero = some (.int .i64 0) ∧ ci.size = 1 ∧ ci.bytes = 8 from ⟨hi, hz0, hz1, hz2⟩)
  have HV := Lib.hid hv
  have HL := Lib.hid hl
  obtain ⟨av, cv, rfl⟩ : ∃ a c, v = .slice a n c := by
    obtain ⟨a, c, e⟩ := hv.slice
    exact ⟨a, c, by rw [e, hl]⟩
  obtain ⟨s, hs⟩ : ∃ s, w.heap.size = s := ⟨_, rfl⟩
  obtain ⟨W0, hW0⟩ : ∃ W0, (w.alloc (.cells L.cells 29)).alloc (.cells #[.int .i8 hx, .int .i8 hy] 37) = W0 := ⟨_, rfl⟩
  have g0 : Holds W0 s L.cells := by rw [← hW0, ← hs]; exact (Holds.new _ _ _).alloc _
  have g1 : Holds W0 (s + 1) #[.int .i8 hx, .int .i8 hy] := by rw [← hW0, ← hs]; exact Holds.new' _ _ _ _ (by simp)
  have hb0 : Below s w W0 := by rw [← hW0, ← hs]; exact ((Below.refl w.heap.size w).alloc (Nat.le_refl _) _).alloc (by simp) _
  have d0 : W0.cell? ⟨s + 1, 0, none⟩ = some (.int .i8 hx) := g1.cell 0
  have d1 : W0.cell? ⟨s + 1, 1, none⟩ = some (.int .i8 hy) := g1.cell 1
  have HS := Lib.hid hs
  have HTW := Lib.hid (HGO.out s W0 g0 (HV.out.below (show Below w.heap.size w W0 by rw [hs]; exact hb0)))
  rw [hs]
  clear hG htb hTZ hQS hv hl hL HGO hli hi hz0 hz1 hz2
  go_enter Try.func32, Try.ntmps32
  go_wp2_with fail
  try rw [hW0]
  try simp only [hs]
  refine HTW.out.mono ?_
  rintro e w1 ⟨⟨T, rfl, hT⟩, hb1⟩
  have hb2 := hb0.trans (hb1.mono (by have := g1.lt; omega))
  have k3 := Holds.new w1 (tab36 T) 123
  have hb3 := hb2.alloc (by have := hb1.size; have := g1.lt; omega) (.cells (tab36 T) 123)
  have HTT := Lib.hid hT
  obtain ⟨q, hq⟩ : ∃ q, w1.heap.size = q := ⟨_, rfl⟩
  rw [hq] at k3
  have hsq : s + 1 < q := by have := hb1.size; have := g1.lt; omega
  obtain ⟨W2, hW2⟩ : ∃ W2, w1.alloc (.cells (tab36 T) 123) = W2 := ⟨_, rfl⟩
  rw [hW2] at k3 hb3
  have HB3 := Lib.hid hb3
  have HK3 := Lib.hid k3
  have HM1 := Lib.hid (World.ownsRow_made (e := 2) (size := 1) W2 #[] 0 (Nat.le_refl W2.heap.size) (by simp [maxLen]) rfl)
  have hsz2 : q < W2.heap.size := k3.lt
  clear hW0 d0 d1 hs g0 g1 hb0 hb1 hb2 hb3 k3 hT HTW
  by_cases hz : G = 0
  case neg =>
    have hgd : (G != 0) = true := by simpa using hz
    have HTE := Lib.hid (show TZ = ([], 0) by rw [HTZ.out, if_neg hz])
    clear hz
    go_wp2_with fail
    go_ret3
    exact ⟨⟨_, by rw [HTE.out]; rfl, by rw [HTE.out]; exact ownsRow_low HM1.out (by omega)⟩, HB3.out.alloc (by omega) _⟩
  case pos =>
    have HTE := Lib.hid (show TZ = (Q, S) by rw [HTZ.out, if_pos hz])
    have h5 := H5.out hz
    have HBML := Lib.hid (HBM.out h5)
    have HZ := Lib.hid hz
    have hgf : (G != 0) = false := by rw [hz]; rfl
    have HLB2 := Lib.hid (HLB.out hz T (HTT.out hz))
    clear hz HLB HTT
    go_wp2_with fail
    try rw [hW2]
    try simp only [hq]
    clear hW2 hq
    obtain ⟨B2, hB2⟩ : ∃ B, W2.heap.size = B := ⟨_, rfl⟩
    rw [hB2] at HM1 hsz2
    have HB2 := Lib.hid hB2
    try simp only [hB2]
    clear hB2
    go_loopw [11, 12] (fun t j wr => ∃ i : Nat, i ≤ n ∧ j = .int .i64 i ∧ wr.ownsRow B2 2 1 t i (ordV (List.range i)) ∧ Below B2 W2 wr) (fun _ j _ => n - (intOf j).toNat)
    case atStart => exact ⟨0, by omega, rfl, HM1.out, (Below.refl _ _).alloc (by rw [HB2.out]; exact Nat.le_refl _) _⟩
    case round =>
      obtain ⟨i, hi, rfl, hu, hb⟩ := hrel
      have HU := Lib.hid hu
      obtain ⟨at', ct, rfl⟩ := own_slice hu
      have hsb : B2 ≤ wr.heap.size := by have := hb.size; have := HB2.out; omega
      clear hu
      by_cases hlt : i < n
      · have hd : decide ((i : Int) < (n : Int)) = true := by simp; omega
        have HOA := Lib.hid (show ordV (List.range (i + 1)) = ordV (List.range i) ++ [.int .i64 i] by rw [List.range_succ]; simp [ordV])
        go_wp2_with (at_builtin; refine wpList_append_own_at _ rfl _ _ 56 rfl B2 2 ci (.int .i64 0) 1 8 Try.underlying56 HCI.out.1 HCI.out.2.1 HCI.out.2.2.1 HCI.out.2.2.2 rfl (by decide) _ _ _ rfl (HU.out.alloc _) ⟨wr.heap.size, 0, none⟩ 1 1 [.int .i64 i] rfl rfl ?c1 ?c2 ?c3 ?c4 ?c5 ?_)
        case c1 =>
          intro m u hu
          match m, hu with
          | 0, hu => simp at hu; subst hu; exact (Holds.new wr #[.int .i64 i] 2).cell 0
        case c2 => first | rfl | (intro u hu; simp at hu; subst hu; rfl)
        case c3 => unfold maxLen; omega
        case c4 => omega
        case c5 => first | omega | (simp; omega)
        intro v' w3 hown hgrow _ hat
        have hb3 : Below B2 W2 w3 := (hb.alloc hsb _).grown hgrow (by simp; omega) (fun k hk => own_far HU.out k hk)
        have HO3 := Lib.hid (show w3.ownsRow B2 2 1 v' (i + 1) (ordV (List.range (i + 1))) by rw [HOA.out]; exact hown)
        clear hown hgrow hat hb HU
        go_wp2_with fail
        exact ⟨⟨i + 1, by omega, by go_num, HO3.out, hb3⟩, by simp [intOf]; omega⟩
      · have hin : i = n := by omega
        subst hin
        have hd : decide ((i : Int) < (i : Int)) = false := by simp
        have HLB3 := Lib.hid (HLB2.out q B2 _ wr (HK3.out.below hb (by omega)) HU.out)
        have hbs : Below s w wr := HB3.out.trans (hb.mono (by omega))
        go_wp2_with fail
        refine HLB3.out.mono ?_
        rintro e w5 ⟨⟨u, rfl, ho⟩, hb5⟩
        have HFIN := Lib.hid (And.intro (ownsRow_low ho (show s ≤ wr.heap.size by omega)) (hbs.trans (hb5.mono (by omega))))
        clear ho hb5 hb hbs
        go_wp2_with fail
        go_ret3
        exact ⟨⟨_, by rw [HTE.out, HZ.out]; rfl, by rw [HTE.out]; dsimp only; rw [HBML.out]; exact HFIN.out.1⟩, HFIN.out.2⟩
end Go.Proofs.Ytaeenkjbmlgcmaa

namespace Go.Proofs.Ytaeenkjbmlgcmaa
open Go.RowKit
set_option linter.unusedVariables false
set_option linter.unusedSimpArgs false
attribute [local go_sem ↓] loadRow loadGrid loadLawn loadMirror storeRow storeGrid storeLawn allocRow allocGrid allocLawn buildZero buildSides loadG64 storeG64 allocG64 buildG64 loadT36 storeT36 allocT36 buildT36

set_option maxRecDepth 100000 in
set_option maxHeartbeats 4000000 in
theorem specCheckT_any (L : Lawn) (hL : L.Fits) (hx hy full : Int) (l : List Pt) (n : Nat) (hl : l.length = n) (hn2 : n ≤ 1048576) (hli : ∀ c ∈ (hx, hy) :: l, (-128 ≤ c.1 ∧ c.1 ≤ 127) ∧ -128 ≤ c.2 ∧ c.2 ≤ 127) (ts : List Int) (m : Nat) (hts : ts.length = m) (hm2 : m ≤ 1048576) (v u : Value) (w : World) (hv : RowP w v l) (hu : RowN w u ts) :
    Calls Try.prog 42 #[.agg L.cells, .agg #[.int .i8 hx, .int .i8 hy], .int .i64 full, v, u] w fun e w' => e = .returned (.tuple #[.bool (checkTZ L l (hx, hy) full ts), .int .i64 (goalZ L l (hx, hy) full)]) ∧ Below w.heap.size w w' := by
  have HGO := Lib.hid (fun (g : Nat) (w : World) (hg : Holds w g L.cells) (hv : RowP w v l) => lGoals_any L hL g hx hy full l n hl hn2 hli v w hg hv)
  have HLW := Lib.hid (fun (k : Int) (w : World) (hu : RowN w u ts) => lWith_any ts k m hts (by omega) u w hu)
  have HCZ : Hid (checkTZ L l (hx, hy) full ts = if goalZ L l (hx, hy) full = 0 then (decide (m = n) && (ts.all (upZ · 4) && withinB (tbT L l (hx, hy)) n ts full 5)) else false) := Lib.hid (by unfold checkTZ; rw [hts, hl])
  have H5 := Lib.hid (fun (hz : goalZ L l (hx, hy) full = 0) => (hl ▸ goal_five hz : n ≤ 5))
  have HLB := Lib.hid (fun (hz : goalZ L l (hx, hy) full = 0) (hmn : m = n) (T : Nat → Nat → Int) (hT : TabTo T (tbT L l (hx, hy)) n (n + 1) 0) (k : Nat) (g Bs : Nat) (sv : Value) (w : World) (hg : Holds w g (tab36 T)) (hsv : w.ownsRow Bs 2 1 sv (withL ts k).length (ordV (withL ts k))) => (by
    have hn5 : n ≤ 5 := hl ▸ goal_five hz
    have hb := (goal_pairs hz).2.2
    rw [hl] at hb
    obtain ⟨t1, t2⟩ := tab_good hn5 hT hb
    have hw5 : (withL ts k).length ≤ 5 := by have := List.length_filter_le (fun i => ts.getD i 0 == (k : Int)) (List.range ts.length); unfold withL; simp only [List.length_range] at this; omega
    have hwn : ∀ x ∈ withL ts k, x < n := fun x hx => by
      unfold withL at hx
      have := List.mem_range.1 (List.mem_filter.1 hx).1
      omega
    have := lBest_any T n hn5 t1 (withL ts k) _ rfl hw5 (fun x hx => by have := hwn x hx; omega) (with_sub (by omega) _) g sv Bs w hg hsv
    rw [bestOf5_congr t2 (with_sub (by omega) _) (fun x hx => by have := hwn x hx; omega)] at this
    exact this.mono fun e w' ⟨⟨u, h1, _⟩, h2⟩ => ⟨⟨u, h1⟩, h2⟩ : Calls Try.prog 80 #[.pointer (some ⟨g, 0, none⟩), .int .i64 n, sv] w fun e w' => (∃ u, e = .returned (.tuple #[u, .int .i64 (bestOf5 (tbT L l (hx, hy)) n (withL ts k)).2])) ∧ Below w.heap.size w w'))
  have HWS := Lib.hid (fun k => withinB_succ (tbT L l (hx, hy)) n ts full k)
  have HWF := Lib.hid (fun k (h : withinB (tbT L l (hx, hy)) n ts full k = false) (hk : k ≤ 5) => withinB_false h hk)
  have HW0 := Lib.hid (show withinB (tbT L l (hx, hy)) n ts full 0 = true from rfl)
  have HIN := Lib.hid (fun (t : Int) (w : World) => in00_is t 0 4 w)
  have HUP := Lib.hid (show ∀ t, inZ t 0 4 = upZ t 4 from fun t => by unfold upZ inZ; rfl)
  obtain ⟨F, hF⟩ : ∃ F, ts.all (upZ · 4) = F := ⟨_, rfl⟩
  obtain ⟨G, hG⟩ : ∃ G, goalZ L l (hx, hy) full = G := ⟨_, rfl⟩
  obtain ⟨tb, htb⟩ : ∃ f, tbT L l (hx, hy) = f := ⟨_, rfl⟩
  obtain ⟨CZ, hCZ⟩ : ∃ f, checkTZ L l (hx, hy) full ts = f := ⟨_, rfl⟩
  rw [hG, htb] at HGO HLB
  rw [htb] at HWS HWF HW0
  obtain ⟨WB, hWB⟩ : ∃ W : Nat → Bool, withinB tb n ts full = W := ⟨_, rfl⟩
  obtain ⟨BS, hBS⟩ : ∃ W : Nat → Int, (fun k : Nat => (bestOf5 tb n (withL ts k)).2) = W := ⟨_, rfl⟩
  have HBO := Lib.hid (show ∀ k : Nat, (bestOf5 tb n (withL ts k)).2 = BS k from fun k => by rw [← hBS])
  rw [hWB] at HWS HWF HW0
  have HWS2 := Lib.hid (show ∀ k : Nat, WB (k + 1) = (WB k && decide (BS k ≤ full)) from fun k => by rw [HWS.out, HBO.out])
  rw [hG, htb, hWB, hF, hCZ] at HCZ
  rw [hG] at H5
  rw [hG, hCZ]
  have HFF := Lib.hid hF
  have HV := Lib.hid hv
  have HL := Lib.hid hl
  have HU := Lib.hid hu
  have HTS := Lib.hid hts
  obtain ⟨av, cv, rfl⟩ : ∃ a c, v = .slice a n c := by
    obtain ⟨a, c, e⟩ := hv.slice
    exact ⟨a, c, by rw [e, hl]⟩
  obtain ⟨au, cu, rfl⟩ : ∃ a c, u = .slice a m c := by
    obtain ⟨a, c, e, -⟩ := hu
    exact ⟨a, c, by rw [e, hts]⟩
  obtain ⟨s, hs⟩ : ∃ s, w.heap.size = s := ⟨_, rfl⟩
  obtain ⟨W0, hW0⟩ : ∃ W0, (w.alloc (.cells L.cells 29)).alloc (.cells #[.int .i8 hx, .int .i8 hy] 37) = W0 := ⟨_, rfl⟩
  have g0 : Holds W0 s L.cells := by rw [← hW0, ← hs]; exact (Holds.new _ _ _).alloc _
  have g1 : Holds W0 (s + 1) #[.int .i8 hx, .int .i8 hy] := by rw [← hW0, ← hs]; exact Holds.new' _ _ _ _ (by simp)
  have hb0 : Below s w W0 := by rw [← hW0, ← hs]; exact ((Below.refl w.heap.size w).alloc (Nat.le_refl _) _).alloc (by simp) _
  have d0 : W0.cell? ⟨s + 1, 0, none⟩ = some (.int .i8 hx) := g1.cell 0
  have d1 : W0.cell? ⟨s + 1, 1, none⟩ = some (.int .i8 hy) := g1.cell 1
  have HS := Lib.hid hs
  have HTW := Lib.hid (HGO.out s W0 g0 (HV.out.below (show Below w.heap.size w W0 by rw [hs]; exact hb0)))
  rw [hs]
  clear hG htb hWB hBS hCZ hF hv hl hu hts hL HGO hli HWS
  go_enter Try.func42, Try.ntmps42
  go_wp2_with fail
  try rw [hW0]
  try simp only [hs]
  refine HTW.out.mono ?_
  rintro e w1 ⟨⟨T, rfl, hT⟩, hb1⟩
  have hb2 := hb0.trans (hb1.mono (by have := g1.lt; omega))
  have k3 := Holds.new w1 (tab36 T) 123
  have hb3 := hb2.alloc (by have := hb1.size; have := g1.lt; omega) (.cells (tab36 T) 123)
  have hUW := HU.out.below (w' := w1.alloc (.cells (tab36 T) 123)) (by rw [HS.out]; exact hb3)
  have HTT := Lib.hid hT
  obtain ⟨q, hq⟩ : ∃ q, w1.heap.size = q := ⟨_, rfl⟩
  rw [hq] at k3
  have hsq : s + 1 < q := by have := hb1.size; have := g1.lt; omega
  obtain ⟨W2, hW2⟩ : ∃ W2, w1.alloc (.cells (tab36 T) 123) = W2 := ⟨_, rfl⟩
  rw [hW2] at k3 hb3 hUW
  have HB3 := Lib.hid hb3
  have HK3 := Lib.hid k3
  have HUW := Lib.hid hUW
  have hsz2 : q < W2.heap.size := k3.lt
  clear hW0 d0 d1 hs g0 g1 hb0 hb1 hb2 hb3 k3 hT HTW hUW
  by_cases hz : G = 0
  case neg =>
    have hgd : (G != 0) = true := by simpa using hz
    have HTE := Lib.hid (show CZ = false by rw [HCZ.out, if_neg hz])
    clear hz
    go_wp2_with fail
    go_ret2
    exact ⟨by rw [HTE.out]; rfl, HB3.out⟩
  case pos =>
    have HTE := Lib.hid (show CZ = (decide (m = n) && (F && WB 5)) by rw [HCZ.out, if_pos hz])
    have h5 := H5.out hz
    have HZ := Lib.hid hz
    have hgf : (G != 0) = false := by rw [hz]; rfl
    have HLB1 := Lib.hid (fun hmn => HLB.out hz hmn T (HTT.out hz))
    clear hz HLB HTT
    by_cases hmn : m = n
    case neg =>
      have hne : ((m : Int) != (n : Int)) = true := by simp; omega
      have HTF := Lib.hid (show CZ = false by rw [HTE.out, decide_eq_false hmn]; rfl)
      go_wp2_with fail
      go_ret2
      exact ⟨by rw [HTF.out, HZ.out]; rfl, HB3.out⟩
    case pos =>
      subst hmn
      have HLB2 := Lib.hid (HLB1.out rfl)
      have HTE2 := Lib.hid (show CZ = (F && WB 5) by rw [HTE.out]; simp)
      clear HTE HLB1
      have hne : ((m : Int) != (m : Int)) = false := by simp
      go_wp2_with fail
      try rw [hW2]
      try simp only [hq]
      clear hW2 hq
      go_loopw [14] (fun j wr => wr = W2 ∧ ∃ i : Nat, i ≤ m ∧ j = .int .i64 i ∧ (ts.take i).all (upZ · 4) = true) (fun j _ => m - (intOf j).toNat)
      case atStart => exact ⟨rfl, 0, by omega, rfl, by simp⟩
      case round =>
        obtain ⟨hwr, i, hi, rfl, hall⟩ := hrel
        rw [hwr]
        clear hwr wr
        have HALL := Lib.hid hall
        clear hall
        by_cases hlt : i < m
        · have hd : decide ((i : Int) < (m : Int)) = true := by simp; omega
          obtain ⟨t, ht⟩ : ∃ t, ts[i]? = some t := ⟨_, List.getElem?_eq_getElem (by rw [HTS.out]; exact hlt)⟩
          obtain ⟨a0, c0, he, hcc⟩ := HUW.out
          simp only [Value.slice.injEq] at he
          obtain ⟨rfl, -, rfl⟩ := he
          obtain ⟨g0, rfl, hc⟩ := hcc i t ht
          have e0 := hc W2 (Below.refl _ _)
          have HIT := Lib.hid (HIN.out t W2)
          rw [HUP.out] at HIT
          obtain ⟨d, hdt⟩ : ∃ d, upZ t 4 = d := ⟨_, rfl⟩
          rw [hdt] at HIT
          have HN := Lib.hid (show (ts.take (i + 1)).all (upZ · 4) = d by rw [List.take_add_one, ht, List.all_append, HALL.out, ← hdt]; simp)
          have HNF := Lib.hid (show d = false → F = false from fun h0 => by
            rw [← HFF.out, List.all_eq_false]
            exact ⟨t, List.mem_of_getElem? ht, by rw [hdt, h0]; decide⟩)
          clear ht hcc hc hdt
          go_wp2_with fail
          refine HIT.out.mono ?_
          rintro e w5 ⟨rfl, hw5⟩
          rw [hw5]
          clear hw5 w5
          cases d with
          | false =>
            have HTF := Lib.hid (show CZ = false by rw [HTE2.out, HNF.out rfl]; rfl)
            go_wp2_with fail
            go_ret2
            exact ⟨by rw [HTF.out, HZ.out]; rfl, HB3.out⟩
          | true =>
            go_wp2_with fail
            exact ⟨⟨trivial, i + 1, by omega, by go_num, HN.out⟩, by simp [intOf]; omega⟩
        · have hin : i = m := by omega
          subst hin
          have hd : decide ((i : Int) < (i : Int)) = false := by simp
          have HFT := Lib.hid (show F = true by rw [← HFF.out, ← HALL.out, List.take_of_length_le (by rw [HTS.out]; omega)])
          have HTE3 := Lib.hid (show CZ = WB 5 by rw [HTE2.out, HFT.out]; rfl)
          clear HTE2
          go_wp2_with fail
          go_loopw [15, 16, 17] (fun j _ _ wr => ∃ k : Nat, k ≤ 5 ∧ j = .int .i64 k ∧ WB k = true ∧ Below W2.heap.size W2 wr) (fun j _ _ _ => 5 - (intOf j).toNat)
          case atStart => exact ⟨0, by omega, rfl, HW0.out, Below.refl _ _⟩
          case round =>
            obtain ⟨k, hk, rfl, hwb, hb⟩ := hrel
            have HWB := Lib.hid hwb
            have HB := Lib.hid hb
            clear hwb
            by_cases hlk : k < 5
            · have hdk : decide ((k : Int) < (5 : Int)) = true := by simp; omega
              have hstep := HWS2.out k
              rw [HWB.out, Bool.true_and] at hstep
              have HST := Lib.hid hstep
              have HWI := Lib.hid (HLW.out k wr (HUW.out.below hb))
              obtain ⟨S, hS⟩ : ∃ S, BS k = S := ⟨_, rfl⟩
              have HSS := Lib.hid hS
              clear hstep hS hb
              go_wp2_with fail
              refine HWI.out.mono ?_
              rintro e w5 ⟨⟨u5, rfl, ho⟩, hb5⟩
              have HLBk := Lib.hid (HLB2.out k q _ _ w5 (HK3.out.below (below_onto HB.out hb5) (by omega)) ho)
              have HB5 := Lib.hid (below_onto HB.out hb5)
              rw [HBO.out, HSS.out] at HLBk
              obtain ⟨a5, c5, rfl⟩ := own_slice ho
              clear ho hb5
              go_wp2_with fail
              refine HLBk.out.mono ?_
              rintro e w6 ⟨⟨u6, rfl⟩, hb6⟩
              have HB6 := Lib.hid (below_onto HB5.out hb6)
              clear hb6
              by_cases hle : S ≤ full
              · have hd1 : decide (full < S) = false := decide_eq_false (by omega)
                have HW1 := Lib.hid (show WB (k + 1) = true by rw [HST.out, HSS.out]; exact decide_eq_true hle)
                go_wp2_with fail
                go_roundw
                case rel => exact ⟨k + 1, by omega, by go_num, HW1.out, HB6.out⟩
                case measure => simp [intOf]; omega
              · have hd1 : decide (full < S) = true := decide_eq_true (by omega)
                have HW1 := Lib.hid (show WB 5 = false from HWF.out (k + 1) (by rw [HST.out, HSS.out]; exact decide_eq_false hle) (by omega))
                have HTF := Lib.hid (show CZ = false by rw [HTE3.out, HW1.out])
                go_wp2_with fail
                go_ret2
                exact ⟨by rw [HTF.out, HZ.out]; rfl, HB3.out.trans (HB6.out.mono (by omega))⟩
            · have hin : k = 5 := by omega
              subst hin
              have hdk : decide (((5 : Nat) : Int) < (5 : Int)) = false := by simp
              have HTF := Lib.hid (show CZ = true by rw [HTE3.out, HWB.out])
              go_wp2_with fail
              go_ret2
              exact ⟨by rw [HTF.out, HZ.out]; rfl, HB3.out.trans (HB.out.mono (by omega))⟩
end Go.Proofs.Ytaeenkjbmlgcmaa
