/- The tours' targets: the pure part. From a cell one comes to another if and only if from this one to the other. toursOn, of the program. TripTo and CheckTrips, of the program. CheckTrips, of the program. -/
import Derived.Test.YtaeenkjbmlgcmaaMeetP
import Derived.Test.YtaeenkjbmlgcmaaZX
import Derived.Test.YtaeenkjbmlgcmaaZS
import Derived.Test.YtaeenkjbmlgcmaaZG
import Derived.Test.YtaeenkjbmlgcmaaZT
import Derived.Deep.OwnRows
import Derived.Laws.OwnMore
namespace Go.Proofs.Ytaeenkjbmlgcmaa
open Go.RowKit
set_option linter.unusedVariables false

theorem found_ind {pass : Pt → Bool} {s : Pt} (hs : pass s = true) (Q : Pt → Prop) (h0 : Q s) (hstep : ∀ p c, Q p → pass p = true → c ∈ beside p → pass c = true → Q c) : ∀ n, ∀ p ∈ found pass s n, Q p.1 := by
  intro n
  induction n with
  | zero => intro p hp; simp only [found, List.mem_singleton] at hp; rw [hp]; exact h0
  | succ n ih =>
    intro p hp
    simp only [found] at hp
    split at hp
    · rename_i q hq
      have hqm := List.mem_of_getElem? hq
      have hQ := ih q hqm
      have hpq := (found_good hs n).pass q hqm
      have key : ∀ (l : List Pt) (F : Found), (∀ c ∈ l, c ∈ beside q.1) → (∀ p ∈ F, Q p.1) → ∀ p ∈ l.foldl (visit pass q.2) F, Q p.1 := by
        intro l
        induction l with
        | nil => intro F _ hF p hp; exact hF p hp
        | cons c l ih2 =>
          intro F hl hF p hp
          rw [List.foldl_cons] at hp
          refine ih2 _ (fun d hd => hl d (by simp [hd])) ?_ p hp
          intro r hr
          unfold visit at hr
          split at hr
          · exact hF r hr
          · rename_i hv
            rcases List.mem_append.1 hr with h1 | h1
            · exact hF r h1
            · rw [List.mem_singleton.1 h1]
              have hpc : pass c = true := by
                cases hc : pass c with
                | true => rfl
                | false => simp [hc] at hv
              exact hstep q.1 c hQ hpq (hl c (by simp)) hpc
      exact key _ _ (fun c hc => hc) (fun p hp => ih p hp) p hp
    · exact ih p hp
theorem beside_symm {p c : Pt} (h : c ∈ beside p) : p ∈ beside c := by
  obtain ⟨px, py⟩ := p
  obtain ⟨cx, cy⟩ := c
  simp only [beside, List.mem_cons, List.not_mem_nil, or_false, Prod.mk.injEq] at h ⊢
  omega
def R100 (pass : Pt → Bool) (t c : Pt) : Prop := ∃ v, (c, v) ∈ found pass t 100
theorem r100_self {pass : Pt → Bool} {t : Pt} : R100 pass t t := by
  obtain ⟨G, hG⟩ := found_grow (pass := pass) (s := t) 0 100
  refine ⟨0, ?_⟩
  rw [Nat.zero_add] at hG
  rw [hG]
  simp [found]
section
variable {pass : Pt → Bool} (hp : ∀ c, pass c = true → (0 ≤ c.1 ∧ c.1 < 10) ∧ 0 ≤ c.2 ∧ c.2 < 10)
include hp
theorem r100_step {t p c : Pt} (ht : pass t = true) (h : R100 pass t p) (hc : c ∈ beside p) (hpc : pass c = true) : R100 pass t c := by
  obtain ⟨v, hv⟩ := h
  exact found_closed ht hp hv hc hpc
theorem r100_trans {a b c : Pt} (ha : pass a = true) (hb : pass b = true) (h : R100 pass a b) (k : R100 pass b c) : R100 pass a c := by
  obtain ⟨v, hv⟩ := k
  exact found_ind hb (fun x => R100 pass a x) h (fun p c hQ _ hc hpc => r100_step hp ha hQ hc hpc) 100 (c, v) hv
theorem r100_symm {s t : Pt} (hs : pass s = true) (h : R100 pass s t) : R100 pass t s := by
  obtain ⟨v, hv⟩ := h
  have := found_ind hs (fun x => pass x = true ∧ R100 pass x s) ⟨hs, r100_self⟩ (fun p c hQ hpp hc hpc => ⟨hpc, r100_trans hp hpc hpp (r100_step hp hpc r100_self (beside_symm hc) hpp) hQ.2⟩) 100 (t, v) hv
  exact this.2
end
/-- One comes from a cell to another. -/
def reachQ4 (L : Lawn) (a b : Pt) : Bool := decide (0 ≤ stepsAt (found (openP L) a 100) b.1 b.2)
theorem reachQ4_is {L : Lawn} (hv : validB L = true) {a : Pt} (ha : openP L a = true) (b : Pt) : reachQ4 L a b = true ↔ R100 (openP L) a b := by
  have h1 := (steps_look hv ha b).1
  unfold reachQ4
  rw [← h1]
  constructor
  · intro h
    obtain ⟨v, hv⟩ := Option.isSome_iff_exists.1 h
    exact ⟨v, alLook_in hv⟩
  · rintro ⟨v, hm⟩
    rw [alLook_mem (found_good ha 100).nodup hm]
    rfl
/-- The cells of tours: the targets, and home behind them. -/
def csT (l : List Pt) (h : Pt) (i : Nat) : Pt := (l ++ [h]).getD i (0, 0)
theorem csT_home (l : List Pt) (h : Pt) : csT l h l.length = h := by simp [csT, List.getD_eq_getElem?_getD]
theorem csT_at {l : List Pt} {h : Pt} {i : Nat} {c : Pt} (hc : l[i]? = some c) : csT l h i = c := by
  obtain ⟨h1, h2⟩ := List.getElem?_eq_some_iff.1 hc
  unfold csT
  rw [List.getD_eq_getElem?_getD, List.getElem?_append_left h1, hc]
  rfl
def tbT (L : Lawn) (l : List Pt) (h : Pt) (i j : Nat) : Int := stepsAt (found (openP L) (csT l h i) 100) (csT l h j).1 (csT l h j).2
theorem csT_mem {l : List Pt} {h : Pt} {i : Nat} (hi : i ≤ l.length) : csT l h i = h ∨ csT l h i ∈ l := by
  rcases Nat.lt_or_ge i l.length with h1 | h1
  · right
    rw [csT_at (List.getElem?_eq_getElem h1)]
    exact List.getElem_mem h1
  · left
    have : i = l.length := by omega
    rw [this, csT_home]
/-- The code of tours. -/
def goalZ (L : Lawn) (l : List Pt) (h : Pt) (full : Int) : Int := if askZ L (h :: l) full l.length = 0 then (if l.all (reachQ4 L h) then 0 else 6) else askZ L (h :: l) full l.length
theorem askZ_good {L : Lawn} {l : List Pt} {full : Int} {n : Nat} (h : askZ L l full n = 0) : validB L = true ∧ (∀ c ∈ l, isP L c = true) ∧ (∀ c ∈ l, openP L c = true) ∧ upZ full 400 = true ∧ n ≤ 5 := by
  unfold askZ at h
  split at h
  · rename_i h1
    split at h
    · rename_i h2
      simp only [Bool.and_eq_true, List.all_eq_true] at h2
      split at h
      · omega
      · split at h
        · rename_i h3 h4
          exact ⟨h1, h2.1, by simpa [List.all_eq_true] using h4, h2.2, by omega⟩
        · omega
    · omega
  · omega
theorem goal_pairs {L : Lawn} {l : List Pt} {h : Pt} {full : Int} (hz : goalZ L l h full = 0) : (askZ L (h :: l) full l.length = 0) ∧ (∀ c ∈ l, reachQ4 L h c = true) ∧ ∀ i j, i ≤ l.length → j ≤ l.length → 0 ≤ tbT L l h i j ∧ tbT L l h i j < 100 := by
  unfold goalZ at hz
  split at hz
  · rename_i h0
    split at hz
    · rename_i h1
      have h1' : ∀ c ∈ l, reachQ4 L h c = true := by simpa [List.all_eq_true] using h1
      obtain ⟨hv, -, hop, -, -⟩ := askZ_good h0
      refine ⟨h0, h1', fun i j hi hj => ?_⟩
      have hoh := hop h (by simp)
      have hrh : ∀ k, k ≤ l.length → openP L (csT l h k) = true ∧ R100 (openP L) h (csT l h k) := by
        intro k hk
        rcases csT_mem (h := h) hk with e | e
        · rw [e]; exact ⟨hoh, r100_self⟩
        · exact ⟨hop _ (by simp [e]), (reachQ4_is hv hoh _).1 (h1' _ e)⟩
      obtain ⟨a1, a2⟩ := hrh i hi
      obtain ⟨b1, b2⟩ := hrh j hj
      have hn := openP_near hv
      have hr := (reachQ4_is hv a1 (csT l h j)).2 (r100_trans hn a1 hoh (r100_symm hn hoh a2) b2)
      have hb := steps_bound hv a1 (csT l h j).1 (csT l h j).2
      unfold reachQ4 at hr
      have hr2 := of_decide_eq_true hr
      exact ⟨hr2, hb.2⟩
    · omega
  · omega
end Go.Proofs.Ytaeenkjbmlgcmaa

namespace Go.Proofs.Ytaeenkjbmlgcmaa
open Go.RowKit
set_option linter.unusedVariables false
set_option linter.unusedSimpArgs false
section
variable {ρ : Operand → Value} {w : World} {dst : Option Tmp} {x y z u : Operand} {t : TypeId} {pos : String} {aft : Array Edge} {g : Option (Nat × Bool)}
set_option maxRecDepth 100000 in
theorem buildAsk4 : (execOp ρ ⟨dst, .build 109 #[(0, x), (1, y), (2, z), (4, u)], t, pos, aft, g⟩).run Try.prog w = opBuild Try.prog 109 #[(0, ρ x), (1, ρ y), (2, ρ z), (4, ρ u)] w := by kernel_rfl
set_option maxRecDepth 100000 in
theorem buildTour0 : (execOp ρ ⟨dst, .build 131 #[], t, pos, aft, g⟩).run Try.prog w = .ok (.value (.agg #[.int .i8 0, .int .i8 0, .slice none 0 0, .map none])) w := by kernel_rfl
end
set_option maxRecDepth 100000 in
theorem buildAsk4_at (L : Lawn) (a : Option Addr) (n c : Nat) (a2 : Option Addr) (n2 c2 : Nat) (full : Int) (w : World) : opBuild Try.prog 109 #[(0, .agg L.cells), (1, .slice a n c), (2, .slice a2 n2 c2), (4, .int .i64 full)] w = .ok (.value (.agg (askA L (.slice a n c) (.slice a2 n2 c2) (.slice none 0 0) full))) w := opBuild_of (by kernel_rfl) w
attribute [local go_sem ↓] loadRow loadGrid loadLawn loadMirror storeRow storeGrid storeLawn allocRow allocGrid allocLawn buildZero buildSides buildAsk4 buildTour0
attribute [local go_sem] buildAsk4_at

/-- The map of maps, with the cells of a list. -/
def TourTo (w : World) (m : Nat) (L : Lawn) (cs : List Pt) : Prop := ∃ al : List (Pt × Option Nat), MapIs w m cellK mapO al ∧ ∀ c ∈ cs, ∃ b, alLook al c = some (some b) ∧ m < b ∧ MapIs w b cellK valI (found (openP L) c 100)
theorem TourTo.below {w w' : World} {m : Nat} {L : Lawn} {cs : List Pt} (h : TourTo w m L cs) (hb : Below w.heap.size w w') : TourTo w' m L cs := by
  obtain ⟨al, h1, h2⟩ := h
  refine ⟨al, h1.below hb h1.lt, fun c hc => ?_⟩
  obtain ⟨b, a1, a2, a3⟩ := h2 c hc
  exact ⟨b, a1, a2, a3.below hb a3.lt⟩
theorem TourTo.setC {w : World} {m : Nat} {L : Lawn} {cs : List Pt} (h : TourTo w m L cs) (g j : Nat) (v : Value) (hg : g < m) : TourTo (w.setCell ⟨g, j, none⟩ v) m L cs := by
  obtain ⟨al, h1, h2⟩ := h
  refine ⟨al, h1.setCell _ _ (by dsimp only; omega), fun c hc => ?_⟩
  obtain ⟨b, a1, a2, a3⟩ := h2 c hc
  exact ⟨b, a1, a2, a3.setCell _ _ (by dsimp only; omega)⟩
theorem TourTo.put {w : World} {m : Nat} {L : Lawn} {cs : List Pt} (h : TourTo w m L cs) (c : Pt) {b : Nat} (hmb : m < b) (hb : MapIs w b cellK valI (found (openP L) c 100)) :
    ∃ o, (Instr.mapUpdate 129 (.map (some m)) (.agg #[.int .i8 c.1, .int .i8 c.2]) (.map (some b))).run Try.prog w = .ok () (w.putObj m o) ∧ TourTo (w.putObj m o) m L (cs ++ [c]) := by
  obtain ⟨al, h1, h2⟩ := h
  obtain ⟨o, hput, hM⟩ := h1.put cellKey Try.underlying129 c (some b)
  refine ⟨o, hput, _, hM, fun d hd => ?_⟩
  have hoth : ∀ {b' : Nat} {F : Found}, m < b' → MapIs w b' cellK valI F → MapIs (w.putObj m o) b' cellK valI F := fun hlt hm => hm.block (World.putObj_heap_other (by omega))
  rw [alLook_put]
  by_cases e : d = c
  · subst e
    exact ⟨b, by simp, hmb, hoth hmb hb⟩
  · rw [if_neg e]
    rcases List.mem_append.1 hd with hd | hd
    · obtain ⟨b', a1, a2, a3⟩ := h2 d hd
      exact ⟨b', a1, a2, hoth a2 a3⟩
    · exact absurd (List.mem_singleton.1 hd) e
theorem TourTo.look {w : World} {m : Nat} {L : Lawn} {cs : List Pt} (h : TourTo w m L cs) (hv : validB L = true) {c : Pt} (hc : c ∈ cs) (ho : openP L c = true) (d : Pt) :
    ∃ (b : Nat) (z : Int), ∀ w', Below w.heap.size w w' → (Instr.lookup 129 (.map (some m)) (.agg #[.int .i8 c.1, .int .i8 c.2]) false).run Try.prog w' = .ok (.map (some b)) w' ∧
      (Instr.lookup 112 (.map (some b)) (.agg #[.int .i8 d.1, .int .i8 d.2]) true).run Try.prog w' = .ok (.tuple #[.int .i64 z, .bool (reachQ4 L c d)]) w' := by
  obtain ⟨al, h1, h2⟩ := h
  obtain ⟨b, a1, a2, a3⟩ := h2 c hc
  refine ⟨b, (alLook (found (openP L) c 100) d).getD 0, fun w' hw' => ?_⟩
  have e1 := ((h1.below hw' h1.lt).look cellKey Try.underlying129 zeroMapO c).1
  have e2 := ((a3.below hw' a3.lt).look cellKey Try.underlying112 zero64 d).2
  rw [a1] at e1
  rw [(steps_look hv ho d).1] at e2
  exact ⟨e1, e2⟩
theorem TourTo.is {w : World} {m : Nat} {L : Lawn} {l : List Pt} {h : Pt} {full : Int} (hz : goalZ L l h full = 0) (ht : TourTo w m L (h :: l)) : TourIs w m (csT l h) l.length (tbT L l h) := by
  obtain ⟨h0, h1, h2⟩ := goal_pairs hz
  obtain ⟨hv, -, hop, -, -⟩ := askZ_good h0
  obtain ⟨al, a1, a2⟩ := ht
  refine ⟨al, a1, fun i hi => ?_⟩
  have hm : csT l h i ∈ h :: l := by
    rcases csT_mem (h := h) hi with e | e
    · rw [e]; simp
    · simp [e]
  obtain ⟨b, b1, b2, b3⟩ := a2 _ hm
  exact ⟨b, _, b1, b3, fun j hj => (steps_look hv (hop _ hm) (csT l h j)).2 (h2 i j hi hj).1⟩

set_option maxRecDepth 100000 in
set_option maxHeartbeats 4000000 in
theorem toursOn_any (L : Lawn) (hL : L.Fits) (hx hy full : Int) (l : List Pt) (n : Nat) (hl : l.length = n) (hn2 : n ≤ 1048576) (v : Value) (w : World) (hv : RowP w v l) :
    Calls Try.prog 81 #[.agg L.cells, .agg #[.int .i8 hx, .int .i8 hy], .int .i64 full, v] w fun e w' => (∃ (x0 x1 : Int) (ta : Option Addr) (tn tc : Nat) (tm : Option Nat), e = .returned (.tuple #[.agg #[.int .i8 x0, .int .i8 x1, .slice ta tn tc, .map tm], .int .i64 (goalZ L l (hx, hy) full)]) ∧ (goalZ L l (hx, hy) full = 0 → ∃ mb, #[.int .i8 x0, .int .i8 x1, .slice ta tn tc, .map tm] = tourA (hx, hy) v mb ∧ TourIs w' mb (csT l (hx, hy)) n (tbT L l (hx, hy)))) ∧ Below w.heap.size w w' := by
  have HCK := Lib.hid (fun (g : Nat) (w : World) (h : Holds w g #[.int .i8 hx, .int .i8 hy]) (hv : RowP w v l) => askedCheck_any L hL [(hx, hy)] l (by simp) (by simp; omega) (.slice (some ⟨g, 0, none⟩) 1 1) v full w
    (.inr ⟨g, 1, rfl, h.lt, fun w' hw' i u hu => by
      have k := h.below hw' h.lt
      match i, hu with
      | 0, hu => simp [flatP] at hu; subst hu; exact k.cell 0
      | 1, hu => simp [flatP] at hu; subst hu; exact k.cell 1⟩) hv)
  have HTI := Lib.hid (fun (w : World) (m : Nat) (hz : goalZ L l (hx, hy) full = 0) (ht : TourTo w m L ((hx, hy) :: l)) => (hl ▸ TourTo.is hz ht : TourIs w m (csT l (hx, hy)) n (tbT L l (hx, hy))))
  have HAG := Lib.hid (fun (h : askZ L ((hx, hy) :: l) full l.length = 0) => askZ_good h)
  have HGZ : Hid (goalZ L l (hx, hy) full = if askZ L ((hx, hy) :: l) full l.length = 0 then (if l.all (reachQ4 L (hx, hy)) then 0 else 6) else askZ L ((hx, hy) :: l) full l.length) := Lib.hid rfl
  have HFT := Lib.hid hL
  simp only [List.singleton_append] at HCK
  obtain ⟨G, hG⟩ : ∃ G, goalZ L l (hx, hy) full = G := ⟨_, rfl⟩
  obtain ⟨C, hC⟩ : ∃ C, askZ L ((hx, hy) :: l) full l.length = C := ⟨_, rfl⟩
  rw [hG] at HTI HGZ ⊢
  rw [hC] at HCK HAG HGZ
  obtain ⟨tcs, htcs⟩ : ∃ f, csT l (hx, hy) = f := ⟨_, rfl⟩
  obtain ⟨ttb, httb⟩ : ∃ f, tbT L l (hx, hy) = f := ⟨_, rfl⟩
  rw [htcs, httb] at HTI ⊢
  have HV := Lib.hid hv
  have HL := Lib.hid hl
  obtain ⟨av, cv, rfl⟩ : ∃ a c, v = .slice a n c := by
    obtain ⟨a, c, e⟩ := hv.slice
    exact ⟨a, c, by rw [e, hl]⟩
  obtain ⟨s, hs⟩ : ∃ s, w.heap.size = s := ⟨_, rfl⟩
  obtain ⟨W0, hW0⟩ : ∃ W0, (((w.alloc (.cells L.cells 29)).alloc (.cells #[.int .i8 hx, .int .i8 hy] 37)).alloc (.cells #[.int .i8 0, .int .i8 0, .slice none 0 0, .map none] 131)).alloc (.cells #[.int .i8 hx, .int .i8 hy] 37) = W0 := ⟨_, rfl⟩
  have g0 : Holds W0 s L.cells := by rw [← hW0, ← hs]; exact (((Holds.new _ _ _).alloc _).alloc _).alloc _
  have g1 : Holds W0 (s + 1) #[.int .i8 hx, .int .i8 hy] := by rw [← hW0, ← hs]; exact ((Holds.new' _ _ _ _ (by simp)).alloc _).alloc _
  have g2 : Holds W0 (s + 1 + 1) #[.int .i8 0, .int .i8 0, .slice none 0 0, .map none] := by rw [← hW0, ← hs]; exact (Holds.new' _ _ _ _ (by simp)).alloc _
  have g3 : Holds W0 (s + 1 + 1 + 1) #[.int .i8 hx, .int .i8 hy] := by rw [← hW0, ← hs]; exact Holds.new' _ _ _ _ (by simp)
  have hb0 : Below s w W0 := by rw [← hW0, ← hs]; exact ((((Below.refl w.heap.size w).alloc (Nat.le_refl _) _).alloc (by simp) _).alloc (by simp; omega) _).alloc (by simp; omega) _
  have rr := (((Holds.new w L.cells 29).alloc (.cells #[.int .i8 hx, .int .i8 hy] 37)).alloc (.cells #[.int .i8 0, .int .i8 0, .slice none 0 0, .map none] 131)).row
  rw [hs]
  have HS := Lib.hid hs
  clear hG hC hL hv hl htcs httb
  go_enter Try.func81, Try.ntmps81
  go_wp2_with fail
  try rw [hW0]
  try simp only [hs]
  clear hW0 rr
  have HW0 := Lib.hid (show Below w.heap.size w W0 by rw [HS.out]; exact hb0)
  refine (HCK.out _ _ g3 (HV.out.below HW0.out)).mono ?_
  rintro e w1 ⟨rfl, hb1⟩
  have k0 := g0.below hb1 g0.lt
  have k1 := g1.below hb1 g1.lt
  have k2 := g2.below hb1 g2.lt
  have hb2 := hb0.trans (hb1.mono (by have := g3.lt; omega))
  clear g0 g1 g2 g3 hb0 hb1 HCK HW0 hs
  have c0 : w1.cell? ⟨s + 1, 0, none⟩ = some (.int .i8 hx) := k1.cell 0
  have c1 : w1.cell? ⟨s + 1, 1, none⟩ = some (.int .i8 hy) := k1.cell 1
  by_cases hc : C = 0
  case neg =>
    have hcd : (C != 0) = true := by simpa using hc
    have HGC := Lib.hid (show G = C by rw [HGZ.out, if_neg hc])
    obtain ⟨-, ff, d2, z2, l2⟩ := k2.facts
    have v1 := (((k2.setCell 0 (.int .i8 0)).setCell 1 (.int .i8 0)).setCell 2 (.slice none 0 0)).setCell 3 (.map none)
    have hb3 := (((hb2.setCell (p := ⟨s + 1 + 1, 0, none⟩) (by dsimp only; omega) (.int .i8 0)).setCell (p := ⟨s + 1 + 1, 1, none⟩) (by dsimp only; omega) (.int .i8 0)).setCell (p := ⟨s + 1 + 1, 2, none⟩) (by dsimp only; omega) (.slice none 0 0)).setCell (p := ⟨s + 1 + 1, 3, none⟩) (by dsimp only; omega) (.map none)
    have HCN := Lib.hid hc
    clear k0 k1 k2 hb2 hc
    go_wp2_with fail
    exact bodyPost_ret (results_cell_tmp_holds rfl (by kernel_rfl) _ rfl v1 rfl) rfl ⟨⟨_, _, _, _, _, _, by rw [HGC.out]; rfl, fun h => absurd (HGC.out.symm.trans h) HCN.out⟩, hb3⟩
  case pos =>
    subst hc
    obtain ⟨hV, -, hOp, -, h5⟩ := HAG.out rfl
    have hn5 : n ≤ 5 := by rw [← HL.out]; exact h5
    have HGG := Lib.hid (show G = if l.all (reachQ4 L (hx, hy)) = true then 0 else 6 by rw [HGZ.out, if_pos rfl])
    have HSO := Lib.hid (fun (c : Pt) (hc : c ∈ (hx, hy) :: l) (w : World) => steps_any L 78 (openP L) (fun args w => pass_isOpen L args w) (fun x y w => isOpen_any L hV HFT.out x y w) (openP_near hV) c (hOp c hc) w)
    have HLOOK := Lib.hid (fun (w : World) (m : Nat) (cs : List Pt) (ht : TourTo w m L cs) (c : Pt) (hc : c ∈ cs) (ho : openP L c = true) (d : Pt) => ht.look hV hc ho d)
    have HOP := Lib.hid hOp
    have HV1 := Lib.hid (HV.out.below (show Below w.heap.size w w1 by rw [HS.out]; exact hb2))
    have hmk := fun w => run_makeMap (P := Try.prog) 129 w
    clear HAG HGZ h5 hOp hV HFT
    obtain ⟨m, hm⟩ : ∃ m, w1.heap.size = m := ⟨_, rfl⟩
    obtain ⟨W2, hW2⟩ : ∃ W2, (w1.alloc (.map #[] 0)).alloc (.cells #[.int .i8 hx, .int .i8 hy, .slice av n cv, .map (some m)] 131) = W2 := ⟨_, rfl⟩
    have q0 : Holds W2 s L.cells := by rw [← hW2]; exact (k0.alloc _).alloc _
    have q1 : Holds W2 (s + 1) #[.int .i8 hx, .int .i8 hy] := by rw [← hW2]; exact (k1.alloc _).alloc _
    have q2 : Holds W2 (s + 1 + 1) #[.int .i8 0, .int .i8 0, .slice none 0 0, .map none] := by rw [← hW2]; exact (k2.alloc _).alloc _
    have q3 : Holds W2 (m + 1) #[.int .i8 hx, .int .i8 hy, .slice av n cv, .map (some m)] := by rw [← hW2, ← hm]; exact Holds.new' _ _ _ _ (by simp)
    have qm : MapIs W2 m cellK mapO [] := by rw [← hW2, ← hm]; exact (MapIs.made w1).alloc _
    have hsm : s + 1 + 1 < m := by rw [← hm]; exact k2.lt
    have qb : Below s w W2 := by rw [← hW2]; exact (hb2.alloc (by omega) _).alloc (by simp; omega) _
    have qv : RowP W2 (.slice av n cv) l := HV1.out.below (by rw [← hW2]; exact ((Below.refl w1.heap.size w1).alloc (Nat.le_refl _) _).alloc (by simp) _)
    have HQ := Lib.hid (And.intro q0 (And.intro q1 (And.intro q2 (And.intro q3 (And.intro qm (And.intro qb qv))))))
    clear q0 q1 q2 q3 qm qb qv k0 k1 k2 hb2 HV1
    go_wp2_with fail
    try simp only [hm]
    try rw [hW2]
    clear hW2 hm c0 c1 hmk
    refine wp_region_growV 7 6 [] (fun p w' => ∃ b, p = .map (some b) ∧ m < b ∧ MapIs w' b cellK valI (found (openP L) (hx, hy) 100)) (fun p w1 w2 ⟨b, h1, h2, h3⟩ hb => ⟨b, h1, h2, h3.below hb h3.lt⟩)
      (fun p => [.pointer (some ⟨m + 1, 3, none⟩), .map (some m), .agg #[.int .i8 hx, .int .i8 hy], .agg #[.int .i8 hx, .int .i8 hy], .agg L.cells, .func (.func 78) #[.agg L.cells] #[], p]) (by
        intro p p' j h1 h2
        match j with
        | 0 => rfl
        | 1 => rfl
        | 2 => rfl
        | 3 => rfl
        | 4 => rfl
        | 5 => rfl
        | 6 => exact absurd rfl h1
        | j + 7 => rfl) (by kernel_rfl) (by kernel_rfl) (by kernel_rfl) ?_
    intro p
    simp only [List.take_succ_cons, List.take_zero, List.drop_succ_cons, List.drop_zero]
    iterate 6
      refine seqV_free rfl rfl rfl rfl ?_ ?_
      · intro w' hw' K hK
        have f0 := (HQ.out.1.below hw' HQ.out.1.lt).row
        have f1 := (HQ.out.2.1.below hw' HQ.out.2.1.lt).cell 0
        have f2 := (HQ.out.2.1.below hw' HQ.out.2.1.lt).cell 1
        have f3 := (HQ.out.2.2.2.1.below hw' HQ.out.2.2.2.1.lt).cell 3
        simp only [List.getElem?_toArray, List.getElem?_cons_zero, List.getElem?_cons_succ] at f1 f2 f3
        go_wp2_with fail
        exact hK _ _ rfl (Below.refl _ _)
      simp only [Act.put, List.setIfInBounds_toArray, List.set_cons_succ, List.set_cons_zero, List.getD_cons_zero, List.getD_cons_succ, Nat.reduceAdd]
    refine seqV_call rfl rfl (fun q => rfl) ?_ ?_
    · intro w' hw' K hK
      go_wp2_with fail
      refine (HSO.out (hx, hy) (by simp) _).mono ?_
      rintro e w4 ⟨⟨b, rfl, hbl, hm⟩, hb4⟩
      exact hK _ _ _ rfl hb4 ⟨b, rfl, by have := hw'.size; have := HQ.out.2.2.2.1.lt; omega, hm⟩
    simp only [Act.put, List.setIfInBounds_toArray, List.set_cons_succ, List.set_cons_zero, List.getD_cons_zero, List.getD_cons_succ, Nat.reduceAdd]
    refine seqV_nil ?_
    rintro w3 hsz3 hbw ⟨b, rfl, hmb, hbm⟩
    have hT0 : TourTo w3 m L [] := ⟨[], HQ.out.2.2.2.2.1.below hbw HQ.out.2.2.2.2.1.lt, by simp⟩
    obtain ⟨o, hput, hT1⟩ := hT0.put (hx, hy) hmb hbm
    have k0 := (HQ.out.1.below hbw HQ.out.1.lt).putObj (l := m) (by omega) o
    have k1 := (HQ.out.2.1.below hbw HQ.out.2.1.lt).putObj (l := m) (by omega) o
    have k2 := (HQ.out.2.2.1.below hbw HQ.out.2.2.1.lt).putObj (l := m) (by omega) o
    have k3 := (HQ.out.2.2.2.1.below hbw HQ.out.2.2.2.1.lt).putObj (l := m) (by omega) o
    have kb := (HQ.out.2.2.2.2.2.1.trans (hbw.mono (by have := HQ.out.1.lt; omega))).grown (grownBy_putObj' _ m o) (by have := HQ.out.1.lt; omega) (fun k e => by cases e; omega)
    have HK := Lib.hid (And.intro k0 (And.intro k1 (And.intro k2 (And.intro k3 (And.intro hT1 kb)))))
    clear hT0 hT1 k0 k1 k2 k3 kb hbm HQ hbw
    go_wp2_with fail
    obtain ⟨W4, hW4⟩ : ∃ W4, w3.putObj m o = W4 := ⟨_, rfl⟩
    rw [hW4] at HK ⊢
    clear hW4 hput hsz3
    simp only [List.nil_append] at HK
    go_loopw [13, 14, 15, 40] (fun _ _ _ j wr => ∃ k : Nat, k ≤ n ∧ j = .int .i64 k ∧ (∀ c ∈ l.take k, reachQ4 L (hx, hy) c = true) ∧ Holds wr s L.cells ∧ Holds wr (s + 1) #[.int .i8 hx, .int .i8 hy] ∧ Holds wr (s + 1 + 1) #[.int .i8 0, .int .i8 0, .slice none 0 0, .map none] ∧ Holds wr (m + 1) #[.int .i8 hx, .int .i8 hy, .slice av n cv, .map (some m)] ∧ TourTo wr m L ((hx, hy) :: l.take k) ∧ Below s w wr) (fun _ _ _ j _ => n - (intOf j).toNat)
    case atStart => exact ⟨0, by omega, rfl, by simp, HK.out.1, HK.out.2.1, HK.out.2.2.1, HK.out.2.2.2.1, by rw [List.take_zero]; exact HK.out.2.2.2.2.1, HK.out.2.2.2.2.2⟩
    case round =>
      obtain ⟨k, hk, rfl, hq, h0, h1, h2, h3, hT, hb⟩ := hrel
      have HQK := Lib.hid hq
      have HTT := Lib.hid hT
      have h3l := h3.lt
      clear HK hq hT
      by_cases hlt : k < n
      · have hd : decide ((k : Int) < (n : Int)) = true := by simp; omega
        obtain ⟨⟨dx, dy⟩, hlk⟩ : ∃ c, l[k]? = some c := ⟨_, List.getElem?_eq_getElem (by rw [HL.out]; exact hlt)⟩
        have HDM := Lib.hid (List.mem_of_getElem? hlk)
        have htake : l.take (k + 1) = l.take k ++ [(dx, dy)] := by rw [List.take_add_one, hlk]; rfl
        have HTK := Lib.hid htake
        have hRV := HV.out.below (show Below w.heap.size w wr by rw [HS.out]; exact hb)
        rcases hRV with ⟨hnil, -⟩ | ⟨gv, cc, he, hgv, hcell⟩
        · rw [hnil] at hlk; simp at hlk
        simp only [Value.slice.injEq] at he
        obtain ⟨rfl, -, rfl⟩ := he
        have e1 : wr.cell? ⟨gv, k * 2, none⟩ = some (.int .i8 dx) := by
          have := flatP_at l k 0 (by omega)
          rw [hlk] at this
          exact hcell wr (Below.refl _ _) _ _ this
        have e2 : wr.cell? ⟨gv, k * 2 + 1, none⟩ = some (.int .i8 dy) := by
          have := flatP_at l k 1 (by omega)
          rw [hlk] at this
          exact hcell wr (Below.refl _ _) _ _ this
        have HDO := Lib.hid (show openP L (dx, dy) = true from HOP.out _ (List.mem_cons_of_mem _ HDM.out))
        have m0 := h0.alloc (.cells #[.int .i8 dx, .int .i8 dy] 37)
        have m1 := h1.alloc (.cells #[.int .i8 dx, .int .i8 dy] 37)
        have m2 := h2.alloc (.cells #[.int .i8 dx, .int .i8 dy] 37)
        have m3 := h3.alloc (.cells #[.int .i8 dx, .int .i8 dy] 37)
        have m4 := Holds.new wr #[.int .i8 dx, .int .i8 dy] 37
        have mT := HTT.out.below ((Below.refl wr.heap.size wr).alloc (Nat.le_refl _) (.cells #[.int .i8 dx, .int .i8 dy] 37))
        have mb := hb.alloc (by have := h0.lt; omega) (.cells #[.int .i8 dx, .int .i8 dy] 37)
        obtain ⟨u, hu⟩ : ∃ u, wr.heap.size = u := ⟨_, rfl⟩
        obtain ⟨W5, hW5⟩ : ∃ W5, wr.alloc (.cells #[.int .i8 dx, .int .i8 dy] 37) = W5 := ⟨_, rfl⟩
        rw [hW5] at m0 m1 m2 m3 m4 mT mb
        rw [hu] at m4 h3l
        obtain ⟨bl, zl, hlook⟩ := HLOOK.out W5 m _ mT (hx, hy) (by simp) (HOP.out _ (by simp)) (dx, dy)
        obtain ⟨rb, hrb⟩ : ∃ r, reachQ4 L (hx, hy) (dx, dy) = r := ⟨_, rfl⟩
        rw [hrb] at hlook
        have HRB := Lib.hid hrb
        have HLK := Lib.hid hlook
        have HM := Lib.hid (And.intro m0 (And.intro m1 (And.intro m2 (And.intro m3 (And.intro m4 (And.intro mT mb))))))
        clear hlook hrb m0 m1 m2 m3 m4 mT mb HTT h0 h1 h2 h3 hb hlk htake hcell
        go_wp2_with fail
        try rw [hW5]
        try simp only [hu]
        clear hW5 hu e1 e2
        refine wp_region_grow 10 (by kernel_rfl) (by kernel_rfl) ?_
        simp only [List.take_succ_cons, List.take_zero, List.drop_succ_cons, List.drop_zero]
        iterate 10
          apply wpGrow_plain rfl
          · intro w' hw' K hK
            have f1 := (HM.out.2.1.below hw' HM.out.2.1.lt).cell 0
            have f2 := (HM.out.2.1.below hw' HM.out.2.1.lt).cell 1
            have f3 := (HM.out.2.2.2.1.below hw' HM.out.2.2.2.1.lt).cell 3
            have f4 := (HM.out.2.2.2.2.1.below hw' HM.out.2.2.2.2.1.lt).cell 0
            have f5 := (HM.out.2.2.2.2.1.below hw' HM.out.2.2.2.2.1.lt).cell 1
            simp only [List.getElem?_toArray, List.getElem?_cons_zero, List.getElem?_cons_succ] at f1 f2 f3 f4 f5
            obtain ⟨k1, k2⟩ := HLK.out _ hw'
            go_wp2_with fail
            exact hK _ _ rfl hw'
          simp only [Act.put, List.setIfInBounds_toArray, List.set_cons_succ, List.set_cons_zero]
        refine wpGrow_nil ?_
        intro W6 hW6
        have n0 := HM.out.1.below hW6 HM.out.1.lt
        have n1 := HM.out.2.1.below hW6 HM.out.2.1.lt
        have n2 := HM.out.2.2.1.below hW6 HM.out.2.2.1.lt
        have n3 := HM.out.2.2.2.1.below hW6 HM.out.2.2.2.1.lt
        have n4 := HM.out.2.2.2.2.1.below hW6 HM.out.2.2.2.2.1.lt
        have nT := HM.out.2.2.2.2.2.1.below hW6
        have nb := HM.out.2.2.2.2.2.2.trans (hW6.mono (by have := HM.out.1.lt; omega))
        clear hW6 HM HLK
        cases rb with
        | false =>
          have HG6 := Lib.hid (show G = 6 by
            rw [HGG.out, if_neg]
            intro h
            have := List.all_eq_true.1 h _ HDM.out
            rw [HRB.out] at this
            cases this)
          obtain ⟨-, ff, d2, z2, l2⟩ := n2.facts
          have v1 := (((n2.setCell 0 (.int .i8 0)).setCell 1 (.int .i8 0)).setCell 2 (.slice none 0 0)).setCell 3 (.map none)
          have hb3 := (((nb.setCell (p := ⟨s + 1 + 1, 0, none⟩) (by dsimp only; omega) (.int .i8 0)).setCell (p := ⟨s + 1 + 1, 1, none⟩) (by dsimp only; omega) (.int .i8 0)).setCell (p := ⟨s + 1 + 1, 2, none⟩) (by dsimp only; omega) (.slice none 0 0)).setCell (p := ⟨s + 1 + 1, 3, none⟩) (by dsimp only; omega) (.map none)
          clear n0 n1 n2 n3 n4 nT nb
          go_wp2_with fail
          exact bodyPost_ret (results_cell_tmp_holds rfl (by kernel_rfl) _ rfl v1 rfl) rfl ⟨⟨_, _, _, _, _, _, by rw [HG6.out]; rfl, fun h => by rw [HG6.out] at h; cases h⟩, hb3⟩
        | true =>
          have HM := Lib.hid (And.intro n0 (And.intro n1 (And.intro n2 (And.intro n3 (And.intro n4 (And.intro nT nb))))))
          clear n0 n1 n2 n3 n4 nT nb
          go_wp2_with fail
          refine wp_region_growV 7 6 [] (fun p w' => ∃ b, p = .map (some b) ∧ m < b ∧ MapIs w' b cellK valI (found (openP L) (dx, dy) 100)) (fun p w1 w2 ⟨b, h1, h2, h3⟩ hb => ⟨b, h1, h2, h3.below hb h3.lt⟩)
            (fun p => [.pointer (some ⟨m + 1, 3, none⟩), .map (some m), .agg #[.int .i8 dx, .int .i8 dy], .agg #[.int .i8 dx, .int .i8 dy], .agg L.cells, .func (.func 78) #[.agg L.cells] #[], p]) (by
              intro p p' j h1 h2
              match j with
              | 0 => rfl
              | 1 => rfl
              | 2 => rfl
              | 3 => rfl
              | 4 => rfl
              | 5 => rfl
              | 6 => exact absurd rfl h1
              | j + 7 => rfl) (by kernel_rfl) (by kernel_rfl) (by kernel_rfl) ?_
          intro p
          simp only [List.take_succ_cons, List.take_zero, List.drop_succ_cons, List.drop_zero]
          iterate 6
            refine seqV_free rfl rfl rfl rfl ?_ ?_
            · intro w' hw' K hK
              have f0 := (HM.out.1.below hw' HM.out.1.lt).row
              have f1 := (HM.out.2.2.2.2.1.below hw' HM.out.2.2.2.2.1.lt).cell 0
              have f2 := (HM.out.2.2.2.2.1.below hw' HM.out.2.2.2.2.1.lt).cell 1
              have f3 := (HM.out.2.2.2.1.below hw' HM.out.2.2.2.1.lt).cell 3
              simp only [List.getElem?_toArray, List.getElem?_cons_zero, List.getElem?_cons_succ] at f1 f2 f3
              go_wp2_with fail
              exact hK _ _ rfl (Below.refl _ _)
            simp only [Act.put, List.setIfInBounds_toArray, List.set_cons_succ, List.set_cons_zero, List.getD_cons_zero, List.getD_cons_succ, Nat.reduceAdd]
          refine seqV_call rfl rfl (fun q => rfl) ?_ ?_
          · intro w' hw' K hK
            go_wp2_with fail
            refine (HSO.out (dx, dy) (List.mem_cons_of_mem _ HDM.out) _).mono ?_
            rintro e w4 ⟨⟨b, rfl, hbl, hm⟩, hb4⟩
            exact hK _ _ _ rfl hb4 ⟨b, rfl, by have := hw'.size; have := HM.out.2.2.2.1.lt; omega, hm⟩
          simp only [Act.put, List.setIfInBounds_toArray, List.set_cons_succ, List.set_cons_zero, List.getD_cons_zero, List.getD_cons_succ, Nat.reduceAdd]
          refine seqV_nil ?_
          rintro w7 hsz7 hbw ⟨b, rfl, hmb, hbm⟩
          obtain ⟨o, hput, hT1⟩ := (HM.out.2.2.2.2.2.1.below hbw).put (dx, dy) hmb hbm
          have k0 := (HM.out.1.below hbw HM.out.1.lt).putObj (l := m) (by omega) o
          have k1 := (HM.out.2.1.below hbw HM.out.2.1.lt).putObj (l := m) (by omega) o
          have k2 := (HM.out.2.2.1.below hbw HM.out.2.2.1.lt).putObj (l := m) (by omega) o
          have k3 := (HM.out.2.2.2.1.below hbw HM.out.2.2.2.1.lt).putObj (l := m) (by omega) o
          have kb := (HM.out.2.2.2.2.2.2.trans (hbw.mono (by have := HM.out.1.lt; omega))).grown (grownBy_putObj' _ m o) (by have := HM.out.1.lt; omega) (fun k e => by cases e; omega)
          have HQ2 := Lib.hid (show ∀ c ∈ l.take (k + 1), reachQ4 L (hx, hy) c = true by
            rw [HTK.out]
            intro c hc
            rcases List.mem_append.1 hc with hc | hc
            · exact HQK.out c hc
            · rw [List.mem_singleton.1 hc]; exact HRB.out)
          have hT2 : TourTo (w7.putObj m o) m L ((hx, hy) :: l.take (k + 1)) := by rw [HTK.out]; exact hT1
          have HT2 := Lib.hid hT2
          clear hT1 hT2 hbm HM hbw
          go_wp2_with fail
          go_roundw
          case rel => exact ⟨k + 1, by omega, by go_num, HQ2.out, k0, k1, k2, k3, HT2.out, kb⟩
          case measure => simp [intOf]; omega
      · have hkn : k = n := by omega
        subst hkn
        have hd : decide ((k : Int) < (k : Int)) = false := by simp
        have htk : l.take k = l := List.take_of_length_le (by rw [HL.out]; omega)
        have HG0 := Lib.hid (show G = 0 by
          rw [HGG.out, if_pos]
          rw [List.all_eq_true]
          intro c hc
          have := HQK.out c (by rw [htk]; exact hc)
          exact this)
        have hT2 := HTT.out
        rw [htk] at hT2
        have HTI2 := Lib.hid (fun (W : World) (hW : TourTo W m L ((hx, hy) :: l)) => HTI.out W m HG0.out hW)
        have r0 : wr.cell? ⟨m + 1, 0, none⟩ = some (.int .i8 hx) := h3.cell 0
        have r1 : wr.cell? ⟨m + 1, 1, none⟩ = some (.int .i8 hy) := h3.cell 1
        have r2 : wr.cell? ⟨m + 1, 2, none⟩ = some (.slice av k cv) := h3.cell 2
        have r3 : wr.cell? ⟨m + 1, 3, none⟩ = some (.map (some m)) := h3.cell 3
        obtain ⟨-, ff, d2, z2, l2⟩ := h2.facts
        have v1 := (((h2.setCell 0 (.int .i8 hx)).setCell 1 (.int .i8 hy)).setCell 2 (.slice av k cv)).setCell 3 (.map (some m))
        have hb3 := (((hb.setCell (p := ⟨s + 1 + 1, 0, none⟩) (by dsimp only; omega) (.int .i8 hx)).setCell (p := ⟨s + 1 + 1, 1, none⟩) (by dsimp only; omega) (.int .i8 hy)).setCell (p := ⟨s + 1 + 1, 2, none⟩) (by dsimp only; omega) (.slice av k cv)).setCell (p := ⟨s + 1 + 1, 3, none⟩) (by dsimp only; omega) (.map (some m))
        have hsm2 : s + 1 + 1 < m := hsm
        have HT3 := Lib.hid ((((hT2.setC (s + 1 + 1) 0 (.int .i8 hx) hsm2).setC (s + 1 + 1) 1 (.int .i8 hy) hsm2).setC (s + 1 + 1) 2 (.slice av k cv) hsm2).setC (s + 1 + 1) 3 (.map (some m)) hsm2)
        clear h0 h1 h2 h3 hb hT2 HTT htk
        go_wp2_with fail
        exact bodyPost_ret (results_cell_tmp_holds rfl (by kernel_rfl) _ rfl v1 rfl) rfl ⟨⟨_, _, _, _, _, _, by rw [HG0.out]; rfl, fun _ => ⟨m, rfl, HTI2.out _ HT3.out⟩⟩, hb3⟩
end Go.Proofs.Ytaeenkjbmlgcmaa

namespace Go.Proofs.Ytaeenkjbmlgcmaa
open Go.RowKit
set_option linter.unusedVariables false
set_option linter.unusedSimpArgs false
attribute [local go_sem ↓] loadRow loadGrid loadLawn loadMirror storeRow storeGrid storeLawn allocRow allocGrid allocLawn buildZero buildSides

/-- What TripTo answers besides the code. -/
def tripZ (L : Lawn) (l : List Pt) (h : Pt) : List Nat × Int := if goalZ L l h 0 = 0 then bestOf5 (tbT L l h) l.length (List.range l.length) else ([], 0)
theorem withL_zeros (n : Nat) : withL (List.replicate n 0) 0 = List.range n := by
  unfold withL
  rw [List.length_replicate, List.filter_eq_self]
  intro i hi
  have := List.mem_range.1 hi
  simp [List.getD_eq_getElem?_getD, List.getElem?_replicate, this]
theorem range_sub {n : Nat} (h : n ≤ 5) : List.range n ∈ subs5 := sub_sublist (range_five h)
theorem goal_five {L : Lawn} {l : List Pt} {h : Pt} {full : Int} (hz : goalZ L l h full = 0) : l.length ≤ 5 := (askZ_good (goal_pairs hz).1).2.2.2.2
theorem RowP.own {w : World} {B n : Nat} {e : TypeId} {v : Value} {l : List Pt} (hl : l.length = n) (h : w.ownsRow B e 2 v n (flatP l)) : RowP w v l := by
  rcases Nat.eq_zero_or_pos n with h0 | h0
  · subst h0
    obtain rfl := List.length_eq_zero_iff.1 hl
    obtain ⟨-, hh⟩ := h
    rcases hh with ⟨hv, -⟩ | ⟨b, c, cs, hv, hB, hc, -⟩
    · exact .inl ⟨rfl, hv⟩
    · exact .inr ⟨b, c, hv, (Array.getElem?_eq_some_iff.1 hc).1, fun w' hw' i u hu => by simp [flatP] at hu⟩
  · obtain ⟨g, c, rfl, hg1, hg2⟩ := own_form h h0
    exact .inr ⟨g, c, by rw [hl], hg2, fun w' hw' i u hu => own_cell (own_below h hw') _ _ hu⟩

theorem TourIs.alloc {w : World} {mb : Nat} {cs : Nat → Pt} {n : Nat} {tb : Nat → Nat → Int} (h : TourIs w mb cs n tb) (o : Obj) : TourIs (w.alloc o) mb cs n tb := h.below ((Below.refl w.heap.size w).alloc (Nat.le_refl _) o)
set_option maxRecDepth 100000 in
set_option maxHeartbeats 4000000 in
theorem implTrip_any (L : Lawn) (hL : L.Fits) (hx hy : Int) (l : List Pt) (n : Nat) (hl : l.length = n) (hn2 : n ≤ 1048576) (v : Value) (w : World) (hv : RowP w v l) :
    Calls Try.prog 34 #[.agg L.cells, .agg #[.int .i8 hx, .int .i8 hy], v] w fun e w' => (∃ u, e = .returned (.tuple #[u, .int .i64 (tripZ L l (hx, hy)).2, .int .i64 (goalZ L l (hx, hy) 0)]) ∧ w'.ownsRow w.heap.size 2 1 u (tripZ L l (hx, hy)).1.length (ordV (tripZ L l (hx, hy)).1)) ∧ Below w.heap.size w w' := by
  have HTO := Lib.hid (fun (w : World) (hv : RowP w v l) => toursOn_any L hL hx hy 0 l n hl hn2 v w hv)
  have HGB := Lib.hid (fun (hz : goalZ L l (hx, hy) 0 = 0) (mb : Nat) (B : Nat) (u : Value) (w : World) (hm : TourIs w mb (csT l (hx, hy)) n (tbT L l (hx, hy))) (hv : RowP w v l) (hu : n = 0 → u = .slice none 0 0) (hr : w.ownsRow B 2 1 u n (ordV (List.range n))) => (by
    have hn5 : n ≤ 5 := hl ▸ goal_five hz
    have hb := (goal_pairs hz).2.2
    rw [hl] at hb
    have := bestOrd_of (csT l (hx, hy)) n (tbT L l (hx, hy)) hn5 hb l hl (fun i c hc => csT_at hc) v mb (List.range n) (by simpa using hn5) (range_sub hn5) (fun x hx => List.mem_range.1 hx) B u (by simpa using hu) w hm hv (by simpa using hr)
    rw [List.length_range, ← hl, csT_home] at this
    rw [hl] at this
    exact this : Calls Try.prog 82 #[.agg (tourA (hx, hy) v mb), u] w fun e w' => (∃ u', e = .returned (.tuple #[u', .int .i64 (bestOf5 (tbT L l (hx, hy)) n (List.range n)).2]) ∧ w'.ownsRow w.heap.size 2 1 u' n (ordV (bestOf5 (tbT L l (hx, hy)) n (List.range n)).1)) ∧ Below w.heap.size w w'))
  have HTZ : Hid (tripZ L l (hx, hy) = if goalZ L l (hx, hy) 0 = 0 then bestOf5 (tbT L l (hx, hy)) n (List.range n) else ([], 0)) := Lib.hid (by unfold tripZ; rw [hl])
  have H5 := Lib.hid (fun (hz : goalZ L l (hx, hy) 0 = 0) => (hl ▸ goal_five hz : n ≤ 5))
  have HBM := Lib.hid (fun (h5 : n ≤ 5) => (best_mem (tb := tbT L l (hx, hy)) (n := n) (range_sub h5)).1)
  have HOT := Lib.hid (fun (h5 : n ≤ 5) (w : World) (u : Value) (hu : RowN w u (List.replicate n 0)) => (by
    have := onTrip_any (List.replicate n 0) 0 n (by simp) (by omega) u w hu
    rw [withL_zeros, List.length_range] at this
    exact this : Calls Try.prog 83 #[u, .int .i64 0] w fun e w' => (∃ u, e = .returned u ∧ (n = 0 → u = .slice none 0 0) ∧ w'.ownsRow w.heap.size 2 1 u n (ordV (List.range n))) ∧ Below w.heap.size w w'))
  obtain ⟨G, hG⟩ : ∃ G, goalZ L l (hx, hy) 0 = G := ⟨_, rfl⟩
  obtain ⟨cs, hcs⟩ : ∃ f, csT l (hx, hy) = f := ⟨_, rfl⟩
  obtain ⟨tb, htb⟩ : ∃ f, tbT L l (hx, hy) = f := ⟨_, rfl⟩
  obtain ⟨TZ, hTZ⟩ : ∃ f, tripZ L l (hx, hy) = f := ⟨_, rfl⟩
  obtain ⟨⟨Q, S⟩, hQS⟩ : ∃ f, bestOf5 tb n (List.range n) = f := ⟨_, rfl⟩
  rw [hG, hcs, htb] at HTO HGB
  rw [hG, htb, hTZ, hQS] at HTZ
  rw [hQS] at HGB
  rw [htb, hQS, List.length_range] at HBM
  rw [hG] at H5
  rw [hG, hTZ]
  dsimp only at HGB HBM
  have HV := Lib.hid hv
  have HL := Lib.hid hl
  obtain ⟨av, cv, rfl⟩ : ∃ a c, v = .slice a n c := by
    obtain ⟨a, c, e⟩ := hv.slice
    exact ⟨a, c, by rw [e, hl]⟩
  obtain ⟨s, hs⟩ : ∃ s, w.heap.size = s := ⟨_, rfl⟩
  obtain ⟨W0, hW0⟩ : ∃ W0, (w.alloc (.cells L.cells 29)).alloc (.cells #[.int .i8 hx, .int .i8 hy] 37) = W0 := ⟨_, rfl⟩
  have g0 : Holds W0 s L.cells := by rw [← hW0, ← hs]; exact (Holds.new _ _ _).alloc _
  have g1 : Holds W0 (s + 1) #[.int .i8 hx, .int .i8 hy] := by rw [← hW0, ← hs]; exact Holds.new' _ _ _ _ (by simp)
  have hb0 : Below s w W0 := by rw [← hW0, ← hs]; exact ((Below.refl w.heap.size w).alloc (Nat.le_refl _) _).alloc (by simp) _
  have rr := g0.row
  have d0 : W0.cell? ⟨s + 1, 0, none⟩ = some (.int .i8 hx) := g1.cell 0
  have d1 : W0.cell? ⟨s + 1, 1, none⟩ = some (.int .i8 hy) := g1.cell 1
  have HS := Lib.hid hs
  have HTW := Lib.hid (HTO.out W0 (HV.out.below (show Below w.heap.size w W0 by rw [hs]; exact hb0)))
  rw [hs]
  clear hG hcs htb hTZ hQS hv hl hL HTO
  go_enter Try.func34, Try.ntmps34
  go_wp2_with fail
  try rw [hW0]
  try simp only [hs]
  refine HTW.out.mono ?_
  rintro e w1 ⟨⟨x0, x1, ta, tn, tc, tm, rfl, hT⟩, hb1⟩
  have hb2 := hb0.trans (hb1.mono (by have := g1.lt; omega))
  have k3 := Holds.new w1 #[.int .i8 x0, .int .i8 x1, .slice ta tn tc, .map tm] 131
  have hb3 := hb2.alloc (by have := hb1.size; have := g1.lt; omega) (.cells #[.int .i8 x0, .int .i8 x1, .slice ta tn tc, .map tm] 131)
  have hsz1 : s ≤ w1.heap.size := by have := hb1.size; have := g1.lt; omega
  have HTT := Lib.hid hT
  have HB3 := Lib.hid hb3
  have HBW := Lib.hid hb2
  have HK3 := Lib.hid k3
  clear hW0 rr d0 d1 hs g0 g1 hb0 hb1 hb2 hb3 k3 hT HTW
  by_cases hz : G = 0
  case neg =>
    have hgd : (G != 0) = true := by simpa using hz
    have HTE := Lib.hid (show TZ = ([], 0) by rw [HTZ.out, if_neg hz])
    clear hz
    go_wp2_with fail
    go_ret3
    exact ⟨⟨_, by rw [HTE.out]; rfl, by rw [HTE.out]; exact World.ownsRow_nil _ _ _ _⟩, HB3.out⟩
  case pos =>
    have HTE := Lib.hid (show TZ = (Q, S) by rw [HTZ.out, if_pos hz])
    have h5 := H5.out hz
    have HZ := Lib.hid hz
    have HBML := Lib.hid (HBM.out h5)
    obtain ⟨mb, heq, hTI⟩ := HTT.out hz
    simp only [tourA, Array.mk.injEq, List.cons.injEq, Value.int.injEq, true_and, and_true, Value.slice.injEq, Value.map.injEq] at heq
    have HGB2 := Lib.hid (HGB.out hz mb)
    have HOT2 := Lib.hid (HOT.out h5)
    obtain ⟨rfl, rfl, ⟨rfl, rfl, rfl⟩, rfl⟩ := heq
    have HTI := Lib.hid (hTI.alloc (.cells #[.int .i8 x0, .int .i8 x1, .slice ta tn tc, .map (some mb)] 131))
    have HVW := Lib.hid ((HV.out.below (show Below w.heap.size w w1 by rw [HS.out]; exact HBW.out)).below ((Below.refl w1.heap.size w1).alloc (Nat.le_refl _) (.cells #[.int .i8 x0, .int .i8 x1, .slice ta tn tc, .map (some mb)] 131)))
    have hmk := run_make_row' (P := Try.prog) 56 2 (.int .i64 0) 8 Try.underlying56 i64I rfl .i64 .i64 tn (by omega) (by omega)
    obtain ⟨u, hu⟩ : ∃ u, w1.heap.size = u := ⟨_, rfl⟩
    obtain ⟨W2, hW2⟩ : ∃ W2, w1.alloc (.cells #[.int .i8 x0, .int .i8 x1, .slice ta tn tc, .map (some mb)] 131) = W2 := ⟨_, rfl⟩
    rw [hW2] at HTI HVW HB3 HK3
    rw [hu] at HK3
    clear hTI HTT HGB HOT HBW
    go_wp2_with fail
    try rw [hW2]
    try simp only [hu]
    clear hW2 hu
    refine wp_region_growXV 10 [fun _ => .agg #[.int .i8 x0, .int .i8 x1, .slice ta tn tc, .map (some mb)], fun _ => .slice ta tn tc, fun _ => .int .i64 tn, fun q => q, fun q => q, fun q => q, fun q => q, fun q => q, fun _ => .int .i64 S, fun q => q]
      [fun _ _ => True, fun _ _ => True, fun _ _ => True, fun q w' => RowN w' q (List.replicate tn 0), fun q w' => (tn = 0 → q = .slice none 0 0) ∧ w'.ownsRow W2.heap.size 2 1 q tn (ordV (List.range tn)), fun q w' => ∃ u', q = .tuple #[u', .int .i64 S] ∧ w'.ownsRow W2.heap.size 2 1 u' tn (ordV Q), fun q w' => ∃ u', q = .tuple #[u', .int .i64 S] ∧ w'.ownsRow W2.heap.size 2 1 u' tn (ordV Q), fun q w' => w'.ownsRow W2.heap.size 2 1 q tn (ordV Q), fun _ _ => True, fun q w' => w'.ownsRow W2.heap.size 2 1 q tn (ordV Q)]
      [[], [], [], [], [3], [4], [5], [6], [6], [7]] ?_ (by kernel_rfl) (by kernel_rfl) (by kernel_rfl) ?_
    · intro j q w1 w2 h1 hb
      match j with
      | 0 => trivial
      | 1 => trivial
      | 2 => trivial
      | 3 => exact RowN.below h1 hb
      | 4 => exact ⟨h1.1, own_below h1.2 hb⟩
      | 5 => obtain ⟨u', e, ho⟩ := h1; exact ⟨u', e, own_below ho hb⟩
      | 6 => obtain ⟨u', e, ho⟩ := h1; exact ⟨u', e, own_below ho hb⟩
      | 7 => exact own_below h1 hb
      | 8 => trivial
      | 9 => exact own_below h1 hb
      | j + 10 => exact trivial
    intro sv
    simp only [List.take_succ_cons, List.take_zero, List.drop_succ_cons, List.drop_zero]
    iterate 3
      refine seqXV_lit rfl (fun _ => rfl) (fun _ _ => trivial) ?_ ?_
      · intro w' hw' _ K hK
        have f0 := (HK3.out.below hw' (by have := hw'.size; have := HK3.out.lt; omega)).cell 0
        have f1 := (HK3.out.below hw' (by have := hw'.size; have := HK3.out.lt; omega)).cell 1
        have f2 := (HK3.out.below hw' (by have := hw'.size; have := HK3.out.lt; omega)).cell 2
        have f3 := (HK3.out.below hw' (by have := hw'.size; have := HK3.out.lt; omega)).cell 3
        simp only [List.getElem?_toArray, List.getElem?_cons_zero, List.getElem?_cons_succ] at f0 f1 f2 f3
        go_wp2_with fail
        exact hK _ _ rfl (Below.refl _ _)
      simp only [Act.put, List.setIfInBounds_toArray, List.set_cons_succ, List.set_cons_zero]
    refine seqXV_num rfl (v := fun q => q) (fun _ => rfl) ?_ ?_
    · intro w' hw' _ K hK
      have hm := hmk w'
      have hcells : ∀ i z, (List.replicate tn (0 : Int))[i]? = some z → (madeCells #[Value.int .i64 0] tn)[i]? = some (Value.int .i64 z) := fun i z hi => by
        rw [← Array.getElem?_toList, toList_madeCells_one]
        rw [List.getElem?_replicate] at hi ⊢
        split at hi
        · rename_i h; rw [if_pos h]; simp at hi; rw [hi]
        · cases hi
      have HH := Lib.hid (Holds.new w' (madeCells #[Value.int .i64 0] tn) 2)
      go_wp2_with fail
      refine hK _ _ _ rfl ((Below.refl _ _).alloc (Nat.le_refl _) _) ⟨_, _, by rw [List.length_replicate], fun i z hi => ⟨_, rfl, fun w2 hw2 => ?_⟩⟩
      exact ((HH.out.below hw2 HH.out.lt).cell i).trans (hcells i z hi)
    simp only [Act.put, List.setIfInBounds_toArray, List.set_cons_succ, List.set_cons_zero]
    refine seqXV_num rfl (v := fun q => q) (fun _ => rfl) ?_ ?_
    · intro w' hw' hd K hK
      have h3 : RowN w' (sv 3) (List.replicate tn 0) := hd 3 (by simp)
      go_wp2_with fail
      refine (HOT2.out _ _ h3).mono ?_
      rintro e w4 ⟨⟨b, rfl, h0, ho⟩, hb4⟩
      exact hK _ _ _ rfl hb4 ⟨h0, ownsRow_low ho hw'.size⟩
    simp only [Act.put, List.setIfInBounds_toArray, List.set_cons_succ, List.set_cons_zero]
    refine seqXV_num rfl (v := fun q => q) (fun _ => rfl) ?_ ?_
    · intro w' hw' hd K hK
      obtain ⟨h40, h41⟩ := hd 4 (by simp)
      go_wp2_with fail
      refine (HGB2.out _ _ _ (HTI.out.below hw') (HVW.out.below hw') h40 h41).mono ?_
      rintro e w4 ⟨⟨b, rfl, ho⟩, hb4⟩
      exact hK _ _ _ rfl hb4 ⟨_, rfl, ownsRow_low ho hw'.size⟩
    simp only [Act.put, List.setIfInBounds_toArray, List.set_cons_succ, List.set_cons_zero]
    refine seqXV_num rfl (v := fun q => q) (fun _ => rfl) ?_ ?_
    · intro w' hw' hd K hK
      have h5' := hd 5 (by simp)
      go_wp2_with fail
      exact hK _ _ _ rfl (Below.refl _ _) h5'
    simp only [Act.put, List.setIfInBounds_toArray, List.set_cons_succ, List.set_cons_zero]
    refine seqXV_num rfl (v := fun q => q) (fun _ => rfl) ?_ ?_
    · intro w' hw' hd K hK
      obtain ⟨u', e6, ho⟩ := hd 6 (by simp)
      rw [e6]
      go_wp2_with fail
      exact hK _ _ _ (by rw [e6]; rfl) (Below.refl _ _) ho
    simp only [Act.put, List.setIfInBounds_toArray, List.set_cons_succ, List.set_cons_zero]
    refine seqXV_lit rfl (fun _ => rfl) (fun _ _ => trivial) ?_ ?_
    · intro w' hw' hd K hK
      obtain ⟨u', e6, ho⟩ := hd 6 (by simp)
      rw [e6]
      go_wp2_with fail
      exact hK _ _ (by rw [e6]; rfl) (Below.refl _ _)
    simp only [Act.put, List.setIfInBounds_toArray, List.set_cons_succ, List.set_cons_zero]
    refine seqXV_num rfl (v := fun q => q) (fun _ => rfl) ?_ ?_
    · intro w' hw' hd K hK
      have h7 := hd 7 (by simp)
      go_wp2_with fail
      exact hK _ _ _ rfl (Below.refl _ _) h7
    simp only [Act.put, List.setIfInBounds_toArray, List.set_cons_succ, List.set_cons_zero]
    refine seqXV_nil ?_
    intro W3 hW3 hall
    have h9 : W3.ownsRow W2.heap.size 2 1 (sv 9) tn (ordV Q) := hall 9 (by omega)
    clear hall
    have hfin := ownsRow_low h9 (show s ≤ W2.heap.size by have := HB3.out.size; have := HS.out; omega)
    have HFIN := Lib.hid (And.intro hfin (HB3.out.trans (hW3.mono (by have := HB3.out.size; have := HS.out; omega))))
    clear h9 hfin hW3
    go_wp2_with fail
    go_ret3
    exact ⟨⟨_, by rw [HTE.out, HZ.out]; rfl, by rw [HTE.out]; dsimp only; rw [HBML.out]; exact HFIN.out.1⟩, HFIN.out.2⟩
end Go.Proofs.Ytaeenkjbmlgcmaa

namespace Go.Proofs.Ytaeenkjbmlgcmaa
open Go.RowKit
set_option linter.unusedVariables false
set_option linter.unusedSimpArgs false
attribute [local go_sem ↓] loadRow loadGrid loadLawn loadMirror storeRow storeGrid storeLawn allocRow allocGrid allocLawn buildZero buildSides

/-- What CheckTrips answers besides the code. -/
def checkTZ (L : Lawn) (l : List Pt) (h : Pt) (full : Int) (ts : List Int) : Bool := if goalZ L l h full = 0 then (decide (ts.length = l.length) && (ts.all (upZ · 4) && withinB (tbT L l h) l.length ts full 5)) else false

theorem noTrip_is (x : Int) (d : Bool) (hd : upZ x 4 = d) (w : World) :
    Calls Try.prog 91 #[.int .i64 x] w fun e w' => e = .returned (.bool (!d)) ∧ w' = w := by
  have HU := Lib.hid (fun w => upTo64_is x 4 d hd w)
  clear hd
  go_enter Try.func91, Try.ntmps91
  go_wp2_with fail
  refine (HU.out _).mono ?_
  rintro e w2 ⟨rfl, rfl⟩
  go_wp2_with fail
  go_ret
  exact ⟨rfl, rfl⟩

set_option maxRecDepth 100000 in
theorem indexTrip_any (H : Nat) (v : Value) (hH : H ≤ 2000000) (ps : List Int) (hl : ps.length = H) (w : World) (ho : RowN w v ps) :
    Calls Try.prog 130 #[v, .func (.func 91) #[] #[]] w fun e w' => (∃ x : Int, e = .returned (.int .i64 x) ∧ decide (0 ≤ x) = !ps.all (upZ · 4)) ∧ w' = w := by
  obtain ⟨av, cv, rfl, hcell⟩ := ho
  rw [hl]
  have HO := Lib.hid hcell
  have HLL := Lib.hid hl
  clear hcell hl
  go_enter Try.func130, Try.ntmps130
  go_wp2_with fail
  go_loopw [8] (fun i wr => ∃ k : Nat, k ≤ H ∧ i = .int .i64 k ∧ (∀ j z, j < k → ps[j]? = some z → upZ z 4 = true) ∧ wr = w) (fun i _ => H - (intOf i).toNat)
  case atStart => exact ⟨0, by omega, rfl, fun j z h _ => by omega, rfl⟩
  case round =>
    obtain ⟨k, hk, rfl, hall, rfl⟩ := hrel
    have HL := Lib.hid hall
    clear hall
    by_cases hlt : k < H
    · have hd : decide ((k : Int) < (H : Int)) = true := by simp; omega
      obtain ⟨z, hzk⟩ : ∃ z, ps[k]? = some z := ⟨_, List.getElem?_eq_getElem (by rw [HLL.out]; exact hlt)⟩
      have HZ := Lib.hid hzk
      obtain ⟨ga, rfl, hcc⟩ := HO.out k z hzk
      have c0 := hcc wr (Below.refl _ _)
      clear hcc hzk
      obtain ⟨d, hdz⟩ : ∃ d, upZ z 4 = d := ⟨_, rfl⟩
      have HD := Lib.hid hdz
      go_wp2_with fail
      refine (noTrip_is z d hdz _).mono ?_
      rintro e w2 ⟨rfl, rfl⟩
      clear hdz
      cases d
      · have HF := Lib.hid (show ps.all (upZ · 4) = false by
          rw [List.all_eq_false]
          exact ⟨z, List.mem_of_getElem? HZ.out, by rw [HD.out]; decide⟩)
        go_wp2_with fail
        go_ret
        exact ⟨⟨k, rfl, by rw [HF.out]; simp⟩, rfl⟩
      · go_wp2_with fail
        go_roundw
        case rel => exact ⟨k + 1, by omega, by go_num, fun j y hj hy => by
          by_cases e : j = k
          · subst e; rw [HZ.out] at hy; cases hy; exact HD.out
          · exact HL.out j y (by omega) hy, trivial⟩
        case measure => simp [intOf]; omega
    · have hd : decide ((k : Int) < (H : Int)) = false := by simp; omega
      obtain rfl : k = H := by omega
      have HF := Lib.hid (show ps.all (upZ · 4) = true by
        rw [List.all_eq_true]
        intro x hx
        obtain ⟨j, hj⟩ := List.mem_iff_getElem?.1 hx
        exact HL.out j x (by have := (List.getElem?_eq_some_iff.1 hj).1; have := HLL.out; omega) hj)
      go_wp2_with fail
      go_ret
      exact ⟨⟨-1, rfl, by rw [HF.out]; rfl⟩, rfl⟩
theorem noTrips_any (H : Nat) (v : Value) (hH : H ≤ 2000000) (ps : List Int) (hl : ps.length = H) (d : Bool) (hd : ps.all (upZ · 4) = d) (w : World) (ho : RowN w v ps) :
    Calls Try.prog 93 #[v, .func (.func 91) #[] #[]] w fun e w' => e = .returned (.bool (!d)) ∧ w' = w := by
  have HI := Lib.hid (indexTrip_any H v hH ps hl w ho)
  obtain ⟨av, cv, rfl, -⟩ := ho
  rw [hl] at HI ⊢
  have HD := Lib.hid hd
  clear hd hl
  go_enter Try.func93, Try.ntmps93
  go_wp2_with fail
  refine HI.out.mono ?_
  rintro e w2 ⟨⟨x, rfl, hx⟩, rfl⟩
  rw [HD.out] at hx
  go_wp2_with fail
  go_ret
  first
    | exact ⟨rfl, rfl⟩
    | exact ⟨by rw [← hx]; rfl, rfl⟩

set_option maxRecDepth 100000 in
set_option maxHeartbeats 4000000 in
theorem implCheckT_any (L : Lawn) (hL : L.Fits) (hx hy full : Int) (l : List Pt) (n : Nat) (hl : l.length = n) (hn2 : n ≤ 1048576) (ts : List Int) (m : Nat) (hts : ts.length = m) (hm2 : m ≤ 1048576) (v u : Value) (w : World) (hv : RowP w v l) (hu : RowN w u ts) :
    Calls Try.prog 44 #[.agg L.cells, .agg #[.int .i8 hx, .int .i8 hy], .int .i64 full, v, u] w fun e w' => e = .returned (.tuple #[.bool (checkTZ L l (hx, hy) full ts), .int .i64 (goalZ L l (hx, hy) full)]) ∧ Below w.heap.size w w' := by
  have HTO := Lib.hid (fun (w : World) (hv : RowP w v l) => toursOn_any L hL hx hy full l n hl hn2 v w hv)
  have HAW := Lib.hid (fun (hz : goalZ L l (hx, hy) full = 0) (hmn : m = n) (mb : Nat) (w : World) (hm : TourIs w mb (csT l (hx, hy)) n (tbT L l (hx, hy))) (hv : RowP w v l) (hu : RowN w u ts) => (by
    have hn5 : n ≤ 5 := hl ▸ goal_five hz
    have hb := (goal_pairs hz).2.2
    rw [hl] at hb
    have := areWithin_any (csT l (hx, hy)) n (tbT L l (hx, hy)) hn5 hb l hl (fun i c hc => csT_at hc) v mb ts (by omega) full u w hm hv hu
    rw [← hl, csT_home] at this
    rw [hl] at this
    exact this : Calls Try.prog 94 #[.agg (tourA (hx, hy) v mb), u, .int .i64 full] w fun e w' => e = .returned (.bool (withinB (tbT L l (hx, hy)) n ts full 5)) ∧ Below w.heap.size w w'))
  have HCZ : Hid (checkTZ L l (hx, hy) full ts = if goalZ L l (hx, hy) full = 0 then (decide (m = n) && (ts.all (upZ · 4) && withinB (tbT L l (hx, hy)) n ts full 5)) else false) := Lib.hid (by unfold checkTZ; rw [hts, hl])
  obtain ⟨F, hF⟩ : ∃ F, ts.all (upZ · 4) = F := ⟨_, rfl⟩
  have HNT := Lib.hid (fun (w : World) (hu : RowN w u ts) => noTrips_any m u (by omega) ts hts F hF w hu)
  obtain ⟨G, hG⟩ : ∃ G, goalZ L l (hx, hy) full = G := ⟨_, rfl⟩
  obtain ⟨cs, hcs⟩ : ∃ f, csT l (hx, hy) = f := ⟨_, rfl⟩
  obtain ⟨tb, htb⟩ : ∃ f, tbT L l (hx, hy) = f := ⟨_, rfl⟩
  obtain ⟨WB, hWB⟩ : ∃ f, withinB tb n ts full 5 = f := ⟨_, rfl⟩
  obtain ⟨CZ, hCZ⟩ : ∃ f, checkTZ L l (hx, hy) full ts = f := ⟨_, rfl⟩
  rw [hG, hcs, htb] at HTO HAW
  rw [hWB] at HAW
  rw [hG, htb, hWB, hF, hCZ] at HCZ
  rw [hG, hCZ]
  have HV := Lib.hid hv
  have HL := Lib.hid hl
  have HU := Lib.hid hu
  have HTS := Lib.hid hts
  obtain ⟨av, cv, rfl⟩ : ∃ a c, v = .slice a n c := by
    obtain ⟨a, c, e⟩ := hv.slice
    exact ⟨a, c, by rw [e, hl]⟩
  obtain ⟨au, cu, rfl⟩ : ∃ a c, u = .slice a m c := by
    obtain ⟨a, c, e, -⟩ := hu
    exact ⟨a, c, by rw [e, hts]⟩
  obtain ⟨s, hs⟩ : ∃ s, w.heap.size = s := ⟨_, rfl⟩
  obtain ⟨W0, hW0⟩ : ∃ W0, (w.alloc (.cells L.cells 29)).alloc (.cells #[.int .i8 hx, .int .i8 hy] 37) = W0 := ⟨_, rfl⟩
  have g0 : Holds W0 s L.cells := by rw [← hW0, ← hs]; exact (Holds.new _ _ _).alloc _
  have g1 : Holds W0 (s + 1) #[.int .i8 hx, .int .i8 hy] := by rw [← hW0, ← hs]; exact Holds.new' _ _ _ _ (by simp)
  have hb0 : Below s w W0 := by rw [← hW0, ← hs]; exact ((Below.refl w.heap.size w).alloc (Nat.le_refl _) _).alloc (by simp) _
  have rr := g0.row
  have d0 : W0.cell? ⟨s + 1, 0, none⟩ = some (.int .i8 hx) := g1.cell 0
  have d1 : W0.cell? ⟨s + 1, 1, none⟩ = some (.int .i8 hy) := g1.cell 1
  have HS := Lib.hid hs
  have HTW := Lib.hid (HTO.out W0 (HV.out.below (show Below w.heap.size w W0 by rw [hs]; exact hb0)))
  rw [hs]
  clear hG hcs htb hWB hCZ hF hv hl hu hts hL HTO
  go_enter Try.func44, Try.ntmps44
  go_wp2_with fail
  try rw [hW0]
  try simp only [hs]
  refine HTW.out.mono ?_
  rintro e w1 ⟨⟨x0, x1, ta, tn, tc, tm, rfl, hT⟩, hb1⟩
  have hb2 := hb0.trans (hb1.mono (by have := g1.lt; omega))
  have k3 := Holds.new w1 #[.int .i8 x0, .int .i8 x1, .slice ta tn tc, .map tm] 131
  have hb3 := hb2.alloc (by have := hb1.size; have := g1.lt; omega) (.cells #[.int .i8 x0, .int .i8 x1, .slice ta tn tc, .map tm] 131)
  have hUW := HU.out.below (w' := w1.alloc (.cells #[.int .i8 x0, .int .i8 x1, .slice ta tn tc, .map tm] 131)) (by rw [HS.out]; exact hb3)
  have hVW := HV.out.below (w' := w1.alloc (.cells #[.int .i8 x0, .int .i8 x1, .slice ta tn tc, .map tm] 131)) (by rw [HS.out]; exact hb3)
  have HTT := Lib.hid hT
  have HUW := Lib.hid hUW
  have HVW := Lib.hid hVW
  obtain ⟨q, hq⟩ : ∃ q, w1.heap.size = q := ⟨_, rfl⟩
  rw [hq] at k3
  clear hW0 rr d0 d1 hs g0 g1 hb0 hb1 hb2 hT HTW hUW hVW
  by_cases hz : G = 0
  case neg =>
    have hgd : (G != 0) = true := by simpa using hz
    have HTE := Lib.hid (show CZ = false by rw [HCZ.out, if_neg hz])
    have HB3 := Lib.hid hb3
    clear hz hb3 k3
    go_wp2_with fail
    go_ret2
    exact ⟨by rw [HTE.out]; rfl, HB3.out⟩
  case pos =>
    have HTE := Lib.hid (show CZ = (decide (m = n) && (F && WB)) by rw [HCZ.out, if_pos hz])
    have HZ := Lib.hid hz
    have hgf : (G != 0) = false := by rw [hz]; rfl
    obtain ⟨mb, heq, hTI⟩ := HTT.out hz
    simp only [tourA, Array.mk.injEq, List.cons.injEq, Value.int.injEq, true_and, and_true, Value.slice.injEq, Value.map.injEq] at heq
    have HAW2 := Lib.hid (fun hmn => HAW.out hz hmn mb)
    obtain ⟨rfl, rfl, ⟨rfl, rfl, rfl⟩, rfl⟩ := heq
    have HTI := Lib.hid (hTI.alloc (.cells #[.int .i8 x0, .int .i8 x1, .slice ta tn tc, .map (some mb)] 131))
    obtain ⟨W2, hW2⟩ : ∃ W2, w1.alloc (.cells #[.int .i8 x0, .int .i8 x1, .slice ta tn tc, .map (some mb)] 131) = W2 := ⟨_, rfl⟩
    rw [hW2] at HTI HVW HUW hb3 k3
    have HB3 := Lib.hid hb3
    have e0 : W2.cell? ⟨q, 0, none⟩ = some (.int .i8 x0) := k3.cell 0
    have e1 : W2.cell? ⟨q, 1, none⟩ = some (.int .i8 x1) := k3.cell 1
    have e2 : W2.cell? ⟨q, 2, none⟩ = some (.slice ta tn tc) := k3.cell 2
    have e3 : W2.cell? ⟨q, 3, none⟩ = some (.map (some mb)) := k3.cell 3
    clear hTI HTT HAW hb3 k3 hz HV HU
    by_cases hmn : m = tn
    · subst hmn
      have hne : ((m : Int) != (m : Int)) = false := by simp
      cases F with
      | false =>
        have HTF := Lib.hid (show CZ = false by rw [HTE.out]; simp)
        have HNT2 := Lib.hid (HNT.out W2 HUW.out)
        go_wp2_with (first | (go_at_call 93; refine HNT2.out.mono ?_; rintro e w5 ⟨rfl, rfl⟩))
        go_ret2
        exact ⟨by rw [HTF.out, HZ.out]; rfl, HB3.out⟩
      | true =>
        have HTF := Lib.hid (show CZ = WB by rw [HTE.out]; simp)
        have HNT2 := Lib.hid (HNT.out W2 HUW.out)
        have HAW3 := Lib.hid (HAW2.out rfl W2 HTI.out HVW.out HUW.out)
        have hsz2 : s ≤ W2.heap.size := by have := HB3.out.size; have := HS.out; omega
        go_wp2_with (first | (go_at_call 93; refine HNT2.out.mono ?_; rintro e w5 ⟨rfl, rfl⟩))
        refine HAW3.out.mono ?_
        rintro e w6 ⟨rfl, hb6⟩
        have HB6 := Lib.hid (HB3.out.trans (hb6.mono hsz2))
        clear hb6
        go_wp2_with fail
        go_ret2
        exact ⟨by rw [HTF.out, HZ.out]; rfl, HB6.out⟩
    · have hne : ((m : Int) != (tn : Int)) = true := by simp; omega
      have HTF := Lib.hid (show CZ = false by rw [HTE.out, decide_eq_false hmn]; rfl)
      go_wp2_with fail
      go_ret2
      exact ⟨by rw [HTF.out, HZ.out]; rfl, HB3.out⟩
end Go.Proofs.Ytaeenkjbmlgcmaa
