/-
  One text: SSlot, SStop.
-/
import Derived.Test.YtkmpgcgdamcikaaGreatDoorGLen
import Derived.Test.YtkmpgcgdamcikaaGreatDoorGRng
import Derived.Test.YtkmpgcgdamcikaaGreatDoorOHeld
import Derived.Deep.RegionHeld
import Derived.Deep.DeepCutAuto
import Derived.Deep.CutBlock
namespace Go.Proofs.YtkmpgcgdamcikaaGreatDoor
open Go.RowKit Go.Shelf
attribute [local go_sem] Oper.semAt_some
set_option linter.unusedVariables false
set_option maxRecDepth 100000

/-- the same, and no panic -/
def calmS (Q : Exit → Act → World → Prop) : Exit → Act → World → Prop
  | .panic _, _, _ => False
  | .normal, a, w => Q .normal a w
  | .ret, a, w => Q .ret a w
  | .exit i, a, w => Q (.exit i) a w
  | .goto i, a, w => Q (.goto i) a w
  | .outgrown, a, w => Q .outgrown a w
theorem calmS_imp (Q : Exit → Act → World → Prop) : ∀ e a w, calmS Q e a w → Q e a w := by
  intro e a w h
  cases e with
  | panic c => exact h.elim
  | normal => exact h
  | ret => exact h
  | exit i => exact h
  | goto i => exact h
  | outgrown => exact h

def Fo (b B : Nat) : Nat → Prop := fun k => k = b + 1 ∨ k = b + 1 + 1 ∨ k = b + 1 + 1 + 1 ∨ k = B
/-- the boxes of slotOf: the slot is not found yet -/
def SoI (b B : Nat) (t : Nat) (g : Nat) (q0 : Nat) : St := fun q W S => S = Fo b B ∧ W.heap[b + 1]? = some (.cells #[.int .i64 t] 3) ∧ (∃ x y : Int, W.heap[b + 1 + 1]? = some (.cells #[.int .i64 x] 3) ∧ W.heap[b + 1 + 1 + 1]? = some (.cells #[.int .i64 y] 3)) ∧ W.heap[B]? = some (.cells #[.int .i64 g] 3) ∧ q ≤ q0
def SoX (b B : Nat) (x y : Int) : St := fun q W S => S = Fo b B ∧ W.heap[b + 1 + 1]? = some (.cells #[.int .i64 x] 3) ∧ W.heap[b + 1 + 1 + 1]? = some (.cells #[.int .i64 y] 3) ∧ B < W.heap.size
theorem SoI.hangs (b B t g q0 : Nat) : Hangs (SoI b B t g q0) := by
  refine ⟨?_, ?_⟩
  · rintro q W S ⟨rfl, h0, ⟨x, y, h1, h2⟩, h3, _⟩ k (hk | hk | hk | hk)
    · subst hk; exact heap_lt h0
    · subst hk; exact heap_lt h1
    · subst hk; exact heap_lt h2
    · subst hk; exact heap_lt h3
  · rintro q W W' S ⟨rfl, h0, ⟨x, y, h1, h2⟩, h3, h4⟩ hs hk
    exact ⟨rfl, (hk _ (.inl rfl)).trans h0, ⟨x, y, (hk _ (.inr (.inl rfl))).trans h1, (hk _ (.inr (.inr (.inl rfl)))).trans h2⟩, (hk _ (.inr (.inr (.inr rfl)))).trans h3, h4⟩
theorem SoX.hangs (b B : Nat) (x y : Int) : Hangs (SoX b B x y) := by
  refine ⟨?_, ?_⟩
  · rintro q W S ⟨rfl, h1, h2, h3⟩ k (hk | hk | hk | hk)
    · have := heap_lt h1; omega
    · subst hk; exact heap_lt h1
    · subst hk; exact heap_lt h2
    · omega
  · rintro q W W' S ⟨rfl, h1, h2, h3⟩ hs hk
    exact ⟨rfl, (hk _ (.inr (.inl rfl))).trans h1, (hk _ (.inr (.inr (.inl rfl)))).trans h2, by omega⟩

theorem results_cct {P : Program} {fn : Func} {p q u : Tmp} {ty ty' : TypeId} (h : fn.results = #[.cell p ty, .cell q ty', .tmp u]) (tmps : Array Value) (w : World) (g g' : Nat) (v v' : Value)
    (hp : tmps.getD p undef = .pointer (some ⟨g, 0, none⟩)) (hq : tmps.getD q undef = .pointer (some ⟨g', 0, none⟩)) (hl : (loadVar ty ⟨g, 0, none⟩).run P w = .ok v w) (hl' : (loadVar ty' ⟨g', 0, none⟩).run P w = .ok v' w) : (results fn tmps).run P w = .ok (.tuple #[v, v', tmps.getD u undef]) w := by
  have hp' : tmps[p]?.getD undef = .pointer (some ⟨g, 0, none⟩) := by simpa using hp
  have hq' : tmps[q]?.getD undef = .pointer (some ⟨g', 0, none⟩) := by simpa using hq
  simp [results, h, hp', hq', asAddr, hl, hl']
set_option maxHeartbeats 8000000 in
theorem slotOf_yes {F G : Nat → Prop} {a0 a1 : Option Addr} {n0 c0 n1 c1 : Nat} {P C : List (Int × Int)} {H t q0 : Nat} (w : World) (h : Sl w F a0 n0 c0 P) (hF : ∀ k, F k → k < w.heap.size) (h' : Sl w G a1 n1 c1 C) (hG : ∀ k, G k → k < w.heap.size)
    (hT : Slt.Tab P C H) (ht : t < 1099511627776) (hs : Slt.Sits P C H t q0) :
    Calls Tryz.prog 44 #[.agg #[.slice a0 n0 c0, .slice a1 n1 c1], .int .i64 t] w fun e w' => e = .returned (.tuple #[.int .i64 (Slt.who P C H t q0), .int .i64 (min (Slt.fin P C H t q0) 1099511627776), .int .i64 0]) ∧ Kept No w w' := by
  refine callsIn_wide (n := 9).1 ?_
  refine callsIn_of_wp_marks Tryz.func44 rfl trivial ?_ rfl
  refine wpIn_wide.2 ?_
  refine wp_mono ?_ (calmS_imp _)
  simp only [Tryz.ntmps44, List.size_toArray, List.length_cons, List.length_nil, Nat.reduceAdd, Nat.reduceSub, Array.replicate_succ, Array.replicate_zero, List.push_toArray, List.append_toArray, List.nil_append, List.cons_append]
  obtain ⟨wA, hwA⟩ : ∃ wA, (((w.alloc (.cells #[.slice a0 n0 c0, .slice a1 n1 c1] 25)).alloc (.cells #[.int .i64 t] 3)).alloc (.cells #[.int .i64 0] 3)).alloc (.cells #[.int .i64 0] 3) = wA := ⟨_, rfl⟩
  have kA : Kept No w wA := by rw [← hwA]; exact ((((Kept.refl No w).alloc _).alloc _).alloc _).alloc _
  have eA : wA.heap[w.heap.size]? = some (.cells #[.slice a0 n0 c0, .slice a1 n1 c1] 25) ∧ wA.heap[w.heap.size + 1]? = some (.cells #[.int .i64 t] 3) ∧ wA.heap[w.heap.size + 1 + 1]? = some (.cells #[.int .i64 0] 3) ∧ wA.heap[w.heap.size + 1 + 1 + 1]? = some (.cells #[.int .i64 0] 3) := by
    have e1 := World.alloc_heap_new w (.cells #[.slice a0 n0 c0, .slice a1 n1 c1] 25)
    have e2 := World.alloc_heap_new (w.alloc (.cells #[.slice a0 n0 c0, .slice a1 n1 c1] 25)) (.cells #[.int .i64 t] 3)
    have e3 := World.alloc_heap_new ((w.alloc (.cells #[.slice a0 n0 c0, .slice a1 n1 c1] 25)).alloc (.cells #[.int .i64 t] 3)) (.cells #[.int .i64 0] 3)
    have e4 := World.alloc_heap_new (((w.alloc (.cells #[.slice a0 n0 c0, .slice a1 n1 c1] 25)).alloc (.cells #[.int .i64 t] 3)).alloc (.cells #[.int .i64 0] 3)) (.cells #[.int .i64 0] 3)
    simp only [World.size_alloc] at e2 e3 e4
    rw [← hwA]
    exact ⟨(Below.heap_alloc _ _ _ (by first | (simp; done) | (simp; omega))).trans ((Below.heap_alloc _ _ _ (by first | (simp; done) | (simp; omega))).trans ((Below.heap_alloc _ _ _ (by first | (simp; done) | (simp; omega))).trans e1)), (Below.heap_alloc _ _ _ (by first | (simp; done) | (simp; omega))).trans ((Below.heap_alloc _ _ _ (by first | (simp; done) | (simp; omega))).trans e2), (Below.heap_alloc _ _ _ (by first | (simp; done) | (simp; omega))).trans e3, e4⟩
  have hy := hyperOf_any wA (h.keep kA) (fun k hk => Nat.lt_of_lt_of_le (hF k hk) kA.size) (h'.keep kA) (fun k hk => Nat.lt_of_lt_of_le (hG k hk) kA.size)
  rw [tab_hyF hT, ← hwA] at hy
  obtain ⟨z0, z1⟩ := bx2 eA.1
  have z2 := bx1 eA.2.1
  rw [← hwA] at z0 z1 z2
  have HA : Hid (wA.heap[w.heap.size]? = some (.cells #[.slice a0 n0 c0, .slice a1 n1 c1] 25) ∧ wA.heap[w.heap.size + 1]? = some (.cells #[.int .i64 t] 3) ∧ wA.heap[w.heap.size + 1 + 1]? = some (.cells #[.int .i64 0] 3) ∧ wA.heap[w.heap.size + 1 + 1 + 1]? = some (.cells #[.int .i64 0] 3) ∧ Kept No w wA) := ⟨eA.1, eA.2.1, eA.2.2.1, eA.2.2.2, kA⟩
  have HWA : Hid ((((w.alloc (.cells #[.slice a0 n0 c0, .slice a1 n1 c1] 25)).alloc (.cells #[.int .i64 t] 3)).alloc (.cells #[.int .i64 0] 3)).alloc (.cells #[.int .i64 0] 3) = wA) := hwA
  have HS : Hid (Sl w F a0 n0 c0 P ∧ (∀ k, F k → k < w.heap.size) ∧ Sl w G a1 n1 c1 C ∧ (∀ k, G k → k < w.heap.size) ∧ Slt.Tab P C H ∧ Slt.Sits P C H t q0) := ⟨h, hF, h', hG, hT, hs⟩
  have hH1 := hT.pos
  have hH2 := hT.top
  have hH0 : ¬ (H : Int) = 0 := by omega
  clear h hF h' hG hT hs kA eA hwA
  go_upto_region 2 with (go_at_call 18; refine hy.mono ?_; rintro e w1 ⟨rfl, hk1⟩; rw [HWA.out] at hk1; have H1 : Hid (Kept No wA w1) := hk1; clear hk1 hy)
  clear z0 z1 z2
  obtain ⟨y0, y1⟩ := bx2 (H1.out.at' HA.out.1 (fun h => h))
  have y2 := bx1 (H1.out.at' HA.out.2.1 (fun h => h))
  have htn : ¬ (1099511627776 : Int) ≤ t := by omega
  go_upto_region 6 with fail
  have tu := fun W => turnOf_any H t W hH1 hH2 ht
  have HBG : Hid (∀ b : Nat, b = Slt.beg H t → Slt.beg H t = b) := fun b h => h.symm
  go_cut [8, 9] from 8 to 26 (fun p8 p9 wx => ∃ B, p8 = .slice a1 n1 c1 ∧ p9 = .pointer (some ⟨B, 0, none⟩) ∧ w1.heap.size ≤ B ∧ wx.heap[B]? = some (.cells #[.int .i64 (Slt.beg H t : Nat)] 3) ∧ Kept No w1 wx)
  case first =>
    generalize Slt.beg H t = g at *
    go_region_held (fun w' => w'.cell? ⟨w.heap.size, 1, none⟩ = some (.slice a1 n1 c1) ∧ w'.cell? ⟨w.heap.size + 1, 0, none⟩ = some (.int .i64 t)) (go_keep) (first | (go_at_call 61; refine (tu _).mono ?_; rintro e w' ⟨rfl, rfl⟩))
    all_goals (try go_wp2)
    all_goals (go_meet; exact ⟨_, rfl, rfl, Nat.le_refl _, World.alloc_heap_new _ _, ((Kept.refl No w1).alloc _).drew⟩)
  case rest =>
    obtain ⟨B, rfl, rfl, hBl, hB, hkc⟩ := hcut
    have kw : Kept No w wc := (HA.out.2.2.2.2.trans H1.out (fun _ h => h.elim)).trans hkc (fun _ h => h.elim)
    have kA : Kept No wA wc := H1.out.trans hkc (fun _ h => h.elim)
    have HC : Hid (wc.heap[B]? = some (.cells #[.int .i64 (Slt.beg H t : Nat)] 3) ∧ w.heap.size + 1 + 1 + 1 < B ∧ wc.heap[w.heap.size]? = some (.cells #[.slice a0 n0 c0, .slice a1 n1 c1] 25) ∧ wc.heap[w.heap.size + 1]? = some (.cells #[.int .i64 t] 3) ∧ wc.heap[w.heap.size + 1 + 1]? = some (.cells #[.int .i64 0] 3) ∧ wc.heap[w.heap.size + 1 + 1 + 1]? = some (.cells #[.int .i64 0] 3) ∧ Kept No w wc) := ⟨hB, by have := heap_lt (H1.out.at' HA.out.2.2.2.1 (fun h => h)); omega, kA.at' HA.out.1 (fun h => h), kA.at' HA.out.2.1 (fun h => h), kA.at' HA.out.2.2.1 (fun h => h), kA.at' HA.out.2.2.2.1 (fun h => h), kw⟩
    clear hB hkc kw kA y0 y1 y2 hBl H1 HA HWA tu HBG
    have b9 := bx1 HC.out.1
    obtain ⟨y0, y1⟩ := bx2 HC.out.2.2.1
    go_upto_if 28 with fail
    go_cut [8, 9] from 8 to 30 (fun p8 p9 wx => wx = wc ∧ p9 = .pointer (some ⟨B, 0, none⟩) ∧ ∃ (al : Option Addr) (nl cl : Nat) (Fl : Nat → Prop), p8 = .slice al nl cl ∧ Sl wc Fl al nl cl (Slt.lst P C (Slt.beg H t)) ∧ ∀ k, Fl k → k < w.heap.size)
    case first =>
      have HE : Hid (∃ g, Slt.beg H t = g) := ⟨_, rfl⟩
      by_cases hg : Slt.beg H t = 0
      · have HR : Hid (∃ (al : Option Addr) (nl cl : Nat) (Fl : Nat → Prop), Value.slice a0 n0 c0 = .slice al nl cl ∧ Sl wc Fl al nl cl (Slt.lst P C (Slt.beg H t)) ∧ ∀ k, Fl k → k < w.heap.size) := ⟨_, _, _, F, rfl, by unfold Slt.lst; rw [if_pos hg]; exact HS.out.1.keep HC.out.2.2.2.2.2.2, HS.out.2.1⟩
        have hg2 : ((Slt.beg H t : Nat) : Int) = 0 := by omega
        clear HE hg
        go_wp2
        go_meet
        exact ⟨rfl, rfl, HR.out⟩
      · have HR : Hid (∃ (al : Option Addr) (nl cl : Nat) (Fl : Nat → Prop), Value.slice a1 n1 c1 = .slice al nl cl ∧ Sl wc Fl al nl cl (Slt.lst P C (Slt.beg H t)) ∧ ∀ k, Fl k → k < w.heap.size) := ⟨_, _, _, G, rfl, by unfold Slt.lst; rw [if_neg hg]; exact HS.out.2.2.1.keep HC.out.2.2.2.2.2.2, HS.out.2.2.2.1⟩
        have hg2 : ¬ ((Slt.beg H t : Nat) : Int) = 0 := by omega
        clear HE hg
        go_wp2
        go_meet
        exact ⟨rfl, rfl, HR.out⟩
    case rest =>
      obtain ⟨rfl, rfl, al, nl, cl, Fl, rfl, hsl, hFl⟩ := hcut
      clear b9 y0 y1
      go_wp2_with (go_at_call 46; refine (along_new _ _ _ _).mono ?_; rintro e w2 ⟨rfl, rfl⟩)
      refine (wpIn_wide (n := 9)).1 ?_
      obtain ⟨T1, T2⟩ := HS.out.2.2.2.2
      have hgo := T1.goes (Slt.beg H t)
      have hin := T2.in'
      obtain ⟨FN, eFN⟩ : ∃ x, Slt.fin P C H t q0 = x := ⟨_, rfl⟩
      obtain ⟨WH, eWH⟩ : ∃ x, Slt.who P C H t q0 = x := ⟨_, rfl⟩
      have HFE : Hid (Slt.fin P C H t q0 = FN ∧ Slt.who P C H t q0 = WH) := ⟨eFN, eWH⟩
      have HFN : Hid (FN = Slt.beg H t + Slt.pr (Slt.lst P C (Slt.beg H t)) (q0 + 1) ∧ WH = (Slt.gt (Slt.lst P C (Slt.beg H t)) q0).2) := ⟨eFN.symm, eWH.symm⟩
      clear eFN eWH
      have hbm := Slt.beg_add H t
      have hgv := along_gives hsl (fun k hk => Nat.lt_of_lt_of_le (hFl k hk) HC.out.2.2.2.2.2.2.size)
      generalize Slt.lst P C (Slt.beg H t) = L at *
      generalize Slt.beg H t = g at *
      obtain ⟨m, hm⟩ : ∃ m, t % H = m := ⟨_, rfl⟩
      rw [hm] at hin hbm
      have HL : Hid (Slt.Goes L ∧ Slt.In L (m : Int) q0 ∧ g + m = t ∧ L.length = nl) := ⟨hgo, hin, hbm, hsl.len⟩
      have kd : Kept No wc (wc.alloc (.cells #[.slice al nl cl] 23)) := (Kept.refl No wc).alloc _
      have hI0 : SoI w.heap.size B t g q0 0 (wc.alloc (.cells #[.slice al nl cl] 23)) (Fo w.heap.size B) :=
        ⟨rfl, kd.at' HC.out.2.2.2.1 (fun h => h), ⟨_, _, kd.at' HC.out.2.2.2.2.1 (fun h => h), kd.at' HC.out.2.2.2.2.2.1 (fun h => h)⟩, kd.at' HC.out.1 (fun h => h), Nat.zero_le _⟩
      have sd : (wc.alloc (.cells #[.slice al nl cl] 23)).heap.size = wc.heap.size + 1 := by simp
      have hBl := HC.out.2.1
      have hBw := heap_lt HC.out.1
      have HKD : Hid (Kept No w (wc.alloc (.cells #[.slice al nl cl] 23))) := HC.out.2.2.2.2.2.2.trans kd (fun _ h => h.elim)
      clear hgo hin hsl T1 T2 hm kd HC HS
      refine range_list (n := 9) (gf := 64) (lb := #[.pointer (some ⟨wc.heap.size, 0, none⟩)]) rfl (enters_of Tryz.func64 (by kernel_rfl) rfl) rfl (el := el L) (fun _ => rfl) hgv (Nat.le_refl _) (fun k hk => ⟨by rcases hk with hk | hk; have := hFl k hk; omega; omega, rfl⟩)
        (SoI w.heap.size B t g q0) (fun c q W S => c = .exit 0 ∧ SoX w.heap.size B WH FN q W S) (SoI.hangs _ _ _ _ _) (fun _ => ⟨fun q W S hi => (SoX.hangs _ _ _ _).old q W S hi.2, fun q W W' S hi hs hk => ⟨hi.1, (SoX.hangs _ _ _ _).kept q W W' S hi.2 hs hk⟩⟩) hI0
        (fun k hk hs => by rcases hk with hk | hk; have := hFl k hk; rcases hs with hs | hs | hs | hs <;> omega; rcases hs with hs | hs | hs | hs <;> omega)
        (fun q => .cells #[.int .i64 (Slt.gt L q).1, .int .i64 (Slt.gt L q).2] 62)
        (fun q B1 => { tmps := #[.agg #[.slice a0 n0 c0, .slice a1 n1 c1], .int .i64 t, .pointer (some ⟨w.heap.size, 0, none⟩), .pointer (some ⟨w.heap.size + 1, 0, none⟩), .pointer (some ⟨w.heap.size + 1 + 1, 0, none⟩), .pointer (some ⟨w.heap.size + 1 + 1 + 1, 0, none⟩), .int .i64 0, .int .i64 H, .slice al nl cl, .pointer (some ⟨B, 0, none⟩), .int .i64 (Slt.ah L q), .pointer (some ⟨B1, 0, none⟩), u12, u13, u14, u15, u16, u17, u18, u19, u20, u21, u22, u23, u24, u25, u26, u27, u28, u29, u30, .slice al nl cl, .func (.func 64) #[] #[.pointer (some ⟨wc.heap.size, 0, none⟩)], .int .i64 (Slt.ah L q), .agg #[.int .i64 (Slt.gt L q).1, .int .i64 (Slt.gt L q).2], undef, undef, undef, undef, undef, undef, undef, undef, undef, undef, undef, undef, undef, undef], defers := [] }) ?assign ?body ?done ?stop
      case assign =>
        intro l q W K hq hK
        simp only [el]
        gi_wp2
        exact hK
      case body =>
        rintro l q B1 W S ⟨rfl, h0, ⟨x, y, h1, h2⟩, h3, h4⟩ hB1 hob hq
        have hqL : q < L.length := by rw [HL.out.2.2.2]; exact hq
        have hgo := HL.out.1
        have hin := HL.out.2.1
        have eA := Slt.ah_eq (Nat.le_of_lt hqL) (fun i hi => hgo i (by omega))
        have hA := Slt.pr_bd (Nat.le_of_lt hqL) (fun i hi => hgo i (by omega))
        have hps := Slt.pr_succ hqL
        have hok := hgo q hqL
        have o1 := hok.1
        have o2 := hok.2.1
        have HQ : Hid ((q = q0 → m < Slt.pr L (q + 1) ∧ WH = (Slt.gt L q).2 ∧ FN = g + Slt.pr L (q + 1)) ∧ (q ≠ q0 → Slt.pr L (q + 1) ≤ m ∧ q + 1 ≤ q0)) := ⟨fun e => by subst e; exact ⟨hin.2.2, HFN.out.2, HFN.out.1⟩, fun e => ⟨Int.le_trans (Slt.pr_mono hgo (by omega) (Nat.le_of_lt hin.1)) hin.2.1, by omega⟩⟩
        rw [eA]
        obtain ⟨b0, b1⟩ := bx2 hob
        have d0 := bx1 h0
        have d1 := bx1 h1
        have d2 := bx1 h2
        have d3 := bx1 h3
        have f1 : W.frozen? ⟨w.heap.size + 1 + 1, 0, none⟩ = false := by simp [World.frozen?, h1]
        have f2 : W.frozen? ⟨w.heap.size + 1 + 1 + 1, 0, none⟩ = false := by simp [World.frozen?, h2]
        have nB1 : ¬ B = w.heap.size + 1 + 1 := by omega
        have nB2 : ¬ B = w.heap.size + 1 + 1 + 1 := by omega
        have HW : Hid (W.heap[w.heap.size + 1]? = some (.cells #[.int .i64 t] 3) ∧ W.heap[w.heap.size + 1 + 1]? = some (.cells #[.int .i64 x] 3) ∧ W.heap[w.heap.size + 1 + 1 + 1]? = some (.cells #[.int .i64 y] 3) ∧ W.heap[B]? = some (.cells #[.int .i64 g] 3)) := ⟨h0, h1, h2, h3⟩
        rw [hps] at HQ
        clear hgo hin eA hok hps h0 h1 h2 h3 hob hgv hI0 HFN hqL
        generalize Slt.pr L q = A at *
        generalize (Slt.gt L q).1 = x1 at *
        generalize (Slt.gt L q).2 = x2 at *
        have hm := HL.out.2.2.1
        have HWX : Hid (Kept (Fo w.heap.size B) W ((W.drew.setCell ⟨w.heap.size + 1 + 1, 0, none⟩ (.int .i64 x2)).setCell ⟨w.heap.size + 1 + 1 + 1, 0, none⟩ (.int .i64 (g + A + x1))) ∧ ((W.drew.setCell ⟨w.heap.size + 1 + 1, 0, none⟩ (.int .i64 x2)).setCell ⟨w.heap.size + 1 + 1 + 1, 0, none⟩ (.int .i64 (g + A + x1))).heap[w.heap.size + 1]? = some (.cells #[.int .i64 t] 3) ∧ ((W.drew.setCell ⟨w.heap.size + 1 + 1, 0, none⟩ (.int .i64 x2)).setCell ⟨w.heap.size + 1 + 1 + 1, 0, none⟩ (.int .i64 (g + A + x1))).heap[w.heap.size + 1 + 1]? = some (.cells #[.int .i64 x2] 3) ∧ ((W.drew.setCell ⟨w.heap.size + 1 + 1, 0, none⟩ (.int .i64 x2)).setCell ⟨w.heap.size + 1 + 1 + 1, 0, none⟩ (.int .i64 (g + A + x1))).heap[w.heap.size + 1 + 1 + 1]? = some (.cells #[.int .i64 (g + A + x1)] 3) ∧ ((W.drew.setCell ⟨w.heap.size + 1 + 1, 0, none⟩ (.int .i64 x2)).setCell ⟨w.heap.size + 1 + 1 + 1, 0, none⟩ (.int .i64 (g + A + x1))).heap[B]? = some (.cells #[.int .i64 g] 3)) := by
          obtain ⟨h0, h1, h2, h3⟩ := HW.out
          refine ⟨(((Kept.refl _ W).drew.setCell (.inl (.inr (.inl rfl))) _).setCell (.inl (.inr (.inr (.inl rfl)))) _), ?_, ?_, ?_, ?_⟩
          · exact (Below.heap_setCell _ _ _ _ (by first | (simp; done) | (simp; omega))).trans ((Below.heap_setCell _ _ _ _ (by first | (simp; done) | (simp; omega))).trans h0)
          · exact (Below.heap_setCell _ _ _ _ (by first | (simp; done) | (simp; omega))).trans (set1 (w := W.drew) h1 _)
          · exact set1 ((Below.heap_setCell _ _ _ _ (by first | (simp; done) | (simp; omega))).trans h2) _
          · exact (Below.heap_setCell _ _ _ _ (by first | (simp; done) | (simp; omega))).trans ((Below.heap_setCell _ _ _ _ (by first | (simp; done) | (simp; omega))).trans h3)
        have HN : Hid (g + m = t ∧ 1 ≤ x1 ∧ x1 ≤ 1048576 - A ∧ (q : Int) ≤ A ∧ A ≤ 1048576 ∧ t < 1099511627776) := ⟨hm, o1, o2, hA.1, hA.2, ht⟩
        have nB3 : ¬ B1 = w.heap.size + 1 + 1 := fun e => hB1 (.inr (.inl e))
        have nB4 : ¬ B1 = w.heap.size + 1 + 1 + 1 := fun e => hB1 (.inr (.inr (.inl e)))
        have nB5 : ¬ w.heap.size + 1 + 1 = B := fun e => nB1 e.symm
        have nB6 : ¬ w.heap.size + 1 + 1 + 1 = B := fun e => nB2 e.symm
        have nB7 : ¬ w.heap.size + 1 + 1 = B1 := fun e => nB3 e.symm
        have nB8 : ¬ w.heap.size + 1 + 1 + 1 = B1 := fun e => nB4 e.symm
        clear hm hbm sd htn o1 o2 hA hB1 hFl h4 hH0 hH1 hH2 ht hq hBl hBw
        dsimp only
        gi_wp2
        try simp only [Act.put, List.setIfInBounds_toArray, List.set_cons_zero, List.set_cons_succ]
        refine wpIn_region_round (S := fun w' => w'.cell? ⟨B1, 0, none⟩ = some (.int .i64 x1) ∧ w'.cell? ⟨B1, 1, none⟩ = some (.int .i64 x2) ∧ w'.cell? ⟨B, 0, none⟩ = some (.int .i64 g)) (by kernel_rfl) (by kernel_rfl) (fun hl => by obtain ⟨_, _, hl⟩ := hl; exact hl) ?_
        have hS : (fun w' : World => w'.cell? ⟨B1, 0, none⟩ = some (.int .i64 x1) ∧ w'.cell? ⟨B1, 1, none⟩ = some (.int .i64 x2) ∧ w'.cell? ⟨B, 0, none⟩ = some (.int .i64 g)) W.drew := ⟨b0, b1, d3⟩
        refine d_take 0 35 rfl rfl (by kernel_rfl) (by kernel_rfl) (by kernel_rfl) (fun _ _ _ h => h) rfl (fun w' hw' => er_so1z _ rfl B1 rfl) hS ?_
        simp only [Act.put, List.setIfInBounds_toArray, List.set_cons_zero, List.set_cons_succ]
        refine d_take 1 36 rfl rfl (by kernel_rfl) (by kernel_rfl) (by kernel_rfl) (fun _ _ _ h => h) rfl (fun w' hw' => er_ld3 _ rfl B1 1 (.int .i64 x2) rfl hw'.2.1) hS ?_
        simp only [Act.put, List.setIfInBounds_toArray, List.set_cons_zero, List.set_cons_succ]
        refine d_take 2 37 rfl rfl (by kernel_rfl) (by kernel_rfl) (by kernel_rfl) (fun _ _ _ h => h) rfl (fun w' hw' => er_ld3 _ rfl B 0 (.int .i64 g) rfl hw'.2.2) hS ?_
        simp only [Act.put, List.setIfInBounds_toArray, List.set_cons_zero, List.set_cons_succ]
        refine d_take 3 38 rfl rfl (by kernel_rfl) (by kernel_rfl) (by kernel_rfl) (fun _ _ _ h => h) rfl (fun w' hw' => er_mv _ rfl (.int .i64 A) rfl) hS ?_
        simp only [Act.put, List.setIfInBounds_toArray, List.set_cons_zero, List.set_cons_succ]
        refine d_take 4 39 rfl rfl (by kernel_rfl) (by kernel_rfl) (by kernel_rfl) (fun _ _ _ h => h) rfl (fun w' hw' => er_add _ _ rfl (g : Int) A (g + A) rfl rfl (by have := HN.out; unfold wrap64; omega)) hS ?_
        simp only [Act.put, List.setIfInBounds_toArray, List.set_cons_zero, List.set_cons_succ]
        refine d_take 5 40 rfl rfl (by kernel_rfl) (by kernel_rfl) (by kernel_rfl) (fun _ _ _ h => h) rfl (fun w' hw' => er_so0 _ rfl B1 0 rfl) hS ?_
        simp only [Act.put, List.setIfInBounds_toArray, List.set_cons_zero, List.set_cons_succ]
        refine d_take 6 41 rfl rfl (by kernel_rfl) (by kernel_rfl) (by kernel_rfl) (fun _ _ _ h => h) rfl (fun w' hw' => er_ld3 _ rfl B1 0 (.int .i64 x1) rfl hw'.1) hS ?_
        simp only [Act.put, List.setIfInBounds_toArray, List.set_cons_zero, List.set_cons_succ]
        refine d_take 7 42 rfl rfl (by kernel_rfl) (by kernel_rfl) (by kernel_rfl) (fun _ _ _ h => h) rfl (fun w' hw' => er_add _ _ rfl ((g : Int) + A) x1 (g + A + x1) rfl rfl (by have := HN.out; unfold wrap64; omega)) hS ?_
        simp only [Act.put, List.setIfInBounds_toArray, List.set_cons_zero, List.set_cons_succ]
        have f3 : (W.setCell ⟨w.heap.size + 1 + 1, 0, none⟩ (.int .i64 x2)).frozen? ⟨w.heap.size + 1 + 1 + 1, 0, none⟩ = false := by rw [World.frozen?_setCell]; exact f2
        have d4 : (W.setCell ⟨w.heap.size + 1 + 1, 0, none⟩ (.int .i64 x2)).cell? ⟨w.heap.size + 1 + 1 + 1, 0, none⟩ = some (.int .i64 y) := by rw [World.cell?_setCell_far _ _ _ _ (by simp)]; exact d2
        refine d_turn 8 (by kernel_rfl) rfl rfl rfl (er_st3 _ _ rfl (w.heap.size + 1 + 1) 0 (.int .i64 x) x2 rfl rfl d1 f1) (S := fun w' => w'.cell? ⟨B1, 0, none⟩ = some (.int .i64 x1) ∧ w'.cell? ⟨B1, 1, none⟩ = some (.int .i64 x2) ∧ w'.cell? ⟨B, 0, none⟩ = some (.int .i64 g)) ⟨(World.cell?_setCell_far _ _ _ _ (by simpa using nB7)).trans b0, (World.cell?_setCell_far _ _ _ _ (by simpa using nB7)).trans b1, (World.cell?_setCell_far _ _ _ _ (by simpa using nB5)).trans d3⟩ ?_
        refine d_turn 9 (by kernel_rfl) rfl rfl rfl (er_st3 _ _ rfl (w.heap.size + 1 + 1 + 1) 0 (.int .i64 y) (g + A + x1) rfl rfl d4 f3) ⟨(World.cell?_setCell_far _ _ _ _ (by simpa using nB8)).trans ((World.cell?_setCell_far _ _ _ _ (by simpa using nB7)).trans b0), (World.cell?_setCell_far _ _ _ _ (by simpa using nB8)).trans ((World.cell?_setCell_far _ _ _ _ (by simpa using nB7)).trans b1), (World.cell?_setCell_far _ _ _ _ (by simpa using nB6)).trans ((World.cell?_setCell_far _ _ _ _ (by simpa using nB5)).trans d3)⟩ ?_
        refine wpAnyH_done (by kernel_rfl) ?_ _
        have HX : Hid (Kept (Fo w.heap.size B) W ((W.drew.setCell ⟨w.heap.size + 1 + 1, 0, none⟩ (.int .i64 x2)).setCell ⟨w.heap.size + 1 + 1 + 1, 0, none⟩ (.int .i64 (g + A + x1))) ∧ ((W.drew.setCell ⟨w.heap.size + 1 + 1, 0, none⟩ (.int .i64 x2)).setCell ⟨w.heap.size + 1 + 1 + 1, 0, none⟩ (.int .i64 (g + A + x1))).heap[w.heap.size + 1]? = some (.cells #[.int .i64 t] 3) ∧ ((W.drew.setCell ⟨w.heap.size + 1 + 1, 0, none⟩ (.int .i64 x2)).setCell ⟨w.heap.size + 1 + 1 + 1, 0, none⟩ (.int .i64 (g + A + x1))).heap[w.heap.size + 1 + 1]? = some (.cells #[.int .i64 x2] 3) ∧ ((W.drew.setCell ⟨w.heap.size + 1 + 1, 0, none⟩ (.int .i64 x2)).setCell ⟨w.heap.size + 1 + 1 + 1, 0, none⟩ (.int .i64 (g + A + x1))).heap[w.heap.size + 1 + 1 + 1]? = some (.cells #[.int .i64 (g + A + x1)] 3) ∧ ((W.drew.setCell ⟨w.heap.size + 1 + 1, 0, none⟩ (.int .i64 x2)).setCell ⟨w.heap.size + 1 + 1 + 1, 0, none⟩ (.int .i64 (g + A + x1))).heap[B]? = some (.cells #[.int .i64 g] 3)) := HWX.out
        clear HWX hS b0 b1 d0 d1 d2 d3 d4 f1 f2 f3 HW nB1 nB2 nB3 nB4 nB5 nB6 nB7 nB8
        generalize ((W.drew.setCell ⟨w.heap.size + 1 + 1, 0, none⟩ (.int .i64 x2)).setCell ⟨w.heap.size + 1 + 1 + 1, 0, none⟩ (.int .i64 (g + A + x1))) = X at *
        have t0 := bx1 HX.out.2.1
        have t1 := bx1 HX.out.2.2.2.1
        by_cases hq0 : q = q0
        · have hlt : (t : Int) < g + A + x1 := by have := (HQ.out.1 hq0).1; have := HN.out.1; omega
          have HR : Hid (∃ S', Kept (Fo w.heap.size B) W X ∧ More (Fo w.heap.size B) W S' ∧ SoX w.heap.size B WH FN (q + 1) X S') := by
            obtain ⟨e0, e1, e2⟩ := HQ.out.1 hq0
            refine ⟨Fo w.heap.size B, HX.out.1, More.refl _ _, rfl, ?_, ?_, heap_lt HX.out.2.2.2.2⟩
            · rw [e1]; exact HX.out.2.2.1
            · rw [e2]; have := HX.out.2.2.2.1; rwa [Int.add_assoc] at this
          clear hq0
          gi_wp2
          obtain ⟨S', z1, z2, z3⟩ := HR.out
          exact ⟨S', z1, z2, rfl, z3⟩
        · have hlt : ¬ (t : Int) < g + A + x1 := by have := (HQ.out.2 hq0).1; have := HN.out.1; omega
          have HR : Hid (∃ S', Kept (Fo w.heap.size B) W X ∧ More (Fo w.heap.size B) W S' ∧ SoI w.heap.size B t g q0 (q + 1) X S') :=
            ⟨Fo w.heap.size B, HX.out.1, More.refl _ _, rfl, HX.out.2.1, ⟨_, _, HX.out.2.2.1, HX.out.2.2.2.1⟩, HX.out.2.2.2.2, (HQ.out.2 hq0).2⟩
          clear hq0
          gi_wp2
          exact HR.out
      case done =>
        rintro D W S' hk hm ⟨rfl, h0, h1, h2, h3⟩ hD1 hD2 hD3
        exfalso
        have := HL.out.2.1.1
        have := HL.out.2.2.2
        omega
      case stop =>
        rintro D c q W S' hk hm ⟨rfl, rfl, h1, h2, h3⟩ hD1 hD2 hD3
        have kw : Kept No w W := HKD.out.trans hk (fun k q => .inr (by rcases q with q | q | q | q <;> omega))
        have HX : Hid (Kept No w W ∧ W.heap[w.heap.size + 1 + 1]? = some (.cells #[.int .i64 WH] 3) ∧ W.heap[w.heap.size + 1 + 1 + 1]? = some (.cells #[.int .i64 FN] 3) ∧ W.heap[D]? = some (.deferred (some [])) ∧ w.heap.size + 1 + 1 + 1 < D) := ⟨kw, h1, h2, hD3, by omega⟩
        have d1 := bx1 h1
        have d2 := bx1 h2
        have f1 : W.frozen? ⟨w.heap.size + 1 + 1, 0, none⟩ = false := by simp [World.frozen?, h1]
        have f2 : W.frozen? ⟨w.heap.size + 1 + 1 + 1, 0, none⟩ = false := by simp [World.frozen?, h2]
        clear kw hk hm h1 h2 h3 hD1 hD2 hD3 hgv hI0 sd hBl hBw hbm htn hFl HL HFN HKD
        refine wpIn_wide.2 ?_
        dsimp only
        go_upto_region 14 with fail
        go_region
        have emin : (if 1099511627776 < FN then 1099511627776 else FN) = min FN 1099511627776 := by rw [Int.min_def]; split <;> split <;> omega
        rw [emin]
        obtain ⟨MN, eMN⟩ : ∃ x, min FN 1099511627776 = x := ⟨_, rfl⟩
        have HMN : Hid (min FN 1099511627776 = MN) := eMN
        rw [eMN]
        clear eMN
        have HY : Hid (Kept No w ((W.setCell ⟨w.heap.size + 1 + 1, 0, none⟩ (.int .i64 WH)).setCell ⟨w.heap.size + 1 + 1 + 1, 0, none⟩ (.int .i64 MN)).drew ∧ ((W.setCell ⟨w.heap.size + 1 + 1, 0, none⟩ (.int .i64 WH)).setCell ⟨w.heap.size + 1 + 1 + 1, 0, none⟩ (.int .i64 MN)).drew.heap[w.heap.size + 1 + 1]? = some (.cells #[.int .i64 WH] 3) ∧ ((W.setCell ⟨w.heap.size + 1 + 1, 0, none⟩ (.int .i64 WH)).setCell ⟨w.heap.size + 1 + 1 + 1, 0, none⟩ (.int .i64 MN)).drew.heap[w.heap.size + 1 + 1 + 1]? = some (.cells #[.int .i64 MN] 3) ∧ ((W.setCell ⟨w.heap.size + 1 + 1, 0, none⟩ (.int .i64 WH)).setCell ⟨w.heap.size + 1 + 1 + 1, 0, none⟩ (.int .i64 MN)).drew.heap[D]? = some (.deferred (some []))) := by
          obtain ⟨k1, h1, h2, h3, h4⟩ := HX.out
          refine ⟨((k1.setCell (.inr (by simp; omega)) _).setCell (.inr (by simp; omega)) _).drew, ?_, ?_, ?_⟩
          · exact (Below.heap_setCell _ _ _ _ (by first | (simp; done) | (simp; omega))).trans (set1 h1 _)
          · exact set1 ((Below.heap_setCell _ _ _ _ (by first | (simp; done) | (simp; omega))).trans h2) _
          · exact (Below.heap_setCell _ _ _ _ (by first | (simp; done) | (simp; omega))).trans ((Below.heap_setCell _ _ _ _ (by first | (simp; done) | (simp; omega))).trans h3)
        generalize ((W.setCell ⟨w.heap.size + 1 + 1, 0, none⟩ (.int .i64 WH)).setCell ⟨w.heap.size + 1 + 1 + 1, 0, none⟩ (.int .i64 MN)).drew = X at *
        have hDl := HX.out.2.2.2.2
        clear d1 d2 f1 f2 HX emin
        go_wp2
        refine ⟨by simp, .inl ⟨_, _, rfl, run_takeDeferred HY.out.2.2.2, ?_⟩⟩
        refine ⟨_, results_cct rfl _ _ (w.heap.size + 1 + 1) (w.heap.size + 1 + 1 + 1) (.int .i64 WH) (.int .i64 MN) rfl rfl (ldI (bx1 ((World.putObj_heap_other (by omega)).trans HY.out.2.1))) (ldI (bx1 ((World.putObj_heap_other (by omega)).trans HY.out.2.2.1))), by rw [HFE.out.1, HFE.out.2, HMN.out]; rfl, ?_⟩
        exact HY.out.1.trans (kept_put (S := fun k => k = D) _ rfl) (fun k q => .inr (by omega))
end Go.Proofs.YtkmpgcgdamcikaaGreatDoor

namespace Go.Proofs.YtkmpgcgdamcikaaGreatDoor
open Go.RowKit Go.Shelf
attribute [local go_sem] Oper.semAt_some
set_option linter.unusedVariables false
set_option maxRecDepth 100000

set_option maxHeartbeats 1000000 in
theorem sAt_yes {F G : Nat → Prop} {a0 a1 : Option Addr} {n0 c0 n1 c1 : Nat} {P C : List (Int × Int)} {H t q0 : Nat} (w : World) (h : Sl w F a0 n0 c0 P) (hF : ∀ k, F k → k < w.heap.size) (h' : Sl w G a1 n1 c1 C) (hG : ∀ k, G k → k < w.heap.size)
    (hT : Slt.Tab P C H) (ht : t < 1099511627776) (hs : Slt.Sits P C H t q0) :
    Calls Tryz.prog 26 #[.agg #[.slice a0 n0 c0, .slice a1 n1 c1], .int .i64 t] w fun e w' => e = .returned (.tuple #[.int .i64 (Slt.who P C H t q0), .int .i64 0]) ∧ Kept No w w' := by
  have k1 : Kept No w (w.alloc (.cells #[.slice a0 n0 c0, .slice a1 n1 c1] 25)) := (Kept.refl No w).alloc _
  have hl := slotOf_yes _ (h.keep k1) (fun k hk => Nat.lt_of_lt_of_le (hF k hk) k1.size) (h'.keep k1) (fun k hk => Nat.lt_of_lt_of_le (hG k hk) k1.size) hT ht hs
  obtain ⟨b0, b1⟩ := bx2 (World.alloc_heap_new w (.cells #[.slice a0 n0 c0, .slice a1 n1 c1] 25))
  have HK : Hid (Kept No w (w.alloc (.cells #[.slice a0 n0 c0, .slice a1 n1 c1] 25))) := k1
  generalize min (Slt.fin P C H t q0) 1099511627776 = Y at *
  generalize Slt.who P C H t q0 = X at *
  clear h h' hF hG k1 hT hs
  go_enter Tryz.func26, Tryz.ntmps26
  go_wp2_with (go_at_call 44; refine hl.mono ?_; rintro e w1 ⟨rfl, hk1⟩; have H1 : Hid (Kept No w w1) := HK.out.trans hk1 (fun _ h => h.elim); clear hk1 hl)
  go_ret2
  exact ⟨rfl, H1.out⟩
end Go.Proofs.YtkmpgcgdamcikaaGreatDoor
