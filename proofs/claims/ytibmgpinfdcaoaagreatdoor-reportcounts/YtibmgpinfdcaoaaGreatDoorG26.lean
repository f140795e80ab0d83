/-
  One text: OTakAll, OAt, OSupply.
-/
import Derived.Test.YtibmgpinfdcaoaaGreatDoorHOTaken
import Derived.Test.YtibmgpinfdcaoaaGreatDoorG23
namespace Go.Proofs.YtibmgpinfdcaoaaGreatDoor
open Go.RowKit Go.Shelf Plain
set_option linter.unusedVariables false
set_option maxRecDepth 100000

/-- a row of spans -/
structure Sp (w : World) (g n : Nat) (sf sb : Nat → Nat) : Prop where
  at' : ∀ i, i < n → w.cell? ⟨g, i * 2, none⟩ = some (.int .i64 (sf i)) ∧ w.cell? ⟨g, i * 2 + 1, none⟩ = some (.int .i64 (sb i))
  lt : g < w.heap.size
theorem Sp.keep {w w' : World} {g n : Nat} {sf sb : Nat → Nat} (h : Sp w g n sf sb) (hk : Kept No w w') : Sp w' g n sf sb :=
  ⟨fun i hi => ⟨hk.cell (h.at' i hi).1 (fun h => h), hk.cell (h.at' i hi).2 (fun h => h)⟩, Nat.lt_of_lt_of_le h.lt hk.size⟩
/-- a row of counts -/
structure Ct (w : World) (g n : Nat) (cv : Nat → Int) : Prop where
  at' : ∀ i, i < n → w.cell? ⟨g, i, none⟩ = some (.int .i64 (cv i))
  fz : ∀ i, w.frozen? ⟨g, i, none⟩ = false
  lt : g < w.heap.size
theorem Ct.keep {w w' : World} {g n : Nat} {cv : Nat → Int} (h : Ct w g n cv) (hk : Kept No w w') : Ct w' g n cv :=
  ⟨fun i hi => hk.cell (h.at' i hi) (fun h => h), fun i => by
    have e := hk.block g h.lt (fun h => h)
    have := h.fz i
    simp only [World.frozen?] at this ⊢
    rw [e]; exact this, Nat.lt_of_lt_of_le h.lt hk.size⟩
theorem Tryz.infoI3 : (Tryz.prog.info? 3).map (fun i => (i.zero, i.size, i.bytes)) = some (some (.int .i64 0), 1, 8) := by kernel_rfl
theorem make_ints (w : World) (n : Nat) (hn : n ≤ 32) : ∃ w1, (Instr.makeSlice 25 (.int .i64 n) (.int .i64 n)).run Tryz.prog w = .ok (.slice (some ⟨w.heap.size, 0, none⟩) n n) w1 ∧ Ct w1 w.heap.size n (fun _ => 0) ∧ Kept No w w1 ∧ w1.heap.size = w.heap.size + 1 := by
  obtain ⟨i0, hi, hz0, hz1, hz2⟩ := info_parts Tryz.infoI3
  have hr := run_make (P := Tryz.prog) w 25 3 i0 _ Tryz.underlying25 hi hz0 .i64 .i64 n n (by omega) (Int.le_refl _) (by rw [hz2]; omega) (by omega)
  simp only [Int.toNat_natCast] at hr
  rw [hz1, Nat.mul_one] at hr
  refine ⟨_, hr, ⟨fun i hi => ?_, fun i => ?_, by simp⟩, (Kept.refl No w).alloc _, by simp⟩
  · have hb := World.alloc_heap_new w (.cells (madeCells (Value.int .i64 0).cells n) 3)
    have e : (madeCells (Value.int .i64 0).cells n)[i]? = some (.int .i64 0) := by
      rw [show (Value.int .i64 0).cells = #[Value.int .i64 0] from rfl, ← Array.getElem?_toList, toList_madeCells_one, List.getElem?_replicate, if_pos hi]
    simp only [World.cell?]
    rw [hb]
    simpa using e
  · have hb := World.alloc_heap_new w (.cells (madeCells (Value.int .i64 0).cells n) 3)
    simp only [World.frozen?]
    rw [hb]
    rfl
theorem max_nat (x y : Nat) : ∃ z : Nat, max (x : Int) (y : Int) = (z : Int) ∧ x ≤ z ∧ y ≤ z ∧ (z = x ∨ z = y) := by
  by_cases h : x ≤ y
  · exact ⟨y, by omega, h, Nat.le_refl _, .inr rfl⟩
  · exact ⟨x, by omega, Nat.le_refl _, by omega, .inl rfl⟩
theorem min2_nat (H m : Nat) : ∃ z : Nat, min (2 * (H : Int)) (m : Int) = (z : Int) ∧ z ≤ 2 * H ∧ z ≤ m ∧ (z = 2 * H ∨ z = m) := by
  by_cases h : 2 * H ≤ m
  · exact ⟨2 * H, by omega, Nat.le_refl _, h, .inl rfl⟩
  · exact ⟨m, by omega, by omega, Nat.le_refl _, .inr rfl⟩

set_option maxHeartbeats 4000000 in
theorem taken_any {F : Nat → Prop} {a : Option Addr} {c cS : Nat} {xs : List Srv} {gS : Nat} {sf sb : Nat → Nat} (w : World) (hv : Vd xs) (h : Sv w F a xs.length c xs) (hF : ∀ k, F k → k < w.heap.size) (hsp : Sp w gS xs.length sf sb) (hs : ∀ i, i < xs.length → sf i ≤ sb i ∧ sb i ≤ 1099511627776) (hFg : ¬ F gS) :
    Calls Tryz.prog 31 #[.slice a xs.length c, .int .i64 (hyp xs), .slice (some ⟨gS, 0, none⟩) xs.length cS] w fun e w' => ∃ g, e = .returned (.slice (some ⟨g, 0, none⟩) xs.length xs.length) ∧ w.heap.size ≤ g ∧ Ct w' g xs.length (fun i => (Rule.cnt (Rule.occ (sys xs)) (i + 1) (sb i) : Int) - (Rule.cnt (Rule.occ (sys xs)) (i + 1) (sf i) : Int)) ∧ Kept (fun k => k = gS) w w' := by
  have hH1 := hv.hyp1
  have hH2 := hv.hyp2
  have hn := hv.num
  have HV : Hid (Vd xs) := hv
  have HS : Hid (Sv w F a xs.length c xs ∧ (∀ k, F k → k < w.heap.size) ∧ Sp w gS xs.length sf sb ∧ ∀ i, i < xs.length → sf i ≤ sb i ∧ sb i ≤ 1099511627776) := ⟨h, hF, hsp, hs⟩
  clear h hF hsp hs hv
  go_enter Tryz.func31, Tryz.ntmps31
  go_upto_region 1 with fail
  have k1 : Kept No w ((w.alloc (.cells #[.int .i64 (hyp xs)] 3)).alloc (.cells #[.slice (some ⟨gS, 0, none⟩) xs.length cS] 58)) := ((Kept.refl No w).alloc _).alloc _
  obtain ⟨q1, q2⟩ := heap_alloc2 (w := w) (o1 := .cells #[.int .i64 (hyp xs)] 3) (o2 := .cells #[.slice (some ⟨gS, 0, none⟩) xs.length cS] 58)
  have sz1 : ((w.alloc (.cells #[.int .i64 (hyp xs)] 3)).alloc (.cells #[.slice (some ⟨gS, 0, none⟩) xs.length cS] 58)).heap.size = w.heap.size + 2 := by simp
  have HK1 : Hid (Kept No w ((w.alloc (.cells #[.int .i64 (hyp xs)] 3)).alloc (.cells #[.slice (some ⟨gS, 0, none⟩) xs.length cS] 58)) ∧ ((w.alloc (.cells #[.int .i64 (hyp xs)] 3)).alloc (.cells #[.slice (some ⟨gS, 0, none⟩) xs.length cS] 58)).heap[w.heap.size]? = some (.cells #[.int .i64 (hyp xs)] 3) ∧ ((w.alloc (.cells #[.int .i64 (hyp xs)] 3)).alloc (.cells #[.slice (some ⟨gS, 0, none⟩) xs.length cS] 58)).heap[w.heap.size + 1]? = some (.cells #[.slice (some ⟨gS, 0, none⟩) xs.length cS] 58) ∧ ((w.alloc (.cells #[.int .i64 (hyp xs)] 3)).alloc (.cells #[.slice (some ⟨gS, 0, none⟩) xs.length cS] 58)).heap.size = w.heap.size + 2) := ⟨k1, q1, q2, sz1⟩
  clear k1 q1 q2 sz1
  generalize (w.alloc (.cells #[.int .i64 (hyp xs)] 3)).alloc (.cells #[.slice (some ⟨gS, 0, none⟩) xs.length cS] 58) = w1 at *
  obtain ⟨w2, hm, hct, k2, sz2⟩ := make_ints w1 xs.length hn
  have HK2 : Hid (Ct w2 w1.heap.size xs.length (fun _ => 0) ∧ Kept No w1 w2 ∧ w2.heap.size = w1.heap.size + 1) := ⟨hct, k2, sz2⟩
  clear hct k2 sz2
  go_upto_region 2 with fail
  have k3 : Kept No w2 (w2.alloc (.cells #[.slice (some ⟨w1.heap.size, 0, none⟩) xs.length xs.length] 25)) := (Kept.refl No w2).alloc _
  have b3 := World.alloc_heap_new w2 (.cells #[.slice (some ⟨w1.heap.size, 0, none⟩) xs.length xs.length] 25)
  have HT : Hid (TkB (w2.alloc (.cells #[.slice (some ⟨w1.heap.size, 0, none⟩) xs.length xs.length] 25)) xs.length (hyp xs) (w.heap.size + 1) gS cS w2.heap.size w1.heap.size xs.length w.heap.size sf sb (cvF (Rule.occ (sys xs)) (hyp xs) sf sb 0) ∧ Kept No w (w2.alloc (.cells #[.slice (some ⟨w1.heap.size, 0, none⟩) xs.length xs.length] 25)) ∧ w1.heap.size = w.heap.size + 2 ∧ w2.heap.size = w.heap.size + 3 ∧ gS < w.heap.size) := by
    obtain ⟨g1, g2, g3, g4⟩ := HS.out
    obtain ⟨a1, a2, a3, a4⟩ := HK1.out
    obtain ⟨e1, e2, e3⟩ := HK2.out
    have k13 : Kept No w1 (w2.alloc (.cells #[.slice (some ⟨w1.heap.size, 0, none⟩) xs.length xs.length] 25)) := e2.trans k3 (fun _ h => h.elim)
    have kw3 : Kept No w (w2.alloc (.cells #[.slice (some ⟨w1.heap.size, 0, none⟩) xs.length xs.length] 25)) := a1.trans k13 (fun _ h => h.elim)
    have hsp := g3.keep kw3
    have hct := e1.keep k3
    have hz : ∀ i, cvF (Rule.occ (sys xs)) (hyp xs) sf sb 0 i = 0 := fun i => by unfold cvF; rw [Rule.acc_zero, Rule.acc_zero]; rfl
    refine ⟨⟨k13.at' a3 (fun h => h), b3, k13.at' a2 (fun h => h), hsp.at', fun i hi => by rw [hz i]; exact hct.at' i hi, hct.fz, hsp.lt, hct.lt⟩, kw3, a4, by omega, g3.lt⟩
  clear k3 b3 HK1 HK2 hm
  generalize w2.alloc (.cells #[.slice (some ⟨w1.heap.size, 0, none⟩) xs.length xs.length] 25) = w3 at *
  have c5 := cell_box HT.out.1.b1
  go_wp2
  clear c5
  go_loopw [8, 16] (fun v x wr => ∃ k mb : Nat, k ≤ xs.length ∧ x = .int .i64 k ∧ v = .int .i64 mb ∧ mb ≤ 1099511627776 ∧ (∀ i, i < k → sb i ≤ mb) ∧ Kept No w3 wr) (fun _ x _ => xs.length - (intOf x).toNat)
  case atStart => exact ⟨0, 0, Nat.zero_le _, rfl, rfl, by omega, fun i hi => by omega, Kept.refl No w3⟩
  case round =>
    obtain ⟨k, mb, hk, rfl, rfl, hmb, hall, hkr⟩ := hrel
    by_cases hlt : k < xs.length
    · have hT := HT.out.1.keep hkr
      obtain ⟨s0, s1⟩ := hT.s k hlt
      obtain ⟨z, ez, z1, z2, z3⟩ := max_nat mb (sb k)
      have HR : Hid (Kept No w3 wr ∧ (∀ i, i < k → sb i ≤ mb) ∧ z ≤ 1099511627776) := ⟨hkr, hall, by have := (HS.out.2.2.2 k hlt).2; omega⟩
      clear hT hkr hall z3
      go_wp2
      go_roundw
      case rel =>
        obtain ⟨y1, y2, y3⟩ := HR.out
        exact ⟨k + 1, z, by omega, by go_num, rfl, y3, fun i hi => by
          by_cases e : i = k
          · subst e; exact z2
          · have := y2 i (by omega); omega, y1.alloc _⟩
      case measure => simp [intOf]; omega
    · have hke : k = xs.length := by omega
      subst hke
      obtain ⟨m, em, m1, m2, m3⟩ := min2_nat (hyp xs) mb
      have hT := HT.out.1.keep hkr
      have xH := cell_box hT.b3
      have HTR : Hid (TkB wr xs.length (hyp xs) (w.heap.size + 1) gS cS w2.heap.size w1.heap.size xs.length w.heap.size sf sb (cvF (Rule.occ (sys xs)) (hyp xs) sf sb 0) ∧ Kept No w wr ∧ ∀ i, i < xs.length → sb i ≤ mb) := ⟨hT, HT.out.2.1.trans hkr (fun _ h => h.elim), hall⟩
      clear hT hkr hall
      have hsr := HS.out.1.keep HTR.out.2.1
      have hFr : ∀ k, F k → k < wr.heap.size := fun k hk => by have := HS.out.2.1 k hk; have := HTR.out.2.1.size; omega
      have hgv := play_gives HV.out hsr hFr m (by omega)
      have kal : Kept No wr ((wr.alloc (.cells #[.slice a xs.length c] 22)).alloc (.cells #[.int .i64 m] 3)) := ((Kept.refl No wr).alloc _).alloc _
      have hszr := HTR.out.2.1.size
      have hsz4 := HT.out.2.2
      have hb2l := heap_lt HTR.out.1.b2
      have hcall := each_any (enters_of Tryz.func57 (by kernel_rfl) rfl) (enters_of Tryz.func45 (by kernel_rfl) rfl) hgv (Nat.le_refl _) (fun k hk => ⟨by rcases hk with hk | hk | hk; have := hFr k hk; simp; omega; subst hk; simp <;> omega; subst hk; simp <;> omega, rfl⟩) (Tk.hangs (Rule.occ (sys xs)) xs.length (hyp xs) (w.heap.size + 1) gS cS w2.heap.size w1.heap.size xs.length w.heap.size sf sb) hangs_false ⟨rfl, HTR.out.1.keep kal⟩ ?gs (taken1_does (fun u => Rule.occ_le (sys xs) u) hn hH1 hH2 m1 (fun i hi => by have := HS.out.2.2.2 i hi; omega) (by omega) (by omega) (by omega) (by omega))
      case gs =>
        intro k hk h5
        rcases hk with hk | hk | hk
        · have h6 := HS.out.2.1 k hk
          rcases h5 with e | e | e | e | e
          · omega
          · subst e; exact hFg hk
          · omega
          · omega
          · omega
        · rcases h5 with e | e | e | e | e <;> omega
        · rcases h5 with e | e | e | e | e <;> omega
      have HKA : Hid (Kept No wr ((wr.alloc (.cells #[.slice a xs.length c] 22)).alloc (.cells #[.int .i64 m] 3))) := kal
      have HALL : Hid (∀ (w5 : World) (S' : Nat → Prop), Tk (Rule.occ (sys xs)) xs.length (hyp xs) (w.heap.size + 1) gS cS w2.heap.size w1.heap.size xs.length w.heap.size sf sb m w5 S' → Ct w5 w1.heap.size xs.length (fun i => (Rule.cnt (Rule.occ (sys xs)) (i + 1) (sb i) : Int) - (Rule.cnt (Rule.occ (sys xs)) (i + 1) (sf i) : Int))) := fun w5 S' hT5 => by
        obtain ⟨_, hT5⟩ := hT5
        have hag : ∀ t, hyp xs ≤ t → Rule.occ (sys xs) (t + hyp xs) = Rule.occ (sys xs) t := fun t ht => Rule.again HV.out.bd.ok (fun i hi => HV.out.dvd i hi) t ht
        refine ⟨fun i hi => ?_, hT5.f, hT5.l2⟩
        have h1 := HTR.out.2.2 i hi
        have h2 := (HS.out.2.2.2 i hi).1
        have e1 := Rule.acc_all hH1 hag (i + 1) (sb i) m (by omega)
        have e2 := Rule.acc_all hH1 hag (i + 1) (sf i) m (by omega)
        have := hT5.c i hi
        unfold cvF at this
        rw [e1, e2] at this
        exact this
      have hp4 := play_any a xs.length c (m : Int) wr
      have HSZ : Hid (w1.heap.size = w.heap.size + 2 ∧ w2.heap.size = w.heap.size + 3 ∧ gS < w.heap.size ∧ w.heap.size ≤ wr.heap.size) := ⟨hsz4.1, hsz4.2.1, hsz4.2.2, hszr⟩
      clear hsr hFr hgv kal hszr hsz4 m3
      go_wp2_with (first
        | (go_at_call 44; refine hp4.mono ?_; rintro e w4 ⟨rfl, hw4⟩; have HW4 : Hid (w4 = (wr.alloc (.cells #[.slice a xs.length c] 22)).alloc (.cells #[.int .i64 m] 3)) := hw4; have hcall2 := hcall; rw [← HW4.out] at hcall2; clear hw4 hcall hp4)
        | (go_at_call 43; refine hcall2.mono ?_; rintro e w5 ⟨⟨v5, rfl⟩, S5, hk5, hm5, hor⟩; clear hcall2; have hT5 := or_false3 hor; have x5 := cell_box hT5.2.b2; have HF : Hid (Ct w5 w1.heap.size xs.length (fun i => (Rule.cnt (Rule.occ (sys xs)) (i + 1) (sb i) : Int) - (Rule.cnt (Rule.occ (sys xs)) (i + 1) (sf i) : Int)) ∧ Kept (Five (w.heap.size + 1) gS w2.heap.size w1.heap.size w.heap.size) w4 w5) := ⟨HALL.out _ _ hT5, hk5⟩; clear hk5 hm5 hor hT5))
      go_ret
      refine ⟨_, rfl, by have := HSZ.out.1; omega, HF.out.1, ?_⟩
      have k4 := HKA.out
      rw [← HW4.out] at k4
      have kw4 : Kept (fun k => k = gS) w w4 := (HTR.out.2.1.trans k4 (fun _ h => h.elim)).mono (fun _ h => h.elim)
      refine kw4.trans HF.out.2 (fun k h5 => ?_)
      obtain ⟨y1, y2, y3, y4⟩ := HSZ.out
      rcases h5 with e | e | e | e | e
      · exact .inr (by omega)
      · exact .inl e
      · exact .inr (by omega)
      · exact .inr (by omega)
      · exact .inr (by omega)
end Go.Proofs.YtibmgpinfdcaoaaGreatDoor

namespace Go.Proofs.YtibmgpinfdcaoaaGreatDoor
open Go.RowKit Go.Shelf Plain
set_option linter.unusedVariables false
set_option maxRecDepth 100000

theorem tim_yes {xs : List Srv} (h : timF xs xs.length = none) : hyV xs xs.length = (hyp xs : Int) ∧ hyE xs xs.length = 0 := by
  have hv := vd_of h
  constructor
  · unfold hyV
    rw [h]
    show lcmV (zP xs) xs.length 1048576 = (hyp xs : Int)
    unfold hyp
    have := hv.hyp1
    unfold hyp at this
    omega
  · unfold hyE
    rw [h]
theorem tim_no {xs : List Srv} {p : Int × Int} (h : timF xs xs.length = some p) : hyV xs xs.length = 0 ∧ hyE xs xs.length = p.1 := by
  constructor
  · unfold hyV; rw [h]
  · unfold hyE; rw [h]

end Go.Proofs.YtibmgpinfdcaoaaGreatDoor

namespace Go.Proofs.YtibmgpinfdcaoaaGreatDoor
open Go.RowKit Go.Shelf Plain
set_option linter.unusedVariables false
set_option maxRecDepth 100000

theorem isThere_yes (a : Option Addr) (n c p : Nat) (w : World) (h1 : 1 ≤ p) (h2 : p ≤ n) : Calls Tryz.prog 29 #[.slice a n c, .int .i64 p] w fun e w' => e = .returned (.bool true) ∧ w' = w := by
  have h1' : (1 : Int) ≤ p := by omega
  have h2' : (p : Int) ≤ n := by omega
  go_enter Tryz.func29, Tryz.ntmps29
  go_wp2
  go_ret
  exact ⟨by simp <;> omega, rfl⟩
theorem isSpan_yes (f b : Nat) (w : World) (h1 : f ≤ b) (h2 : b ≤ 1099511627776) : Calls Tryz.prog 30 #[.int .i64 f, .int .i64 b] w fun e w' => e = .returned (.bool true) ∧ w' = w := by
  have h0' : (0 : Int) ≤ f := by omega
  have h1' : (f : Int) ≤ b := by omega
  have h2' : (b : Int) ≤ 1099511627776 := by omega
  go_enter Tryz.func30, Tryz.ntmps30
  go_wp2
  go_ret
  exact ⟨by simp <;> omega, rfl⟩
theorem Tryz.infoSpn : (Tryz.prog.info? 60).map (fun i => (i.zero, i.size, i.bytes)) = some (some (.agg #[.int .i64 0, .int .i64 0]), 2, 16) := by kernel_rfl
/-- a made row of spans, that may be written -/
structure Sw (w : World) (g n : Nat) (sf sb : Nat → Nat) : Prop where
  sp : Sp w g n sf sb
  fz : ∀ i, w.frozen? ⟨g, i, none⟩ = false
theorem Sw.keep {w w' : World} {g n : Nat} {sf sb : Nat → Nat} (h : Sw w g n sf sb) (hk : Kept No w w') : Sw w' g n sf sb :=
  ⟨h.sp.keep hk, fun i => by
    have e := hk.block g h.sp.lt (fun h => h)
    have := h.fz i
    simp only [World.frozen?] at this ⊢
    rw [e]; exact this⟩
theorem Sw.set {w : World} {g n : Nat} {sf sb : Nat → Nat} (h : Sw w g n sf sb) (k u v : Nat) : Sw ((w.setCell ⟨g, k * 2, none⟩ (.int .i64 u)).setCell ⟨g, k * 2 + 1, none⟩ (.int .i64 v)) g n (Rule.up sf k u) (Rule.up sb k v) := by
  refine ⟨⟨fun i hi => ?_, by simpa [World.setCell] using h.sp.lt⟩, fun i => by rw [World.frozen?_setCell, World.frozen?_setCell]; exact h.fz i⟩
  obtain ⟨c0, c1⟩ := h.sp.at' i hi
  constructor
  · rw [cell_set (cell_set c0), if_neg (by omega)]
    by_cases e : i = k
    · subst e; rw [if_pos rfl, Rule.up_same]
    · rw [if_neg (by omega), Rule.up_other _ _ e]
  · rw [cell_set (cell_set c1)]
    by_cases e : i = k
    · subst e; rw [if_pos rfl, Rule.up_same]
    · rw [if_neg (by omega), if_neg (by omega), Rule.up_other _ _ e]
theorem make_spans (w : World) (n : Nat) (hn : n ≤ 32) : ∃ w1, (Instr.makeSlice 58 (.int .i64 n) (.int .i64 n)).run Tryz.prog w = .ok (.slice (some ⟨w.heap.size, 0, none⟩) n n) w1 ∧ Sw w1 w.heap.size n (fun _ => 0) (fun _ => 0) ∧ Kept No w w1 ∧ w1.heap.size = w.heap.size + 1 := by
  obtain ⟨i0, hi, hz0, hz1, hz2⟩ := info_parts Tryz.infoSpn
  have hr := run_make (P := Tryz.prog) w 58 60 i0 _ Tryz.underlying58 hi hz0 .i64 .i64 n n (by omega) (Int.le_refl _) (by rw [hz2]; omega) (by omega)
  simp only [Int.toNat_natCast] at hr
  rw [hz1] at hr
  have hb := World.alloc_heap_new w (.cells (madeCells (Value.agg #[.int .i64 0, .int .i64 0]).cells (n * 2)) 60)
  have e : ∀ i, i < n * 2 → (madeCells (Value.agg #[.int .i64 0, .int .i64 0]).cells (n * 2))[i]? = some (.int .i64 0) := fun i hi => by
    unfold madeCells
    rw [Array.getElem?_map, Array.getElem?_range, if_pos hi]
    have : i % 2 = 0 ∨ i % 2 = 1 := by omega
    show some (#[Value.int .i64 0, Value.int .i64 0][i % 2]!) = _
    rcases this with h | h <;> rw [h] <;> rfl
  have cell : ∀ i, i < n * 2 → (w.alloc (.cells (madeCells (Value.agg #[.int .i64 0, .int .i64 0]).cells (n * 2)) 60)).cell? ⟨w.heap.size, i, none⟩ = some (.int .i64 0) := fun i hi => by
    simp only [World.cell?]
    rw [hb]
    simpa using e i hi
  refine ⟨_, hr, ⟨⟨fun i hi => ⟨cell _ (by omega), cell _ (by omega)⟩, by simp⟩, fun i => ?_⟩, (Kept.refl No w).alloc _, by simp⟩
  simp only [World.frozen?]
  rw [hb]
  rfl

set_option maxHeartbeats 4000000 in
theorem supply_yes {F : Nat → Prop} {a : Option Addr} {c : Nat} {xs : List Srv} (p fr below : Nat) (w : World) (hg : Gl w) (h : Sv w F a xs.length c xs) (hF : ∀ k, F k → k < w.heap.size) (ht : timF xs xs.length = none) (hp1 : 1 ≤ p) (hp2 : p ≤ xs.length) (hfb : fr ≤ below) (hb : below ≤ 1099511627776) :
    Calls Tryz.prog 19 #[.slice a xs.length c, .int .i64 p, .int .i64 fr, .int .i64 below] w fun e w' => e = .returned (.tuple #[.int .i64 ((Rule.cnt (Rule.occ (sys xs)) p below : Int) - (Rule.cnt (Rule.occ (sys xs)) p fr : Int)), .int .i64 0]) ∧ Kept No w w' := by
  have hv := vd_of ht
  have hn := hv.num
  have hc := hyper_any F a xs.length c xs w hg h
  rw [(tim_yes ht).1, (tim_yes ht).2] at hc
  have ht1 := fun W => isThere_yes a xs.length c p W hp1 hp2
  have ht2 := fun W => isSpan_yes fr below W hfb hb
  have HS : Hid (Sv w F a xs.length c xs ∧ (∀ k, F k → k < w.heap.size)) := ⟨h, hF⟩
  have HV : Hid (Vd xs) := hv
  clear h hF hg ht hv
  obtain ⟨i, rfl⟩ : ∃ i, p = i + 1 := ⟨p - 1, by omega⟩
  have hin : i < xs.length := by omega
  go_enter Tryz.func19, Tryz.ntmps19
  go_upto_region 8 with (first
    | (go_at_call 24; refine hc.mono ?_; rintro e w1 ⟨rfl, hk1⟩; have HK1 : Hid (Kept No w w1) := hk1; clear hk1 hc)
    | (go_at_call 29; refine (ht1 _).mono ?_; rintro e w2 ⟨rfl, hw2⟩; obtain rfl := hw2.symm)
    | (go_at_call 30; refine (ht2 _).mono ?_; rintro e w3 ⟨rfl, hw3⟩; obtain rfl := hw3.symm))
  obtain ⟨w4, hm, hsw, k4, sz4⟩ := make_spans w1 xs.length hn
  have c0 := (hsw.sp.at' i hin).1
  have c1 := (hsw.sp.at' i hin).2
  have hfz := hsw.fz
  have eI : ((i : Int) + 1) - 1 = (i : Int) := by omega
  have HW : Hid (Sw w4 w1.heap.size xs.length (fun _ => 0) (fun _ => 0) ∧ Kept No w1 w4 ∧ w4.heap.size = w1.heap.size + 1) := ⟨hsw, k4, sz4⟩
  clear hsw k4 sz4
  go_upto_region 9 with fail
  go_upto_region 10 with fail
  have HT : Hid (Kept No w ((w4.setCell ⟨w1.heap.size, i * 2, none⟩ (.int .i64 fr)).setCell ⟨w1.heap.size, i * 2 + 1, none⟩ (.int .i64 below)) ∧ w.heap.size ≤ w1.heap.size ∧ Sp ((w4.setCell ⟨w1.heap.size, i * 2, none⟩ (.int .i64 fr)).setCell ⟨w1.heap.size, i * 2 + 1, none⟩ (.int .i64 below)) w1.heap.size xs.length (Rule.up (fun _ => 0) i fr) (Rule.up (fun _ => 0) i below)) := by
    obtain ⟨hsw, k4, sz4⟩ := HW.out
    have k14 : Kept No w w4 := HK1.out.trans k4 (fun _ h => h.elim)
    have hs := HK1.out.size
    refine ⟨?_, hs, (hsw.set i fr below).sp⟩
    have k5 : Kept (fun k => k = w1.heap.size) w4 ((w4.setCell ⟨w1.heap.size, i * 2, none⟩ (.int .i64 fr)).setCell ⟨w1.heap.size, i * 2 + 1, none⟩ (.int .i64 below)) := Kept.setCell (Kept.setCell (Kept.refl (fun k => k = w1.heap.size) w4) (p := ⟨w1.heap.size, i * 2, none⟩) (Or.inl rfl) _) (p := ⟨w1.heap.size, i * 2 + 1, none⟩) (Or.inl rfl) _
    exact k14.trans k5 (fun k h => .inr (by omega))
  generalize (w4.setCell ⟨w1.heap.size, i * 2, none⟩ (.int .i64 fr)).setCell ⟨w1.heap.size, i * 2 + 1, none⟩ (.int .i64 below) = w5 at *
  have hs5 := HS.out.1.keep HT.out.1
  have hF5 : ∀ k, F k → k < w5.heap.size := fun k hk => by have := HS.out.2 k hk; have := HT.out.1.size; omega
  have htk := taken_any (cS := xs.length) w5 HV.out hs5 hF5 HT.out.2.2 (fun j hj => by
    unfold Rule.up
    by_cases e : j = i
    · rw [if_pos e, if_pos e]; omega
    · rw [if_neg e, if_neg e]; exact ⟨Nat.le_refl _, Nat.zero_le _⟩) (fun hk => by have := HS.out.2 _ hk; have := HT.out.2.1; omega)
  clear hs5 hF5 c0 c1 hfz hm HW
  go_wp2_with (go_at_call 31; refine htk.mono ?_; rintro e w6 ⟨g, rfl, hg6, hct, hk6⟩; have HK6 : Hid (w5.heap.size ≤ g ∧ Kept (fun k => k = w1.heap.size) w5 w6) := ⟨hg6, hk6⟩; have c6 := hct.at' i hin; rw [Rule.up_same, Rule.up_same] at c6; clear htk hg6 hk6 hct)
  go_ret2
  refine ⟨rfl, ?_⟩
  exact HT.out.1.trans HK6.out.2 (fun k h => .inr (by have := HT.out.2.1; omega))
end Go.Proofs.YtibmgpinfdcaoaaGreatDoor
