/-
  taken, whole.
-/
import Derived.Test.YthdmbikmjimmkaaGreatDoorOTaken
namespace Go.Proofs.YthdmbikmjimmkaaGreatDoor
open Go.RowKit Go.Shelf Plain
set_option linter.unusedVariables false
set_option maxRecDepth 100000

/-- a row of spans -/
structure Sp (w : World) (g n : Nat) (sf sb : Nat → Nat) : Prop where
  at' : ∀ i, i < n → w.cell? ⟨g, i * 2, none⟩ = some (.int .i64 (sf i)) ∧ w.cell? ⟨g, i * 2 + 1, none⟩ = some (.int .i64 (sb i))
  lt : g < w.heap.size
theorem Sp.keep {w w' : World} {g n : Nat} {sf sb : Nat → Nat} (h : Sp w g n sf sb) (hk : Kept No w w') : Sp w' g n sf sb :=
  ⟨fun i hi => ⟨hk.cell (h.at' i hi).1 (fun h => h), hk.cell (h.at' i hi).2 (fun h => h)⟩, Nat.lt_of_lt_of_le h.lt hk.size⟩
/-- a row of counts -/
structure Ct (w : World) (g n : Nat) (cv : Nat → Int) : Prop where
  at' : ∀ i, i < n → w.cell? ⟨g, i, none⟩ = some (.int .i64 (cv i))
  fz : ∀ i, w.frozen? ⟨g, i, none⟩ = false
  lt : g < w.heap.size
theorem Ct.keep {w w' : World} {g n : Nat} {cv : Nat → Int} (h : Ct w g n cv) (hk : Kept No w w') : Ct w' g n cv :=
  ⟨fun i hi => hk.cell (h.at' i hi) (fun h => h), fun i => by
    have e := hk.block g h.lt (fun h => h)
    have := h.fz i
    simp only [World.frozen?] at this ⊢
    rw [e]; exact this, Nat.lt_of_lt_of_le h.lt hk.size⟩
theorem Tryz.infoI3 : (Tryz.prog.info? 3).map (fun i => (i.zero, i.size, i.bytes)) = some (some (.int .i64 0), 1, 8) := by kernel_rfl
theorem make_ints (w : World) (n : Nat) (hn : n ≤ 32) : ∃ w1, (Instr.makeSlice 43 (.int .i64 n) (.int .i64 n)).run Tryz.prog w = .ok (.slice (some ⟨w.heap.size, 0, none⟩) n n) w1 ∧ Ct w1 w.heap.size n (fun _ => 0) ∧ Kept No w w1 ∧ w1.heap.size = w.heap.size + 1 := by
  obtain ⟨i0, hi, hz0, hz1, hz2⟩ := info_parts Tryz.infoI3
  have hr := run_make (P := Tryz.prog) w 43 3 i0 _ Tryz.underlying43 hi hz0 .i64 .i64 n n (by omega) (Int.le_refl _) (by rw [hz2]; omega) (by omega)
  simp only [Int.toNat_natCast] at hr
  rw [hz1, Nat.mul_one] at hr
  refine ⟨_, hr, ⟨fun i hi => ?_, fun i => ?_, by simp⟩, (Kept.refl No w).alloc _, by simp⟩
  · have hb := World.alloc_heap_new w (.cells (madeCells (Value.int .i64 0).cells n) 3)
    have e : (madeCells (Value.int .i64 0).cells n)[i]? = some (.int .i64 0) := by
      rw [show (Value.int .i64 0).cells = #[Value.int .i64 0] from rfl, ← Array.getElem?_toList, toList_madeCells_one, List.getElem?_replicate, if_pos hi]
    simp only [World.cell?]
    rw [hb]
    simpa using e
  · have hb := World.alloc_heap_new w (.cells (madeCells (Value.int .i64 0).cells n) 3)
    simp only [World.frozen?]
    rw [hb]
    rfl
theorem max_nat (x y : Nat) : ∃ z : Nat, max (x : Int) (y : Int) = (z : Int) ∧ x ≤ z ∧ y ≤ z ∧ (z = x ∨ z = y) := by
  by_cases h : x ≤ y
  · exact ⟨y, by omega, h, Nat.le_refl _, .inr rfl⟩
  · exact ⟨x, by omega, Nat.le_refl _, by omega, .inl rfl⟩
theorem min2_nat (H m : Nat) : ∃ z : Nat, min (2 * (H : Int)) (m : Int) = (z : Int) ∧ z ≤ 2 * H ∧ z ≤ m ∧ (z = 2 * H ∨ z = m) := by
  by_cases h : 2 * H ≤ m
  · exact ⟨2 * H, by omega, Nat.le_refl _, h, .inl rfl⟩
  · exact ⟨m, by omega, by omega, Nat.le_refl _, .inr rfl⟩

set_option maxHeartbeats 4000000 in
theorem taken_any {F : Nat → Prop} {a : Option Addr} {c cS : Nat} {xs : List Srv} {gS : Nat} {sf sb : Nat → Nat} (w : World) (hv : Vd xs) (h : Sv w F a xs.length c xs) (hF : ∀ k, F k → k < w.heap.size) (hsp : Sp w gS xs.length sf sb) (hs : ∀ i, i < xs.length → sf i ≤ sb i ∧ sb i ≤ 1099511627776) (hFg : ¬ F gS) :
    Calls Tryz.prog 74 #[.slice a xs.length c, .int .i64 (hyp xs), .slice (some ⟨gS, 0, none⟩) xs.length cS] w fun e w' => ∃ g, e = .returned (.slice (some ⟨g, 0, none⟩) xs.length xs.length) ∧ w.heap.size ≤ g ∧ Ct w' g xs.length (fun i => (Rule.cnt (Rule.occ (sys xs)) (i + 1) (sb i) : Int) - (Rule.cnt (Rule.occ (sys xs)) (i + 1) (sf i) : Int)) ∧ Kept (fun k => k = gS) w w' := by
  have hH1 := hv.hyp1
  have hH2 := hv.hyp2
  have hn := hv.num
  have HV : Hid (Vd xs) := hv
  have HS : Hid (Sv w F a xs.length c xs ∧ (∀ k, F k → k < w.heap.size) ∧ Sp w gS xs.length sf sb ∧ ∀ i, i < xs.length → sf i ≤ sb i ∧ sb i ≤ 1099511627776) := ⟨h, hF, hsp, hs⟩
  clear h hF hsp hs hv
  go_enter Tryz.func74, Tryz.ntmps74
  go_upto_region 1 with fail
  have k1 : Kept No w ((w.alloc (.cells #[.int .i64 (hyp xs)] 3)).alloc (.cells #[.slice (some ⟨gS, 0, none⟩) xs.length cS] 136)) := ((Kept.refl No w).alloc _).alloc _
  obtain ⟨q1, q2⟩ := heap_alloc2 (w := w) (o1 := .cells #[.int .i64 (hyp xs)] 3) (o2 := .cells #[.slice (some ⟨gS, 0, none⟩) xs.length cS] 136)
  have sz1 : ((w.alloc (.cells #[.int .i64 (hyp xs)] 3)).alloc (.cells #[.slice (some ⟨gS, 0, none⟩) xs.length cS] 136)).heap.size = w.heap.size + 2 := by simp
  have HK1 : Hid (Kept No w ((w.alloc (.cells #[.int .i64 (hyp xs)] 3)).alloc (.cells #[.slice (some ⟨gS, 0, none⟩) xs.length cS] 136)) ∧ ((w.alloc (.cells #[.int .i64 (hyp xs)] 3)).alloc (.cells #[.slice (some ⟨gS, 0, none⟩) xs.length cS] 136)).heap[w.heap.size]? = some (.cells #[.int .i64 (hyp xs)] 3) ∧ ((w.alloc (.cells #[.int .i64 (hyp xs)] 3)).alloc (.cells #[.slice (some ⟨gS, 0, none⟩) xs.length cS] 136)).heap[w.heap.size + 1]? = some (.cells #[.slice (some ⟨gS, 0, none⟩) xs.length cS] 136) ∧ ((w.alloc (.cells #[.int .i64 (hyp xs)] 3)).alloc (.cells #[.slice (some ⟨gS, 0, none⟩) xs.length cS] 136)).heap.size = w.heap.size + 2) := ⟨k1, q1, q2, sz1⟩
  clear k1 q1 q2 sz1
  generalize (w.alloc (.cells #[.int .i64 (hyp xs)] 3)).alloc (.cells #[.slice (some ⟨gS, 0, none⟩) xs.length cS] 136) = w1 at *
  obtain ⟨w2, hm, hct, k2, sz2⟩ := make_ints w1 xs.length hn
  have HK2 : Hid (Ct w2 w1.heap.size xs.length (fun _ => 0) ∧ Kept No w1 w2 ∧ w2.heap.size = w1.heap.size + 1) := ⟨hct, k2, sz2⟩
  clear hct k2 sz2
  go_upto_region 2 with fail
  have k3 : Kept No w2 (w2.alloc (.cells #[.slice (some ⟨w1.heap.size, 0, none⟩) xs.length xs.length] 43)) := (Kept.refl No w2).alloc _
  have b3 := World.alloc_heap_new w2 (.cells #[.slice (some ⟨w1.heap.size, 0, none⟩) xs.length xs.length] 43)
  have HT : Hid (TkB (w2.alloc (.cells #[.slice (some ⟨w1.heap.size, 0, none⟩) xs.length xs.length] 43)) xs.length (hyp xs) (w.heap.size + 1) gS cS w2.heap.size w1.heap.size xs.length w.heap.size sf sb (cvF (Rule.occ (sys xs)) (hyp xs) sf sb 0) ∧ Kept No w (w2.alloc (.cells #[.slice (some ⟨w1.heap.size, 0, none⟩) xs.length xs.length] 43)) ∧ w1.heap.size = w.heap.size + 2 ∧ w2.heap.size = w.heap.size + 3 ∧ gS < w.heap.size) := by
    obtain ⟨g1, g2, g3, g4⟩ := HS.out
    obtain ⟨a1, a2, a3, a4⟩ := HK1.out
    obtain ⟨e1, e2, e3⟩ := HK2.out
    have k13 : Kept No w1 (w2.alloc (.cells #[.slice (some ⟨w1.heap.size, 0, none⟩) xs.length xs.length] 43)) := e2.trans k3 (fun _ h => h.elim)
    have kw3 : Kept No w (w2.alloc (.cells #[.slice (some ⟨w1.heap.size, 0, none⟩) xs.length xs.length] 43)) := a1.trans k13 (fun _ h => h.elim)
    have hsp := g3.keep kw3
    have hct := e1.keep k3
    have hz : ∀ i, cvF (Rule.occ (sys xs)) (hyp xs) sf sb 0 i = 0 := fun i => by unfold cvF; rw [Rule.acc_zero, Rule.acc_zero]; rfl
    refine ⟨⟨k13.at' a3 (fun h => h), b3, k13.at' a2 (fun h => h), hsp.at', fun i hi => by rw [hz i]; exact hct.at' i hi, hct.fz, hsp.lt, hct.lt⟩, kw3, a4, by omega, g3.lt⟩
  clear k3 b3 HK1 HK2 hm
  generalize w2.alloc (.cells #[.slice (some ⟨w1.heap.size, 0, none⟩) xs.length xs.length] 43) = w3 at *
  have c5 := cell_box HT.out.1.b1
  go_wp2
  clear c5
  go_loopw [8, 16] (fun v x wr => ∃ k mb : Nat, k ≤ xs.length ∧ x = .int .i64 k ∧ v = .int .i64 mb ∧ mb ≤ 1099511627776 ∧ (∀ i, i < k → sb i ≤ mb) ∧ Kept No w3 wr) (fun _ x _ => xs.length - (intOf x).toNat)
  case atStart => exact ⟨0, 0, Nat.zero_le _, rfl, rfl, by omega, fun i hi => by omega, Kept.refl No w3⟩
  case round =>
    obtain ⟨k, mb, hk, rfl, rfl, hmb, hall, hkr⟩ := hrel
    by_cases hlt : k < xs.length
    · have hT := HT.out.1.keep hkr
      obtain ⟨s0, s1⟩ := hT.s k hlt
      obtain ⟨z, ez, z1, z2, z3⟩ := max_nat mb (sb k)
      have HR : Hid (Kept No w3 wr ∧ (∀ i, i < k → sb i ≤ mb) ∧ z ≤ 1099511627776) := ⟨hkr, hall, by have := (HS.out.2.2.2 k hlt).2; omega⟩
      clear hT hkr hall z3
      go_wp2
      go_roundw
      case rel =>
        obtain ⟨y1, y2, y3⟩ := HR.out
        exact ⟨k + 1, z, by omega, by go_num, rfl, y3, fun i hi => by
          by_cases e : i = k
          · subst e; exact z2
          · have := y2 i (by omega); omega, y1.alloc _⟩
      case measure => simp [intOf]; omega
    · have hke : k = xs.length := by omega
      subst hke
      obtain ⟨m, em, m1, m2, m3⟩ := min2_nat (hyp xs) mb
      have hT := HT.out.1.keep hkr
      have xH := cell_box hT.b3
      have HTR : Hid (TkB wr xs.length (hyp xs) (w.heap.size + 1) gS cS w2.heap.size w1.heap.size xs.length w.heap.size sf sb (cvF (Rule.occ (sys xs)) (hyp xs) sf sb 0) ∧ Kept No w wr ∧ ∀ i, i < xs.length → sb i ≤ mb) := ⟨hT, HT.out.2.1.trans hkr (fun _ h => h.elim), hall⟩
      clear hT hkr hall
      have hsr := HS.out.1.keep HTR.out.2.1
      have hFr : ∀ k, F k → k < wr.heap.size := fun k hk => by have := HS.out.2.1 k hk; have := HTR.out.2.1.size; omega
      have hgv := play_gives HV.out hsr hFr m (by omega)
      have kal : Kept No wr ((wr.alloc (.cells #[.slice a xs.length c] 22)).alloc (.cells #[.int .i64 m] 3)) := ((Kept.refl No wr).alloc _).alloc _
      have hszr := HTR.out.2.1.size
      have hsz4 := HT.out.2.2
      have hb2l := heap_lt HTR.out.1.b2
      have hcall := each_any (enters_of Tryz.func56 (by kernel_rfl) rfl) (enters_of Tryz.func82 (by kernel_rfl) rfl) hgv (Nat.le_refl _) (fun k hk => ⟨by rcases hk with hk | hk | hk; have := hFr k hk; simp; omega; subst hk; simp <;> omega; subst hk; simp <;> omega, rfl⟩) (Tk.hangs (Rule.occ (sys xs)) xs.length (hyp xs) (w.heap.size + 1) gS cS w2.heap.size w1.heap.size xs.length w.heap.size sf sb) hangs_false ⟨rfl, HTR.out.1.keep kal⟩ ?gs (taken1_does (fun u => Rule.occ_le (sys xs) u) hn hH1 hH2 m1 (fun i hi => by have := HS.out.2.2.2 i hi; omega) (by omega) (by omega) (by omega) (by omega))
      case gs =>
        intro k hk h5
        rcases hk with hk | hk | hk
        · have h6 := HS.out.2.1 k hk
          rcases h5 with e | e | e | e | e
          · omega
          · subst e; exact hFg hk
          · omega
          · omega
          · omega
        · rcases h5 with e | e | e | e | e <;> omega
        · rcases h5 with e | e | e | e | e <;> omega
      have HKA : Hid (Kept No wr ((wr.alloc (.cells #[.slice a xs.length c] 22)).alloc (.cells #[.int .i64 m] 3))) := kal
      have HALL : Hid (∀ (w5 : World) (S' : Nat → Prop), Tk (Rule.occ (sys xs)) xs.length (hyp xs) (w.heap.size + 1) gS cS w2.heap.size w1.heap.size xs.length w.heap.size sf sb m w5 S' → Ct w5 w1.heap.size xs.length (fun i => (Rule.cnt (Rule.occ (sys xs)) (i + 1) (sb i) : Int) - (Rule.cnt (Rule.occ (sys xs)) (i + 1) (sf i) : Int))) := fun w5 S' hT5 => by
        obtain ⟨_, hT5⟩ := hT5
        have hag : ∀ t, hyp xs ≤ t → Rule.occ (sys xs) (t + hyp xs) = Rule.occ (sys xs) t := fun t ht => Rule.again HV.out.bd.ok (fun i hi => HV.out.dvd i hi) t ht
        refine ⟨fun i hi => ?_, hT5.f, hT5.l2⟩
        have h1 := HTR.out.2.2 i hi
        have h2 := (HS.out.2.2.2 i hi).1
        have e1 := Rule.acc_all hH1 hag (i + 1) (sb i) m (by omega)
        have e2 := Rule.acc_all hH1 hag (i + 1) (sf i) m (by omega)
        have := hT5.c i hi
        unfold cvF at this
        rw [e1, e2] at this
        exact this
      have hp4 := play_any a xs.length c (m : Int) wr
      have HSZ : Hid (w1.heap.size = w.heap.size + 2 ∧ w2.heap.size = w.heap.size + 3 ∧ gS < w.heap.size ∧ w.heap.size ≤ wr.heap.size) := ⟨hsz4.1, hsz4.2.1, hsz4.2.2, hszr⟩
      clear hsr hFr hgv kal hszr hsz4 m3
      go_wp2_with (first
        | (go_at_call 34; refine hp4.mono ?_; rintro e w4 ⟨rfl, hw4⟩; have HW4 : Hid (w4 = (wr.alloc (.cells #[.slice a xs.length c] 22)).alloc (.cells #[.int .i64 m] 3)) := hw4; have hcall2 := hcall; rw [← HW4.out] at hcall2; clear hw4 hcall hp4)
        | (go_at_call 19; refine hcall2.mono ?_; rintro e w5 ⟨⟨v5, rfl⟩, S5, hk5, hm5, hor⟩; clear hcall2; have hT5 := or_false3 hor; have x5 := cell_box hT5.2.b2; have HF : Hid (Ct w5 w1.heap.size xs.length (fun i => (Rule.cnt (Rule.occ (sys xs)) (i + 1) (sb i) : Int) - (Rule.cnt (Rule.occ (sys xs)) (i + 1) (sf i) : Int)) ∧ Kept (Five (w.heap.size + 1) gS w2.heap.size w1.heap.size w.heap.size) w4 w5) := ⟨HALL.out _ _ hT5, hk5⟩; clear hk5 hm5 hor hT5))
      go_ret
      refine ⟨_, rfl, by have := HSZ.out.1; omega, HF.out.1, ?_⟩
      have k4 := HKA.out
      rw [← HW4.out] at k4
      have kw4 : Kept (fun k => k = gS) w w4 := (HTR.out.2.1.trans k4 (fun _ h => h.elim)).mono (fun _ h => h.elim)
      refine kw4.trans HF.out.2 (fun k h5 => ?_)
      obtain ⟨y1, y2, y3, y4⟩ := HSZ.out
      rcases h5 with e | e | e | e | e
      · exact .inr (by omega)
      · exact .inl e
      · exact .inr (by omega)
      · exact .inr (by omega)
      · exact .inr (by omega)
end Go.Proofs.YthdmbikmjimmkaaGreatDoor
