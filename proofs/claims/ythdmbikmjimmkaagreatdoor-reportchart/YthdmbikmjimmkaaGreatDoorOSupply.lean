/-
  Supply: how many ticks of a span a partition occupies.
-/
import Derived.Test.YthdmbikmjimmkaaGreatDoorOTakAll
import Derived.Test.YthdmbikmjimmkaaGreatDoorGI
namespace Go.Proofs.YthdmbikmjimmkaaGreatDoor
open Go.RowKit Go.Shelf Plain
set_option linter.unusedVariables false
set_option maxRecDepth 100000

theorem isThere_yes (a : Option Addr) (n c p : Nat) (w : World) (h1 : 1 ≤ p) (h2 : p ≤ n) : Calls Tryz.prog 73 #[.slice a n c, .int .i64 p] w fun e w' => e = .returned (.bool true) ∧ w' = w := by
  have h1' : (1 : Int) ≤ p := by omega
  have h2' : (p : Int) ≤ n := by omega
  go_enter Tryz.func73, Tryz.ntmps73
  go_wp2
  go_ret
  exact ⟨by simp <;> omega, rfl⟩
theorem isSpan_yes (f b : Nat) (w : World) (h1 : f ≤ b) (h2 : b ≤ 1099511627776) : Calls Tryz.prog 18 #[.int .i64 f, .int .i64 b] w fun e w' => e = .returned (.bool true) ∧ w' = w := by
  have h0' : (0 : Int) ≤ f := by omega
  have h1' : (f : Int) ≤ b := by omega
  have h2' : (b : Int) ≤ 1099511627776 := by omega
  go_enter Tryz.func18, Tryz.ntmps18
  go_wp2
  go_ret
  exact ⟨by simp <;> omega, rfl⟩
theorem Tryz.infoSpn : (Tryz.prog.info? 64).map (fun i => (i.zero, i.size, i.bytes)) = some (some (.agg #[.int .i64 0, .int .i64 0]), 2, 16) := by kernel_rfl
/-- a made row of spans, that may be written -/
structure Sw (w : World) (g n : Nat) (sf sb : Nat → Nat) : Prop where
  sp : Sp w g n sf sb
  fz : ∀ i, w.frozen? ⟨g, i, none⟩ = false
theorem Sw.keep {w w' : World} {g n : Nat} {sf sb : Nat → Nat} (h : Sw w g n sf sb) (hk : Kept No w w') : Sw w' g n sf sb :=
  ⟨h.sp.keep hk, fun i => by
    have e := hk.block g h.sp.lt (fun h => h)
    have := h.fz i
    simp only [World.frozen?] at this ⊢
    rw [e]; exact this⟩
theorem Sw.set {w : World} {g n : Nat} {sf sb : Nat → Nat} (h : Sw w g n sf sb) (k u v : Nat) : Sw ((w.setCell ⟨g, k * 2, none⟩ (.int .i64 u)).setCell ⟨g, k * 2 + 1, none⟩ (.int .i64 v)) g n (Rule.up sf k u) (Rule.up sb k v) := by
  refine ⟨⟨fun i hi => ?_, by simpa [World.setCell] using h.sp.lt⟩, fun i => by rw [World.frozen?_setCell, World.frozen?_setCell]; exact h.fz i⟩
  obtain ⟨c0, c1⟩ := h.sp.at' i hi
  constructor
  · rw [cell_set (cell_set c0), if_neg (by omega)]
    by_cases e : i = k
    · subst e; rw [if_pos rfl, Rule.up_same]
    · rw [if_neg (by omega), Rule.up_other _ _ e]
  · rw [cell_set (cell_set c1)]
    by_cases e : i = k
    · subst e; rw [if_pos rfl, Rule.up_same]
    · rw [if_neg (by omega), if_neg (by omega), Rule.up_other _ _ e]
theorem make_spans (w : World) (n : Nat) (hn : n ≤ 32) : ∃ w1, (Instr.makeSlice 136 (.int .i64 n) (.int .i64 n)).run Tryz.prog w = .ok (.slice (some ⟨w.heap.size, 0, none⟩) n n) w1 ∧ Sw w1 w.heap.size n (fun _ => 0) (fun _ => 0) ∧ Kept No w w1 ∧ w1.heap.size = w.heap.size + 1 := by
  obtain ⟨i0, hi, hz0, hz1, hz2⟩ := info_parts Tryz.infoSpn
  have hr := run_make (P := Tryz.prog) w 136 64 i0 _ Tryz.underlying136 hi hz0 .i64 .i64 n n (by omega) (Int.le_refl _) (by rw [hz2]; omega) (by omega)
  simp only [Int.toNat_natCast] at hr
  rw [hz1] at hr
  have hb := World.alloc_heap_new w (.cells (madeCells (Value.agg #[.int .i64 0, .int .i64 0]).cells (n * 2)) 64)
  have e : ∀ i, i < n * 2 → (madeCells (Value.agg #[.int .i64 0, .int .i64 0]).cells (n * 2))[i]? = some (.int .i64 0) := fun i hi => by
    unfold madeCells
    rw [Array.getElem?_map, Array.getElem?_range, if_pos hi]
    have : i % 2 = 0 ∨ i % 2 = 1 := by omega
    show some (#[Value.int .i64 0, Value.int .i64 0][i % 2]!) = _
    rcases this with h | h <;> rw [h] <;> rfl
  have cell : ∀ i, i < n * 2 → (w.alloc (.cells (madeCells (Value.agg #[.int .i64 0, .int .i64 0]).cells (n * 2)) 64)).cell? ⟨w.heap.size, i, none⟩ = some (.int .i64 0) := fun i hi => by
    simp only [World.cell?]
    rw [hb]
    simpa using e i hi
  refine ⟨_, hr, ⟨⟨fun i hi => ⟨cell _ (by omega), cell _ (by omega)⟩, by simp⟩, fun i => ?_⟩, (Kept.refl No w).alloc _, by simp⟩
  simp only [World.frozen?]
  rw [hb]
  rfl

set_option maxHeartbeats 4000000 in
theorem supply_yes {F : Nat → Prop} {a : Option Addr} {c : Nat} {xs : List Srv} (p fr below : Nat) (w : World) (hg : Gl w) (h : Sv w F a xs.length c xs) (hF : ∀ k, F k → k < w.heap.size) (ht : timF xs xs.length = none) (hp1 : 1 ≤ p) (hp2 : p ≤ xs.length) (hfb : fr ≤ below) (hb : below ≤ 1099511627776) :
    Calls Tryz.prog 49 #[.slice a xs.length c, .int .i64 p, .int .i64 fr, .int .i64 below] w fun e w' => e = .returned (.tuple #[.int .i64 ((Rule.cnt (Rule.occ (sys xs)) p below : Int) - (Rule.cnt (Rule.occ (sys xs)) p fr : Int)), .int .i64 0]) ∧ Kept No w w' := by
  have hv := vd_of ht
  have hn := hv.num
  have hc := hyper_any F a xs.length c xs w hg h
  rw [(tim_yes ht).1, (tim_yes ht).2] at hc
  have ht1 := fun W => isThere_yes a xs.length c p W hp1 hp2
  have ht2 := fun W => isSpan_yes fr below W hfb hb
  have HS : Hid (Sv w F a xs.length c xs ∧ (∀ k, F k → k < w.heap.size)) := ⟨h, hF⟩
  have HV : Hid (Vd xs) := hv
  clear h hF hg ht hv
  obtain ⟨i, rfl⟩ : ∃ i, p = i + 1 := ⟨p - 1, by omega⟩
  have hin : i < xs.length := by omega
  go_enter Tryz.func49, Tryz.ntmps49
  go_upto_region 8 with (first
    | (go_at_call 4; refine hc.mono ?_; rintro e w1 ⟨rfl, hk1⟩; have HK1 : Hid (Kept No w w1) := hk1; clear hk1 hc)
    | (go_at_call 73; refine (ht1 _).mono ?_; rintro e w2 ⟨rfl, hw2⟩; obtain rfl := hw2.symm)
    | (go_at_call 18; refine (ht2 _).mono ?_; rintro e w3 ⟨rfl, hw3⟩; obtain rfl := hw3.symm))
  obtain ⟨w4, hm, hsw, k4, sz4⟩ := make_spans w1 xs.length hn
  have c0 := (hsw.sp.at' i hin).1
  have c1 := (hsw.sp.at' i hin).2
  have hfz := hsw.fz
  have eI : ((i : Int) + 1) - 1 = (i : Int) := by omega
  have HW : Hid (Sw w4 w1.heap.size xs.length (fun _ => 0) (fun _ => 0) ∧ Kept No w1 w4 ∧ w4.heap.size = w1.heap.size + 1) := ⟨hsw, k4, sz4⟩
  clear hsw k4 sz4
  go_upto_region 9 with fail
  go_upto_region 10 with fail
  have HT : Hid (Kept No w ((w4.setCell ⟨w1.heap.size, i * 2, none⟩ (.int .i64 fr)).setCell ⟨w1.heap.size, i * 2 + 1, none⟩ (.int .i64 below)) ∧ w.heap.size ≤ w1.heap.size ∧ Sp ((w4.setCell ⟨w1.heap.size, i * 2, none⟩ (.int .i64 fr)).setCell ⟨w1.heap.size, i * 2 + 1, none⟩ (.int .i64 below)) w1.heap.size xs.length (Rule.up (fun _ => 0) i fr) (Rule.up (fun _ => 0) i below)) := by
    obtain ⟨hsw, k4, sz4⟩ := HW.out
    have k14 : Kept No w w4 := HK1.out.trans k4 (fun _ h => h.elim)
    have hs := HK1.out.size
    refine ⟨?_, hs, (hsw.set i fr below).sp⟩
    have k5 : Kept (fun k => k = w1.heap.size) w4 ((w4.setCell ⟨w1.heap.size, i * 2, none⟩ (.int .i64 fr)).setCell ⟨w1.heap.size, i * 2 + 1, none⟩ (.int .i64 below)) := Kept.setCell (Kept.setCell (Kept.refl (fun k => k = w1.heap.size) w4) (p := ⟨w1.heap.size, i * 2, none⟩) (Or.inl rfl) _) (p := ⟨w1.heap.size, i * 2 + 1, none⟩) (Or.inl rfl) _
    exact k14.trans k5 (fun k h => .inr (by omega))
  generalize (w4.setCell ⟨w1.heap.size, i * 2, none⟩ (.int .i64 fr)).setCell ⟨w1.heap.size, i * 2 + 1, none⟩ (.int .i64 below) = w5 at *
  have hs5 := HS.out.1.keep HT.out.1
  have hF5 : ∀ k, F k → k < w5.heap.size := fun k hk => by have := HS.out.2 k hk; have := HT.out.1.size; omega
  have htk := taken_any (cS := xs.length) w5 HV.out hs5 hF5 HT.out.2.2 (fun j hj => by
    unfold Rule.up
    by_cases e : j = i
    · rw [if_pos e, if_pos e]; omega
    · rw [if_neg e, if_neg e]; exact ⟨Nat.le_refl _, Nat.zero_le _⟩) (fun hk => by have := HS.out.2 _ hk; have := HT.out.2.1; omega)
  clear hs5 hF5 c0 c1 hfz hm HW
  go_wp2_with (go_at_call 74; refine htk.mono ?_; rintro e w6 ⟨g, rfl, hg6, hct, hk6⟩; have HK6 : Hid (w5.heap.size ≤ g ∧ Kept (fun k => k = w1.heap.size) w5 w6) := ⟨hg6, hk6⟩; have c6 := hct.at' i hin; rw [Rule.up_same, Rule.up_same] at c6; clear htk hg6 hk6 hct)
  go_ret2
  refine ⟨rfl, ?_⟩
  exact HT.out.1.trans HK6.out.2 (fun k h => .inr (by have := HT.out.2.1; omega))
end Go.Proofs.YthdmbikmjimmkaaGreatDoor
