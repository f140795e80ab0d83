/-
  The closure that tells a partition.
-/
import Derived.Test.YtolmhoenjcinjaaGreatIPutI
import Derived.Test.YtolmhoenjcinjaaGreatIPutB
import Derived.Test.YtolmhoenjcinjaaGreatIPutIns
import Derived.Test.YtolmhoenjcinjaaGreatIPuts
namespace Go.Proofs.YtolmhoenjcinjaaGreat
open Go.RowKit
set_option linter.unusedVariables false
set_option maxRecDepth 100000

theorem st_etaPn (s : St) : (s.1, s.2) = s := rfl
theorem tlPn_eq (s : St) (x : Pn) : tlPn s x = wp tlBf (wp tlB (wp tlSm ([x.h0, x.h1, x.h2, x.h3, x.h4, x.h5, x.h6, x.h7].foldl tlI ([x.ha].foldl tlI (wp tlPrc (wp tlIns (wp tlI ([x.wo, x.fi].foldl tlI ([x.pe, x.bu, x.off, x.pr].foldl tlI s)) x.init) x.code) x.procs))) x.sems) x.evs) x.bufs := by
  simp only [List.foldl_cons, List.foldl_nil]; rfl
set_option maxHeartbeats 1000000 in
theorem puts_Ins (F G : Nat → Prop) (p : Nat) (bs : List Nat) (e : Int) (a : Option Addr) (n c : Nat) (xs : List Ins) (w : World) (h : Wr w F p bs e) (hZ : Ls 5 elIns w G a n c xs) (hGF : ∀ k, G k → ¬ F k ∧ k < w.heap.size) (hsz : bs.length ≤ 100000000000) :
    Calls Tryz.prog 45 #[.pointer (some ⟨p, 0, none⟩), .slice a n c] w fun ex w' => ex = .returned (.tuple #[]) ∧ WrDid F p (wp tlIns (bs, e) xs).1 (wp tlIns (bs, e) xs).2 w w' := by
  have cc := put_Ins F G p bs e a n c xs w h hZ hGF hsz
  clear h hZ hGF
  go_enter Tryz.func45, Tryz.ntmps45
  go_wp2_with (go_at_call 88; refine cc.mono ?_; rintro ex w1 ⟨rfl, hd⟩)
  go_end0
  exact ⟨rfl, hd⟩

set_option maxHeartbeats 1000000 in
theorem puts_Prc (F G : Nat → Prop) (p : Nat) (bs : List Nat) (e : Int) (a : Option Addr) (n c : Nat) (xs : List Prc) (w : World) (h : Wr w F p bs e) (hZ : Ls 6 elPrc w G a n c xs) (hGF : ∀ k, G k → ¬ F k ∧ k < w.heap.size) (hsz : bs.length ≤ 100000000000) :
    Calls Tryz.prog 46 #[.pointer (some ⟨p, 0, none⟩), .slice a n c] w fun ex w' => ex = .returned (.tuple #[]) ∧ WrDid F p (wp tlPrc (bs, e) xs).1 (wp tlPrc (bs, e) xs).2 w w' := by
  have cc := put_Prc F G p bs e a n c xs w h hZ hGF hsz
  clear h hZ hGF
  go_enter Tryz.func46, Tryz.ntmps46
  go_wp2_with (go_at_call 91; refine cc.mono ?_; rintro ex w1 ⟨rfl, hd⟩)
  go_end0
  exact ⟨rfl, hd⟩

set_option maxHeartbeats 1000000 in
theorem puts_Sm (F G : Nat → Prop) (p : Nat) (bs : List Nat) (e : Int) (a : Option Addr) (n c : Nat) (xs : List Sm) (w : World) (h : Wr w F p bs e) (hZ : Ls 2 elSm w G a n c xs) (hGF : ∀ k, G k → ¬ F k ∧ k < w.heap.size) (hsz : bs.length ≤ 100000000000) :
    Calls Tryz.prog 47 #[.pointer (some ⟨p, 0, none⟩), .slice a n c] w fun ex w' => ex = .returned (.tuple #[]) ∧ WrDid F p (wp tlSm (bs, e) xs).1 (wp tlSm (bs, e) xs).2 w w' := by
  have cc := put_Sm F G p bs e a n c xs w h hZ hGF hsz
  clear h hZ hGF
  go_enter Tryz.func47, Tryz.ntmps47
  go_wp2_with (go_at_call 93; refine cc.mono ?_; rintro ex w1 ⟨rfl, hd⟩)
  go_end0
  exact ⟨rfl, hd⟩

set_option maxHeartbeats 1000000 in
theorem puts_Bf (F G : Nat → Prop) (p : Nat) (bs : List Nat) (e : Int) (a : Option Addr) (n c : Nat) (xs : List Bf) (w : World) (h : Wr w F p bs e) (hZ : Ls 2 elBf w G a n c xs) (hGF : ∀ k, G k → ¬ F k ∧ k < w.heap.size) (hsz : bs.length ≤ 100000000000) :
    Calls Tryz.prog 50 #[.pointer (some ⟨p, 0, none⟩), .slice a n c] w fun ex w' => ex = .returned (.tuple #[]) ∧ WrDid F p (wp tlBf (bs, e) xs).1 (wp tlBf (bs, e) xs).2 w w' := by
  have cc := put_Bf F G p bs e a n c xs w h hZ hGF hsz
  clear h hZ hGF
  go_enter Tryz.func50, Tryz.ntmps50
  go_wp2_with (go_at_call 97; refine cc.mono ?_; rintro ex w1 ⟨rfl, hd⟩)
  go_end0
  exact ⟨rfl, hd⟩

set_option maxHeartbeats 8000000 in
theorem tellPn (F G : Nat → Prop) (p : Nat) (bs : List Nat) (e : Int) (a0 : Option Addr) (n0 c0 : Nat) (a1 : Option Addr) (n1 c1 : Nat) (a2 : Option Addr) (n2 c2 : Nat) (a3 : Option Addr) (n3 c3 : Nat) (a4 : Option Addr) (n4 c4 : Nat) (a5 : Option Addr) (n5 c5 : Nat) (x : Pn) (w : World) (h : Wr w F p bs e) (hE : elPn w G [.int .i64 x.pe, .int .i64 x.bu, .int .i64 x.off, .int .i64 x.pr, .int .i64 x.wo, .int .i64 x.fi, .slice a0 n0 c0, .slice a1 n1 c1, .slice a2 n2 c2, .int .i64 x.ha, .int .i64 x.h0, .int .i64 x.h1, .int .i64 x.h2, .int .i64 x.h3, .int .i64 x.h4, .int .i64 x.h5, .int .i64 x.h6, .int .i64 x.h7, .slice a3 n3 c3, .slice a4 n4 c4, .slice a5 n5 c5] x) (hG : ∀ k, G k → ¬ F k ∧ k < w.heap.size) (hsz : bs.length ≤ 10000000000) :
    Calls Tryz.prog 41 #[.pointer (some ⟨p, 0, none⟩), .agg #[.int .i64 x.pe, .int .i64 x.bu, .int .i64 x.off, .int .i64 x.pr, .int .i64 x.wo, .int .i64 x.fi, .slice a0 n0 c0, .slice a1 n1 c1, .slice a2 n2 c2, .int .i64 x.ha, .int .i64 x.h0, .int .i64 x.h1, .int .i64 x.h2, .int .i64 x.h3, .int .i64 x.h4, .int .i64 x.h5, .int .i64 x.h6, .int .i64 x.h7, .slice a3 n3 c3, .slice a4 n4 c4, .slice a5 n5 c5]] w fun ex w' => ex = .returned (.tuple #[]) ∧ WrDid F p (tlPn (bs, e) x).1 (tlPn (bs, e) x).2 w w' := by
  have HW : Hid (Wr w F p bs e) := h
  have hflt : ∀ k, F k → k < w.heap.size := by obtain ⟨v, hv⟩ := h; exact hv.flt
  have HF : Hid (∀ k, F k → k < w.heap.size) := hflt
  have HG : Hid (∀ k, G k → ¬ F k ∧ k < w.heap.size) := hG
  obtain ⟨fin, hfin⟩ : ∃ fin, fin = tlPn (bs, e) x := ⟨_, rfl⟩
  have HFIN : Hid (fin = tlPn (bs, e) x) := hfin
  rw [← hfin]
  have hsl := hE.sl
  clear h hE hG hflt hfin
  obtain ⟨x_pe, x_bu, x_off, x_pr, x_wo, x_fi, l_init, l_code, l_procs, x_ha, x_h0, x_h1, x_h2, x_h3, x_h4, x_h5, x_h6, x_h7, l_sems, l_evs, l_bufs⟩ := x
  dsimp only at HFIN hsl ⊢
  obtain ⟨a0', n0', c0', a1', n1', c1', a2', n2', c2', a3', n3', c3', a4', n4', c4', a5', n5', c5', hcs, hl0, hl1, hl2, hl3, hl4, hl5⟩ := hsl
  simp only [List.cons.injEq, Value.slice.injEq, and_true, true_and] at hcs
  obtain ⟨⟨e0a, e0n, e0c⟩, ⟨e1a, e1n, e1c⟩, ⟨e2a, e2n, e2c⟩, ⟨e3a, e3n, e3c⟩, ⟨e4a, e4n, e4c⟩, ⟨e5a, e5n, e5c⟩⟩ := hcs
  subst e0a e0n e0c e1a e1n e1c e2a e2n e2c e3a e3n e3c e4a e4n e4c e5a e5n e5c
  have HL0 : Hid (Ls 1 elI w G a0 n0 c0 l_init) := hl0
  have HL1 : Hid (Ls 5 elIns w G a1 n1 c1 l_code) := hl1
  have HL2 : Hid (Ls 6 elPrc w G a2 n2 c2 l_procs) := hl2
  have HL3 : Hid (Ls 2 elSm w G a3 n3 c3 l_sems) := hl3
  have HL4 : Hid (Ls 1 elB w G a4 n4 c4 l_evs) := hl4
  have HL5 : Hid (Ls 2 elBf w G a5 n5 c5 l_bufs) := hl5
  clear hl0 hl1 hl2 hl3 hl4 hl5
  have HK0 : Hid (Kept No w (w.alloc (.cells #[.int .i64 x_pe, .int .i64 x_bu, .int .i64 x_off, .int .i64 x_pr, .int .i64 x_wo, .int .i64 x_fi, .slice a0 n0 c0, .slice a1 n1 c1, .slice a2 n2 c2, .int .i64 x_ha, .int .i64 x_h0, .int .i64 x_h1, .int .i64 x_h2, .int .i64 x_h3, .int .i64 x_h4, .int .i64 x_h5, .int .i64 x_h6, .int .i64 x_h7, .slice a3 n3 c3, .slice a4 n4 c4, .slice a5 n5 c5] 66))) := (Kept.refl No w).alloc _
  have HB : Hid ((w.alloc (.cells #[.int .i64 x_pe, .int .i64 x_bu, .int .i64 x_off, .int .i64 x_pr, .int .i64 x_wo, .int .i64 x_fi, .slice a0 n0 c0, .slice a1 n1 c1, .slice a2 n2 c2, .int .i64 x_ha, .int .i64 x_h0, .int .i64 x_h1, .int .i64 x_h2, .int .i64 x_h3, .int .i64 x_h4, .int .i64 x_h5, .int .i64 x_h6, .int .i64 x_h7, .slice a3 n3 c3, .slice a4 n4 c4, .slice a5 n5 c5] 66)).heap[w.heap.size]? = some (.cells #[.int .i64 x_pe, .int .i64 x_bu, .int .i64 x_off, .int .i64 x_pr, .int .i64 x_wo, .int .i64 x_fi, .slice a0 n0 c0, .slice a1 n1 c1, .slice a2 n2 c2, .int .i64 x_ha, .int .i64 x_h0, .int .i64 x_h1, .int .i64 x_h2, .int .i64 x_h3, .int .i64 x_h4, .int .i64 x_h5, .int .i64 x_h6, .int .i64 x_h7, .slice a3 n3 c3, .slice a4 n4 c4, .slice a5 n5 c5] 66 (0, 0))) := heap_alloc_new w _
  go_enter Tryz.func41, Tryz.ntmps41
  go_upto_region 1 with fail
  generalize hW0 : (w.alloc (.cells #[.int .i64 x_pe, .int .i64 x_bu, .int .i64 x_off, .int .i64 x_pr, .int .i64 x_wo, .int .i64 x_fi, .slice a0 n0 c0, .slice a1 n1 c1, .slice a2 n2 c2, .int .i64 x_ha, .int .i64 x_h0, .int .i64 x_h1, .int .i64 x_h2, .int .i64 x_h3, .int .i64 x_h4, .int .i64 x_h5, .int .i64 x_h6, .int .i64 x_h7, .slice a3 n3 c3, .slice a4 n4 c4, .slice a5 n5 c5] 66)) = w0 at *
  have HW0 : Hid (WrDid F p bs e w0 w0) := WrDid.still (HW.out.kept HK0.out (fun _ _ h => h)) (Kept.refl _ _)
  have HS0 : Hid (bs.length ≤ 10000000000) := hsz
  clear hsz hW0
  obtain ⟨F0, hw0, hwe0⟩ := HW0.out
  have hb0 : w0.heap[w.heap.size]? = some (.cells #[.int .i64 x_pe, .int .i64 x_bu, .int .i64 x_off, .int .i64 x_pr, .int .i64 x_wo, .int .i64 x_fi, .slice a0 n0 c0, .slice a1 n1 c1, .slice a2 n2 c2, .int .i64 x_ha, .int .i64 x_h0, .int .i64 x_h1, .int .i64 x_h2, .int .i64 x_h3, .int .i64 x_h4, .int .i64 x_h5, .int .i64 x_h6, .int .i64 x_h7, .slice a3 n3 c3, .slice a4 n4 c4, .slice a5 n5 c5] 66 (0, 0)) := hwe0.1.at' HB.out (fun hf => Nat.lt_irrefl _ (HF.out _ hf))
  have hgf0 : ∀ k, G k → ¬ F0 k ∧ k < w0.heap.size := fun j hj => ⟨fun hf => by rcases hwe0.2 j hf with h1 | h1; exact (HG.out j hj).1 h1; have := (HG.out j hj).2; have := HK0.out.size; omega, by have := (HG.out j hj).2; have := HK0.out.size; have := hwe0.1.size; omega⟩
  have r0_0 : w0.cell? ⟨w.heap.size, 0, none⟩ = some (.int .i64 x_pe) := by simp [World.cell?, hb0]
  have r0_1 : w0.cell? ⟨w.heap.size, 1, none⟩ = some (.int .i64 x_bu) := by simp [World.cell?, hb0]
  have r0_2 : w0.cell? ⟨w.heap.size, 2, none⟩ = some (.int .i64 x_off) := by simp [World.cell?, hb0]
  have r0_3 : w0.cell? ⟨w.heap.size, 3, none⟩ = some (.int .i64 x_pr) := by simp [World.cell?, hb0]
  have hlit0 := Zs.lit w0 3 [x_pe, x_bu, x_off, x_pr] (by simp)
  have hk0 : Kept No w0 (w0.alloc (.cells #[.int .i64 x_pe, .int .i64 x_bu, .int .i64 x_off, .int .i64 x_pr] 3)) := (Kept.refl No _).alloc _
  have hfl0 : ∀ k, F0 k → k < w0.heap.size := by obtain ⟨v, hv⟩ := hw0; exact hv.flt
  have cp := putNumbers_any F0 _ p bs e _ _ _ [x_pe, x_bu, x_off, x_pr] (w0.alloc (.cells #[.int .i64 x_pe, .int .i64 x_bu, .int .i64 x_off, .int .i64 x_pr] 3)) (hw0.kept hk0 (fun _ _ h => h)) hlit0 (fun k hk hf => by have := hfl0 k hf; omega) (by simp) (by have := HS0.out; omega)
  have HKL0 : Hid (Kept No w0 (w0.alloc (.cells #[.int .i64 x_pe, .int .i64 x_bu, .int .i64 x_off, .int .i64 x_pr] 3))) := hk0
  have HWE0 : Hid (Went F w0 w0 F0) := hwe0
  clear hb0 hw0 hwe0 hgf0 hlit0 hk0 hfl0
  go_upto_region 2 with (go_at_call 42; refine cp.mono ?_; rintro ex w1 ⟨rfl, hd0⟩)
  obtain ⟨s1, hq1⟩ : ∃ s1, s1 = ([x_pe, x_bu, x_off, x_pr].foldl tlI (bs, e)) := ⟨_, rfl⟩
  have HW1 : Hid (WrDid F p s1.1 s1.2 w0 w1) := by rw [hq1]; exact WrDid.trans F0 HWE0.out (hd0.ahead HKL0.out)
  have HS1 : Hid (s1.1.length ≤ 10000001000) := by have h1 := fold_flat tfI [x_pe, x_bu, x_off, x_pr] (bs, e); simp only [List.length_cons, List.length_nil] at h1; have h2 := HS0.out; show s1.1.length ≤ _; rw [hq1]; omega
  have HQ1 : Hid (s1 = ([x_pe, x_bu, x_off, x_pr].foldl tlI (bs, e))) := hq1
  clear hq1 cp hd0 r0_0 r0_1 r0_2 r0_3
  obtain ⟨F1, hw1, hwe1⟩ := HW1.out
  have hb1 : w1.heap[w.heap.size]? = some (.cells #[.int .i64 x_pe, .int .i64 x_bu, .int .i64 x_off, .int .i64 x_pr, .int .i64 x_wo, .int .i64 x_fi, .slice a0 n0 c0, .slice a1 n1 c1, .slice a2 n2 c2, .int .i64 x_ha, .int .i64 x_h0, .int .i64 x_h1, .int .i64 x_h2, .int .i64 x_h3, .int .i64 x_h4, .int .i64 x_h5, .int .i64 x_h6, .int .i64 x_h7, .slice a3 n3 c3, .slice a4 n4 c4, .slice a5 n5 c5] 66 (0, 0)) := hwe1.1.at' HB.out (fun hf => Nat.lt_irrefl _ (HF.out _ hf))
  have hgf1 : ∀ k, G k → ¬ F1 k ∧ k < w1.heap.size := fun j hj => ⟨fun hf => by rcases hwe1.2 j hf with h1 | h1; exact (HG.out j hj).1 h1; have := (HG.out j hj).2; have := HK0.out.size; omega, by have := (HG.out j hj).2; have := HK0.out.size; have := hwe1.1.size; omega⟩
  have r1_4 : w1.cell? ⟨w.heap.size, 4, none⟩ = some (.int .i64 x_wo) := by simp [World.cell?, hb1]
  have r1_5 : w1.cell? ⟨w.heap.size, 5, none⟩ = some (.int .i64 x_fi) := by simp [World.cell?, hb1]
  have hlit1 := Zs.lit w1 3 [x_wo, x_fi] (by simp)
  have hk1 : Kept No w1 (w1.alloc (.cells #[.int .i64 x_wo, .int .i64 x_fi] 3)) := (Kept.refl No _).alloc _
  have hfl1 : ∀ k, F1 k → k < w1.heap.size := by obtain ⟨v, hv⟩ := hw1; exact hv.flt
  have cp := putNumbers_any F1 _ p s1.1 s1.2 _ _ _ [x_wo, x_fi] (w1.alloc (.cells #[.int .i64 x_wo, .int .i64 x_fi] 3)) (hw1.kept hk1 (fun _ _ h => h)) hlit1 (fun k hk hf => by have := hfl1 k hf; omega) (by simp) (by have := HS1.out; omega)
  have HKL1 : Hid (Kept No w1 (w1.alloc (.cells #[.int .i64 x_wo, .int .i64 x_fi] 3))) := hk1
  have HWE1 : Hid (Went F w0 w1 F1) := hwe1
  clear hb1 hw1 hwe1 hgf1 hlit1 hk1 hfl1
  go_upto_region 3 with (go_at_call 42; refine cp.mono ?_; rintro ex w2 ⟨rfl, hd1⟩)
  obtain ⟨s2, hq2⟩ : ∃ s2, s2 = ([x_wo, x_fi].foldl tlI (s1.1, s1.2)) := ⟨_, rfl⟩
  have HW2 : Hid (WrDid F p s2.1 s2.2 w0 w2) := by rw [hq2]; exact WrDid.trans F1 HWE1.out (hd1.ahead HKL1.out)
  have HS2 : Hid (s2.1.length ≤ 10000002000) := by have h1 := fold_flat tfI [x_wo, x_fi] (s1.1, s1.2); simp only [List.length_cons, List.length_nil] at h1; have h2 := HS1.out; show s2.1.length ≤ _; rw [hq2]; omega
  have HQ2 : Hid (s2 = ([x_wo, x_fi].foldl tlI (s1.1, s1.2))) := hq2
  clear hq2 cp hd1 r1_4 r1_5
  obtain ⟨F2, hw2, hwe2⟩ := HW2.out
  have hb2 : w2.heap[w.heap.size]? = some (.cells #[.int .i64 x_pe, .int .i64 x_bu, .int .i64 x_off, .int .i64 x_pr, .int .i64 x_wo, .int .i64 x_fi, .slice a0 n0 c0, .slice a1 n1 c1, .slice a2 n2 c2, .int .i64 x_ha, .int .i64 x_h0, .int .i64 x_h1, .int .i64 x_h2, .int .i64 x_h3, .int .i64 x_h4, .int .i64 x_h5, .int .i64 x_h6, .int .i64 x_h7, .slice a3 n3 c3, .slice a4 n4 c4, .slice a5 n5 c5] 66 (0, 0)) := hwe2.1.at' HB.out (fun hf => Nat.lt_irrefl _ (HF.out _ hf))
  have hgf2 : ∀ k, G k → ¬ F2 k ∧ k < w2.heap.size := fun j hj => ⟨fun hf => by rcases hwe2.2 j hf with h1 | h1; exact (HG.out j hj).1 h1; have := (HG.out j hj).2; have := HK0.out.size; omega, by have := (HG.out j hj).2; have := HK0.out.size; have := hwe2.1.size; omega⟩
  have r2 : w2.cell? ⟨w.heap.size, 6, none⟩ = some (.slice a0 n0 c0) := by simp [World.cell?, hb2]
  have hl2 : Ls 1 elI w2 G a0 n0 c0 l_init := (HL0.out.kept HK0.out (fun _ _ h => h) (elI_kept HK0.out (fun _ _ h => h))).kept hwe2.1 (fun b hb => (HG.out b hb).1) (elI_kept hwe2.1 (fun b hb => (HG.out b hb).1))
  have cp := put_I F2 G p s2.1 s2.2 a0 n0 c0 l_init w2 hw2 hl2 hgf2 (by have := HS2.out; omega)
  have HWE2 : Hid (Went F w0 w2 F2) := hwe2
  clear hb2 hw2 hwe2 hgf2 hl2
  go_upto_region 4 with (go_at_call 43; refine cp.mono ?_; rintro ex w3 ⟨rfl, hd2⟩)
  obtain ⟨s3, hq3⟩ : ∃ s3, s3 = (wp tlI (s2.1, s2.2) l_init) := ⟨_, rfl⟩
  have HW3 : Hid (WrDid F p s3.1 s3.2 w0 w3) := by rw [hq3]; exact WrDid.trans F2 HWE2.out hd2
  have HS3 : Hid (s3.1.length ≤ 10000003000) := by have h1 := (tfI.list).few (s2.1, s2.2) l_init; dsimp only at h1; have h2 := HS2.out; show s3.1.length ≤ _; rw [hq3]; omega
  have HQ3 : Hid (s3 = (wp tlI (s2.1, s2.2) l_init)) := hq3
  clear hq3 cp hd2 r2
  obtain ⟨F3, hw3, hwe3⟩ := HW3.out
  have hb3 : w3.heap[w.heap.size]? = some (.cells #[.int .i64 x_pe, .int .i64 x_bu, .int .i64 x_off, .int .i64 x_pr, .int .i64 x_wo, .int .i64 x_fi, .slice a0 n0 c0, .slice a1 n1 c1, .slice a2 n2 c2, .int .i64 x_ha, .int .i64 x_h0, .int .i64 x_h1, .int .i64 x_h2, .int .i64 x_h3, .int .i64 x_h4, .int .i64 x_h5, .int .i64 x_h6, .int .i64 x_h7, .slice a3 n3 c3, .slice a4 n4 c4, .slice a5 n5 c5] 66 (0, 0)) := hwe3.1.at' HB.out (fun hf => Nat.lt_irrefl _ (HF.out _ hf))
  have hgf3 : ∀ k, G k → ¬ F3 k ∧ k < w3.heap.size := fun j hj => ⟨fun hf => by rcases hwe3.2 j hf with h1 | h1; exact (HG.out j hj).1 h1; have := (HG.out j hj).2; have := HK0.out.size; omega, by have := (HG.out j hj).2; have := HK0.out.size; have := hwe3.1.size; omega⟩
  have r3 : w3.cell? ⟨w.heap.size, 7, none⟩ = some (.slice a1 n1 c1) := by simp [World.cell?, hb3]
  have hl3 : Ls 5 elIns w3 G a1 n1 c1 l_code := (HL1.out.kept HK0.out (fun _ _ h => h) (elIns_kept HK0.out (fun _ _ h => h))).kept hwe3.1 (fun b hb => (HG.out b hb).1) (elIns_kept hwe3.1 (fun b hb => (HG.out b hb).1))
  have cp := puts_Ins F3 G p s3.1 s3.2 a1 n1 c1 l_code w3 hw3 hl3 hgf3 (by have := HS3.out; omega)
  have HWE3 : Hid (Went F w0 w3 F3) := hwe3
  clear hb3 hw3 hwe3 hgf3 hl3
  go_upto_region 5 with (go_at_call 45; refine cp.mono ?_; rintro ex w4 ⟨rfl, hd3⟩)
  obtain ⟨s4, hq4⟩ : ∃ s4, s4 = (wp tlIns (s3.1, s3.2) l_code) := ⟨_, rfl⟩
  have HW4 : Hid (WrDid F p s4.1 s4.2 w0 w4) := by rw [hq4]; exact WrDid.trans F3 HWE3.out hd3
  have HS4 : Hid (s4.1.length ≤ 10000004000) := by have h1 := (tfIns.list).few (s3.1, s3.2) l_code; dsimp only at h1; have h2 := HS3.out; show s4.1.length ≤ _; rw [hq4]; omega
  have HQ4 : Hid (s4 = (wp tlIns (s3.1, s3.2) l_code)) := hq4
  clear hq4 cp hd3 r3
  obtain ⟨F4, hw4, hwe4⟩ := HW4.out
  have hb4 : w4.heap[w.heap.size]? = some (.cells #[.int .i64 x_pe, .int .i64 x_bu, .int .i64 x_off, .int .i64 x_pr, .int .i64 x_wo, .int .i64 x_fi, .slice a0 n0 c0, .slice a1 n1 c1, .slice a2 n2 c2, .int .i64 x_ha, .int .i64 x_h0, .int .i64 x_h1, .int .i64 x_h2, .int .i64 x_h3, .int .i64 x_h4, .int .i64 x_h5, .int .i64 x_h6, .int .i64 x_h7, .slice a3 n3 c3, .slice a4 n4 c4, .slice a5 n5 c5] 66 (0, 0)) := hwe4.1.at' HB.out (fun hf => Nat.lt_irrefl _ (HF.out _ hf))
  have hgf4 : ∀ k, G k → ¬ F4 k ∧ k < w4.heap.size := fun j hj => ⟨fun hf => by rcases hwe4.2 j hf with h1 | h1; exact (HG.out j hj).1 h1; have := (HG.out j hj).2; have := HK0.out.size; omega, by have := (HG.out j hj).2; have := HK0.out.size; have := hwe4.1.size; omega⟩
  have r4 : w4.cell? ⟨w.heap.size, 8, none⟩ = some (.slice a2 n2 c2) := by simp [World.cell?, hb4]
  have hl4 : Ls 6 elPrc w4 G a2 n2 c2 l_procs := (HL2.out.kept HK0.out (fun _ _ h => h) (elPrc_kept HK0.out (fun _ _ h => h))).kept hwe4.1 (fun b hb => (HG.out b hb).1) (elPrc_kept hwe4.1 (fun b hb => (HG.out b hb).1))
  have cp := puts_Prc F4 G p s4.1 s4.2 a2 n2 c2 l_procs w4 hw4 hl4 hgf4 (by have := HS4.out; omega)
  have HWE4 : Hid (Went F w0 w4 F4) := hwe4
  clear hb4 hw4 hwe4 hgf4 hl4
  go_upto_region 6 with (go_at_call 46; refine cp.mono ?_; rintro ex w5 ⟨rfl, hd4⟩)
  obtain ⟨s5, hq5⟩ : ∃ s5, s5 = (wp tlPrc (s4.1, s4.2) l_procs) := ⟨_, rfl⟩
  have HW5 : Hid (WrDid F p s5.1 s5.2 w0 w5) := by rw [hq5]; exact WrDid.trans F4 HWE4.out hd4
  have HS5 : Hid (s5.1.length ≤ 10000005000) := by have h1 := (tfPrc.list).few (s4.1, s4.2) l_procs; dsimp only at h1; have h2 := HS4.out; show s5.1.length ≤ _; rw [hq5]; omega
  have HQ5 : Hid (s5 = (wp tlPrc (s4.1, s4.2) l_procs)) := hq5
  clear hq5 cp hd4 r4
  obtain ⟨F5, hw5, hwe5⟩ := HW5.out
  have hb5 : w5.heap[w.heap.size]? = some (.cells #[.int .i64 x_pe, .int .i64 x_bu, .int .i64 x_off, .int .i64 x_pr, .int .i64 x_wo, .int .i64 x_fi, .slice a0 n0 c0, .slice a1 n1 c1, .slice a2 n2 c2, .int .i64 x_ha, .int .i64 x_h0, .int .i64 x_h1, .int .i64 x_h2, .int .i64 x_h3, .int .i64 x_h4, .int .i64 x_h5, .int .i64 x_h6, .int .i64 x_h7, .slice a3 n3 c3, .slice a4 n4 c4, .slice a5 n5 c5] 66 (0, 0)) := hwe5.1.at' HB.out (fun hf => Nat.lt_irrefl _ (HF.out _ hf))
  have hgf5 : ∀ k, G k → ¬ F5 k ∧ k < w5.heap.size := fun j hj => ⟨fun hf => by rcases hwe5.2 j hf with h1 | h1; exact (HG.out j hj).1 h1; have := (HG.out j hj).2; have := HK0.out.size; omega, by have := (HG.out j hj).2; have := HK0.out.size; have := hwe5.1.size; omega⟩
  have r5_9 : w5.cell? ⟨w.heap.size, 9, none⟩ = some (.int .i64 x_ha) := by simp [World.cell?, hb5]
  have hlit5 := Zs.lit w5 3 [x_ha] (by simp)
  have hk5 : Kept No w5 (w5.alloc (.cells #[.int .i64 x_ha] 3)) := (Kept.refl No _).alloc _
  have hfl5 : ∀ k, F5 k → k < w5.heap.size := by obtain ⟨v, hv⟩ := hw5; exact hv.flt
  have cp := putNumbers_any F5 _ p s5.1 s5.2 _ _ _ [x_ha] (w5.alloc (.cells #[.int .i64 x_ha] 3)) (hw5.kept hk5 (fun _ _ h => h)) hlit5 (fun k hk hf => by have := hfl5 k hf; omega) (by simp) (by have := HS5.out; omega)
  have HKL5 : Hid (Kept No w5 (w5.alloc (.cells #[.int .i64 x_ha] 3))) := hk5
  have HWE5 : Hid (Went F w0 w5 F5) := hwe5
  clear hb5 hw5 hwe5 hgf5 hlit5 hk5 hfl5
  go_upto_region 7 with (go_at_call 42; refine cp.mono ?_; rintro ex w6 ⟨rfl, hd5⟩)
  obtain ⟨s6, hq6⟩ : ∃ s6, s6 = ([x_ha].foldl tlI (s5.1, s5.2)) := ⟨_, rfl⟩
  have HW6 : Hid (WrDid F p s6.1 s6.2 w0 w6) := by rw [hq6]; exact WrDid.trans F5 HWE5.out (hd5.ahead HKL5.out)
  have HS6 : Hid (s6.1.length ≤ 10000006000) := by have h1 := fold_flat tfI [x_ha] (s5.1, s5.2); simp only [List.length_cons, List.length_nil] at h1; have h2 := HS5.out; show s6.1.length ≤ _; rw [hq6]; omega
  have HQ6 : Hid (s6 = ([x_ha].foldl tlI (s5.1, s5.2))) := hq6
  clear hq6 cp hd5 r5_9
  obtain ⟨F6, hw6, hwe6⟩ := HW6.out
  have hb6 : w6.heap[w.heap.size]? = some (.cells #[.int .i64 x_pe, .int .i64 x_bu, .int .i64 x_off, .int .i64 x_pr, .int .i64 x_wo, .int .i64 x_fi, .slice a0 n0 c0, .slice a1 n1 c1, .slice a2 n2 c2, .int .i64 x_ha, .int .i64 x_h0, .int .i64 x_h1, .int .i64 x_h2, .int .i64 x_h3, .int .i64 x_h4, .int .i64 x_h5, .int .i64 x_h6, .int .i64 x_h7, .slice a3 n3 c3, .slice a4 n4 c4, .slice a5 n5 c5] 66 (0, 0)) := hwe6.1.at' HB.out (fun hf => Nat.lt_irrefl _ (HF.out _ hf))
  have hgf6 : ∀ k, G k → ¬ F6 k ∧ k < w6.heap.size := fun j hj => ⟨fun hf => by rcases hwe6.2 j hf with h1 | h1; exact (HG.out j hj).1 h1; have := (HG.out j hj).2; have := HK0.out.size; omega, by have := (HG.out j hj).2; have := HK0.out.size; have := hwe6.1.size; omega⟩
  have hz6 : Zs w6 (fun k => k = w.heap.size) (some ⟨w.heap.size, 10, none⟩) 8 8 [x_h0, x_h1, x_h2, x_h3, x_h4, x_h5, x_h6, x_h7] := by
    refine ⟨rfl, Nat.le_refl _, by omega, fun h => (by cases h), fun i hi => ⟨w.heap.size, 10, rfl, rfl, ?_⟩⟩
    unfold World.cell?
    simp only [hb6]
    match i, hi with
    | 0, _ => rfl
    | 1, _ => rfl
    | 2, _ => rfl
    | 3, _ => rfl
    | 4, _ => rfl
    | 5, _ => rfl
    | 6, _ => rfl
    | 7, _ => rfl
  have cp := putNumbers_any F6 _ p s6.1 s6.2 _ _ _ [x_h0, x_h1, x_h2, x_h3, x_h4, x_h5, x_h6, x_h7] w6 hw6 hz6 (fun k hk hf => by subst hk; rcases hwe6.2 _ hf with h1 | h1; exact Nat.lt_irrefl _ (HF.out _ h1); have := heap_lt HB.out; omega) (by simp) (by have := HS6.out; omega)
  have HWE6 : Hid (Went F w0 w6 F6) := hwe6
  clear hb6 hw6 hwe6 hgf6 hz6
  go_upto_region 8 with (go_at_call 42; refine cp.mono ?_; rintro ex w7 ⟨rfl, hd6⟩)
  obtain ⟨s7, hq7⟩ : ∃ s7, s7 = ([x_h0, x_h1, x_h2, x_h3, x_h4, x_h5, x_h6, x_h7].foldl tlI (s6.1, s6.2)) := ⟨_, rfl⟩
  have HW7 : Hid (WrDid F p s7.1 s7.2 w0 w7) := by rw [hq7]; exact WrDid.trans F6 HWE6.out hd6
  have HS7 : Hid (s7.1.length ≤ 10000007000) := by have h1 := fold_flat tfI [x_h0, x_h1, x_h2, x_h3, x_h4, x_h5, x_h6, x_h7] (s6.1, s6.2); simp only [List.length_cons, List.length_nil] at h1; have h2 := HS6.out; show s7.1.length ≤ _; rw [hq7]; omega
  have HQ7 : Hid (s7 = ([x_h0, x_h1, x_h2, x_h3, x_h4, x_h5, x_h6, x_h7].foldl tlI (s6.1, s6.2))) := hq7
  clear hq7 cp hd6 
  obtain ⟨F7, hw7, hwe7⟩ := HW7.out
  have hb7 : w7.heap[w.heap.size]? = some (.cells #[.int .i64 x_pe, .int .i64 x_bu, .int .i64 x_off, .int .i64 x_pr, .int .i64 x_wo, .int .i64 x_fi, .slice a0 n0 c0, .slice a1 n1 c1, .slice a2 n2 c2, .int .i64 x_ha, .int .i64 x_h0, .int .i64 x_h1, .int .i64 x_h2, .int .i64 x_h3, .int .i64 x_h4, .int .i64 x_h5, .int .i64 x_h6, .int .i64 x_h7, .slice a3 n3 c3, .slice a4 n4 c4, .slice a5 n5 c5] 66 (0, 0)) := hwe7.1.at' HB.out (fun hf => Nat.lt_irrefl _ (HF.out _ hf))
  have hgf7 : ∀ k, G k → ¬ F7 k ∧ k < w7.heap.size := fun j hj => ⟨fun hf => by rcases hwe7.2 j hf with h1 | h1; exact (HG.out j hj).1 h1; have := (HG.out j hj).2; have := HK0.out.size; omega, by have := (HG.out j hj).2; have := HK0.out.size; have := hwe7.1.size; omega⟩
  have r7 : w7.cell? ⟨w.heap.size, 18, none⟩ = some (.slice a3 n3 c3) := by simp [World.cell?, hb7]
  have hl7 : Ls 2 elSm w7 G a3 n3 c3 l_sems := (HL3.out.kept HK0.out (fun _ _ h => h) (elSm_kept HK0.out (fun _ _ h => h))).kept hwe7.1 (fun b hb => (HG.out b hb).1) (elSm_kept hwe7.1 (fun b hb => (HG.out b hb).1))
  have cp := puts_Sm F7 G p s7.1 s7.2 a3 n3 c3 l_sems w7 hw7 hl7 hgf7 (by have := HS7.out; omega)
  have HWE7 : Hid (Went F w0 w7 F7) := hwe7
  clear hb7 hw7 hwe7 hgf7 hl7
  go_upto_region 9 with (go_at_call 47; refine cp.mono ?_; rintro ex w8 ⟨rfl, hd7⟩)
  obtain ⟨s8, hq8⟩ : ∃ s8, s8 = (wp tlSm (s7.1, s7.2) l_sems) := ⟨_, rfl⟩
  have HW8 : Hid (WrDid F p s8.1 s8.2 w0 w8) := by rw [hq8]; exact WrDid.trans F7 HWE7.out hd7
  have HS8 : Hid (s8.1.length ≤ 10000008000) := by have h1 := (tfSm.list).few (s7.1, s7.2) l_sems; dsimp only at h1; have h2 := HS7.out; show s8.1.length ≤ _; rw [hq8]; omega
  have HQ8 : Hid (s8 = (wp tlSm (s7.1, s7.2) l_sems)) := hq8
  clear hq8 cp hd7 r7
  obtain ⟨F8, hw8, hwe8⟩ := HW8.out
  have hb8 : w8.heap[w.heap.size]? = some (.cells #[.int .i64 x_pe, .int .i64 x_bu, .int .i64 x_off, .int .i64 x_pr, .int .i64 x_wo, .int .i64 x_fi, .slice a0 n0 c0, .slice a1 n1 c1, .slice a2 n2 c2, .int .i64 x_ha, .int .i64 x_h0, .int .i64 x_h1, .int .i64 x_h2, .int .i64 x_h3, .int .i64 x_h4, .int .i64 x_h5, .int .i64 x_h6, .int .i64 x_h7, .slice a3 n3 c3, .slice a4 n4 c4, .slice a5 n5 c5] 66 (0, 0)) := hwe8.1.at' HB.out (fun hf => Nat.lt_irrefl _ (HF.out _ hf))
  have hgf8 : ∀ k, G k → ¬ F8 k ∧ k < w8.heap.size := fun j hj => ⟨fun hf => by rcases hwe8.2 j hf with h1 | h1; exact (HG.out j hj).1 h1; have := (HG.out j hj).2; have := HK0.out.size; omega, by have := (HG.out j hj).2; have := HK0.out.size; have := hwe8.1.size; omega⟩
  have r8 : w8.cell? ⟨w.heap.size, 19, none⟩ = some (.slice a4 n4 c4) := by simp [World.cell?, hb8]
  have hl8 : Ls 1 elB w8 G a4 n4 c4 l_evs := (HL4.out.kept HK0.out (fun _ _ h => h) (elB_kept HK0.out (fun _ _ h => h))).kept hwe8.1 (fun b hb => (HG.out b hb).1) (elB_kept hwe8.1 (fun b hb => (HG.out b hb).1))
  have cp := put_B F8 G p s8.1 s8.2 a4 n4 c4 l_evs w8 hw8 hl8 hgf8 (by have := HS8.out; omega)
  have HWE8 : Hid (Went F w0 w8 F8) := hwe8
  clear hb8 hw8 hwe8 hgf8 hl8
  go_upto_region 10 with (go_at_call 48; refine cp.mono ?_; rintro ex w9 ⟨rfl, hd8⟩)
  obtain ⟨s9, hq9⟩ : ∃ s9, s9 = (wp tlB (s8.1, s8.2) l_evs) := ⟨_, rfl⟩
  have HW9 : Hid (WrDid F p s9.1 s9.2 w0 w9) := by rw [hq9]; exact WrDid.trans F8 HWE8.out hd8
  have HS9 : Hid (s9.1.length ≤ 10000009000) := by have h1 := (tfB.list).few (s8.1, s8.2) l_evs; dsimp only at h1; have h2 := HS8.out; show s9.1.length ≤ _; rw [hq9]; omega
  have HQ9 : Hid (s9 = (wp tlB (s8.1, s8.2) l_evs)) := hq9
  clear hq9 cp hd8 r8
  obtain ⟨F9, hw9, hwe9⟩ := HW9.out
  have hb9 : w9.heap[w.heap.size]? = some (.cells #[.int .i64 x_pe, .int .i64 x_bu, .int .i64 x_off, .int .i64 x_pr, .int .i64 x_wo, .int .i64 x_fi, .slice a0 n0 c0, .slice a1 n1 c1, .slice a2 n2 c2, .int .i64 x_ha, .int .i64 x_h0, .int .i64 x_h1, .int .i64 x_h2, .int .i64 x_h3, .int .i64 x_h4, .int .i64 x_h5, .int .i64 x_h6, .int .i64 x_h7, .slice a3 n3 c3, .slice a4 n4 c4, .slice a5 n5 c5] 66 (0, 0)) := hwe9.1.at' HB.out (fun hf => Nat.lt_irrefl _ (HF.out _ hf))
  have hgf9 : ∀ k, G k → ¬ F9 k ∧ k < w9.heap.size := fun j hj => ⟨fun hf => by rcases hwe9.2 j hf with h1 | h1; exact (HG.out j hj).1 h1; have := (HG.out j hj).2; have := HK0.out.size; omega, by have := (HG.out j hj).2; have := HK0.out.size; have := hwe9.1.size; omega⟩
  have r9 : w9.cell? ⟨w.heap.size, 20, none⟩ = some (.slice a5 n5 c5) := by simp [World.cell?, hb9]
  have hl9 : Ls 2 elBf w9 G a5 n5 c5 l_bufs := (HL5.out.kept HK0.out (fun _ _ h => h) (elBf_kept HK0.out (fun _ _ h => h))).kept hwe9.1 (fun b hb => (HG.out b hb).1) (elBf_kept hwe9.1 (fun b hb => (HG.out b hb).1))
  have cp := puts_Bf F9 G p s9.1 s9.2 a5 n5 c5 l_bufs w9 hw9 hl9 hgf9 (by have := HS9.out; omega)
  have HWE9 : Hid (Went F w0 w9 F9) := hwe9
  clear hb9 hw9 hwe9 hgf9 hl9
  go_wp2_with (go_at_call 50; refine cp.mono ?_; rintro ex w10 ⟨rfl, hd9⟩)
  go_end0
  refine ⟨rfl, ?_⟩
  have hres := (WrDid.trans F9 HWE9.out hd9).ahead HK0.out
  rw [HFIN.out]
  rw [tlPn_eq]
  simp only [st_etaPn, HQ9.out, HQ8.out, HQ7.out, HQ6.out, HQ5.out, HQ4.out, HQ3.out, HQ2.out, HQ1.out] at hres
  exact hres

end Go.Proofs.YtolmhoenjcinjaaGreat
