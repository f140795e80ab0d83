/-
  The closure that tells a channel.
-/
import Derived.Test.YtolmhoenjcinjaaGreatIPutI
import Derived.Test.YtolmhoenjcinjaaGreatIWide
import Derived.Test.YtolmhoenjcinjaaGreatITells
namespace Go.Proofs.YtolmhoenjcinjaaGreat
open Go.RowKit
set_option linter.unusedVariables false
set_option maxRecDepth 100000

theorem st_etaCh (s : St) : (s.1, s.2) = s := rfl
theorem ls_hid {w w' : World} {v : Value} {xs : List Int} {n : Nat} (hl : xs.length = n) (hok : okL I6 xs) (h : w'.ownsRow w.heap.size 2 1 v n (xs.map iv)) :
    ∃ a c, v = .slice a n c ∧ Hid (Ls 1 elI w' (fun g => v.ownBlock = some g) a n c xs ∧ ∀ g, v.ownBlock = some g → w.heap.size ≤ g ∧ g < w'.heap.size) := by
  subst hl
  obtain ⟨a, c, e, hL⟩ := Ls.of_owns h hok
  exact ⟨a, c, e, hL, fun g hg => h.lt g hg⟩
theorem tlCh_eq (s : St) (x : Ch) : tlCh s x = [x.ph, x.pe].foldl tlI (wp tlI ([x.kd, x.fr].foldl tlI s) x.dst) := by
  simp only [List.foldl_cons, List.foldl_nil]; rfl
theorem wp_take (s : St) (xs : List Int) : wp tlI s (xs.take 1048577) = wp tlI s xs := by
  by_cases h : xs.length ≤ 1048577
  · rw [List.take_of_length_le h]
  · unfold wp wl
    by_cases hs : s.2 ≠ 0
    · rw [if_pos hs, if_pos hs]
    · rw [if_neg hs, if_neg hs, if_pos (by rw [List.length_take]; omega), if_pos (by omega)]
set_option maxHeartbeats 8000000 in
theorem tellCh (F G : Nat → Prop) (p : Nat) (bs : List Nat) (e : Int) (a0 : Option Addr) (n0 c0 : Nat) (x : Ch) (w : World) (h : Wr w F p bs e) (hE : elCh w G [.int .i64 x.kd, .int .i64 x.fr, .slice a0 n0 c0, .int .i64 x.ph, .int .i64 x.pe] x) (hG : ∀ k, G k → ¬ F k ∧ k < w.heap.size) (hsz : bs.length ≤ 10000000000) :
    Calls Tryz.prog 54 #[.pointer (some ⟨p, 0, none⟩), .agg #[.int .i64 x.kd, .int .i64 x.fr, .slice a0 n0 c0, .int .i64 x.ph, .int .i64 x.pe]] w fun ex w' => ex = .returned (.tuple #[]) ∧ WrDid F p (tlCh (bs, e) x).1 (tlCh (bs, e) x).2 w w' := by
  have HW : Hid (Wr w F p bs e) := h
  have hflt : ∀ k, F k → k < w.heap.size := by obtain ⟨v, hv⟩ := h; exact hv.flt
  have HF : Hid (∀ k, F k → k < w.heap.size) := hflt
  have HG : Hid (∀ k, G k → ¬ F k ∧ k < w.heap.size) := hG
  obtain ⟨fin, hfin⟩ : ∃ fin, fin = tlCh (bs, e) x := ⟨_, rfl⟩
  have HFIN : Hid (fin = tlCh (bs, e) x) := hfin
  rw [← hfin]
  have hsl := hE.sl
  clear h hE hG hflt hfin
  obtain ⟨x_kd, x_fr, l_dst, x_ph, x_pe⟩ := x
  dsimp only at HFIN hsl ⊢
  obtain ⟨a0', n0', c0', hcs, hl0⟩ := hsl
  simp only [List.cons.injEq, Value.slice.injEq, and_true, true_and] at hcs
  obtain ⟨e0a, e0n, e0c⟩ := hcs
  subst e0a e0n e0c
  have HL0 : Hid (Ls 1 elI w G a0 n0 c0 l_dst) := hl0
  clear hl0
  have HK0 : Hid (Kept No w (w.alloc (.cells #[.int .i64 x_kd, .int .i64 x_fr, .slice a0 n0 c0, .int .i64 x_ph, .int .i64 x_pe] 68))) := (Kept.refl No w).alloc _
  have HB : Hid ((w.alloc (.cells #[.int .i64 x_kd, .int .i64 x_fr, .slice a0 n0 c0, .int .i64 x_ph, .int .i64 x_pe] 68)).heap[w.heap.size]? = some (.cells #[.int .i64 x_kd, .int .i64 x_fr, .slice a0 n0 c0, .int .i64 x_ph, .int .i64 x_pe] 68 (0, 0))) := heap_alloc_new w _
  go_enter Tryz.func54, Tryz.ntmps54
  go_upto_region 1 with fail
  generalize hW0 : (w.alloc (.cells #[.int .i64 x_kd, .int .i64 x_fr, .slice a0 n0 c0, .int .i64 x_ph, .int .i64 x_pe] 68)) = w0 at *
  have HW0 : Hid (WrDid F p bs e w0 w0) := WrDid.still (HW.out.kept HK0.out (fun _ _ h => h)) (Kept.refl _ _)
  have HS0 : Hid (bs.length ≤ 10000000000) := hsz
  clear hsz hW0
  obtain ⟨F0, hw0, hwe0⟩ := HW0.out
  have hb0 : w0.heap[w.heap.size]? = some (.cells #[.int .i64 x_kd, .int .i64 x_fr, .slice a0 n0 c0, .int .i64 x_ph, .int .i64 x_pe] 68 (0, 0)) := hwe0.1.at' HB.out (fun hf => Nat.lt_irrefl _ (HF.out _ hf))
  have hgf0 : ∀ k, G k → ¬ F0 k ∧ k < w0.heap.size := fun j hj => ⟨fun hf => by rcases hwe0.2 j hf with h1 | h1; exact (HG.out j hj).1 h1; have := (HG.out j hj).2; have := HK0.out.size; omega, by have := (HG.out j hj).2; have := HK0.out.size; have := hwe0.1.size; omega⟩
  have r0_0 : w0.cell? ⟨w.heap.size, 0, none⟩ = some (.int .i64 x_kd) := by simp [World.cell?, hb0]
  have r0_1 : w0.cell? ⟨w.heap.size, 1, none⟩ = some (.int .i64 x_fr) := by simp [World.cell?, hb0]
  have hlit0 := Zs.lit w0 3 [x_kd, x_fr] (by simp)
  have hk0 : Kept No w0 (w0.alloc (.cells #[.int .i64 x_kd, .int .i64 x_fr] 3)) := (Kept.refl No _).alloc _
  have hfl0 : ∀ k, F0 k → k < w0.heap.size := by obtain ⟨v, hv⟩ := hw0; exact hv.flt
  have cp := putNumbers_any F0 _ p bs e _ _ _ [x_kd, x_fr] (w0.alloc (.cells #[.int .i64 x_kd, .int .i64 x_fr] 3)) (hw0.kept hk0 (fun _ _ h => h)) hlit0 (fun k hk hf => by have := hfl0 k hf; omega) (by simp) (by have := HS0.out; omega)
  have HKL0 : Hid (Kept No w0 (w0.alloc (.cells #[.int .i64 x_kd, .int .i64 x_fr] 3))) := hk0
  have HWE0 : Hid (Went F w0 w0 F0) := hwe0
  clear hb0 hw0 hwe0 hgf0 hlit0 hk0 hfl0
  go_upto_region 2 with (go_at_call 42; refine cp.mono ?_; rintro ex w1 ⟨rfl, hd0⟩)
  obtain ⟨s1, hq1⟩ : ∃ s1, s1 = ([x_kd, x_fr].foldl tlI (bs, e)) := ⟨_, rfl⟩
  have HW1 : Hid (WrDid F p s1.1 s1.2 w0 w1) := by rw [hq1]; exact WrDid.trans F0 HWE0.out (hd0.ahead HKL0.out)
  have HS1 : Hid (s1.1.length ≤ 10000001000) := by have h1 := fold_flat tfI [x_kd, x_fr] (bs, e); simp only [List.length_cons, List.length_nil] at h1; have h2 := HS0.out; show s1.1.length ≤ _; rw [hq1]; omega
  have HQ1 : Hid (s1 = ([x_kd, x_fr].foldl tlI (bs, e))) := hq1
  clear hq1 cp hd0 r0_0 r0_1
  obtain ⟨F1, hw1, hwe1⟩ := HW1.out
  have hb1 : w1.heap[w.heap.size]? = some (.cells #[.int .i64 x_kd, .int .i64 x_fr, .slice a0 n0 c0, .int .i64 x_ph, .int .i64 x_pe] 68 (0, 0)) := hwe1.1.at' HB.out (fun hf => Nat.lt_irrefl _ (HF.out _ hf))
  have hgf1 : ∀ k, G k → ¬ F1 k ∧ k < w1.heap.size := fun j hj => ⟨fun hf => by rcases hwe1.2 j hf with h1 | h1; exact (HG.out j hj).1 h1; have := (HG.out j hj).2; have := HK0.out.size; omega, by have := (HG.out j hj).2; have := HK0.out.size; have := hwe1.1.size; omega⟩
  have r1 : w1.cell? ⟨w.heap.size, 2, none⟩ = some (.slice a0 n0 c0) := by simp [World.cell?, hb1]
  have hl1 : Ls 1 elI w1 G a0 n0 c0 l_dst := (HL0.out.kept HK0.out (fun _ _ h => h) (elI_kept HK0.out (fun _ _ h => h))).kept hwe1.1 (fun b hb => (HG.out b hb).1) (elI_kept hwe1.1 (fun b hb => (HG.out b hb).1))
  have cw := widened_any G a0 n0 c0 l_dst w1 hl1 (fun k hk => (hgf1 k hk).2)
  obtain ⟨lt, hlt⟩ : ∃ lt, lt = l_dst.take 1048577 := ⟨_, rfl⟩
  have HLT : Hid (lt = l_dst.take 1048577) := hlt
  rw [← hlt] at cw
  obtain ⟨ln, hln⟩ : ∃ ln, lt.length = ln := ⟨_, rfl⟩
  rw [hln] at cw
  have HLN : Hid (lt.length = ln) := hln
  have hI6 : okL I6 lt := fun z hz => hl1.all (fun _ _ h => h.2) z (List.mem_of_mem_take (by rw [← hlt]; exact hz))
  have HI6 : Hid (okL I6 lt) := hI6
  clear hI6 hlt hln
  have HR1 : Hid (Wr w1 F1 p s1.1 s1.2) := hw1
  have HGF1 : Hid (∀ k, F1 k → k < w1.heap.size) := by obtain ⟨v, hv⟩ := hw1; exact hv.flt
  have HWE1 : Hid (Went F w0 w1 F1) := hwe1
  clear hb1 hw1 hwe1 hgf1 hl1
  go_upto_region 3 with (first
    | (go_at_call 55; refine cw.mono ?_; rintro ex wv ⟨vv, rfl, hov, hkw1⟩; obtain ⟨av, cv, hvv, HLV⟩ := ls_hid HLN.out HI6.out hov; subst hvv; have cq := put_I F1 _ p s1.1 s1.2 av ln cv lt wv (HR1.out.kept hkw1 (fun _ _ h => h)) HLV.out.1 (fun k hk => ⟨fun hf => by have h1 := (HLV.out.2 k hk).1; have h2 := HGF1.out k hf; omega, (HLV.out.2 k hk).2⟩) (by have := HS1.out; omega); clear hov)
    | (go_at_call 43; refine cq.mono ?_; rintro ex w2 ⟨rfl, hd1⟩))
  obtain ⟨s2, hq2⟩ : ∃ s2, s2 = (wp tlI (s1.1, s1.2) lt) := ⟨_, rfl⟩
  have HW2 : Hid (WrDid F p s2.1 s2.2 w0 w2) := by rw [hq2]; exact WrDid.trans F1 HWE1.out (hd1.ahead hkw1)
  have HS2 : Hid (s2.1.length ≤ 10000002000) := by have h1 := (tfI.list).few (s1.1, s1.2) lt; dsimp only at h1; have h2 := HS1.out; show s2.1.length ≤ _; rw [hq2]; omega
  have HQ2 : Hid (s2 = (wp tlI (s1.1, s1.2) lt)) := hq2
  clear hq2 cq cw hd1 r1
  obtain ⟨F2, hw2, hwe2⟩ := HW2.out
  have hb2 : w2.heap[w.heap.size]? = some (.cells #[.int .i64 x_kd, .int .i64 x_fr, .slice a0 n0 c0, .int .i64 x_ph, .int .i64 x_pe] 68 (0, 0)) := hwe2.1.at' HB.out (fun hf => Nat.lt_irrefl _ (HF.out _ hf))
  have hgf2 : ∀ k, G k → ¬ F2 k ∧ k < w2.heap.size := fun j hj => ⟨fun hf => by rcases hwe2.2 j hf with h1 | h1; exact (HG.out j hj).1 h1; have := (HG.out j hj).2; have := HK0.out.size; omega, by have := (HG.out j hj).2; have := HK0.out.size; have := hwe2.1.size; omega⟩
  have r2_3 : w2.cell? ⟨w.heap.size, 3, none⟩ = some (.int .i64 x_ph) := by simp [World.cell?, hb2]
  have r2_4 : w2.cell? ⟨w.heap.size, 4, none⟩ = some (.int .i64 x_pe) := by simp [World.cell?, hb2]
  have hlit2 := Zs.lit w2 3 [x_ph, x_pe] (by simp)
  have hk2 : Kept No w2 (w2.alloc (.cells #[.int .i64 x_ph, .int .i64 x_pe] 3)) := (Kept.refl No _).alloc _
  have hfl2 : ∀ k, F2 k → k < w2.heap.size := by obtain ⟨v, hv⟩ := hw2; exact hv.flt
  have cp := putNumbers_any F2 _ p s2.1 s2.2 _ _ _ [x_ph, x_pe] (w2.alloc (.cells #[.int .i64 x_ph, .int .i64 x_pe] 3)) (hw2.kept hk2 (fun _ _ h => h)) hlit2 (fun k hk hf => by have := hfl2 k hf; omega) (by simp) (by have := HS2.out; omega)
  have HKL2 : Hid (Kept No w2 (w2.alloc (.cells #[.int .i64 x_ph, .int .i64 x_pe] 3))) := hk2
  have HWE2 : Hid (Went F w0 w2 F2) := hwe2
  clear hb2 hw2 hwe2 hgf2 hlit2 hk2 hfl2
  go_wp2_with (go_at_call 42; refine cp.mono ?_; rintro ex w3 ⟨rfl, hd2⟩)
  go_end0
  refine ⟨rfl, ?_⟩
  have hres := (WrDid.trans F2 HWE2.out (hd2.ahead HKL2.out)).ahead HK0.out
  rw [HFIN.out]
  rw [tlCh_eq]
  simp only [st_etaCh, HQ2.out, HQ1.out, HLT.out, wp_take] at hres
  exact hres

end Go.Proofs.YtolmhoenjcinjaaGreat
