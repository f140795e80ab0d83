/-
  unchanged: an image that was lent is what it was, and the marks stand.
-/
import Derived.Test.YthebokkogeigoaaSUncP
namespace Go.Proofs.Ythebokkogeigoaa
open Go.RowKit
set_option linter.unusedVariables false
set_option linter.unusedSimpArgs false
set_option maxRecDepth 100000

set_option maxHeartbeats 16000000 in
theorem unchanged_yes {gp c3 B0 B1 B : Nat} {la : Option Addr} {n lc ga ca gl cl : Nat} {z1 z2 y1 d1 y2 d2 : Nat → Nat} {ps : Nat → Pr} (w : World) (hp : Pts w B0 (.slice (some ⟨gp, 0, none⟩) 3 c3) 3 z1 z2) (hl : w.ownsRow B1 30 6 (.slice la n lc) n (cat (fun i => pc (ps i)) n)) (hn : n ≤ 64) (hy : Le w B ga ca gl cl n ps y1 d1 y2 d2) :
    Calls Try.prog 39 #[.agg #[.slice (some ⟨ga, 0, none⟩) 3 ca, .slice (some ⟨gl, 0, none⟩) n cl, .slice none 0 0], .agg #[.slice (some ⟨gp, 0, none⟩) 3 c3, .slice la n lc, .slice none 0 0]] w fun r w' => r = .returned (.bool true) ∧ Kept No w w' := by
  have hpc := own_cap hp.own
  have hlc := own_cap hl
  have hca := own_cap hy.parts
  have hcl := own_cap hy.ports
  obtain ⟨w2, e2⟩ : ∃ w2, w2 = (w.alloc (.cells #[.slice (some ⟨ga, 0, none⟩) 3 ca, .slice (some ⟨gl, 0, none⟩) n cl, .slice none 0 0] 27)).alloc (.cells #[.slice (some ⟨gp, 0, none⟩) 3 c3, .slice la n lc, .slice none 0 0] 27) := ⟨_, rfl⟩
  have K2 : Kept No w w2 := by rw [e2]; exact ((Kept.refl No w).alloc _).alloc _
  have BY : w2.heap[w.heap.size]? = some (.cells #[.slice (some ⟨ga, 0, none⟩) 3 ca, .slice (some ⟨gl, 0, none⟩) n cl, .slice none 0 0] 27) := by rw [e2]; exact ((Kept.refl No _).alloc _).at' (alloc_new w _) (fun e => e)
  have BX : w2.heap[w.heap.size + 1]? = some (.cells #[.slice (some ⟨gp, 0, none⟩) 3 c3, .slice la n lc, .slice none 0 0] 27) := by
    have := alloc_new (w.alloc (.cells #[.slice (some ⟨ga, 0, none⟩) 3 ca, .slice (some ⟨gl, 0, none⟩) n cl, .slice none 0 0] 27)) (.cells #[.slice (some ⟨gp, 0, none⟩) 3 c3, .slice la n lc, .slice none 0 0] 27)
    rw [World.size_alloc] at this
    rw [e2]; exact this
  have Y0 : Hid (∀ W, Kept No w2 W → W.cell? ⟨w.heap.size, 0, none⟩ = some (.slice (some ⟨ga, 0, none⟩) 3 ca)) := fun W k => k.cell ((cell_blk BY 0).trans rfl) (fun e => e)
  have Y1 : Hid (∀ W, Kept No w2 W → W.cell? ⟨w.heap.size, 1, none⟩ = some (.slice (some ⟨gl, 0, none⟩) n cl)) := fun W k => k.cell ((cell_blk BY 1).trans rfl) (fun e => e)
  have X0 : Hid (∀ W, Kept No w2 W → W.cell? ⟨w.heap.size + 1, 0, none⟩ = some (.slice (some ⟨gp, 0, none⟩) 3 c3)) := fun W k => k.cell ((cell_blk BX 0).trans rfl) (fun e => e)
  have X1 : Hid (∀ W, Kept No w2 W → W.cell? ⟨w.heap.size + 1, 1, none⟩ = some (.slice la n lc)) := fun W k => k.cell ((cell_blk BX 1).trans rfl) (fun e => e)
  have MK : Hid (∀ W, Kept No w2 W → W.cell? ⟨ga, 3 * 21 + 4, none⟩ = some (.int .i64 (-77))) := fun W k => (K2.trans k (fun _ e => e.elim)).cell hy.mark (fun e => e)
  have MQK : Hid (∀ W, Kept No w2 W → W.cell? ⟨gl, n * 6 + 3, none⟩ = some (.int .i64 (-77))) := fun W k => (K2.trans k (fun _ e => e.elim)).cell hy.markQ (fun e => e)
  have HH := hid (And.intro (hp.keep K2) (And.intro (K2.owns hl (fun _ _ e => e)) (And.intro (hy.keep K2) K2)))
  clear hp hl hy K2 BX BY
  go_enter Try.func39, Try.ntmps39
  go_upto_region 1 with fail
  rw [← e2]
  clear e2
  refine wp_region_held_drew (S := fun W => Kept No w2 W) (by kernel_rfl) ((Kept.refl No w2).drew) (fun hS => ?_)
  refine d_take 0 9 rfl rfl (by kernel_rfl) (by kernel_rfl) (by kernel_rfl) (fun _ _ _ h => h) rfl (fun w' hw' => er_fI0 _ rfl w.heap.size 0 rfl) hS ?_
  simp only [Act.put, List.setIfInBounds_toArray, List.set_cons_zero, List.set_cons_succ]
  refine d_take 1 10 rfl rfl (by kernel_rfl) (by kernel_rfl) (by kernel_rfl) (fun _ _ _ h => h) rfl (fun w' hw' => er_ldA _ rfl w.heap.size 0 _ rfl (Y0.out w' hw')) hS ?_
  simp only [Act.put, List.setIfInBounds_toArray, List.set_cons_zero, List.set_cons_succ]
  refine d_take 2 11 rfl rfl (by kernel_rfl) (by kernel_rfl) (by kernel_rfl) (fun _ _ _ h => h) rfl (fun w' hw' => er_fI0 _ rfl (w.heap.size + 1) 0 rfl) hS ?_
  simp only [Act.put, List.setIfInBounds_toArray, List.set_cons_zero, List.set_cons_succ]
  refine d_take 3 12 rfl rfl (by kernel_rfl) (by kernel_rfl) (by kernel_rfl) (fun _ _ _ h => h) rfl (fun w' hw' => er_ldA _ rfl (w.heap.size + 1) 0 _ rfl (X0.out w' hw')) hS ?_
  simp only [Act.put, List.setIfInBounds_toArray, List.set_cons_zero, List.set_cons_succ]
  refine d_take 4 13 rfl rfl (by kernel_rfl) (by kernel_rfl) (by kernel_rfl) (fun _ _ _ h => h) rfl (fun w' hw' => er_len 23 _ rfl (some ⟨gp, 0, none⟩) 3 c3 rfl (by kernel_rfl)) hS ?_
  simp only [Act.put, List.setIfInBounds_toArray, List.set_cons_zero, List.set_cons_succ]
  refine d_take 5 14 rfl rfl (by kernel_rfl) (by kernel_rfl) (by kernel_rfl) (fun _ _ _ h => h) rfl (fun w' hw' => er_addN _ rfl 3 rfl (by decide)) hS ?_
  simp only [Act.put, List.setIfInBounds_toArray, List.set_cons_zero, List.set_cons_succ]
  refine d_take 6 15 rfl rfl (by kernel_rfl) (by kernel_rfl) (by kernel_rfl) (fun _ _ _ h => h) rfl (fun w' hw' => er_slA _ _ rfl ga 3 ca (3 + 1) rfl rfl hca.1) hS ?_
  simp only [Act.put, List.setIfInBounds_toArray, List.set_cons_zero, List.set_cons_succ]
  refine d_take 7 16 rfl rfl (by kernel_rfl) (by kernel_rfl) (by kernel_rfl) (fun _ _ _ h => h) rfl (fun w' hw' => er_fI0 _ rfl (w.heap.size + 1) 0 rfl) hS ?_
  simp only [Act.put, List.setIfInBounds_toArray, List.set_cons_zero, List.set_cons_succ]
  refine d_take 8 17 rfl rfl (by kernel_rfl) (by kernel_rfl) (by kernel_rfl) (fun _ _ _ h => h) rfl (fun w' hw' => er_ldA _ rfl (w.heap.size + 1) 0 _ rfl (X0.out w' hw')) hS ?_
  simp only [Act.put, List.setIfInBounds_toArray, List.set_cons_zero, List.set_cons_succ]
  refine d_take 9 18 rfl rfl (by kernel_rfl) (by kernel_rfl) (by kernel_rfl) (fun _ _ _ h => h) rfl (fun w' hw' => er_len 23 _ rfl (some ⟨gp, 0, none⟩) 3 c3 rfl (by kernel_rfl)) hS ?_
  simp only [Act.put, List.setIfInBounds_toArray, List.set_cons_zero, List.set_cons_succ]
  refine d_take 10 19 rfl rfl (by kernel_rfl) (by kernel_rfl) (by kernel_rfl) (fun _ _ _ h => h) rfl (fun w' hw' => er_ixA _ _ rfl ga 3 (3 + 1) ca rfl rfl (by decide) (by decide)) hS ?_
  simp only [Act.put, List.setIfInBounds_toArray, List.set_cons_zero, List.set_cons_succ]
  refine d_take 11 20 rfl rfl (by kernel_rfl) (by kernel_rfl) (by kernel_rfl) (fun _ _ _ h => h) rfl (fun w' hw' => er_fA1 _ rfl ga (3 * 21) rfl) hS ?_
  simp only [Act.put, List.setIfInBounds_toArray, List.set_cons_zero, List.set_cons_succ]
  refine d_take 12 21 rfl rfl (by kernel_rfl) (by kernel_rfl) (by kernel_rfl) (fun _ _ _ h => h) rfl (fun w' hw' => er_ldi _ rfl ga (3 * 21 + 4) (.int .i64 (-77)) rfl (MK.out w' hw')) hS ?_
  simp only [Act.put, List.setIfInBounds_toArray, List.set_cons_zero, List.set_cons_succ]
  refine d_take 13 22 rfl rfl (by kernel_rfl) (by kernel_rfl) (by kernel_rfl) (fun _ _ _ h => h) rfl (fun w' hw' => er_neqI _ _ rfl (-77) (-77) false rfl rfl (by decide)) hS ?_
  simp only [Act.put, List.setIfInBounds_toArray, List.set_cons_zero, List.set_cons_succ]
  refine d_take 14 23 rfl rfl (by kernel_rfl) (by kernel_rfl) (by kernel_rfl) (fun _ _ _ h => h) rfl (fun w' hw' => er_mv _ rfl (.bool false) rfl) hS ?_
  simp only [Act.put, List.setIfInBounds_toArray, List.set_cons_zero, List.set_cons_succ]
  refine d_take 15 24 rfl rfl (by kernel_rfl) (by kernel_rfl) (by kernel_rfl) (fun _ _ _ h => h) rfl (fun w' hw' => er_fI1 _ rfl w.heap.size 0 rfl) hS ?_
  simp only [Act.put, List.setIfInBounds_toArray, List.set_cons_zero, List.set_cons_succ]
  refine d_take 16 25 rfl rfl (by kernel_rfl) (by kernel_rfl) (by kernel_rfl) (fun _ _ _ h => h) rfl (fun w' hw' => er_ldQ _ rfl w.heap.size (0 + 1) _ rfl (Y1.out w' hw')) hS ?_
  simp only [Act.put, List.setIfInBounds_toArray, List.set_cons_zero, List.set_cons_succ]
  refine d_take 17 26 rfl rfl (by kernel_rfl) (by kernel_rfl) (by kernel_rfl) (fun _ _ _ h => h) rfl (fun w' hw' => er_fI1 _ rfl (w.heap.size + 1) 0 rfl) hS ?_
  simp only [Act.put, List.setIfInBounds_toArray, List.set_cons_zero, List.set_cons_succ]
  refine d_take 18 27 rfl rfl (by kernel_rfl) (by kernel_rfl) (by kernel_rfl) (fun _ _ _ h => h) rfl (fun w' hw' => er_ldQ _ rfl (w.heap.size + 1) (0 + 1) _ rfl (X1.out w' hw')) hS ?_
  simp only [Act.put, List.setIfInBounds_toArray, List.set_cons_zero, List.set_cons_succ]
  refine d_take 19 28 rfl rfl (by kernel_rfl) (by kernel_rfl) (by kernel_rfl) (fun _ _ _ h => h) rfl (fun w' hw' => er_len 24 _ rfl la n lc rfl (by kernel_rfl)) hS ?_
  simp only [Act.put, List.setIfInBounds_toArray, List.set_cons_zero, List.set_cons_succ]
  refine d_take 20 29 rfl rfl (by kernel_rfl) (by kernel_rfl) (by kernel_rfl) (fun _ _ _ h => h) rfl (fun w' hw' => er_addN _ rfl n rfl (by omega)) hS ?_
  simp only [Act.put, List.setIfInBounds_toArray, List.set_cons_zero, List.set_cons_succ]
  refine d_take 21 30 rfl rfl (by kernel_rfl) (by kernel_rfl) (by kernel_rfl) (fun _ _ _ h => h) rfl (fun w' hw' => er_slQ _ _ rfl gl n cl (n + 1) rfl rfl hcl.1) hS ?_
  simp only [Act.put, List.setIfInBounds_toArray, List.set_cons_zero, List.set_cons_succ]
  refine d_take 22 31 rfl rfl (by kernel_rfl) (by kernel_rfl) (by kernel_rfl) (fun _ _ _ h => h) rfl (fun w' hw' => er_fI1 _ rfl (w.heap.size + 1) 0 rfl) hS ?_
  simp only [Act.put, List.setIfInBounds_toArray, List.set_cons_zero, List.set_cons_succ]
  refine d_take 23 32 rfl rfl (by kernel_rfl) (by kernel_rfl) (by kernel_rfl) (fun _ _ _ h => h) rfl (fun w' hw' => er_ldQ _ rfl (w.heap.size + 1) (0 + 1) _ rfl (X1.out w' hw')) hS ?_
  simp only [Act.put, List.setIfInBounds_toArray, List.set_cons_zero, List.set_cons_succ]
  refine d_take 24 33 rfl rfl (by kernel_rfl) (by kernel_rfl) (by kernel_rfl) (fun _ _ _ h => h) rfl (fun w' hw' => er_len 24 _ rfl la n lc rfl (by kernel_rfl)) hS ?_
  simp only [Act.put, List.setIfInBounds_toArray, List.set_cons_zero, List.set_cons_succ]
  refine d_take 25 34 rfl rfl (by kernel_rfl) (by kernel_rfl) (by kernel_rfl) (fun _ _ _ h => h) rfl (fun w' hw' => er_ixQ _ _ rfl gl n (n + 1) cl rfl rfl (by omega) (by omega)) hS ?_
  simp only [Act.put, List.setIfInBounds_toArray, List.set_cons_zero, List.set_cons_succ]
  refine d_take 26 35 rfl rfl (by kernel_rfl) (by kernel_rfl) (by kernel_rfl) (fun _ _ _ h => h) rfl (fun w' hw' => er_fQ3 _ rfl gl (n * 6) rfl) hS ?_
  simp only [Act.put, List.setIfInBounds_toArray, List.set_cons_zero, List.set_cons_succ]
  refine d_take 27 36 rfl rfl (by kernel_rfl) (by kernel_rfl) (by kernel_rfl) (fun _ _ _ h => h) rfl (fun w' hw' => er_ldi _ rfl gl (n * 6 + 3) (.int .i64 (-77)) rfl (MQK.out w' hw')) hS ?_
  simp only [Act.put, List.setIfInBounds_toArray, List.set_cons_zero, List.set_cons_succ]
  refine d_take 28 37 rfl rfl (by kernel_rfl) (by kernel_rfl) (by kernel_rfl) (fun _ _ _ h => h) rfl (fun w' hw' => er_neqI _ _ rfl (-77) (-77) false rfl rfl (by decide)) hS ?_
  simp only [Act.put, List.setIfInBounds_toArray, List.set_cons_zero, List.set_cons_succ]
  refine d_take 29 38 rfl rfl (by kernel_rfl) (by kernel_rfl) (by kernel_rfl) (fun _ _ _ h => h) rfl (fun w' hw' => er_pk _ _ _ rfl false (.bool false) rfl rfl) hS ?_
  simp only [Act.put, List.setIfInBounds_toArray, List.set_cons_zero, List.set_cons_succ]
  refine wpAnyH_done (by kernel_rfl) ?_ _
  go_upto_region 3 with fail
  go_wp2
  clear hS
  go_loopw [5] (fun u5 wr => ∃ (k : Nat), k ≤ n ∧ u5 = .int .i64 k ∧ Kept No w2 wr) (fun u5 _ => n - (intOf u5).toNat)
  case atStart => exact ⟨0, by omega, rfl, (Kept.refl No w2).drew⟩
  case round =>
    obtain ⟨k, hk, rfl, kr⟩ := hrel
    have x1 := X1.out _ kr
    have KR := hid kr
    clear kr
    by_cases hlt : k < n
    · have hltz : (k : Int) < (n : Int) := by omega
      obtain ⟨gx, rfl⟩ : ∃ gx, la = some ⟨gx, 0, none⟩ := by
        rcases HH.out.2.1.2 with ⟨h2, h3⟩ | ⟨g, cap, cur, h2, _⟩
        · omega
        · injection h2 with h4 _ _; exact ⟨g, h4⟩
      have LY : Hid (∀ W, Kept No w2 W → (Instr.loadAt 30 (.pointer (some ⟨gl, k * 6, none⟩))).run Try.prog W = .ok (.agg (pc (ps k)).toArray) W) := fun W kW => ldSt 30 _ _ (fun j v hv => kW.cell (HH.out.2.2.1.port hlt j v hv) (fun e => e)) Try.underlying30 rfl Try.infoQ6
      have LX : Hid (∀ W, Kept No w2 W → (Instr.loadAt 30 (.pointer (some ⟨gx, k * 6, none⟩))).run Try.prog W = .ok (.agg (pc (ps k)).toArray) W) := fun W kW => ldSt 30 _ _ (fun j v hv => kW.cell (port_row HH.out.2.1 hlt j v hv) (fun e => e)) Try.underlying30 rfl Try.infoQ6
      go_upto_region 6 with fail
      refine wp_region_held_drew (S := fun W => Kept No w2 W) (by kernel_rfl) (KR.out.drew) (fun hS => ?_)
      refine d_take 0 46 rfl rfl (by kernel_rfl) (by kernel_rfl) (by kernel_rfl) (fun _ _ _ h => h) rfl (fun w' hw' => er_fI1 _ rfl w.heap.size 0 rfl) hS ?_
      simp only [Act.put, List.setIfInBounds_toArray, List.set_cons_zero, List.set_cons_succ]
      refine d_take 1 47 rfl rfl (by kernel_rfl) (by kernel_rfl) (by kernel_rfl) (fun _ _ _ h => h) rfl (fun w' hw' => er_ldQ _ rfl w.heap.size (0 + 1) _ rfl (Y1.out w' hw')) hS ?_
      simp only [Act.put, List.setIfInBounds_toArray, List.set_cons_zero, List.set_cons_succ]
      refine d_take 2 48 rfl rfl (by kernel_rfl) (by kernel_rfl) (by kernel_rfl) (fun _ _ _ h => h) rfl (fun w' hw' => er_mv _ rfl (.int .i64 k) rfl) hS ?_
      simp only [Act.put, List.setIfInBounds_toArray, List.set_cons_zero, List.set_cons_succ]
      refine d_take 3 49 rfl rfl (by kernel_rfl) (by kernel_rfl) (by kernel_rfl) (fun _ _ _ h => h) rfl (fun w' hw' => er_ixQ _ _ rfl gl k n cl rfl rfl hlt (by omega)) hS ?_
      simp only [Act.put, List.setIfInBounds_toArray, List.set_cons_zero, List.set_cons_succ]
      refine d_take 4 50 rfl rfl (by kernel_rfl) (by kernel_rfl) (by kernel_rfl) (fun _ _ _ h => h) rfl (fun w' hw' => er_ldX 30 _ rfl (.pointer (some ⟨gl, k * 6, none⟩)) (.agg (pc (ps k)).toArray) rfl (LY.out w' hw')) hS ?_
      simp only [Act.put, List.setIfInBounds_toArray, List.set_cons_zero, List.set_cons_succ]
      refine d_take 5 51 rfl rfl (by kernel_rfl) (by kernel_rfl) (by kernel_rfl) (fun _ _ _ h => h) rfl (fun w' hw' => er_fI1 _ rfl (w.heap.size + 1) 0 rfl) hS ?_
      simp only [Act.put, List.setIfInBounds_toArray, List.set_cons_zero, List.set_cons_succ]
      refine d_take 6 52 rfl rfl (by kernel_rfl) (by kernel_rfl) (by kernel_rfl) (fun _ _ _ h => h) rfl (fun w' hw' => er_ldQ _ rfl (w.heap.size + 1) (0 + 1) _ rfl (X1.out w' hw')) hS ?_
      simp only [Act.put, List.setIfInBounds_toArray, List.set_cons_zero, List.set_cons_succ]
      refine d_take 7 53 rfl rfl (by kernel_rfl) (by kernel_rfl) (by kernel_rfl) (fun _ _ _ h => h) rfl (fun w' hw' => er_mv _ rfl (.int .i64 k) rfl) hS ?_
      simp only [Act.put, List.setIfInBounds_toArray, List.set_cons_zero, List.set_cons_succ]
      refine d_take 8 54 rfl rfl (by kernel_rfl) (by kernel_rfl) (by kernel_rfl) (fun _ _ _ h => h) rfl (fun w' hw' => er_ixQ _ _ rfl gx k n lc rfl rfl hlt (by omega)) hS ?_
      simp only [Act.put, List.setIfInBounds_toArray, List.set_cons_zero, List.set_cons_succ]
      refine d_take 9 55 rfl rfl (by kernel_rfl) (by kernel_rfl) (by kernel_rfl) (fun _ _ _ h => h) rfl (fun w' hw' => er_ldX 30 _ rfl (.pointer (some ⟨gx, k * 6, none⟩)) (.agg (pc (ps k)).toArray) rfl (LX.out w' hw')) hS ?_
      simp only [Act.put, List.setIfInBounds_toArray, List.set_cons_zero, List.set_cons_succ]
      refine d_take 10 56 rfl rfl (by kernel_rfl) (by kernel_rfl) (by kernel_rfl) (fun _ _ _ h => h) rfl (fun w' hw' => er_neQ _ _ rfl (ps k) rfl rfl) hS ?_
      simp only [Act.put, List.setIfInBounds_toArray, List.set_cons_zero, List.set_cons_succ]
      refine wpAnyH_done (by kernel_rfl) ?_ _
      have KD := hid hS
      clear hS LY LX
      go_wp2
      refine ⟨⟨k + 1, by omega, by go_num, KD.out⟩, ?_⟩
      simp [intOf]; omega
    · have hltz : ¬ (k : Int) < (n : Int) := by omega
      obtain rfl : k = n := by omega
      go_upto_region 8 with fail
      go_wp2
      go_loopw [6] (fun u6 wr => ∃ (k : Nat), k ≤ 3 ∧ u6 = .int .i64 k ∧ Kept No w2 wr) (fun u6 _ => 3 - (intOf u6).toNat)
      case atStart => exact ⟨0, by omega, rfl, KR.out⟩
      case round =>
        clear x1 hlt hltz KR
        rename World => wv
        obtain ⟨i, hi, rfl, kr⟩ := hrel
        have x0 := X0.out _ kr
        have y0 := Y0.out _ kr
        by_cases hlt : i < 3
        · have hltz : (i : Int) < 3 := by omega
          have LD7 := hid (ldPart (A := PC i (z1 i) (z2 i)) (b := gp) (o := i * 21) (fun j v hv => kr.cell (HH.out.1.row hlt j v hv) (fun e => e)) rfl)
          have LD8 : Hid (∀ W, Kept No wv W → (Instr.loadAt 84 (.pointer (some ⟨ga, i * 21, none⟩))).run Try.prog W = .ok (.agg (PD i (y1 i) (d1 i) (y2 i) (d2 i))) W) := fun W kW => ldPart (fun j v hv => kW.cell (kr.cell (HH.out.2.2.1.row hlt j v hv) (fun e => e)) (fun e => e)) rfl
          have KR := hid kr
          have DC : Hid (2 ≤ d1 i ∧ 2 ≤ d2 i) := ⟨(own_cap (HH.out.2.2.1.code i hlt)).1, (own_cap (HH.out.2.2.1.proc i hlt)).1⟩
          clear kr hk hn
          go_upto_region 11 with fail
          go_cut [7] (fun x wd => ∃ pb, x = .pointer (some ⟨pb, 0, none⟩) ∧ wd.heap[pb]? = some (.cells (PC i (z1 i) (z2 i)) 84) ∧ Kept No wv wd)
          case first =>
            go_wp2_with (first
              | (refine l_take 68 rfl rfl (er_ldX 84 (.tmp 67) rfl (.pointer (some ⟨gp, i * 21, none⟩)) (.agg (PC i (z1 i) (z2 i))) rfl LD7.out) ?_)
              | (refine l_make 7 rfl rfl (er_alP rfl) ?_)
              | (refine wpList_store_row rfl 84 (.tmp 7) (.tmp 68) rfl wv.heap.size (PC i (z1 i) (z2 i)) rfl rfl _ Z21 (alloc_new wv _) Try.infoP21 rfl (PC_all _ _ _) ?_))
            go_meet
            exact ⟨wv.heap.size, rfl, setRow_heap _ _ Z21 _ _ (0, 0) (alloc_new wv _), ((Kept.refl No wv).alloc _).setRow (.inr (Nat.le_refl _)) _⟩
          case rest =>
          rename World => w11
          obtain ⟨p7, rfl, h7, k11⟩ := hcut
          have y0 := Y0.out _ (KR.out.trans k11 (fun _ e => e.elim))
          have L8 := hid (LD8.out _ k11)
          have H7 := hid (And.intro h7 k11)
          clear h7 k11 LD7 LD8
          go_upto_region 12 with fail
          go_cut [8] (fun x wd => ∃ pb, x = .pointer (some ⟨pb, 0, none⟩) ∧ wd.heap[pb]? = some (.cells (PD i (y1 i) (d1 i) (y2 i) (d2 i)) 84) ∧ Kept No w11 wd)
          case first =>
            go_wp2_with (first
              | (refine l_take 73 rfl rfl (er_ldX 84 (.tmp 72) rfl (.pointer (some ⟨ga, i * 21, none⟩)) (.agg (PD i (y1 i) (d1 i) (y2 i) (d2 i))) rfl L8.out) ?_)
              | (refine l_make 8 rfl rfl (er_alP rfl) ?_)
              | (refine wpList_store_row rfl 84 (.tmp 8) (.tmp 73) rfl w11.heap.size (PD i (y1 i) (d1 i) (y2 i) (d2 i)) rfl rfl _ Z21 (alloc_new w11 _) Try.infoP21 rfl (PD_all _ _ _ _ _) ?_))
            go_meet
            exact ⟨w11.heap.size, rfl, setRow_heap _ _ Z21 _ _ (0, 0) (alloc_new w11 _), ((Kept.refl No w11).alloc _).setRow (.inr (Nat.le_refl _)) _⟩
          case rest =>
          rename World => w12
          obtain ⟨p8, rfl, h8, k12⟩ := hcut
          have K12 : Kept No w2 w12 := (KR.out.trans H7.out.2 (fun _ e => e.elim)).trans k12 (fun _ e => e.elim)
          have H7b : Hid (w12.heap[p7]? = some (.cells (PC i (z1 i) (z2 i)) 84)) := k12.at' H7.out.1 (fun e => e)
          have H8b := hid h8
          have SV8 := hid (ldSt (w := w12) (b := p8) (o := 0) 72 _ #[.int .i64 8, .int .i64 1, .int .i64 (i : Int), .int .i64 ((i : Int) + 1)] (fun j v hv => by rw [Nat.zero_add]; match j, hv with
            | 0, hv => cases hv; exact (cell_blk H8b.out 0).trans rfl
            | 1, hv => cases hv; exact (cell_blk H8b.out 1).trans rfl
            | 2, hv => cases hv; exact (cell_blk H8b.out 2).trans rfl
            | 3, hv => cases hv; exact (cell_blk H8b.out 3).trans rfl) Try.underlying72 rfl Try.infoS4)
          have SV7 := hid (ldSt (w := w12) (b := p7) (o := 0) 72 _ #[.int .i64 8, .int .i64 1, .int .i64 (i : Int), .int .i64 ((i : Int) + 1)] (fun j v hv => by rw [Nat.zero_add]; match j, hv with
            | 0, hv => cases hv; exact (cell_blk H7b.out 0).trans rfl
            | 1, hv => cases hv; exact (cell_blk H7b.out 1).trans rfl
            | 2, hv => cases hv; exact (cell_blk H7b.out 2).trans rfl
            | 3, hv => cases hv; exact (cell_blk H7b.out 3).trans rfl) Try.underlying72 rfl Try.infoS4)
          have HV8 := hid (ldSt (w := w12) (b := p8) (o := 0 + 10) 79 _ H8 (fun j v hv => by rw [cell_blk H8b.out]; match j, hv with
            | 0, hv => exact hv
            | 1, hv => exact hv
            | 2, hv => exact hv
            | 3, hv => exact hv
            | 4, hv => exact hv
            | 5, hv => exact hv
            | 6, hv => exact hv
            | 7, hv => exact hv) Try.underlying79 rfl Try.infoH8)
          have HV7 := hid (ldSt (w := w12) (b := p7) (o := 0 + 10) 79 _ H8 (fun j v hv => by rw [cell_blk H7b.out]; match j, hv with
            | 0, hv => exact hv
            | 1, hv => exact hv
            | 2, hv => exact hv
            | 3, hv => exact hv
            | 4, hv => exact hv
            | 5, hv => exact hv
            | 6, hv => exact hv
            | 7, hv => exact hv) Try.underlying79 rfl Try.infoH8)
          have CI8 : Hid (∀ W, Kept No w12 W → (Instr.loadAt 74 (.pointer (some ⟨y1 i, 0 * 5, none⟩))).run Try.prog W = .ok (.agg ZI5) W) := fun W kW => ldSt 74 _ _ (fun j v hv => by
            rw [Nat.zero_mul, Nat.zero_add]
            exact kW.cell (K12.cell (own_cell (HH.out.2.2.1.code i hlt) (by rw [List.getElem?_append_left (List.getElem?_eq_some_iff.1 hv).1]; exact hv)) (fun e => e)) (fun e => e)) Try.underlying74 rfl Try.infoI5
          have CP8 : Hid (∀ W, Kept No w12 W → (Instr.loadAt 77 (.pointer (some ⟨y2 i, 0 * 6, none⟩))).run Try.prog W = .ok (.agg ZP6) W) := fun W kW => ldSt 77 _ _ (fun j v hv => by
            rw [Nat.zero_mul, Nat.zero_add]
            exact kW.cell (K12.cell (own_cell (HH.out.2.2.1.proc i hlt) (by rw [List.getElem?_append_left (List.getElem?_eq_some_iff.1 hv).1]; exact hv)) (fun e => e)) (fun e => e)) Try.underlying77 rfl Try.infoP6
          have CI7 : Hid (∀ W, Kept No w12 W → (Instr.loadAt 74 (.pointer (some ⟨z1 i, 0 * 5, none⟩))).run Try.prog W = .ok (.agg ZI5) W) := fun W kW => ldSt 74 _ _ (fun j v hv => by
            rw [Nat.zero_mul, Nat.zero_add]
            exact kW.cell (K12.cell (by rw [cell_blk (HH.out.1.code i hlt)]; simpa using hv) (fun e => e)) (fun e => e)) Try.underlying74 rfl Try.infoI5
          have CP7 : Hid (∀ W, Kept No w12 W → (Instr.loadAt 77 (.pointer (some ⟨z2 i, 0 * 6, none⟩))).run Try.prog W = .ok (.agg ZP6) W) := fun W kW => ldSt 77 _ _ (fun j v hv => by
            rw [Nat.zero_mul, Nat.zero_add]
            exact kW.cell (K12.cell (by rw [cell_blk (HH.out.1.proc i hlt)]; simpa using hv) (fun e => e)) (fun e => e)) Try.underlying77 rfl Try.infoP6
          have MKI : Hid (∀ W, Kept No w12 W → W.cell? ⟨y1 i, 1 * 5 + 4, none⟩ = some (.int .i32 (-77))) := fun W kW => kW.cell (K12.cell (own_cell (HH.out.2.2.1.code i hlt) rfl) (fun e => e)) (fun e => e)
          have MKP : Hid (∀ W, Kept No w12 W → W.cell? ⟨y2 i, 1 * 6, none⟩ = some (.int .i64 (-77))) := fun W kW => kW.cell (K12.cell (own_cell (HH.out.2.2.1.proc i hlt) rfl) (fun e => e)) (fun e => e)
          have KK := hid K12
          clear h8 k12 K12 H7 L8
          go_upto_region 13 with fail
          refine wp_region_lit ?_
          refine l_take 74 rfl rfl (er_fA0 _ rfl p8 0 rfl) ?_
          simp only [Act.put, List.setIfInBounds_toArray, List.set_cons_zero, List.set_cons_succ]
          refine l_take 75 rfl rfl (er_ldX 72 _ rfl (.pointer (some ⟨p8, 0, none⟩)) (.agg #[.int .i64 8, .int .i64 1, .int .i64 (i : Int), .int .i64 ((i : Int) + 1)]) rfl SV8.out) ?_
          simp only [Act.put, List.setIfInBounds_toArray, List.set_cons_zero, List.set_cons_succ]
          refine l_take 76 rfl rfl (er_fA0 _ rfl p7 0 rfl) ?_
          simp only [Act.put, List.setIfInBounds_toArray, List.set_cons_zero, List.set_cons_succ]
          refine l_take 77 rfl rfl (er_ldX 72 _ rfl (.pointer (some ⟨p7, 0, none⟩)) (.agg #[.int .i64 8, .int .i64 1, .int .i64 (i : Int), .int .i64 ((i : Int) + 1)]) rfl SV7.out) ?_
          simp only [Act.put, List.setIfInBounds_toArray, List.set_cons_zero, List.set_cons_succ]
          refine l_take 78 rfl rfl (er_neSv _ _ rfl 8 1 (i : Int) ((i : Int) + 1) rfl rfl) ?_
          simp only [Act.put, List.setIfInBounds_toArray, List.set_cons_zero, List.set_cons_succ]
          refine l_take 79 rfl rfl (er_mv _ rfl (.bool false) rfl) ?_
          simp only [Act.put, List.setIfInBounds_toArray, List.set_cons_zero, List.set_cons_succ]
          refine l_take 80 rfl rfl (er_fA1 _ rfl p8 0 rfl) ?_
          simp only [Act.put, List.setIfInBounds_toArray, List.set_cons_zero, List.set_cons_succ]
          refine l_take 81 rfl rfl (er_ldi _ rfl p8 (0 + 4) (.int .i64 0) rfl ((cell_blk H8b.out 4).trans rfl)) ?_
          simp only [Act.put, List.setIfInBounds_toArray, List.set_cons_zero, List.set_cons_succ]
          refine l_take 82 rfl rfl (er_fA1 _ rfl p7 0 rfl) ?_
          simp only [Act.put, List.setIfInBounds_toArray, List.set_cons_zero, List.set_cons_succ]
          refine l_take 83 rfl rfl (er_ldi _ rfl p7 (0 + 4) (.int .i64 0) rfl ((cell_blk H7b.out 4).trans rfl)) ?_
          simp only [Act.put, List.setIfInBounds_toArray, List.set_cons_zero, List.set_cons_succ]
          refine l_take 84 rfl rfl (er_neqI _ _ rfl 0 0 false rfl rfl (by decide)) ?_
          simp only [Act.put, List.setIfInBounds_toArray, List.set_cons_zero, List.set_cons_succ]
          refine l_take 85 rfl rfl (er_pk _ _ _ rfl false (.bool false) rfl rfl) ?_
          simp only [Act.put, List.setIfInBounds_toArray, List.set_cons_zero, List.set_cons_succ]
          refine l_take 86 rfl rfl (er_mv _ rfl (.bool false) rfl) ?_
          simp only [Act.put, List.setIfInBounds_toArray, List.set_cons_zero, List.set_cons_succ]
          refine l_take 87 rfl rfl (er_fA2 _ rfl p8 0 rfl) ?_
          simp only [Act.put, List.setIfInBounds_toArray, List.set_cons_zero, List.set_cons_succ]
          refine l_take 88 rfl rfl (er_ldi _ rfl p8 (0 + 5) (.int .i64 0) rfl ((cell_blk H8b.out 5).trans rfl)) ?_
          simp only [Act.put, List.setIfInBounds_toArray, List.set_cons_zero, List.set_cons_succ]
          refine l_take 89 rfl rfl (er_fA2 _ rfl p7 0 rfl) ?_
          simp only [Act.put, List.setIfInBounds_toArray, List.set_cons_zero, List.set_cons_succ]
          refine l_take 90 rfl rfl (er_ldi _ rfl p7 (0 + 5) (.int .i64 0) rfl ((cell_blk H7b.out 5).trans rfl)) ?_
          simp only [Act.put, List.setIfInBounds_toArray, List.set_cons_zero, List.set_cons_succ]
          refine l_take 91 rfl rfl (er_neqI _ _ rfl 0 0 false rfl rfl (by decide)) ?_
          simp only [Act.put, List.setIfInBounds_toArray, List.set_cons_zero, List.set_cons_succ]
          refine l_take 92 rfl rfl (er_pk _ _ _ rfl false (.bool false) rfl rfl) ?_
          simp only [Act.put, List.setIfInBounds_toArray, List.set_cons_zero, List.set_cons_succ]
          refine l_take 93 rfl rfl (er_mv _ rfl (.bool false) rfl) ?_
          simp only [Act.put, List.setIfInBounds_toArray, List.set_cons_zero, List.set_cons_succ]
          refine l_take 94 rfl rfl (er_fA6 _ rfl p8 0 rfl) ?_
          simp only [Act.put, List.setIfInBounds_toArray, List.set_cons_zero, List.set_cons_succ]
          refine l_take 95 rfl rfl (er_ldi _ rfl p8 (0 + 9) (.int .i64 0) rfl ((cell_blk H8b.out 9).trans rfl)) ?_
          simp only [Act.put, List.setIfInBounds_toArray, List.set_cons_zero, List.set_cons_succ]
          refine l_take 96 rfl rfl (er_fA6 _ rfl p7 0 rfl) ?_
          simp only [Act.put, List.setIfInBounds_toArray, List.set_cons_zero, List.set_cons_succ]
          refine l_take 97 rfl rfl (er_ldi _ rfl p7 (0 + 9) (.int .i64 0) rfl ((cell_blk H7b.out 9).trans rfl)) ?_
          simp only [Act.put, List.setIfInBounds_toArray, List.set_cons_zero, List.set_cons_succ]
          refine l_take 98 rfl rfl (er_neqI _ _ rfl 0 0 false rfl rfl (by decide)) ?_
          simp only [Act.put, List.setIfInBounds_toArray, List.set_cons_zero, List.set_cons_succ]
          refine l_take 99 rfl rfl (er_pk _ _ _ rfl false (.bool false) rfl rfl) ?_
          simp only [Act.put, List.setIfInBounds_toArray, List.set_cons_zero, List.set_cons_succ]
          refine l_take 100 rfl rfl (er_mv _ rfl (.bool false) rfl) ?_
          simp only [Act.put, List.setIfInBounds_toArray, List.set_cons_zero, List.set_cons_succ]
          refine l_take 101 rfl rfl (er_fA7 _ rfl p8 0 rfl) ?_
          simp only [Act.put, List.setIfInBounds_toArray, List.set_cons_zero, List.set_cons_succ]
          refine l_take 102 rfl rfl (er_ldX 79 _ rfl (.pointer (some ⟨p8, 0 + 10, none⟩)) (.agg H8) rfl HV8.out) ?_
          simp only [Act.put, List.setIfInBounds_toArray, List.set_cons_zero, List.set_cons_succ]
          refine l_take 103 rfl rfl (er_fA7 _ rfl p7 0 rfl) ?_
          simp only [Act.put, List.setIfInBounds_toArray, List.set_cons_zero, List.set_cons_succ]
          refine l_take 104 rfl rfl (er_ldX 79 _ rfl (.pointer (some ⟨p7, 0 + 10, none⟩)) (.agg H8) rfl HV7.out) ?_
          simp only [Act.put, List.setIfInBounds_toArray, List.set_cons_zero, List.set_cons_succ]
          refine l_take 105 rfl rfl (er_neG 79 _ _ rfl H8 rfl rfl (by kernel_rfl) (neH _)) ?_
          simp only [Act.put, List.setIfInBounds_toArray, List.set_cons_zero, List.set_cons_succ]
          refine l_take 106 rfl rfl (er_pk _ _ _ rfl false (.bool false) rfl rfl) ?_
          simp only [Act.put, List.setIfInBounds_toArray, List.set_cons_zero, List.set_cons_succ]
          refine l_take 107 rfl rfl (er_mv _ rfl (.bool false) rfl) ?_
          simp only [Act.put, List.setIfInBounds_toArray, List.set_cons_zero, List.set_cons_succ]
          refine l_take 108 rfl rfl (er_fA4 _ rfl p8 0 rfl) ?_
          simp only [Act.put, List.setIfInBounds_toArray, List.set_cons_zero, List.set_cons_succ]
          refine l_take 109 rfl rfl (er_ldI _ rfl p8 (0 + 7) (.slice (some ⟨y1 i, 0, none⟩) 1 (d1 i)) rfl ((cell_blk H8b.out 7).trans rfl)) ?_
          simp only [Act.put, List.setIfInBounds_toArray, List.set_cons_zero, List.set_cons_succ]
          refine l_take 110 rfl rfl (er_len 75 _ rfl (some ⟨y1 i, 0, none⟩) 1 (d1 i) rfl (by kernel_rfl)) ?_
          simp only [Act.put, List.setIfInBounds_toArray, List.set_cons_zero, List.set_cons_succ]
          refine l_take 111 rfl rfl (er_fA4 _ rfl p7 0 rfl) ?_
          simp only [Act.put, List.setIfInBounds_toArray, List.set_cons_zero, List.set_cons_succ]
          refine l_take 112 rfl rfl (er_ldI _ rfl p7 (0 + 7) (.slice (some ⟨z1 i, 0, none⟩) 1 1) rfl ((cell_blk H7b.out 7).trans rfl)) ?_
          simp only [Act.put, List.setIfInBounds_toArray, List.set_cons_zero, List.set_cons_succ]
          refine l_take 113 rfl rfl (er_len 75 _ rfl (some ⟨z1 i, 0, none⟩) 1 1 rfl (by kernel_rfl)) ?_
          simp only [Act.put, List.setIfInBounds_toArray, List.set_cons_zero, List.set_cons_succ]
          refine l_take 114 rfl rfl (er_neqI _ _ rfl ((1 : Nat) : Int) ((1 : Nat) : Int) false rfl rfl (by decide)) ?_
          simp only [Act.put, List.setIfInBounds_toArray, List.set_cons_zero, List.set_cons_succ]
          refine l_take 115 rfl rfl (er_pk _ _ _ rfl false (.bool false) rfl rfl) ?_
          simp only [Act.put, List.setIfInBounds_toArray, List.set_cons_zero, List.set_cons_succ]
          refine l_take 116 rfl rfl (er_mv _ rfl (.bool false) rfl) ?_
          simp only [Act.put, List.setIfInBounds_toArray, List.set_cons_zero, List.set_cons_succ]
          refine l_take 117 rfl rfl (er_fA5 _ rfl p8 0 rfl) ?_
          simp only [Act.put, List.setIfInBounds_toArray, List.set_cons_zero, List.set_cons_succ]
          refine l_take 118 rfl rfl (er_ldP _ rfl p8 (0 + 8) (.slice (some ⟨y2 i, 0, none⟩) 1 (d2 i)) rfl ((cell_blk H8b.out 8).trans rfl)) ?_
          simp only [Act.put, List.setIfInBounds_toArray, List.set_cons_zero, List.set_cons_succ]
          refine l_take 119 rfl rfl (er_len 78 _ rfl (some ⟨y2 i, 0, none⟩) 1 (d2 i) rfl (by kernel_rfl)) ?_
          simp only [Act.put, List.setIfInBounds_toArray, List.set_cons_zero, List.set_cons_succ]
          refine l_take 120 rfl rfl (er_fA5 _ rfl p7 0 rfl) ?_
          simp only [Act.put, List.setIfInBounds_toArray, List.set_cons_zero, List.set_cons_succ]
          refine l_take 121 rfl rfl (er_ldP _ rfl p7 (0 + 8) (.slice (some ⟨z2 i, 0, none⟩) 1 1) rfl ((cell_blk H7b.out 8).trans rfl)) ?_
          simp only [Act.put, List.setIfInBounds_toArray, List.set_cons_zero, List.set_cons_succ]
          refine l_take 122 rfl rfl (er_len 78 _ rfl (some ⟨z2 i, 0, none⟩) 1 1 rfl (by kernel_rfl)) ?_
          simp only [Act.put, List.setIfInBounds_toArray, List.set_cons_zero, List.set_cons_succ]
          refine l_take 123 rfl rfl (er_neqI _ _ rfl ((1 : Nat) : Int) ((1 : Nat) : Int) false rfl rfl (by decide)) ?_
          simp only [Act.put, List.setIfInBounds_toArray, List.set_cons_zero, List.set_cons_succ]
          refine l_take 124 rfl rfl (er_pk _ _ _ rfl false (.bool false) rfl rfl) ?_
          simp only [Act.put, List.setIfInBounds_toArray, List.set_cons_zero, List.set_cons_succ]
          go_upto_region 15 with fail
          refine wp_region_lit ?_
          refine l_take 125 rfl rfl (er_fA4 _ rfl p8 0 rfl) ?_
          simp only [Act.put, List.setIfInBounds_toArray, List.set_cons_zero, List.set_cons_succ]
          refine l_take 126 rfl rfl (er_ldI _ rfl p8 (0 + 7) (.slice (some ⟨y1 i, 0, none⟩) 1 (d1 i)) rfl ((cell_blk H8b.out 7).trans rfl)) ?_
          simp only [Act.put, List.setIfInBounds_toArray, List.set_cons_zero, List.set_cons_succ]
          refine l_take 127 rfl rfl (er_cap 75 _ rfl (some ⟨y1 i, 0, none⟩) 1 (d1 i) rfl (by kernel_rfl)) ?_
          simp only [Act.put, List.setIfInBounds_toArray, List.set_cons_zero, List.set_cons_succ]
          refine l_take 128 rfl rfl (er_lssI _ _ rfl (d1 i : Int) 2 false rfl rfl (decide_eq_false (by have := DC.out.1; omega))) ?_
          simp only [Act.put, List.setIfInBounds_toArray, List.set_cons_zero, List.set_cons_succ]
          refine l_take 129 rfl rfl (er_mv _ rfl (.bool false) rfl) ?_
          simp only [Act.put, List.setIfInBounds_toArray, List.set_cons_zero, List.set_cons_succ]
          refine l_take 130 rfl rfl (er_fA5 _ rfl p8 0 rfl) ?_
          simp only [Act.put, List.setIfInBounds_toArray, List.set_cons_zero, List.set_cons_succ]
          refine l_take 131 rfl rfl (er_ldP _ rfl p8 (0 + 8) (.slice (some ⟨y2 i, 0, none⟩) 1 (d2 i)) rfl ((cell_blk H8b.out 8).trans rfl)) ?_
          simp only [Act.put, List.setIfInBounds_toArray, List.set_cons_zero, List.set_cons_succ]
          refine l_take 132 rfl rfl (er_cap 78 _ rfl (some ⟨y2 i, 0, none⟩) 1 (d2 i) rfl (by kernel_rfl)) ?_
          simp only [Act.put, List.setIfInBounds_toArray, List.set_cons_zero, List.set_cons_succ]
          refine l_take 133 rfl rfl (er_lssI _ _ rfl (d2 i : Int) 2 false rfl rfl (decide_eq_false (by have := DC.out.2; omega))) ?_
          simp only [Act.put, List.setIfInBounds_toArray, List.set_cons_zero, List.set_cons_succ]
          refine l_take 134 rfl rfl (er_pk _ _ _ rfl false (.bool false) rfl rfl) ?_
          simp only [Act.put, List.setIfInBounds_toArray, List.set_cons_zero, List.set_cons_succ]
          go_upto_region 17 with fail
          refine wp_region_held_drew (S := fun W => Kept No w12 W) (by kernel_rfl) ((Kept.refl No w12).drew) (fun hS => ?_)
          refine d_take 0 135 rfl rfl (by kernel_rfl) (by kernel_rfl) (by kernel_rfl) (fun _ _ _ h => h) rfl (fun w' hw' => er_fA4 _ rfl p8 0 rfl) hS ?_
          simp only [Act.put, List.setIfInBounds_toArray, List.set_cons_zero, List.set_cons_succ]
          refine d_take 1 136 rfl rfl (by kernel_rfl) (by kernel_rfl) (by kernel_rfl) (fun _ _ _ h => h) rfl (fun w' hw' => er_ldI _ rfl p8 (0 + 7) (.slice (some ⟨y1 i, 0, none⟩) 1 (d1 i)) rfl (hw'.cell ((cell_blk H8b.out 7).trans rfl) (fun e => e))) hS ?_
          simp only [Act.put, List.setIfInBounds_toArray, List.set_cons_zero, List.set_cons_succ]
          refine d_take 2 137 rfl rfl (by kernel_rfl) (by kernel_rfl) (by kernel_rfl) (fun _ _ _ h => h) rfl (fun w' hw' => er_ixI _ _ rfl (y1 i) 0 1 (d1 i) rfl rfl (by decide) (by decide)) hS ?_
          simp only [Act.put, List.setIfInBounds_toArray, List.set_cons_zero, List.set_cons_succ]
          refine d_take 3 138 rfl rfl (by kernel_rfl) (by kernel_rfl) (by kernel_rfl) (fun _ _ _ h => h) rfl (fun w' hw' => er_ldX 74 _ rfl (.pointer (some ⟨y1 i, 0 * 5, none⟩)) (.agg ZI5) rfl (CI8.out w' hw')) hS ?_
          simp only [Act.put, List.setIfInBounds_toArray, List.set_cons_zero, List.set_cons_succ]
          refine d_take 4 139 rfl rfl (by kernel_rfl) (by kernel_rfl) (by kernel_rfl) (fun _ _ _ h => h) rfl (fun w' hw' => er_fA4 _ rfl p7 0 rfl) hS ?_
          simp only [Act.put, List.setIfInBounds_toArray, List.set_cons_zero, List.set_cons_succ]
          refine d_take 5 140 rfl rfl (by kernel_rfl) (by kernel_rfl) (by kernel_rfl) (fun _ _ _ h => h) rfl (fun w' hw' => er_ldI _ rfl p7 (0 + 7) (.slice (some ⟨z1 i, 0, none⟩) 1 1) rfl (hw'.cell ((cell_blk H7b.out 7).trans rfl) (fun e => e))) hS ?_
          simp only [Act.put, List.setIfInBounds_toArray, List.set_cons_zero, List.set_cons_succ]
          refine d_take 6 141 rfl rfl (by kernel_rfl) (by kernel_rfl) (by kernel_rfl) (fun _ _ _ h => h) rfl (fun w' hw' => er_ixI _ _ rfl (z1 i) 0 1 1 rfl rfl (by decide) (by decide)) hS ?_
          simp only [Act.put, List.setIfInBounds_toArray, List.set_cons_zero, List.set_cons_succ]
          refine d_take 7 142 rfl rfl (by kernel_rfl) (by kernel_rfl) (by kernel_rfl) (fun _ _ _ h => h) rfl (fun w' hw' => er_ldX 74 _ rfl (.pointer (some ⟨z1 i, 0 * 5, none⟩)) (.agg ZI5) rfl (CI7.out w' hw')) hS ?_
          simp only [Act.put, List.setIfInBounds_toArray, List.set_cons_zero, List.set_cons_succ]
          refine d_take 8 143 rfl rfl (by kernel_rfl) (by kernel_rfl) (by kernel_rfl) (fun _ _ _ h => h) rfl (fun w' hw' => er_neG 74 _ _ rfl ZI5 rfl rfl (by kernel_rfl) (neI _)) hS ?_
          simp only [Act.put, List.setIfInBounds_toArray, List.set_cons_zero, List.set_cons_succ]
          refine d_take 9 144 rfl rfl (by kernel_rfl) (by kernel_rfl) (by kernel_rfl) (fun _ _ _ h => h) rfl (fun w' hw' => er_mv _ rfl (.bool false) rfl) hS ?_
          simp only [Act.put, List.setIfInBounds_toArray, List.set_cons_zero, List.set_cons_succ]
          refine d_take 10 145 rfl rfl (by kernel_rfl) (by kernel_rfl) (by kernel_rfl) (fun _ _ _ h => h) rfl (fun w' hw' => er_fA5 _ rfl p8 0 rfl) hS ?_
          simp only [Act.put, List.setIfInBounds_toArray, List.set_cons_zero, List.set_cons_succ]
          refine d_take 11 146 rfl rfl (by kernel_rfl) (by kernel_rfl) (by kernel_rfl) (fun _ _ _ h => h) rfl (fun w' hw' => er_ldP _ rfl p8 (0 + 8) (.slice (some ⟨y2 i, 0, none⟩) 1 (d2 i)) rfl (hw'.cell ((cell_blk H8b.out 8).trans rfl) (fun e => e))) hS ?_
          simp only [Act.put, List.setIfInBounds_toArray, List.set_cons_zero, List.set_cons_succ]
          refine d_take 12 147 rfl rfl (by kernel_rfl) (by kernel_rfl) (by kernel_rfl) (fun _ _ _ h => h) rfl (fun w' hw' => er_ixP _ _ rfl (y2 i) 0 1 (d2 i) rfl rfl (by decide) (by decide)) hS ?_
          simp only [Act.put, List.setIfInBounds_toArray, List.set_cons_zero, List.set_cons_succ]
          refine d_take 13 148 rfl rfl (by kernel_rfl) (by kernel_rfl) (by kernel_rfl) (fun _ _ _ h => h) rfl (fun w' hw' => er_ldX 77 _ rfl (.pointer (some ⟨y2 i, 0 * 6, none⟩)) (.agg ZP6) rfl (CP8.out w' hw')) hS ?_
          simp only [Act.put, List.setIfInBounds_toArray, List.set_cons_zero, List.set_cons_succ]
          refine d_take 14 149 rfl rfl (by kernel_rfl) (by kernel_rfl) (by kernel_rfl) (fun _ _ _ h => h) rfl (fun w' hw' => er_fA5 _ rfl p7 0 rfl) hS ?_
          simp only [Act.put, List.setIfInBounds_toArray, List.set_cons_zero, List.set_cons_succ]
          refine d_take 15 150 rfl rfl (by kernel_rfl) (by kernel_rfl) (by kernel_rfl) (fun _ _ _ h => h) rfl (fun w' hw' => er_ldP _ rfl p7 (0 + 8) (.slice (some ⟨z2 i, 0, none⟩) 1 1) rfl (hw'.cell ((cell_blk H7b.out 8).trans rfl) (fun e => e))) hS ?_
          simp only [Act.put, List.setIfInBounds_toArray, List.set_cons_zero, List.set_cons_succ]
          refine d_take 16 151 rfl rfl (by kernel_rfl) (by kernel_rfl) (by kernel_rfl) (fun _ _ _ h => h) rfl (fun w' hw' => er_ixP _ _ rfl (z2 i) 0 1 1 rfl rfl (by decide) (by decide)) hS ?_
          simp only [Act.put, List.setIfInBounds_toArray, List.set_cons_zero, List.set_cons_succ]
          refine d_take 17 152 rfl rfl (by kernel_rfl) (by kernel_rfl) (by kernel_rfl) (fun _ _ _ h => h) rfl (fun w' hw' => er_ldX 77 _ rfl (.pointer (some ⟨z2 i, 0 * 6, none⟩)) (.agg ZP6) rfl (CP7.out w' hw')) hS ?_
          simp only [Act.put, List.setIfInBounds_toArray, List.set_cons_zero, List.set_cons_succ]
          refine d_take 18 153 rfl rfl (by kernel_rfl) (by kernel_rfl) (by kernel_rfl) (fun _ _ _ h => h) rfl (fun w' hw' => er_neG 77 _ _ rfl ZP6 rfl rfl (by kernel_rfl) (neP _)) hS ?_
          simp only [Act.put, List.setIfInBounds_toArray, List.set_cons_zero, List.set_cons_succ]
          refine d_take 19 154 rfl rfl (by kernel_rfl) (by kernel_rfl) (by kernel_rfl) (fun _ _ _ h => h) rfl (fun w' hw' => er_pk _ _ _ rfl false (.bool false) rfl rfl) hS ?_
          simp only [Act.put, List.setIfInBounds_toArray, List.set_cons_zero, List.set_cons_succ]
          refine d_take 20 155 rfl rfl (by kernel_rfl) (by kernel_rfl) (by kernel_rfl) (fun _ _ _ h => h) rfl (fun w' hw' => er_mv _ rfl (.bool false) rfl) hS ?_
          simp only [Act.put, List.setIfInBounds_toArray, List.set_cons_zero, List.set_cons_succ]
          refine d_take 21 156 rfl rfl (by kernel_rfl) (by kernel_rfl) (by kernel_rfl) (fun _ _ _ h => h) rfl (fun w' hw' => er_fA4 _ rfl p8 0 rfl) hS ?_
          simp only [Act.put, List.setIfInBounds_toArray, List.set_cons_zero, List.set_cons_succ]
          refine d_take 22 157 rfl rfl (by kernel_rfl) (by kernel_rfl) (by kernel_rfl) (fun _ _ _ h => h) rfl (fun w' hw' => er_ldI _ rfl p8 (0 + 7) (.slice (some ⟨y1 i, 0, none⟩) 1 (d1 i)) rfl (hw'.cell ((cell_blk H8b.out 7).trans rfl) (fun e => e))) hS ?_
          simp only [Act.put, List.setIfInBounds_toArray, List.set_cons_zero, List.set_cons_succ]
          refine d_take 23 158 rfl rfl (by kernel_rfl) (by kernel_rfl) (by kernel_rfl) (fun _ _ _ h => h) rfl (fun w' hw' => er_slI _ _ rfl (y1 i) 1 (d1 i) 2 rfl rfl DC.out.1) hS ?_
          simp only [Act.put, List.setIfInBounds_toArray, List.set_cons_zero, List.set_cons_succ]
          refine d_take 24 159 rfl rfl (by kernel_rfl) (by kernel_rfl) (by kernel_rfl) (fun _ _ _ h => h) rfl (fun w' hw' => er_ixI _ _ rfl (y1 i) 1 2 (d1 i) rfl rfl (by decide) (by decide)) hS ?_
          simp only [Act.put, List.setIfInBounds_toArray, List.set_cons_zero, List.set_cons_succ]
          refine d_take 25 160 rfl rfl (by kernel_rfl) (by kernel_rfl) (by kernel_rfl) (fun _ _ _ h => h) rfl (fun w' hw' => er_fN4 _ rfl (y1 i) (1 * 5) rfl) hS ?_
          simp only [Act.put, List.setIfInBounds_toArray, List.set_cons_zero, List.set_cons_succ]
          refine d_take 26 161 rfl rfl (by kernel_rfl) (by kernel_rfl) (by kernel_rfl) (fun _ _ _ h => h) rfl (fun w' hw' => er_ld3 _ rfl (y1 i) (1 * 5 + 4) (.int .i32 (-77)) rfl (MKI.out w' hw')) hS ?_
          simp only [Act.put, List.setIfInBounds_toArray, List.set_cons_zero, List.set_cons_succ]
          refine d_take 27 162 rfl rfl (by kernel_rfl) (by kernel_rfl) (by kernel_rfl) (fun _ _ _ h => h) rfl (fun w' hw' => er_neq3 _ _ rfl (-77) (-77) false rfl rfl (by decide)) hS ?_
          simp only [Act.put, List.setIfInBounds_toArray, List.set_cons_zero, List.set_cons_succ]
          refine d_take 28 163 rfl rfl (by kernel_rfl) (by kernel_rfl) (by kernel_rfl) (fun _ _ _ h => h) rfl (fun w' hw' => er_pk _ _ _ rfl false (.bool false) rfl rfl) hS ?_
          simp only [Act.put, List.setIfInBounds_toArray, List.set_cons_zero, List.set_cons_succ]
          refine d_take 29 164 rfl rfl (by kernel_rfl) (by kernel_rfl) (by kernel_rfl) (fun _ _ _ h => h) rfl (fun w' hw' => er_mv _ rfl (.bool false) rfl) hS ?_
          simp only [Act.put, List.setIfInBounds_toArray, List.set_cons_zero, List.set_cons_succ]
          refine d_take 30 165 rfl rfl (by kernel_rfl) (by kernel_rfl) (by kernel_rfl) (fun _ _ _ h => h) rfl (fun w' hw' => er_fA5 _ rfl p8 0 rfl) hS ?_
          simp only [Act.put, List.setIfInBounds_toArray, List.set_cons_zero, List.set_cons_succ]
          refine d_take 31 166 rfl rfl (by kernel_rfl) (by kernel_rfl) (by kernel_rfl) (fun _ _ _ h => h) rfl (fun w' hw' => er_ldP _ rfl p8 (0 + 8) (.slice (some ⟨y2 i, 0, none⟩) 1 (d2 i)) rfl (hw'.cell ((cell_blk H8b.out 8).trans rfl) (fun e => e))) hS ?_
          simp only [Act.put, List.setIfInBounds_toArray, List.set_cons_zero, List.set_cons_succ]
          refine d_take 32 167 rfl rfl (by kernel_rfl) (by kernel_rfl) (by kernel_rfl) (fun _ _ _ h => h) rfl (fun w' hw' => er_slP _ _ rfl (y2 i) 1 (d2 i) 2 rfl rfl DC.out.2) hS ?_
          simp only [Act.put, List.setIfInBounds_toArray, List.set_cons_zero, List.set_cons_succ]
          refine d_take 33 168 rfl rfl (by kernel_rfl) (by kernel_rfl) (by kernel_rfl) (fun _ _ _ h => h) rfl (fun w' hw' => er_ixP _ _ rfl (y2 i) 1 2 (d2 i) rfl rfl (by decide) (by decide)) hS ?_
          simp only [Act.put, List.setIfInBounds_toArray, List.set_cons_zero, List.set_cons_succ]
          refine d_take 34 169 rfl rfl (by kernel_rfl) (by kernel_rfl) (by kernel_rfl) (fun _ _ _ h => h) rfl (fun w' hw' => er_fC0 _ rfl (y2 i) (1 * 6) rfl) hS ?_
          simp only [Act.put, List.setIfInBounds_toArray, List.set_cons_zero, List.set_cons_succ]
          refine d_take 35 170 rfl rfl (by kernel_rfl) (by kernel_rfl) (by kernel_rfl) (fun _ _ _ h => h) rfl (fun w' hw' => er_ldi _ rfl (y2 i) (1 * 6) (.int .i64 (-77)) rfl (MKP.out w' hw')) hS ?_
          simp only [Act.put, List.setIfInBounds_toArray, List.set_cons_zero, List.set_cons_succ]
          refine d_take 36 171 rfl rfl (by kernel_rfl) (by kernel_rfl) (by kernel_rfl) (fun _ _ _ h => h) rfl (fun w' hw' => er_neqI _ _ rfl (-77) (-77) false rfl rfl (by decide)) hS ?_
          simp only [Act.put, List.setIfInBounds_toArray, List.set_cons_zero, List.set_cons_succ]
          refine d_take 37 172 rfl rfl (by kernel_rfl) (by kernel_rfl) (by kernel_rfl) (fun _ _ _ h => h) rfl (fun w' hw' => er_pk _ _ _ rfl false (.bool false) rfl rfl) hS ?_
          simp only [Act.put, List.setIfInBounds_toArray, List.set_cons_zero, List.set_cons_succ]
          refine wpAnyH_done (by kernel_rfl) ?_ _
          have KD := hid (KK.out.trans hS (fun _ e => e.elim))
          clear hS SV8 SV7 HV8 HV7 CI8 CI7 CP8 CP7 MKI MKP
          go_wp2
          refine ⟨⟨i + 1, by omega, by go_num, KD.out⟩, ?_⟩
          simp [intOf]; omega
        · have hltz : ¬ (i : Int) < 3 := by omega
          obtain rfl : i = 3 := by omega
          have KR := hid kr
          clear kr
          go_wp2
          go_ret
          exact ⟨rfl, HH.out.2.2.2.trans KR.out (fun _ e => e.elim)⟩
end Go.Proofs.Ythebokkogeigoaa
