/-
  lent: the image in new memory, a mark behind each list.
-/
import Derived.Test.YthebokkogeigoaaSLenP
import Derived.Deep.DeepCutAuto
namespace Go.Proofs.Ythebokkogeigoaa
open Go.RowKit
set_option linter.unusedVariables false
set_option linter.unusedSimpArgs false
set_option maxRecDepth 100000

set_option maxHeartbeats 16000000 in
theorem lent_any {gp c3 gl0 : Nat} {la : Option Addr} {n lc : Nat} {z1 z2 : Nat → Nat} {ps : Nat → Pr} {B0 : Nat} (w : World) (hp : Pts w B0 (.slice (some ⟨gp, 0, none⟩) 3 c3) 3 z1 z2) (hl : w.ownsRow B0 30 6 (.slice la n lc) n (cat (fun i => pc (ps i)) n)) (hn : n ≤ 64) :
    Calls Try.prog 37 #[.agg #[.slice (some ⟨gp, 0, none⟩) 3 c3, .slice la n lc, .slice none 0 0]] w fun r w' => ∃ ga ca gl cl y1 d1 y2 d2, r = .returned (.agg #[.slice (some ⟨ga, 0, none⟩) 3 ca, .slice (some ⟨gl, 0, none⟩) n cl, .slice none 0 0]) ∧ Le w' w.heap.size ga ca gl cl n ps y1 d1 y2 d2 ∧ Kept No w w' := by
  have hpc := own_cap hp.own
  have hlc := own_cap hl
  obtain ⟨w2, e2⟩ : ∃ w2, w2 = ((w.alloc (.cells #[.slice (some ⟨gp, 0, none⟩) 3 c3, .slice la n lc, .slice none 0 0] 27)).alloc (.cells #[.slice none 0 0, .slice none 0 0, .slice none 0 0] 27)).alloc (.cells #[.slice none 0 0, .slice none 0 0, .slice none 0 0] 27) := ⟨_, rfl⟩
  have K2 : Kept No w w2 := by rw [e2]; exact (((Kept.refl No w).alloc _).alloc _).alloc _
  have BX : w2.heap[w.heap.size]? = some (.cells #[.slice (some ⟨gp, 0, none⟩) 3 c3, .slice la n lc, .slice none 0 0] 27) := by rw [e2]; exact (((Kept.refl No _).alloc _).alloc _).at' (alloc_new w _) (fun e => e)
  have BR : w2.heap[w.heap.size + 1]? = some (.cells #[.slice none 0 0, .slice none 0 0, .slice none 0 0] 27) := by
    have := ((Kept.refl No _).alloc (.cells #[.slice none 0 0, .slice none 0 0, .slice none 0 0] 27)).at' (alloc_new (w.alloc (.cells #[.slice (some ⟨gp, 0, none⟩) 3 c3, .slice la n lc, .slice none 0 0] 27)) (.cells #[.slice none 0 0, .slice none 0 0, .slice none 0 0] 27)) (fun e => e)
    rw [World.size_alloc] at this
    rw [e2]; exact this
  have BY : w2.heap[w.heap.size + 2]? = some (.cells #[.slice none 0 0, .slice none 0 0, .slice none 0 0] 27) := by
    have := alloc_new ((w.alloc (.cells #[.slice (some ⟨gp, 0, none⟩) 3 c3, .slice la n lc, .slice none 0 0] 27)).alloc (.cells #[.slice none 0 0, .slice none 0 0, .slice none 0 0] 27)) (.cells #[.slice none 0 0, .slice none 0 0, .slice none 0 0] 27)
    rw [World.size_alloc, World.size_alloc] at this
    rw [e2]; exact this
  have HP := hid (And.intro (hp.keep K2) (And.intro (K2.owns hl (fun _ _ e => e)) (And.intro K2 (And.intro BX (And.intro BR BY)))))
  have S2 : Hid (w2.heap.size = w.heap.size + 3) := by show w2.heap.size = _; rw [e2, World.size_alloc, World.size_alloc, World.size_alloc]
  have GP : Hid (gp < w.heap.size ∧ ∀ i, i < 3 → z1 i < w.heap.size ∧ z2 i < w.heap.size) := ⟨(owns_at hp.own (k := gp) rfl).2, fun i hi => ⟨heap_lt (hp.code i hi), heap_lt (hp.proc i hi)⟩⟩
  have GL : Hid (∀ g, (Value.slice la n lc).ownBlock = some g → g < w.heap.size) := fun g hg => (owns_at hl hg).2
  clear hp hl K2 BX BR BY
  go_enter Try.func37, Try.ntmps37
  go_upto_region 2 with fail
  rw [← e2]
  clear e2
  obtain ⟨yb, eyb⟩ : ∃ yb, yb = w.heap.size + 2 := ⟨_, rfl⟩
  go_wp2
  go_loopw [4] (fun u4 wr => ∃ (k : Nat) (pa : Option Addr) (pc' : Nat) (y1 d1 y2 d2 : Nat → Nat), k ≤ 3 ∧ u4 = .int .i64 k ∧ Lp wr w2.heap.size (.slice pa k pc') k y1 d1 y2 d2 ∧ wr.heap[w.heap.size + 2]? = some (.cells #[.slice pa k pc', .slice none 0 0, .slice none 0 0] 27) ∧ Kept (fun x => x = w.heap.size + 2) w2 wr) (fun u4 _ => 3 - (intOf u4).toNat)
  case atStart => exact ⟨0, none, 0, fun _ => 0, fun _ => 0, fun _ => 0, fun _ => 0, by omega, rfl, ⟨World.ownsRow_nil _ _ _ _, fun i hi => by omega, fun i hi => by omega⟩, HP.out.2.2.2.2.2, Kept.refl _ _⟩
  case round =>
    clear eyb
    obtain ⟨k, pa, pc', y1, d1, y2, d2, hk, rfl, lp, hy, kr⟩ := hrel
    have bx := kr.at' HP.out.2.2.2.1 (fun e => by omega)
    have x0 : wr.cell? ⟨w.heap.size, 0, none⟩ = some (.slice (some ⟨gp, 0, none⟩) 3 c3) := (cell_blk bx 0).trans rfl
    by_cases hlt : k < 3
    · have hltz : (k : Int) < 3 := by omega
      have hgp := GP.out.1
      have hzz := GP.out.2 k hlt
      have LDP := hid (ldPart (A := PC k (z1 k) (z2 k)) (b := gp) (o := k * 21) (fun j v hv => kr.cell (HP.out.1.row hlt j v hv) (fun e => by have e' : gp = w.heap.size + 2 := e; omega)) rfl)
      have KR := hid (And.intro lp (And.intro hy kr))
      have CI : Hid (wr.heap[z1 k]? = some (.cells ZI5 74) ∧ wr.heap[z2 k]? = some (.cells ZP6 77)) := ⟨kr.at' (HP.out.1.code k hlt) (fun e => by omega), kr.at' (HP.out.1.proc k hlt) (fun e => by omega)⟩
      have SZ := hid kr.size
      clear lp hy kr bx
      go_upto_region 5 with fail
      go_cut [5] (fun x wd => ∃ pb, x = .pointer (some ⟨pb, 0, none⟩) ∧ wd.heap[pb]? = some (.cells (PC k (z1 k) (z2 k)) 84) ∧ wr.heap.size ≤ pb ∧ Kept No wr wd)
      case first =>
        go_wp2_with (first
          | (refine l_take 19 rfl rfl (er_ldX 84 (.tmp 18) rfl (.pointer (some ⟨gp, k * 21, none⟩)) (.agg (PC k (z1 k) (z2 k))) rfl LDP.out) ?_)
          | (refine l_make 5 rfl rfl (er_alP rfl) ?_)
          | (refine wpList_store_row rfl 84 (.tmp 5) (.tmp 19) rfl wr.heap.size (PC k (z1 k) (z2 k)) rfl rfl _ Z21 (alloc_new wr _) Try.infoP21 rfl (PC_all _ _ _) ?_))
        go_meet
        exact ⟨wr.heap.size, rfl, setRow_heap _ _ Z21 _ _ (0, 0) (alloc_new wr _), Nat.le_refl _, ((Kept.refl No wr).alloc _).setRow (.inr (Nat.le_refl _)) _⟩
      case rest =>
      rename World => w5
      obtain ⟨pb, rfl, hpb, hpl, k5⟩ := hcut
      have p7 : w5.cell? ⟨pb, 7, none⟩ = some (.slice (some ⟨z1 k, 0, none⟩) 1 1) := (cell_blk hpb 7).trans rfl
      have K5 := hid (And.intro hpb (And.intro hpl k5))
      have NI : Hid (∀ j u, ZI5.toList[j]? = some u → w5.cell? ((⟨z1 k, 0, none⟩ : Addr).add j) = some u) := fun j u hu => by
        rw [add_none, Nat.zero_add, cell_blk (k5.at' CI.out.1 (fun e => e))]
        simpa using hu
      have NP : Hid (∀ W, Kept No w5 W → ∀ j u, ZP6.toList[j]? = some u → W.cell? ((⟨z2 k, 0, none⟩ : Addr).add j) = some u) := fun W kW j u hu => by
        rw [add_none, Nat.zero_add, cell_blk (kW.at' (k5.at' CI.out.2 (fun e => e)) (fun e => e))]
        simpa using hu
      have F1 : Hid True := trivial
      clear hpb hpl k5 LDP
      go_upto_region 8 with fail
      go_cut [6] (fun x wd => ∃ a1 b1, x = .slice (some ⟨a1, 0, none⟩) 2 b1 ∧ wd.ownsRow w5.heap.size 74 5 (.slice (some ⟨a1, 0, none⟩) 2 b1) 2 (ZI5.toList ++ MI.toList) ∧ Kept No w5 wd)
      case first =>
        go_wp2_with (first
          | (refine l_take 24 rfl rfl (er_build 74 _ rfl _ (by kernel_rfl) _ built_i7) ?_)
          | (refine l_make 25 rfl rfl (er_bsG 75 74 5 8 ZI5 MI _ rfl Try.underlying75 Try.infoIn (by decide) (by decide) rfl fill_i7) ?_)
          | (at_builtin; have F2 := F1; clear F1; refine wpList_apK rfl _ _ 75 74 rfl w5.heap.size (.agg ZI5) 5 8 Try.underlying75 Try.infoIn rfl (by decide) (.slice none 0 0) 0 [] rfl (World.ownsRow_nil _ _ _ _) (Nat.le_refl _) ⟨z1 k, 0, none⟩ 1 1 ZI5.toList rfl rfl NI.out (all_mem ZI5_all) (by omega) (by omega) (by decide) ?_; intro g1 e1 w6 o6 k6)
          | (at_builtin; refine wpList_apK rfl _ _ 75 74 rfl w5.heap.size (.agg ZI5) 5 8 Try.underlying75 Try.infoIn rfl (by decide) (.slice (some ⟨g1, 0, none⟩) (0 + 1) e1) (0 + 1) ([] ++ ZI5.toList) rfl (((Kept.refl No w6).alloc _).owns o6.out (fun _ _ e => e)) (by have := k6.out.size; rw [World.size_alloc]; omega) ⟨w6.heap.size, 0, none⟩ 1 1 MI.toList rfl rfl (news_alloc w6 MI 74) (all_mem MI_all) (by omega) (by omega) (by decide) ?_; intro g2 e2 w7 o7 k7))
        go_meet
        exact ⟨g2, e2, rfl, o7.out, ((k6.out.mono (fun _ e => nomatch e)).alloc _).trans k7.out (fun x hx => .inr (owns_blk o6.out hx).1)⟩
      case rest =>
      rename World => w8
      obtain ⟨a1, b1, rfl, o8, k8⟩ := hcut
      have p8 : w8.cell? ⟨pb, 8, none⟩ = some (.slice (some ⟨z2 k, 0, none⟩) 1 1) := k8.cell ((cell_blk K5.out.1 8).trans rfl) (fun e => e)
      have O8 := hid (And.intro o8 k8)
      have F1 : Hid True := trivial
      clear o8 k8 NI
      go_upto_region 9 with fail
      go_cut [7] (fun x wd => ∃ a2 b2, x = .slice (some ⟨a2, 0, none⟩) 2 b2 ∧ wd.ownsRow w8.heap.size 77 6 (.slice (some ⟨a2, 0, none⟩) 2 b2) 2 (ZP6.toList ++ MP.toList) ∧ Kept No w8 wd)
      case first =>
        go_wp2_with (first
          | (refine l_take 31 rfl rfl (er_build 77 _ rfl _ (by kernel_rfl) _ built_p7) ?_)
          | (refine l_make 32 rfl rfl (er_bsG 78 77 6 48 ZP6 MP _ rfl Try.underlying78 Try.infoPc (by decide) (by decide) rfl fill_p7) ?_)
          | (at_builtin; have F2 := F1; clear F1; refine wpList_apK rfl _ _ 78 77 rfl w8.heap.size (.agg ZP6) 6 48 Try.underlying78 Try.infoPc rfl (by decide) (.slice none 0 0) 0 [] rfl (World.ownsRow_nil _ _ _ _) (Nat.le_refl _) ⟨z2 k, 0, none⟩ 1 1 ZP6.toList rfl rfl (NP.out _ O8.out.2) (all_mem ZP6_all) (by omega) (by omega) (by decide) ?_; intro g1 e1 w6 o6 k6)
          | (at_builtin; refine wpList_apK rfl _ _ 78 77 rfl w8.heap.size (.agg ZP6) 6 48 Try.underlying78 Try.infoPc rfl (by decide) (.slice (some ⟨g1, 0, none⟩) (0 + 1) e1) (0 + 1) ([] ++ ZP6.toList) rfl (((Kept.refl No w6).alloc _).owns o6.out (fun _ _ e => e)) (by have := k6.out.size; rw [World.size_alloc]; omega) ⟨w6.heap.size, 0, none⟩ 1 1 MP.toList rfl rfl (news_alloc w6 MP 77) (all_mem MP_all) (by omega) (by omega) (by decide) ?_; intro g2 e2 w7 o7 k7))
        go_meet
        exact ⟨g2, e2, rfl, o7.out, ((k6.out.mono (fun _ e => nomatch e)).alloc _).trans k7.out (fun x hx => .inr (owns_blk o6.out hx).1)⟩
      case rest =>
      rename World => w9
      obtain ⟨a2, b2, rfl, o9, k9⟩ := hcut
      have O9 := hid (And.intro o9 k9)
      have h9 : w9.heap[pb]? = some (.cells (PC k (z1 k) (z2 k)) 84) := k9.at' (O8.out.2.at' K5.out.1 (fun e => e)) (fun e => e)
      have p7 : w9.cell? ⟨pb, 7, none⟩ = some (.slice (some ⟨z1 k, 0, none⟩) 1 1) := (cell_blk h9 7).trans rfl
      have p8 : w9.cell? ⟨pb, 8, none⟩ = some (.slice (some ⟨z2 k, 0, none⟩) 1 1) := (cell_blk h9 8).trans rfl
      have hb1 := own_cap O8.out.1
      have hb2 := own_cap O9.out.1
      have f7 := fz_blk h9 7
      have f8 := fz_blk h9 8
      have H9 := hid h9
      clear o9 k9 h9
      go_upto_region 12 with fail
      obtain ⟨w12, e12⟩ : ∃ w12, w12 = (w9.setCell ⟨pb, 7, none⟩ (.slice (some ⟨a1, 0, none⟩) 1 b1)).setCell ⟨pb, 8, none⟩ (.slice (some ⟨a2, 0, none⟩) 1 b2) := ⟨_, rfl⟩
      rw [← e12]
      have K9 : Kept No wr w9 := (K5.out.2.2.trans O8.out.2 (fun _ e => e.elim)).trans O9.out.2 (fun _ e => e.elim)
      have KP : Kept (fun x => x = pb) w9 w12 := by rw [e12]; exact ((Kept.refl (fun x => x = pb) w9).setCell (p := ⟨pb, 7, none⟩) (.inl rfl) _).setCell (p := ⟨pb, 8, none⟩) (.inl rfl) _
      have K12 : Kept No wr w12 := K9.trans KP (fun x e => .inr (by have := K5.out.2.1; have e' : x = pb := e; omega))
      have B12 : w12.heap[pb]? = some (.cells (PD k a1 b1 a2 b2) 84) := by rw [e12]; exact set_blk (set_blk H9.out 7 _) 8 _
      have hpb5 := heap_lt K5.out.1
      have s58 := O8.out.2.size
      have s5 := K5.out.2.2.size
      have C12 : w12.ownsRow w2.heap.size 74 5 (.slice (some ⟨a1, 0, none⟩) 2 b1) 2 (ZI5.toList ++ MI.toList) := owns_base (KP.owns (O9.out.2.owns O8.out.1 (fun _ _ e => e)) (fun g hg e => by have := (owns_blk O8.out.1 hg).1; have e' : g = pb := e; omega)) (by have := SZ.out; omega)
      have P12 : w12.ownsRow w2.heap.size 77 6 (.slice (some ⟨a2, 0, none⟩) 2 b2) 2 (ZP6.toList ++ MP.toList) := owns_base (KP.owns O9.out.1 (fun g hg e => by have := (owns_blk O9.out.1 hg).1; have e' : g = pb := e; omega)) (by have := SZ.out; omega)
      have L12 : Lp w12 w2.heap.size (.slice pa k pc') k y1 d1 y2 d2 := KR.out.1.keep K12 (fun _ e => e.elim)
      have Y12 : w12.heap[w.heap.size + 2]? = some (.cells #[.slice pa k pc', .slice none 0 0, .slice none 0 0] 27) := K12.at' KR.out.2.1 (fun e => e)
      have y0 : w12.cell? ⟨w.heap.size + 1 + 1, 0, none⟩ = some (.slice pa k pc') := (cell_blk Y12 0).trans rfl
      have LDQ := hid (ldPart (A := PD k a1 b1 a2 b2) (b := pb) (o := 0) (fun j v hv => by rw [Nat.zero_add, cell_blk B12]; simpa using hv) rfl)
      have H12 := hid (And.intro L12 (And.intro C12 (And.intro P12 (And.intro Y12 K12))))
      have Z12 : Hid (w2.heap.size ≤ w12.heap.size) := Nat.le_trans SZ.out K12.size
      clear e12 K9 KP K12 B12 hpb5 s58 s5 C12 P12 L12 Y12 O8 O9 K5 NP H9 f7 f8 p7 p8 hb1 hb2
      go_wp2_with (first
        | (refine l_take 48 rfl rfl (er_ldX 84 (.tmp 5) rfl (.pointer (some ⟨pb, 0, none⟩)) (.agg (PD k a1 b1 a2 b2)) rfl LDQ.out) ?_)
        | (refine l_make 49 rfl rfl (er_bsG 23 84 21 264 Z21 (PD k a1 b1 a2 b2) _ rfl Try.underlying23 Try.infoPt (by decide) (by decide) rfl (fill_pd k a1 b1 a2 b2)) ?_)
        | (at_builtin; refine wpList_apK rfl _ _ 23 84 rfl w2.heap.size (.agg Z21) 21 264 Try.underlying23 Try.infoPt rfl (by decide) (.slice pa k pc') k _ rfl (((Kept.refl No w12).alloc _).owns H12.out.1.own (fun _ _ e => e)) (by rw [World.size_alloc]; have := Z12.out; omega) ⟨w12.heap.size, 0, none⟩ 1 1 (PD k a1 b1 a2 b2).toList rfl rfl (news_alloc w12 (PD k a1 b1 a2 b2) 84) (all_mem (PD_all _ _ _ _ _)) (by omega) (by omega) (by decide) ?_; intro g3 c13 w13 o13 k13; have Y13 : w13.heap[w.heap.size + 1 + 1]? = some (.cells #[.slice pa k pc', .slice none 0 0, .slice none 0 0] 27) := k13.out.at' (((Kept.refl No w12).alloc _).at' H12.out.2.2.2.1 (fun e => e)) (fun e => by have := (owns_blk H12.out.1.own e).1; have := S2.out; omega); have y13 : w13.cell? ⟨w.heap.size + 1 + 1, 0, none⟩ = some (.slice pa k pc') := (cell_blk Y13 0).trans rfl; have f13 := fz_blk Y13 0; have H13 := hid Y13; clear Y13))
      have hs2 := S2.out
      have KZ : Kept (fun x => x = w.heap.size + 1 + 1) w13 (w13.setCell ⟨w.heap.size + 1 + 1, 0, none⟩ (.slice (some ⟨g3, 0, none⟩) (k + 1) c13)) := (Kept.refl (fun x => x = w.heap.size + 1 + 1) w13).setCell (p := ⟨w.heap.size + 1 + 1, 0, none⟩) (.inl rfl) _
      refine ⟨⟨k + 1, some ⟨g3, 0, none⟩, c13, upd y1 k a1, upd d1 k b1, upd y2 k a2, upd d2 k b2, by omega, by go_num, ?_, set_blk H13.out 0 _, ?_⟩, ?_⟩
      · exact (Lp.more (H12.out.1.keep ((Kept.refl No w12).alloc _) (fun _ e => e.elim)) k13.out o13.out (((Kept.refl No w12).alloc _).owns H12.out.2.1 (fun _ _ e => e)) (((Kept.refl No w12).alloc _).owns H12.out.2.2.1 (fun _ _ e => e))).keep KZ (fun x e => by have e' : x = w.heap.size + 1 + 1 := e; omega)
      · exact ((KR.out.2.2.trans (H12.out.2.2.2.2.alloc _) (fun _ e => e.elim)).trans k13.out (fun x e => .inr (owns_blk H12.out.1.own e).1)).trans KZ (fun x e => .inl e)
      · simp [intOf]; omega
    · have hltz : ¬ (k : Int) < 3 := by omega
      obtain rfl : k = 3 := by omega
      have hs2 := S2.out
      have KD : Kept No wr wr.drew := (Kept.refl No wr).drew
      have bz := bx
      have nb : ∀ x, (Value.slice pa 3 pc').ownBlock = some x → w2.heap.size ≤ x := fun x e => (owns_blk lp.own e).1
      obtain ⟨ga, ca, wa, hra, owa, kwa⟩ := apK_run (w := wr.drew.alloc (.cells MA 84)) 23 84 w2.heap.size (.agg Z21) 21 264 Try.underlying23 Try.infoPt rfl (by decide) (.slice pa 3 pc') 3 _ ((KD.alloc _).owns lp.own (fun _ _ e => e)) (by rw [World.size_alloc]; exact Nat.le_succ_of_le kr.size) ⟨wr.drew.heap.size, 0, none⟩ 1 1 MA.toList rfl (news_alloc wr.drew MA 84) (all_mem MA_all) (by omega) (by omega) (by decide)
      have KA : Kept (fun x => (Value.slice pa 3 pc').ownBlock = some x) wr wa := ((KD.alloc _).mono (fun _ e => e.elim)).trans kwa (fun x e => .inl e)
      have hya : wa.heap[w.heap.size + 2]? = some (.cells #[.slice pa 3 pc', .slice none 0 0, .slice none 0 0] 27) := KA.at' hy (fun e => by have := nb _ e; omega)
      have hxa : wa.heap[w.heap.size]? = some (.cells #[.slice (some ⟨gp, 0, none⟩) 3 c3, .slice la n lc, .slice none 0 0] 27) := KA.at' bx (fun e => by have := nb _ e; omega)
      have lpa : Lp wr w2.heap.size (.slice pa 3 pc') 3 y1 d1 y2 d2 := lp
      have LC : ∀ i, i < 3 → wa.ownsRow w2.heap.size 74 5 (.slice (some ⟨y1 i, 0, none⟩) 2 (d1 i)) 2 (ZI5.toList ++ MI.toList) := fun i hi => KA.owns (lp.code i hi) (fun g hg e => by
        obtain ⟨_, cs, h2⟩ := owns_blk (lp.code i hi) hg
        obtain ⟨_, cs', h3⟩ := owns_blk lp.own e
        exact absurd (two_tags h2 h3) (by decide))
      have LR : ∀ i, i < 3 → wa.ownsRow w2.heap.size 77 6 (.slice (some ⟨y2 i, 0, none⟩) 2 (d2 i)) 2 (ZP6.toList ++ MP.toList) := fun i hi => KA.owns (lp.proc i hi) (fun g hg e => by
        obtain ⟨_, cs, h2⟩ := owns_blk (lp.proc i hi) hg
        obtain ⟨_, cs', h3⟩ := owns_blk lp.own e
        exact absurd (two_tags h2 h3) (by decide))
      have KW : Kept (fun x => x = w.heap.size + 2) w2 wa := kr.trans KA (fun x e => .inr (nb x e))
      have hca := own_cap owa
      have y0 : wr.drew.cell? ⟨w.heap.size + 1 + 1, 0, none⟩ = some (.slice pa 3 pc') := KD.cell ((cell_blk hy 0).trans rfl) (fun e => e)
      have y0a : (wr.drew.alloc (.cells MA 84)).cell? ⟨w.heap.size + 1 + 1, 0, none⟩ = some (.slice pa 3 pc') := (KD.alloc _).cell ((cell_blk hy 0).trans rfl) (fun e => e)
      have xx : wr.drew.cell? ⟨w.heap.size, 0, none⟩ = some (.slice (some ⟨gp, 0, none⟩) 3 c3) := KD.cell x0 (fun e => e)
      have xxa : (wr.drew.alloc (.cells MA 84)).cell? ⟨w.heap.size, 0, none⟩ = some (.slice (some ⟨gp, 0, none⟩) 3 c3) := (KD.alloc _).cell x0 (fun e => e)
      have xa1 : wa.cell? ⟨w.heap.size, 0, none⟩ = some (.slice (some ⟨gp, 0, none⟩) 3 c3) := (cell_blk hxa 0).trans rfl
      have ya1 : wa.cell? ⟨w.heap.size + 1 + 1, 0, none⟩ = some (.slice pa 3 pc') := (cell_blk hya 0).trans rfl
      have fa1 : wa.frozen? ⟨w.heap.size + 1 + 1, 0, none⟩ = false := fz_blk hya 0
      obtain ⟨w13, e13⟩ : ∃ w13, w13 = wa.setCell ⟨w.heap.size + 1 + 1, 0, none⟩ (.slice (some ⟨ga, 0, none⟩) 3 ca) := ⟨_, rfl⟩
      have KZ : Kept (fun x => x = w.heap.size + 2) wa w13 := by rw [e13]; exact (Kept.refl (fun x => x = w.heap.size + 2) wa).setCell (p := ⟨w.heap.size + 1 + 1, 0, none⟩) (.inl rfl) _
      have no : ∀ {t s m : Nat} {v : Value} {ys : List Value}, wa.ownsRow w2.heap.size t s v m ys → w13.ownsRow w2.heap.size t s v m ys := fun h => KZ.owns h (fun g hg e => by have := (owns_blk h hg).1; have e' : g = w.heap.size + 2 := e; omega)
      have xz : (wa.setCell ⟨w.heap.size + 1 + 1, 0, none⟩ (.slice (some ⟨ga, 0, none⟩) 3 ca)).cell? ⟨w.heap.size, 0, none⟩ = some (.slice (some ⟨gp, 0, none⟩) 3 c3) := by rw [← e13]; exact KZ.cell xa1 (fun e => by have e' : w.heap.size = w.heap.size + 2 := e; omega)
      have H13 : Hid (w13.ownsRow w2.heap.size 84 21 (.slice (some ⟨ga, 0, none⟩) (3 + 1) ca) (3 + 1) (cat (fun i => (PD i (y1 i) (d1 i) (y2 i) (d2 i)).toList) 3 ++ MA.toList) ∧ (∀ i, i < 3 → w13.ownsRow w2.heap.size 74 5 (.slice (some ⟨y1 i, 0, none⟩) 2 (d1 i)) 2 (ZI5.toList ++ MI.toList)) ∧ (∀ i, i < 3 → w13.ownsRow w2.heap.size 77 6 (.slice (some ⟨y2 i, 0, none⟩) 2 (d2 i)) 2 (ZP6.toList ++ MP.toList)) ∧ w13.heap[w.heap.size + 2]? = some (.cells #[.slice (some ⟨ga, 0, none⟩) 3 ca, .slice none 0 0, .slice none 0 0] 27) ∧ w13.heap[w.heap.size]? = some (.cells #[.slice (some ⟨gp, 0, none⟩) 3 c3, .slice la n lc, .slice none 0 0] 27) ∧ Kept (fun x => x = w.heap.size + 2) w2 w13) :=
        ⟨no owa, fun i hi => no (LC i hi), fun i hi => no (LR i hi), by rw [e13]; exact set_blk hya 0 _, KZ.at' hxa (fun e => by omega), KW.trans KZ (fun x e => .inl e)⟩
      have HRA := hid hra
      clear lpa LC LR KW KA kwa hya hxa owa no KZ bz nb lp hy kr KD bx hra
      go_upto_region 13 with fail
      refine wp_region_held_drew (S := fun W => W.cell? ⟨w.heap.size, 0, none⟩ = some (.slice (some ⟨gp, 0, none⟩) 3 c3)) (by kernel_rfl) xx (fun hS => ?_)
      refine d_take 0 52 rfl rfl (by kernel_rfl) (by kernel_rfl) (by kernel_rfl) (fun _ _ _ h => h) rfl (fun w' hw' => er_fI0 _ rfl (w.heap.size + 1 + 1) 0 rfl) hS ?_
      simp only [Act.put, List.setIfInBounds_toArray, List.set_cons_zero, List.set_cons_succ]
      refine d_take 2 54 rfl rfl (by kernel_rfl) (by kernel_rfl) (by kernel_rfl) (fun _ _ _ h => h) rfl (fun w' hw' => er_build 84 _ rfl _ (by kernel_rfl) _ built_a7) hS ?_
      simp only [Act.put, List.setIfInBounds_toArray, List.set_cons_zero, List.set_cons_succ]
      refine d_take 5 57 rfl rfl (by kernel_rfl) (by kernel_rfl) (by kernel_rfl) (fun _ _ _ h => h) rfl (fun w' hw' => er_fI0 _ rfl w.heap.size 0 rfl) hS ?_
      simp only [Act.put, List.setIfInBounds_toArray, List.set_cons_zero, List.set_cons_succ]
      refine d_take 6 58 rfl rfl (by kernel_rfl) (by kernel_rfl) (by kernel_rfl) (fun _ _ _ h => h) rfl (fun w' hw' => er_ldA _ rfl w.heap.size 0 _ rfl hw') hS ?_
      simp only [Act.put, List.setIfInBounds_toArray, List.set_cons_zero, List.set_cons_succ]
      refine d_take 7 59 rfl rfl (by kernel_rfl) (by kernel_rfl) (by kernel_rfl) (fun _ _ _ h => h) rfl (fun w' hw' => er_len 23 _ rfl (some ⟨gp, 0, none⟩) 3 c3 rfl (by kernel_rfl)) hS ?_
      simp only [Act.put, List.setIfInBounds_toArray, List.set_cons_zero, List.set_cons_succ]
      refine d_lm 1 53 3 55 (by decide) (by decide) (by kernel_rfl) (by kernel_rfl) (by kernel_rfl) rfl rfl rfl rfl rfl rfl rfl rfl (er_ldA _ rfl (w.heap.size + 1 + 1) 0 (.slice pa 3 pc') rfl y0) (er_bsG 23 84 21 264 Z21 MA _ rfl Try.underlying23 Try.infoPt (by decide) (by decide) rfl fill_a7) (er_bsG 23 84 21 264 Z21 MA _ rfl Try.underlying23 Try.infoPt (by decide) (by decide) rfl fill_a7) (er_ldA _ rfl (w.heap.size + 1 + 1) 0 (.slice pa 3 pc') rfl y0a) xx xxa ?_
      simp only [Act.put, List.setIfInBounds_toArray, List.set_cons_zero, List.set_cons_succ]
      refine d_make 4 56 (by kernel_rfl) rfl rfl rfl (er_app 23 _ _ rfl (.slice pa 3 pc') (.slice (some ⟨wr.drew.heap.size, 0, none⟩) 1 1) rfl rfl _ _ rfl HRA.out) xa1 ?_
      simp only [Act.put, List.setIfInBounds_toArray, List.set_cons_zero, List.set_cons_succ]
      refine d_take 8 60 rfl rfl (by kernel_rfl) (by kernel_rfl) (by kernel_rfl) (fun _ _ _ h => h) rfl (fun w' hw' => er_slA _ _ rfl ga (3 + 1) ca 3 rfl rfl (by omega)) xa1 ?_
      simp only [Act.put, List.setIfInBounds_toArray, List.set_cons_zero, List.set_cons_succ]
      refine d_take 9 61 rfl rfl (by kernel_rfl) (by kernel_rfl) (by kernel_rfl) (fun _ _ _ h => h) rfl (fun w' hw' => er_fI0 _ rfl (w.heap.size + 1 + 1) 0 rfl) xa1 ?_
      simp only [Act.put, List.setIfInBounds_toArray, List.set_cons_zero, List.set_cons_succ]
      refine d_turn 10 (by kernel_rfl) rfl rfl rfl (er_stA _ _ rfl (w.heap.size + 1 + 1) 0 (.slice pa 3 pc') (some ⟨ga, 0, none⟩) 3 ca rfl rfl ya1 fa1) xz ?_
      refine wpAnyH_done (by kernel_rfl) ?_ _
      rw [← e13]
      clear xz xa1 ya1 fa1 y0 y0a xx xxa e13 HRA x0
      have c31 : w13.cell? ⟨w.heap.size + 1 + 1, 1, none⟩ = some (.slice none 0 0) := (cell_blk H13.out.2.2.2.1 1).trans rfl
      have x31 : w13.cell? ⟨w.heap.size, 1, none⟩ = some (.slice la n lc) := (cell_blk H13.out.2.2.2.2.1 1).trans rfl
      have PL13 : Hid (w13.ownsRow B0 30 6 (.slice la n lc) n (cat (fun i => pc (ps i)) n)) := H13.out.2.2.2.2.2.owns HP.out.2.1 (fun g hg e => by have := GL.out g hg; have e' : g = w.heap.size + 2 := e; omega)
      go_upto_region 15 with (at_builtin; refine wpList_apN rfl _ _ 24 30 rfl w2.heap.size (.agg ZQ6) 6 48 Try.underlying24 Try.infoPq rfl (by decide) rfl H13.out.2.2.2.2.2.size B0 la n lc _ rfl PL13.out (cat_one (fun i => pc_one (ps i)) n) (by omega) (by decide) ?_; intro ya yc w14 o14 k14; have Y14 : w14.heap[w.heap.size + 1 + 1]? = some (.cells #[.slice (some ⟨ga, 0, none⟩) 3 ca, .slice none 0 0, .slice none 0 0] 27) := k14.out.at' H13.out.2.2.2.1 (fun e => e); have y14 : w14.cell? ⟨w.heap.size + 1 + 1, 1, none⟩ = some (.slice none 0 0) := (cell_blk Y14 1).trans rfl; have f14 := fz_blk Y14 1; have H14 := hid Y14; clear Y14)
      obtain ⟨w15, e15⟩ : ∃ w15, w15 = w14.setCell ⟨w.heap.size + 1 + 1, 1, none⟩ (.slice ya n yc) := ⟨_, rfl⟩
      rw [← e15]
      have K15 : Kept (fun x => x = w.heap.size + 2) w13 w15 := by rw [e15]; exact (k14.out.mono (G := fun x => x = w.heap.size + 2) (fun _ e => e.elim)).setCell (p := ⟨w.heap.size + 1 + 1, 1, none⟩) (.inl rfl) _
      have KE : Kept (fun x => x = w.heap.size + 2) w14 w15 := by rw [e15]; exact (Kept.refl (fun x => x = w.heap.size + 2) w14).setCell (p := ⟨w.heap.size + 1 + 1, 1, none⟩) (.inl rfl) _
      have hy5 : w15.heap[w.heap.size + 2]? = some (.cells #[.slice (some ⟨ga, 0, none⟩) 3 ca, .slice ya n yc, .slice none 0 0] 27) := by rw [e15]; exact set_blk H14.out 1 _
      have hx5 : w15.heap[w.heap.size]? = some (.cells #[.slice (some ⟨gp, 0, none⟩) 3 c3, .slice la n lc, .slice none 0 0] 27) := K15.at' H13.out.2.2.2.2.1 (fun e => by omega)
      have lo : ∀ {t s m : Nat} {v : Value} {ys : List Value}, w13.ownsRow w2.heap.size t s v m ys → w15.ownsRow w2.heap.size t s v m ys := fun h => K15.owns h (fun g hg e => by have := (owns_blk h hg).1; have e' : g = w.heap.size + 2 := e; omega)
      have o15 : w15.ownsRow w2.heap.size 30 6 (.slice ya n yc) n (cat (fun i => pc (ps i)) n) := KE.owns o14.out (fun g hg e => by have := (owns_blk o14.out hg).1; have e' : g = w.heap.size + 2 := e; omega)
      have k15 : Kept (fun x => x = w.heap.size + 2) w2 w15 := H13.out.2.2.2.2.2.trans K15 (fun x e => .inl e)
      have KD : Kept No w15 w15.drew := (Kept.refl No w15).drew
      have nb : ∀ x, (Value.slice ya n yc).ownBlock = some x → w2.heap.size ≤ x := fun x e => (owns_blk o15 e).1
      obtain ⟨gq, cq, wa, hra, owa, kwa⟩ := apK_run (w := w15.drew.alloc (.cells MQ 30)) 24 30 w2.heap.size (.agg ZQ6) 6 48 Try.underlying24 Try.infoPq rfl (by decide) (.slice ya n yc) n _ ((KD.alloc _).owns o15 (fun _ _ e => e)) (by rw [World.size_alloc]; exact Nat.le_succ_of_le k15.size) ⟨w15.drew.heap.size, 0, none⟩ 1 1 MQ.toList rfl (news_alloc w15.drew MQ 30) (all_mem MQ_all) (by omega) (by omega) (by decide)
      have KA : Kept (fun x => (Value.slice ya n yc).ownBlock = some x) w15 wa := ((KD.alloc _).mono (fun _ e => e.elim)).trans kwa (fun x e => .inl e)
      have hya : wa.heap[w.heap.size + 2]? = some (.cells #[.slice (some ⟨ga, 0, none⟩) 3 ca, .slice ya n yc, .slice none 0 0] 27) := KA.at' hy5 (fun e => by have := nb _ e; omega)
      have hxa : wa.heap[w.heap.size]? = some (.cells #[.slice (some ⟨gp, 0, none⟩) 3 c3, .slice la n lc, .slice none 0 0] 27) := KA.at' hx5 (fun e => by have := nb _ e; omega)
      have lq : ∀ {t s m : Nat} {v : Value} {ys : List Value}, w15.ownsRow w2.heap.size t s v m ys → t ≠ 30 → wa.ownsRow w2.heap.size t s v m ys := fun h ht => KA.owns h (fun g hg e => by
        obtain ⟨_, cs, h2⟩ := owns_blk h hg
        obtain ⟨_, cs', h3⟩ := owns_blk o15 e
        exact ht (two_tags h2 h3))
      have KW : Kept (fun x => x = w.heap.size + 2) w2 wa := k15.trans KA (fun x e => .inr (nb x e))
      have hcq := own_cap owa
      have y0 : w15.drew.cell? ⟨w.heap.size + 1 + 1, 1, none⟩ = some (.slice ya n yc) := KD.cell ((cell_blk hy5 1).trans rfl) (fun e => e)
      have y0a : (w15.drew.alloc (.cells MQ 30)).cell? ⟨w.heap.size + 1 + 1, 1, none⟩ = some (.slice ya n yc) := (KD.alloc _).cell ((cell_blk hy5 1).trans rfl) (fun e => e)
      have xx : w15.drew.cell? ⟨w.heap.size, 1, none⟩ = some (.slice la n lc) := KD.cell ((cell_blk hx5 1).trans rfl) (fun e => e)
      have xxa : (w15.drew.alloc (.cells MQ 30)).cell? ⟨w.heap.size, 1, none⟩ = some (.slice la n lc) := (KD.alloc _).cell ((cell_blk hx5 1).trans rfl) (fun e => e)
      have xa1 : wa.cell? ⟨w.heap.size, 1, none⟩ = some (.slice la n lc) := (cell_blk hxa 1).trans rfl
      have ya1 : wa.cell? ⟨w.heap.size + 1 + 1, 1, none⟩ = some (.slice ya n yc) := (cell_blk hya 1).trans rfl
      have fa1 : wa.frozen? ⟨w.heap.size + 1 + 1, 1, none⟩ = false := fz_blk hya 1
      obtain ⟨w16, e16⟩ : ∃ w16, w16 = wa.setCell ⟨w.heap.size + 1 + 1, 1, none⟩ (.slice (some ⟨gq, 0, none⟩) n cq) := ⟨_, rfl⟩
      have KZ : Kept (fun x => x = w.heap.size + 2) wa w16 := by rw [e16]; exact (Kept.refl (fun x => x = w.heap.size + 2) wa).setCell (p := ⟨w.heap.size + 1 + 1, 1, none⟩) (.inl rfl) _
      have no : ∀ {t s m : Nat} {v : Value} {ys : List Value}, wa.ownsRow w2.heap.size t s v m ys → w16.ownsRow w2.heap.size t s v m ys := fun h => KZ.owns h (fun g hg e => by have := (owns_blk h hg).1; have e' : g = w.heap.size + 2 := e; omega)
      have xz : (wa.setCell ⟨w.heap.size + 1 + 1, 1, none⟩ (.slice (some ⟨gq, 0, none⟩) n cq)).cell? ⟨w.heap.size, 1, none⟩ = some (.slice la n lc) := by rw [← e16]; exact KZ.cell xa1 (fun e => by have e' : w.heap.size = w.heap.size + 2 := e; omega)
      have hy6 : w16.heap[w.heap.size + 2]? = some (.cells #[.slice (some ⟨ga, 0, none⟩) 3 ca, .slice (some ⟨gq, 0, none⟩) n cq, .slice none 0 0] 27) := by rw [e16]; exact set_blk hya 1 _
      have kw6 : Kept (fun x => x = w.heap.size + 2) w2 w16 := KW.trans KZ (fun x e => .inl e)
      have H16 : Hid (Le w16 w2.heap.size ga ca gq cq n ps y1 d1 y2 d2 ∧ w16.heap[w.heap.size + 2]? = some (.cells #[.slice (some ⟨ga, 0, none⟩) 3 ca, .slice (some ⟨gq, 0, none⟩) n cq, .slice none 0 0] 27) ∧ w16.heap[w.heap.size + 1]? = some (.cells #[.slice none 0 0, .slice none 0 0, .slice none 0 0] 27) ∧ Kept (fun x => x = w.heap.size + 2) w2 w16) :=
        ⟨⟨no (lq (lo H13.out.1) (by decide)), fun i hi => no (lq (lo (H13.out.2.1 i hi)) (by decide)), fun i hi => no (lq (lo (H13.out.2.2.1 i hi)) (by decide)), no owa⟩, hy6, kw6.at' HP.out.2.2.2.2.1 (fun e => by omega), kw6⟩
      have HRA := hid hra
      clear e15 K15 KE hy5 hx5 lo o15 k15 KD nb hra owa kwa KA hya hxa lq KW KZ no hy6 kw6 H14 o14 k14 y14 f14 PL13 c31 x31 H13
      refine wp_region_held_drew (S := fun W => W.cell? ⟨w.heap.size, 1, none⟩ = some (.slice la n lc)) (by kernel_rfl) xx (fun hS => ?_)
      refine d_take 0 68 rfl rfl (by kernel_rfl) (by kernel_rfl) (by kernel_rfl) (fun _ _ _ h => h) rfl (fun w' hw' => er_fI1 _ rfl (w.heap.size + 1 + 1) 0 rfl) hS ?_
      simp only [Act.put, List.setIfInBounds_toArray, List.set_cons_zero, List.set_cons_succ]
      refine d_take 2 70 rfl rfl (by kernel_rfl) (by kernel_rfl) (by kernel_rfl) (fun _ _ _ h => h) rfl (fun w' hw' => er_build 30 _ rfl _ (by kernel_rfl) _ built_q7) hS ?_
      simp only [Act.put, List.setIfInBounds_toArray, List.set_cons_zero, List.set_cons_succ]
      refine d_take 5 73 rfl rfl (by kernel_rfl) (by kernel_rfl) (by kernel_rfl) (fun _ _ _ h => h) rfl (fun w' hw' => er_fI1 _ rfl w.heap.size 0 rfl) hS ?_
      simp only [Act.put, List.setIfInBounds_toArray, List.set_cons_zero, List.set_cons_succ]
      refine d_take 6 74 rfl rfl (by kernel_rfl) (by kernel_rfl) (by kernel_rfl) (fun _ _ _ h => h) rfl (fun w' hw' => er_ldQ _ rfl w.heap.size 1 _ rfl hw') hS ?_
      simp only [Act.put, List.setIfInBounds_toArray, List.set_cons_zero, List.set_cons_succ]
      refine d_take 7 75 rfl rfl (by kernel_rfl) (by kernel_rfl) (by kernel_rfl) (fun _ _ _ h => h) rfl (fun w' hw' => er_len 24 _ rfl la n lc rfl (by kernel_rfl)) hS ?_
      simp only [Act.put, List.setIfInBounds_toArray, List.set_cons_zero, List.set_cons_succ]
      refine d_lm 1 69 3 71 (by decide) (by decide) (by kernel_rfl) (by kernel_rfl) (by kernel_rfl) rfl rfl rfl rfl rfl rfl rfl rfl (er_ldQ _ rfl (w.heap.size + 1 + 1) 1 (.slice ya n yc) rfl y0) (er_bsG 24 30 6 48 ZQ6 MQ _ rfl Try.underlying24 Try.infoPq (by decide) (by decide) rfl fill_q7) (er_bsG 24 30 6 48 ZQ6 MQ _ rfl Try.underlying24 Try.infoPq (by decide) (by decide) rfl fill_q7) (er_ldQ _ rfl (w.heap.size + 1 + 1) 1 (.slice ya n yc) rfl y0a) xx xxa ?_
      simp only [Act.put, List.setIfInBounds_toArray, List.set_cons_zero, List.set_cons_succ]
      refine d_make 4 72 (by kernel_rfl) rfl rfl rfl (er_app 24 _ _ rfl (.slice ya n yc) (.slice (some ⟨w15.drew.heap.size, 0, none⟩) 1 1) rfl rfl _ _ rfl HRA.out) xa1 ?_
      simp only [Act.put, List.setIfInBounds_toArray, List.set_cons_zero, List.set_cons_succ]
      refine d_take 8 76 rfl rfl (by kernel_rfl) (by kernel_rfl) (by kernel_rfl) (fun _ _ _ h => h) rfl (fun w' hw' => er_slQ _ _ rfl gq (n + 1) cq n rfl rfl (by omega)) xa1 ?_
      simp only [Act.put, List.setIfInBounds_toArray, List.set_cons_zero, List.set_cons_succ]
      refine d_take 9 77 rfl rfl (by kernel_rfl) (by kernel_rfl) (by kernel_rfl) (fun _ _ _ h => h) rfl (fun w' hw' => er_fI1 _ rfl (w.heap.size + 1 + 1) 0 rfl) xa1 ?_
      simp only [Act.put, List.setIfInBounds_toArray, List.set_cons_zero, List.set_cons_succ]
      refine d_turn 10 (by kernel_rfl) rfl rfl rfl (er_stQ _ _ rfl (w.heap.size + 1 + 1) 1 (.slice ya n yc) (some ⟨gq, 0, none⟩) n cq rfl rfl ya1 fa1) xz ?_
      refine wpAnyH_done (by kernel_rfl) ?_ _
      rw [← e16]
      clear xz xa1 ya1 fa1 y0 y0a xx xxa e16 HRA
      have q0 : w16.cell? ⟨w.heap.size + 1 + 1, 0, none⟩ = some (.slice (some ⟨ga, 0, none⟩) 3 ca) := (cell_blk H16.out.2.1 0).trans rfl
      have q1 : w16.cell? ⟨w.heap.size + 1 + 1, 1, none⟩ = some (.slice (some ⟨gq, 0, none⟩) n cq) := (cell_blk H16.out.2.1 1).trans rfl
      have q2 : w16.cell? ⟨w.heap.size + 1 + 1, 2, none⟩ = some (.slice none 0 0) := (cell_blk H16.out.2.1 2).trans rfl
      have r0 : w16.cell? ⟨w.heap.size + 1, 0, none⟩ = some (.slice none 0 0) := (cell_blk H16.out.2.2.1 0).trans rfl
      have r1 : w16.cell? ⟨w.heap.size + 1, 1, none⟩ = some (.slice none 0 0) := (cell_blk H16.out.2.2.1 1).trans rfl
      have r2 : w16.cell? ⟨w.heap.size + 1, 2, none⟩ = some (.slice none 0 0) := (cell_blk H16.out.2.2.1 2).trans rfl
      have z0 := fz_blk H16.out.2.2.1 0
      have z1' := fz_blk H16.out.2.2.1 1
      have z2' := fz_blk H16.out.2.2.1 2
      obtain ⟨w17, e17⟩ : ∃ w17, w17 = ((w16.setCell ⟨w.heap.size + 1, 0, none⟩ (.slice (some ⟨ga, 0, none⟩) 3 ca)).setCell ⟨w.heap.size + 1, 1, none⟩ (.slice (some ⟨gq, 0, none⟩) n cq)).setCell ⟨w.heap.size + 1, 2, none⟩ (.slice none 0 0) := ⟨_, rfl⟩
      have KF : Kept (fun x => x = w.heap.size + 1) w16 w17 := by rw [e17]; exact (((Kept.refl (fun x => x = w.heap.size + 1) w16).setCell (p := ⟨w.heap.size + 1, 0, none⟩) (.inl rfl) _).setCell (p := ⟨w.heap.size + 1, 1, none⟩) (.inl rfl) _).setCell (p := ⟨w.heap.size + 1, 2, none⟩) (.inl rfl) _
      have HF : Hid (w17.heap[w.heap.size + 1]? = some (.cells #[.slice (some ⟨ga, 0, none⟩) 3 ca, .slice (some ⟨gq, 0, none⟩) n cq, .slice none 0 0] 27) ∧ Le w17 w.heap.size ga ca gq cq n ps y1 d1 y2 d2 ∧ Kept No w w17) := by
        have up : ∀ {t s m : Nat} {v : Value} {ys : List Value}, w16.ownsRow w2.heap.size t s v m ys → w17.ownsRow w.heap.size t s v m ys := fun h => owns_base (KF.owns h (fun g hg e => by have := (owns_blk h hg).1; have e' : g = w.heap.size + 1 := e; omega)) (by omega)
        have h := H16.out.1
        refine ⟨by rw [e17]; exact set_blk (set_blk (set_blk H16.out.2.2.1 0 _) 1 _) 2 _, ⟨up h.parts, fun i hi => up (h.code i hi), fun i hi => up (h.proc i hi), up h.ports⟩, ?_⟩
        exact (HP.out.2.2.1.trans H16.out.2.2.2 (fun x e => .inr (by have e' : x = w.heap.size + 2 := e; omega))).trans KF (fun x e => .inr (by have e' : x = w.heap.size + 1 := e; omega))
      clear KF
      go_wp2
      rw [← e17]
      refine bodyPost_ret (results_cell_row rfl _ _ (w.heap.size + 1) 27 #[.slice (some ⟨ga, 0, none⟩) 3 ca, .slice (some ⟨gq, 0, none⟩) n cq, .slice none 0 0] (0, 0) _ rfl HF.out.1 Try.underlying27 rfl (by kernel_rfl)) rfl ?_
      exact ⟨ga, ca, gq, cq, rfl, ⟨y1, d1, y2, d2, HF.out.2.1⟩, HF.out.2.2⟩
end Go.Proofs.Ythebokkogeigoaa
