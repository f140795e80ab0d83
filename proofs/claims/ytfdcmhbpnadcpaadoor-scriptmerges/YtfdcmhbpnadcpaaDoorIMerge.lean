/-
  script.Merge.
-/
import Derived.Test.YtfdcmhbpnadcpaaDoorICopy
namespace Go.Proofs.YtfdcmhbpnadcpaaDoor
open Go.RowKit
set_option linter.unusedVariables false
set_option linter.unusedSimpArgs false
set_option maxRecDepth 100000

def lenV : Value → Nat
  | .slice _ n _ => n
  | _ => 0
set_option maxHeartbeats 8000000 in
theorem merge_any {F G : Nat → Prop} {a b : Option Addr} {n c m d : Nat} {xs ys : List Inp} (w : World) (hl : Il w F a n c xs) (hm : Il w G b m d ys) (hs : n + m ≤ 1048576) :
    Calls Tryd.prog 15 #[.slice a n c, .slice b m d] w fun r w' => ∃ ra rc, r = .returned (.slice ra (n + m) rc) ∧ Il w' An ra (n + m) rc (mrg xs ys) ∧ Kept No w w' := by
  have hl0 := hl.low
  have hm0 := hm.low
  have hn0 := hl.len
  have hm1 := hm.len
  have HH := hid (And.intro hl0 hm0)
  clear hl hm hl0 hm0
  go_enter Tryd.func15, Tryd.ntmps15
  go_upto_region 1 with fail
  go_wp2
  go_loopw [0, 1, 5] (fun u0 u1 u5 wr => ∃ (la lb ms : List Inp) (k : Nat) (aa ba ka : Option Addr) (ca cb kc : Nat), u0 = .slice aa la.length ca ∧ u1 = .slice ba lb.length cb ∧ u5 = .slice ka k kc ∧ Il wr (fun k => k < w.heap.size) aa la.length ca la ∧ Il wr (fun k => k < w.heap.size) ba lb.length cb lb ∧ Gi wr w.heap.size (.slice ka k kc) k ms ∧ ms ++ mrg la lb = mrg xs ys ∧ k + la.length + lb.length = n + m ∧ Kept (fun k => w.heap.size ≤ k) w wr) (fun u0 u1 _ _ => lenV u0 + lenV u1)
  case atStart => exact ⟨xs, ys, [], 0, a, b, none, c, d, 0, by rw [hn0], by rw [hm1], rfl, by rw [hn0]; exact HH.out.1, by rw [hm1]; exact HH.out.2, Gi.nil _ _, rfl, by omega, Kept.refl _ _⟩
  case round =>
    obtain ⟨la, lb, ms, k, aa, ba, ka, ca, cb, kc, rfl, rfl, rfl, ia, ib, gi, em, ek, kr⟩ := hrel
    have hc1 := ia.cap
    have hc2 := ib.cap
    have hx1 := ia.max
    have hx2 := ib.max
    have tail : (la = [] ∨ lb = []) → Hid (mrg la lb = la ++ lb) := fun h => by
      show mrg la lb = la ++ lb
      rcases h with rfl | rfl
      · rw [mrg_nil_l]; rfl
      · rw [mrg_nil_r, List.append_nil]
    by_cases hend : la = [] ∨ lb = []
    · have TL := tail hend
      have A1 := hid (appendCopies_any wr gi ia kr.size (by omega))
      have HG := hid (And.intro ib (And.intro em kr))
      clear gi ia ib em kr tail
      by_cases h0 : la = []
      · have hz1 : ¬ (0 : Int) < (la.length : Int) := by rw [h0]; simp
        have hz1' : ¬ 0 < la.length := by rw [h0]; simp
        clear h0 hend
        go_wp2_with (first
          | (go_at_call 32; refine A1.out.mono ?_; rintro r w6 ⟨v6, rfl, g6, k6⟩; have A2 := hid (appendCopies_any w6 g6 (HG.out.1.kept k6 (fun q hq e => by omega)) (Nat.le_trans HG.out.2.2.size k6.size) (by omega)); have H6 := hid (HG.out.2.2.trans k6 (fun _ e => .inl e)); clear g6 k6 A1)
          | (go_at_call 32; refine A2.out.mono ?_; rintro r w7 ⟨v7, rfl, g7, k7⟩; have H7 := hid (And.intro g7 (H6.out.trans k7 (fun _ e => .inl e))); clear g7 k7 A2))
        go_ret
        have g7 := H7.out.1
        rw [List.append_assoc, ← TL.out, HG.out.2.1] at g7
        obtain ⟨ra, rc, rfl, il7⟩ := g7.il'
        rw [ek] at il7
        exact ⟨ra, rc, by rw [ek]; rfl, il7, ⟨H7.out.2.os, H7.out.2.tape, H7.out.2.output, H7.out.2.size, fun q hq _ => H7.out.2.block q hq (fun e => by omega)⟩⟩
      · have hlb : lb = [] := by rcases hend with h | h; exact absurd h h0; exact h
        have hz1 : (0 : Int) < (la.length : Int) := by have := List.length_pos_iff.2 h0; omega
        have hz1' : 0 < la.length := List.length_pos_iff.2 h0
        have hz2 : ¬ (0 : Int) < (lb.length : Int) := by rw [hlb]; simp
        have hz2' : ¬ 0 < lb.length := by rw [hlb]; simp
        clear h0 hend hlb
        go_wp2_with (first
          | (go_at_call 32; refine A1.out.mono ?_; rintro r w6 ⟨v6, rfl, g6, k6⟩; have A2 := hid (appendCopies_any w6 g6 (HG.out.1.kept k6 (fun q hq e => by omega)) (Nat.le_trans HG.out.2.2.size k6.size) (by omega)); have H6 := hid (HG.out.2.2.trans k6 (fun _ e => .inl e)); clear g6 k6 A1)
          | (go_at_call 32; refine A2.out.mono ?_; rintro r w7 ⟨v7, rfl, g7, k7⟩; have H7 := hid (And.intro g7 (H6.out.trans k7 (fun _ e => .inl e))); clear g7 k7 A2))
        go_ret
        have g7 := H7.out.1
        rw [List.append_assoc, ← TL.out, HG.out.2.1] at g7
        obtain ⟨ra, rc, rfl, il7⟩ := g7.il'
        rw [ek] at il7
        exact ⟨ra, rc, by rw [ek]; rfl, il7, ⟨H7.out.2.os, H7.out.2.tape, H7.out.2.output, H7.out.2.size, fun q hq _ => H7.out.2.block q hq (fun e => by omega)⟩⟩
    · obtain ⟨x, la, rfl⟩ : ∃ x l, la = x :: l := by cases la with
        | nil => exact absurd (.inl rfl) hend
        | cons x l => exact ⟨x, l, rfl⟩
      obtain ⟨y, lb, rfl⟩ : ∃ x l, lb = x :: l := by cases lb with
        | nil => exact absurd (.inr rfl) hend
        | cons x l => exact ⟨x, l, rfl⟩
      simp only [List.length_cons] at hc1 hc2 ek ia ib ⊢
      obtain ⟨b1, o1, d1, e1, rfl, hb1, hd1, ir1⟩ := ia.head
      obtain ⟨b2, o2, d2, e2, rfl, hb2, hd2, ir2⟩ := ib.head
      have X0 : Hid (∀ W, Kept (fun k => w.heap.size ≤ k) wr W → W.cell? ⟨b1, o1, none⟩ = some (.int .i64 x.tk)) := fun W q => q.cell (hd1 0 _ rfl) (fun e => by have e' : w.heap.size ≤ b1 := e; omega)
      have Y0 : Hid (∀ W, Kept (fun k => w.heap.size ≤ k) wr W → W.cell? ⟨b2, o2, none⟩ = some (.int .i64 y.tk)) := fun W q => q.cell (hd2 0 _ rfl) (fun e => by have e' : w.heap.size ≤ b2 := e; omega)
      have LX : Hid (∀ W, Kept (fun k => w.heap.size ≤ k) wr W → (Instr.loadAt 28 (.pointer (some ⟨b1, o1, none⟩))).run Tryd.prog W = .ok (.agg (x.val d1 e1)) W) := fun W q => ldI (fun j v hv => q.cell (hd1 j v hv) (fun e => by have e' : w.heap.size ≤ b1 := e; omega))
      have LY : Hid (∀ W, Kept (fun k => w.heap.size ≤ k) wr W → (Instr.loadAt 28 (.pointer (some ⟨b2, o2, none⟩))).run Tryd.prog W = .ok (.agg (y.val d2 e2)) W) := fun W q => ldI (fun j v hv => q.cell (hd2 j v hv) (fun e => by have e' : w.heap.size ≤ b2 := e; omega))
      obtain ⟨As, gj⟩ := gi
      have HG := hid (And.intro gj (And.intro kr (And.intro em (And.intro ia (And.intro ib (And.intro ir1 ir2))))))
      obtain ⟨dd, ed⟩ : ∃ dd, decide (x.tk ≤ y.tk) = dd := ⟨_, rfl⟩
      have ED := hid ed
      have ek' : k + la.length + lb.length + 2 = n + m := by omega
      clear gj kr em ia ib ir1 ir2 hd1 hd2 tail ek ed hend
      have p1 : (0 : Int) < ((la.length + 1 : Nat) : Int) := by omega
      have p2 : (0 : Int) < ((lb.length + 1 : Nat) : Int) := by omega
      go_upto_region 3 with fail
      go_cut [22] (fun u wd => u = .bool dd ∧ Kept No wr wd)
      case first =>
        refine wp_region_held_drew (S := fun W => Kept (fun k => w.heap.size ≤ k) wr W) (by kernel_rfl) ((Kept.refl _ wr).drew) (fun hS => ?_)
        refine d_take 0 14 rfl rfl (by kernel_rfl) (by kernel_rfl) (by kernel_rfl) (fun _ _ _ h => h) rfl (fun w' hw' => er_mv _ rfl (.slice (some ⟨b1, o1, none⟩) (la.length + 1) ca) rfl) hS ?_
        simp only [Act.put, List.setIfInBounds_toArray, List.set_cons_zero, List.set_cons_succ]
        refine d_take 1 15 rfl rfl (by kernel_rfl) (by kernel_rfl) (by kernel_rfl) (fun _ _ _ h => h) rfl (fun w' hw' => er_ix0 _ rfl b1 o1 (la.length + 1) ca rfl (by omega)) hS ?_
        simp only [Act.put, List.setIfInBounds_toArray, List.set_cons_zero, List.set_cons_succ]
        refine d_take 2 16 rfl rfl (by kernel_rfl) (by kernel_rfl) (by kernel_rfl) (fun _ _ _ h => h) rfl (fun w' hw' => er_fT _ rfl b1 o1 rfl) hS ?_
        simp only [Act.put, List.setIfInBounds_toArray, List.set_cons_zero, List.set_cons_succ]
        refine d_take 3 17 rfl rfl (by kernel_rfl) (by kernel_rfl) (by kernel_rfl) (fun _ _ _ h => h) rfl (fun w' hw' => er_ldi _ rfl b1 o1 (.int .i64 x.tk) rfl (X0.out w' hw')) hS ?_
        simp only [Act.put, List.setIfInBounds_toArray, List.set_cons_zero, List.set_cons_succ]
        refine d_take 4 18 rfl rfl (by kernel_rfl) (by kernel_rfl) (by kernel_rfl) (fun _ _ _ h => h) rfl (fun w' hw' => er_mv _ rfl (.slice (some ⟨b2, o2, none⟩) (lb.length + 1) cb) rfl) hS ?_
        simp only [Act.put, List.setIfInBounds_toArray, List.set_cons_zero, List.set_cons_succ]
        refine d_take 5 19 rfl rfl (by kernel_rfl) (by kernel_rfl) (by kernel_rfl) (fun _ _ _ h => h) rfl (fun w' hw' => er_ix0 _ rfl b2 o2 (lb.length + 1) cb rfl (by omega)) hS ?_
        simp only [Act.put, List.setIfInBounds_toArray, List.set_cons_zero, List.set_cons_succ]
        refine d_take 6 20 rfl rfl (by kernel_rfl) (by kernel_rfl) (by kernel_rfl) (fun _ _ _ h => h) rfl (fun w' hw' => er_fT _ rfl b2 o2 rfl) hS ?_
        simp only [Act.put, List.setIfInBounds_toArray, List.set_cons_zero, List.set_cons_succ]
        refine d_take 7 21 rfl rfl (by kernel_rfl) (by kernel_rfl) (by kernel_rfl) (fun _ _ _ h => h) rfl (fun w' hw' => er_ldi _ rfl b2 o2 (.int .i64 y.tk) rfl (Y0.out w' hw')) hS ?_
        simp only [Act.put, List.setIfInBounds_toArray, List.set_cons_zero, List.set_cons_succ]
        refine d_take 8 22 rfl rfl (by kernel_rfl) (by kernel_rfl) (by kernel_rfl) (fun _ _ _ h => h) rfl (fun w' hw' => er_leq _ _ rfl x.tk y.tk dd rfl rfl ED.out) hS ?_
        simp only [Act.put, List.setIfInBounds_toArray, List.set_cons_zero, List.set_cons_succ]
        refine wpAnyH_done (by kernel_rfl) ?_ _
        have KD : Hid (Kept No wr wr.drew) := (Kept.refl No wr).drew
        clear hS
        go_wp2
        go_meet
        exact ⟨rfl, KD.out⟩
      case rest =>
      rename World => w3
      obtain ⟨rfl, k3⟩ := hcut
      have H3 := hid k3
      have CX : Hid (∀ W, Kept No w3 W → Calls Tryd.prog 31 #[.agg (x.val d1 e1)] W fun r w' => ∃ u, r = .returned u ∧ Kept (fun k => w.heap.size ≤ k) w3 w' ∧ ∃ ya yc, u = .agg (x.val ya yc) ∧ Ir w' (Fd w' w.heap.size) x ya yc ∧ Kept No w3 w') := fun W q => (copy_any W w.heap.size ((HG.out.2.2.2.2.2.1.keep k3).keep q)).mono (fun r w' h => by
        obtain ⟨ya, yc, rfl, h1, h2⟩ := h
        exact ⟨_, rfl, (q.trans h2 (fun _ e => e.elim)).mono (fun _ e => e.elim), ya, yc, rfl, h1, q.trans h2 (fun _ e => e.elim)⟩)
      have CY : Hid (∀ W, Kept No w3 W → Calls Tryd.prog 31 #[.agg (y.val d2 e2)] W fun r w' => ∃ u, r = .returned u ∧ Kept (fun k => w.heap.size ≤ k) w3 w' ∧ ∃ ya yc, u = .agg (y.val ya yc) ∧ Ir w' (Fd w' w.heap.size) y ya yc ∧ Kept No w3 w') := fun W q => (copy_any W w.heap.size ((HG.out.2.2.2.2.2.2.keep k3).keep q)).mono (fun r w' h => by
        obtain ⟨ya, yc, rfl, h1, h2⟩ := h
        exact ⟨_, rfl, (q.trans h2 (fun _ e => e.elim)).mono (fun _ e => e.elim), ya, yc, rfl, h1, q.trans h2 (fun _ e => e.elim)⟩)
      have LX3 := hid (fun W (q : Kept (fun k => w.heap.size ≤ k) w3 W) => LX.out W ((k3.mono (fun _ e => e.elim)).trans q (fun _ e => .inl e)))
      have LY3 := hid (fun W (q : Kept (fun k => w.heap.size ≤ k) w3 W) => LY.out W ((k3.mono (fun _ e => e.elim)).trans q (fun _ e => .inl e)))
      clear k3 X0 Y0 LX LY
      cases dd with
      | true =>
        have hle := of_decide_eq_true ED.out
        have EM : Hid (∀ l : List Inp, ms ++ mrg (x :: la) (y :: lb) = l → (ms ++ [x]) ++ mrg la (y :: lb) = l) := fun l h => by rw [← h, mrg_le la lb hle, List.append_assoc]; rfl
        go_upto_region 4 with fail
        refine wp_region_held_drew (S := fun W => Kept (fun k => w.heap.size ≤ k) w3 W) (by kernel_rfl) ((Kept.refl _ w3).drew) (fun hS => ?_)
        refine d_take 0 23 rfl rfl (by kernel_rfl) (by kernel_rfl) (by kernel_rfl) (fun _ _ _ h => h) rfl (fun w' hw' => er_mv _ rfl (.slice ka k kc) rfl) hS ?_
        simp only [Act.put, List.setIfInBounds_toArray, List.set_cons_zero, List.set_cons_succ]
        refine d_take 1 24 rfl rfl (by kernel_rfl) (by kernel_rfl) (by kernel_rfl) (fun _ _ _ h => h) rfl (fun w' hw' => er_mv _ rfl (.slice (some ⟨b1, o1, none⟩) (la.length + 1) ca) rfl) hS ?_
        simp only [Act.put, List.setIfInBounds_toArray, List.set_cons_zero, List.set_cons_succ]
        refine d_take 2 25 rfl rfl (by kernel_rfl) (by kernel_rfl) (by kernel_rfl) (fun _ _ _ h => h) rfl (fun w' hw' => er_ix0 _ rfl b1 o1 (la.length + 1) ca rfl (by omega)) hS ?_
        simp only [Act.put, List.setIfInBounds_toArray, List.set_cons_zero, List.set_cons_succ]
        refine d_take 3 26 rfl rfl (by kernel_rfl) (by kernel_rfl) (by kernel_rfl) (fun _ _ _ h => h) rfl (fun w' hw' => er_ldX 28 _ rfl (.pointer (some ⟨b1, o1, none⟩)) (.agg (x.val d1 e1)) rfl (LX3.out w' hw')) hS ?_
        simp only [Act.put, List.setIfInBounds_toArray, List.set_cons_zero, List.set_cons_succ]
        refine d_take 7 30 rfl rfl (by kernel_rfl) (by kernel_rfl) (by kernel_rfl) (fun _ _ _ h => h) rfl (fun w' hw' => er_mv _ rfl (.slice (some ⟨b1, o1, none⟩) (la.length + 1) ca) rfl) hS ?_
        simp only [Act.put, List.setIfInBounds_toArray, List.set_cons_zero, List.set_cons_succ]
        refine d_take 8 31 rfl rfl (by kernel_rfl) (by kernel_rfl) (by kernel_rfl) (fun _ _ _ h => h) rfl (fun w' hw' => er_tl _ rfl b1 o1 (la.length + 1) ca rfl (by omega) (by omega)) hS ?_
        simp only [Act.put, List.setIfInBounds_toArray, List.set_cons_zero, List.set_cons_succ]
        refine d_callN _ 4 27 (by kernel_rfl) rfl rfl rfl (er_cCopy _ _ rfl (.agg (x.val d1 e1)) rfl) (CX.out _ ((Kept.refl _ w3).drew)) ?_
        rintro u w4 hS ⟨ya, yc, rfl, ir4, k4⟩
        simp only [Act.put, List.setIfInBounds_toArray, List.set_cons_zero, List.set_cons_succ]
        have H4 := hid (And.intro ir4 k4)
        clear ir4 k4
        refine d_make 5 28 (by kernel_rfl) rfl rfl rfl (er_bsG 22 28 4 48 Z4 (x.val ya yc) _ rfl Tryd.underlying22 Tryd.infoI (by decide) (by decide) rfl (fill_I x ya yc)) (hS.alloc _) ?_
        simp only [Act.put, List.setIfInBounds_toArray, List.set_cons_zero, List.set_cons_succ]
        obtain ⟨g7, c7, w5, hr5, o5, k5⟩ := apK_run (w := w4.alloc (.cells (x.val ya yc) 28)) 22 28 w.heap.size (.agg Z4) 4 48 Tryd.underlying22 Tryd.infoI rfl (by decide) (.slice ka k kc) k _ ((HG.out.1.keep ((H3.out.trans H4.out.2 (fun _ e => e.elim)).alloc _)).own) (by rw [World.size_alloc]; have h1 := HG.out.2.1.size; have h2 := H3.out.size; have h3 := H4.out.2.size; omega) ⟨w4.heap.size, 0, none⟩ 1 1 (x.val ya yc).toList rfl (news_alloc w4 (x.val ya yc) 28) (all_mem (x.val_one ya yc)) (by omega) (by omega) (by decide)
        have k5' := k5
        refine d_make 6 29 (by kernel_rfl) rfl rfl rfl (er_appI _ _ rfl (.slice ka k kc) (.slice (some ⟨w4.heap.size, 0, none⟩) 1 1) rfl rfl _ _ rfl hr5) ((hS.alloc _).trans k5 (fun q e => .inl (HG.out.1.low e))) ?_
        simp only [Act.put, List.setIfInBounds_toArray, List.set_cons_zero, List.set_cons_succ]
        clear hr5
        have hS5 : Kept (fun k => w.heap.size ≤ k) w3 w5 := (hS.alloc _).trans k5 (fun q e => .inl (HG.out.1.low e))
        refine d_take 9 5 rfl rfl (by kernel_rfl) (by kernel_rfl) (by kernel_rfl) (fun _ _ _ h => h) rfl (fun w' hw' => er_as _ rfl (.slice (some ⟨g7, 0, none⟩) (k + 1) c7) rfl) hS5 ?_
        simp only [Act.put, List.setIfInBounds_toArray, List.set_cons_zero, List.set_cons_succ]
        refine d_take 10 0 rfl rfl (by kernel_rfl) (by kernel_rfl) (by kernel_rfl) (fun _ _ _ h => h) rfl (fun w' hw' => er_as _ rfl (.slice (some ⟨b1, if ca = 1 then o1 else o1 + 4, none⟩) (la.length + 1 - 1) (ca - 1)) rfl) hS5 ?_
        simp only [Act.put, List.setIfInBounds_toArray, List.set_cons_zero, List.set_cons_succ]
        refine wpAnyH_done (by kernel_rfl) ?_ _
        have K4a : Kept No wr (w4.alloc (.cells (x.val ya yc) 28)) := (H3.out.trans H4.out.2 (fun _ e => e.elim)).alloc _
        have gi5 := (HG.out.1.keep K4a).more ((H4.out.1.keep ((Kept.refl No w4).alloc _)).mono (fun q hq => hq.kept ((Kept.refl No w4).alloc _) (fun e => e))) k5 o5
        have H5 := hid (And.intro gi5 ((HG.out.2.1.trans K4a (fun _ e => e.elim)).trans k5 (fun q e => .inl (HG.out.1.low e))))
        have KW : Kept (fun k => w.heap.size ≤ k) wr w5 := (K4a.mono (fun _ e => e.elim)).trans k5 (fun q e => .inl (HG.out.1.low e))
        have HW := hid KW
        clear hS hS5 k5 k5' o5 gi5 K4a KW H4
        go_wp2
        have il1 := HG.out.2.2.2.1.tail
        rw [Nat.add_sub_cancel] at il1
        refine ⟨⟨la, y :: lb, ms ++ [x], k + 1, _, _, _, _, _, _, rfl, rfl, rfl, il1.kept HW.out (fun q hq e => by omega), HG.out.2.2.2.2.1.kept HW.out (fun q hq e => by omega), H5.out.1, EM.out _ HG.out.2.2.1, by simp; omega, H5.out.2⟩, ?_⟩
        simp [lenV]
      | false =>
        have hle := of_decide_eq_false ED.out
        have EM : Hid (∀ l : List Inp, ms ++ mrg (x :: la) (y :: lb) = l → (ms ++ [y]) ++ mrg (x :: la) lb = l) := fun l h => by rw [← h, mrg_gt la lb hle, List.append_assoc]; rfl
        go_upto_region 5 with fail
        refine wp_region_held_drew (S := fun W => Kept (fun k => w.heap.size ≤ k) w3 W) (by kernel_rfl) ((Kept.refl _ w3).drew) (fun hS => ?_)
        refine d_take 0 32 rfl rfl (by kernel_rfl) (by kernel_rfl) (by kernel_rfl) (fun _ _ _ h => h) rfl (fun w' hw' => er_mv _ rfl (.slice ka k kc) rfl) hS ?_
        simp only [Act.put, List.setIfInBounds_toArray, List.set_cons_zero, List.set_cons_succ]
        refine d_take 1 33 rfl rfl (by kernel_rfl) (by kernel_rfl) (by kernel_rfl) (fun _ _ _ h => h) rfl (fun w' hw' => er_mv _ rfl (.slice (some ⟨b2, o2, none⟩) (lb.length + 1) cb) rfl) hS ?_
        simp only [Act.put, List.setIfInBounds_toArray, List.set_cons_zero, List.set_cons_succ]
        refine d_take 2 34 rfl rfl (by kernel_rfl) (by kernel_rfl) (by kernel_rfl) (fun _ _ _ h => h) rfl (fun w' hw' => er_ix0 _ rfl b2 o2 (lb.length + 1) cb rfl (by omega)) hS ?_
        simp only [Act.put, List.setIfInBounds_toArray, List.set_cons_zero, List.set_cons_succ]
        refine d_take 3 35 rfl rfl (by kernel_rfl) (by kernel_rfl) (by kernel_rfl) (fun _ _ _ h => h) rfl (fun w' hw' => er_ldX 28 _ rfl (.pointer (some ⟨b2, o2, none⟩)) (.agg (y.val d2 e2)) rfl (LY3.out w' hw')) hS ?_
        simp only [Act.put, List.setIfInBounds_toArray, List.set_cons_zero, List.set_cons_succ]
        refine d_take 7 39 rfl rfl (by kernel_rfl) (by kernel_rfl) (by kernel_rfl) (fun _ _ _ h => h) rfl (fun w' hw' => er_mv _ rfl (.slice (some ⟨b2, o2, none⟩) (lb.length + 1) cb) rfl) hS ?_
        simp only [Act.put, List.setIfInBounds_toArray, List.set_cons_zero, List.set_cons_succ]
        refine d_take 8 40 rfl rfl (by kernel_rfl) (by kernel_rfl) (by kernel_rfl) (fun _ _ _ h => h) rfl (fun w' hw' => er_tl _ rfl b2 o2 (lb.length + 1) cb rfl (by omega) (by omega)) hS ?_
        simp only [Act.put, List.setIfInBounds_toArray, List.set_cons_zero, List.set_cons_succ]
        refine d_callN _ 4 36 (by kernel_rfl) rfl rfl rfl (er_cCopy _ _ rfl (.agg (y.val d2 e2)) rfl) (CY.out _ ((Kept.refl _ w3).drew)) ?_
        rintro u w4 hS ⟨ya, yc, rfl, ir4, k4⟩
        simp only [Act.put, List.setIfInBounds_toArray, List.set_cons_zero, List.set_cons_succ]
        have H4 := hid (And.intro ir4 k4)
        clear ir4 k4
        refine d_make 5 37 (by kernel_rfl) rfl rfl rfl (er_bsG 22 28 4 48 Z4 (y.val ya yc) _ rfl Tryd.underlying22 Tryd.infoI (by decide) (by decide) rfl (fill_I y ya yc)) (hS.alloc _) ?_
        simp only [Act.put, List.setIfInBounds_toArray, List.set_cons_zero, List.set_cons_succ]
        obtain ⟨g7, c7, w5, hr5, o5, k5⟩ := apK_run (w := w4.alloc (.cells (y.val ya yc) 28)) 22 28 w.heap.size (.agg Z4) 4 48 Tryd.underlying22 Tryd.infoI rfl (by decide) (.slice ka k kc) k _ ((HG.out.1.keep ((H3.out.trans H4.out.2 (fun _ e => e.elim)).alloc _)).own) (by rw [World.size_alloc]; have h1 := HG.out.2.1.size; have h2 := H3.out.size; have h3 := H4.out.2.size; omega) ⟨w4.heap.size, 0, none⟩ 1 1 (y.val ya yc).toList rfl (news_alloc w4 (y.val ya yc) 28) (all_mem (y.val_one ya yc)) (by omega) (by omega) (by decide)
        have k5' := k5
        refine d_make 6 38 (by kernel_rfl) rfl rfl rfl (er_appI _ _ rfl (.slice ka k kc) (.slice (some ⟨w4.heap.size, 0, none⟩) 1 1) rfl rfl _ _ rfl hr5) ((hS.alloc _).trans k5 (fun q e => .inl (HG.out.1.low e))) ?_
        simp only [Act.put, List.setIfInBounds_toArray, List.set_cons_zero, List.set_cons_succ]
        clear hr5
        have hS5 : Kept (fun k => w.heap.size ≤ k) w3 w5 := (hS.alloc _).trans k5 (fun q e => .inl (HG.out.1.low e))
        refine d_take 9 5 rfl rfl (by kernel_rfl) (by kernel_rfl) (by kernel_rfl) (fun _ _ _ h => h) rfl (fun w' hw' => er_as _ rfl (.slice (some ⟨g7, 0, none⟩) (k + 1) c7) rfl) hS5 ?_
        simp only [Act.put, List.setIfInBounds_toArray, List.set_cons_zero, List.set_cons_succ]
        refine d_take 10 1 rfl rfl (by kernel_rfl) (by kernel_rfl) (by kernel_rfl) (fun _ _ _ h => h) rfl (fun w' hw' => er_as _ rfl (.slice (some ⟨b2, if cb = 1 then o2 else o2 + 4, none⟩) (lb.length + 1 - 1) (cb - 1)) rfl) hS5 ?_
        simp only [Act.put, List.setIfInBounds_toArray, List.set_cons_zero, List.set_cons_succ]
        refine wpAnyH_done (by kernel_rfl) ?_ _
        have K4a : Kept No wr (w4.alloc (.cells (y.val ya yc) 28)) := (H3.out.trans H4.out.2 (fun _ e => e.elim)).alloc _
        have gi5 := (HG.out.1.keep K4a).more ((H4.out.1.keep ((Kept.refl No w4).alloc _)).mono (fun q hq => hq.kept ((Kept.refl No w4).alloc _) (fun e => e))) k5 o5
        have H5 := hid (And.intro gi5 ((HG.out.2.1.trans K4a (fun _ e => e.elim)).trans k5 (fun q e => .inl (HG.out.1.low e))))
        have KW : Kept (fun k => w.heap.size ≤ k) wr w5 := (K4a.mono (fun _ e => e.elim)).trans k5 (fun q e => .inl (HG.out.1.low e))
        have HW := hid KW
        clear hS hS5 k5 k5' o5 gi5 K4a KW H4
        go_wp2
        have il2 := HG.out.2.2.2.2.1.tail
        rw [Nat.add_sub_cancel] at il2
        refine ⟨⟨x :: la, lb, ms ++ [y], k + 1, _, _, _, _, _, _, rfl, rfl, rfl, HG.out.2.2.2.1.kept HW.out (fun q hq e => by omega), il2.kept HW.out (fun q hq e => by omega), H5.out.1, EM.out _ HG.out.2.2.1, by simp; omega, H5.out.2⟩, ?_⟩
        simp [lenV]
end Go.Proofs.YtfdcmhbpnadcpaaDoor
