/-
  script: copyOf, appendCopies.
-/
import Derived.Test.YtfdcmhbpnadcpaaDoorIDat
import Derived.WalkKit
namespace Go.Proofs.YtfdcmhbpnadcpaaDoor
open Go.RowKit
set_option linter.unusedVariables false
set_option linter.unusedSimpArgs false
set_option maxRecDepth 100000

set_option maxHeartbeats 2000000 in
theorem copyRaw {F : Nat → Prop} {da : Option Addr} {dn dc : Nat} {x : List Int} (w : World) (k0 k1 k2 : Int) (hz : Zs w F da dn dc x) (hd : dn ≤ 17592186044416) :
    Calls Tryd.prog 31 #[.agg #[.int .i64 k0, .int .i64 k1, .int .i64 k2, .slice da dn dc]] w fun r w' => ∃ ya yc, r = .returned (.agg #[.int .i64 k0, .int .i64 k1, .int .i64 k2, .slice ya dn yc]) ∧ w'.ownsRow w.heap.size 2 1 (.slice ya dn yc) dn (x.map iv) ∧ Kept No w w' := by
  obtain ⟨w2, e2⟩ : ∃ w2, w2 = (w.alloc (.cells #[.int .i64 k0, .int .i64 k1, .int .i64 k2, .slice da dn dc] 28)).alloc (.cells #[.int .i64 0, .int .i64 0, .int .i64 0, .slice none 0 0] 28) := ⟨_, rfl⟩
  have K1 : Kept No w w2 := by rw [e2]; exact ((Kept.refl No w).alloc _).alloc _
  have BA : w2.heap[w.heap.size]? = some (.cells #[.int .i64 k0, .int .i64 k1, .int .i64 k2, .slice da dn dc] 28) := by rw [e2]; exact ((Kept.refl No _).alloc _).at' (alloc_new w _) (fun e => e)
  have BR : w2.heap[w.heap.size + 1]? = some (.cells #[.int .i64 0, .int .i64 0, .int .i64 0, .slice none 0 0] 28) := by
    have := alloc_new (w.alloc (.cells #[.int .i64 k0, .int .i64 k1, .int .i64 k2, .slice da dn dc] 28)) (.cells #[.int .i64 0, .int .i64 0, .int .i64 0, .slice none 0 0] 28)
    rw [World.size_alloc] at this
    rw [e2]; exact this
  have S1 : Hid (w.heap.size + 1 < w2.heap.size) := heap_lt BR
  have hv := (hz.kept K1 (fun _ _ e => e)).vs
  have c3a : w2.cell? ⟨w.heap.size, 3, none⟩ = some (.slice da dn dc) := (cell_blk BA 3).trans rfl
  have H1 := hid (And.intro K1 (And.intro BA (And.intro BR hv)))
  clear K1 BA BR hz hv
  go_enter Tryd.func31, Tryd.ntmps31
  go_upto_region 1 with fail
  rw [← e2]
  clear e2
  go_wp2_with (at_builtin; refine wpList_cpv rfl _ _ 26 2 rfl _ 8 Tryd.underlying26 Tryd.infoW rfl w2.heap.size _ rfl (World.ownsRow_nil _ _ _ _) (Nat.le_refl _) _ dn dc rfl _ _ H1.out.2.2.2 (iv_one x) (by omega) ?_; intro ya yc w3 o3 k3'; have k3 : Kept No w2 w3 := k3'.out.mono (fun k e => by cases e); have b1 := k3.at' H1.out.2.1 (fun e => e); have b2 := k3.at' H1.out.2.2.1 (fun e => e); have c0 := (cell_blk b1 0).trans rfl; have c1 := (cell_blk b1 1).trans rfl; have c2 := (cell_blk b1 2).trans rfl; have c3 := (cell_blk b1 3).trans rfl; have r0 := (cell_blk b2 0).trans rfl; have r1 := (cell_blk b2 1).trans rfl; have r2 := (cell_blk b2 2).trans rfl; have r3 := (cell_blk b2 3).trans rfl; have fa := fz_blk b1 3; have f0 := fz_blk b2 0; have f1 := fz_blk b2 1; have f2 := fz_blk b2 2; have f3 := fz_blk b2 3; have H3 := hid (And.intro o3.out (And.intro k3 (And.intro b1 b2))); clear o3 k3 k3' b1 b2)
  have kq : Kept (fun k => k = w.heap.size ∨ k = w.heap.size + 1) w3 (((((w3.setCell ⟨w.heap.size, 3, none⟩ (.slice ya dn yc)).setCell ⟨w.heap.size + 1, 0, none⟩ (.int .i64 k0)).setCell ⟨w.heap.size + 1, 1, none⟩ (.int .i64 k1)).setCell ⟨w.heap.size + 1, 2, none⟩ (.int .i64 k2)).setCell ⟨w.heap.size + 1, 3, none⟩ (.slice ya dn yc)) := (((((Kept.refl (fun k => k = w.heap.size ∨ k = w.heap.size + 1) w3).setCell (p := ⟨w.heap.size, 3, none⟩) (.inl (.inl rfl)) _).setCell (p := ⟨w.heap.size + 1, 0, none⟩) (.inl (.inr rfl)) _).setCell (p := ⟨w.heap.size + 1, 1, none⟩) (.inl (.inr rfl)) _).setCell (p := ⟨w.heap.size + 1, 2, none⟩) (.inl (.inr rfl)) _).setCell (p := ⟨w.heap.size + 1, 3, none⟩) (.inl (.inr rfl)) _
  have hfin : (((((w3.setCell ⟨w.heap.size, 3, none⟩ (.slice ya dn yc)).setCell ⟨w.heap.size + 1, 0, none⟩ (.int .i64 k0)).setCell ⟨w.heap.size + 1, 1, none⟩ (.int .i64 k1)).setCell ⟨w.heap.size + 1, 2, none⟩ (.int .i64 k2)).setCell ⟨w.heap.size + 1, 3, none⟩ (.slice ya dn yc)).heap[w.heap.size + 1]? = some (.cells #[.int .i64 k0, .int .i64 k1, .int .i64 k2, .slice ya dn yc] 28) :=
    set_blk (set_blk (set_blk (set_blk (((Kept.refl (fun k => k = w.heap.size) w3).setCell (p := ⟨w.heap.size, 3, none⟩) (.inl rfl) _).at' H3.out.2.2.2 (fun e => by omega)) 0 _) 1 _) 2 _) 3 _
  refine bodyPost_ret (results_cell_row rfl _ _ (w.heap.size + 1) 28 #[.int .i64 k0, .int .i64 k1, .int .i64 k2, .slice ya dn yc] (0, 0) _ rfl hfin Tryd.underlying28 rfl (by kernel_rfl)) rfl ?_
  have s1 := S1.out
  exact ⟨ya, yc, rfl, kq.owns (owns_base H3.out.1 (by omega)) (fun k hk e => by have := (owns_blk H3.out.1 hk).1; omega), (H1.out.1.trans H3.out.2.1 (fun _ e => .inl e)).trans kq (fun k e => .inr (by omega))⟩
theorem copy_any {F : Nat → Prop} {x : Inp} {da : Option Addr} {dc : Nat} (w : World) (B : Nat) (hr : Ir w F x da dc) :
    Calls Tryd.prog 31 #[.agg (x.val da dc)] w fun r w' => ∃ ya yc, r = .returned (.agg (x.val ya yc)) ∧ Ir w' (Fd w' B) x ya yc ∧ Kept No w w' := by
  refine (copyRaw w x.tk x.kd x.tg hr.zs hr.sm).mono ?_
  rintro r w' ⟨ya, yc, rfl, ho, k⟩
  obtain ⟨a', c', e, hz⟩ := Zs.of_owns ho
  injection e with e1 _ e3
  subst e1 e3
  refine ⟨ya, yc, rfl, ⟨hz.mono (fun g hg => .inr ?_), hr.sm, hr.t6⟩, k⟩
  obtain ⟨_, cs, h2⟩ := owns_blk ho hg
  exact ⟨cs, _, h2⟩
theorem take_snoc {α : Type} {l : List α} {i : Nat} {x : α} (h : l[i]? = some x) : l.take (i + 1) = l.take i ++ [x] := by
  obtain ⟨hi, rfl⟩ := List.getElem?_eq_some_iff.1 h
  rw [List.take_succ_eq_append_getElem hi]
set_option maxHeartbeats 4000000 in
theorem appendCopies_any {a : Option Addr} {n c m B : Nat} {v : Value} {xs ys : List Inp} (w : World) (h : Gi w B v m ys) (hl : Il w (fun k => k < B) a n c xs) (hB : B ≤ w.heap.size) (hm : m + n ≤ 1048576) :
    Calls Tryd.prog 32 #[v, .slice a n c] w fun r w' => ∃ v', r = .returned v' ∧ Gi w' B v' (m + n) (ys ++ xs) ∧ Kept (fun k => B ≤ k) w w' := by
  obtain ⟨va, vc, rfl, _⟩ := h.shape
  have hlc := hl.cap
  have hlm := hl.max
  have HH := hid (And.intro h hl)
  clear h hl
  go_enter Tryd.func32, Tryd.ntmps32
  go_upto_region 1 with fail
  go_wp2
  go_loopw [0, 9] (fun u0 u9 wr => ∃ (k : Nat) (ka : Option Addr) (kc : Nat), k ≤ n ∧ u0 = .slice ka (m + k) kc ∧ u9 = .int .i64 k ∧ Gi wr B (.slice ka (m + k) kc) (m + k) (ys ++ xs.take k) ∧ Kept (fun k => B ≤ k) w wr) (fun _ u9 _ => n - (intOf u9).toNat)
  case atStart => exact ⟨0, va, vc, by omega, rfl, rfl, by rw [List.take_zero, List.append_nil]; exact HH.out.1, Kept.refl _ _⟩
  case round =>
    obtain ⟨k, ka, kc, hk, rfl, rfl, gi, kr⟩ := hrel
    by_cases hlt : k < n
    · have hltz : (k : Int) < (n : Int) := by omega
      have ilr := HH.out.2.kept kr (fun b hb e => by omega)
      obtain ⟨x, hx⟩ : ∃ x, xs[k]? = some x := ⟨_, List.getElem?_eq_getElem (by rw [HH.out.2.len]; exact hlt)⟩
      obtain ⟨b, o, da, dc, rfl, _, hc, ir⟩ := ilr.at' k x hx
      have LD := hid (ldI hc)
      obtain ⟨As, gj⟩ := gi
      have HG := hid (And.intro gj (And.intro kr (And.intro ir hx)))
      clear gj kr ir ilr hc hx
      go_upto_region 3 with fail
      go_cut [6] (fun u wd => ∃ pb, u = .pointer (some ⟨pb, 0, none⟩) ∧ wd.heap[pb]? = some (.cells (x.val da dc) 28) ∧ Kept No wr wd)
      case first =>
        go_wp2_with (first
          | (refine l_take 12 rfl rfl (er_ldX 28 (.tmp 11) rfl (.pointer (some ⟨b, o + k * 4, none⟩)) (.agg (x.val da dc)) rfl LD.out) ?_)
          | (refine l_make 6 rfl rfl (er_alI rfl) ?_)
          | (refine l_turn rfl rfl (er_stI _ _ rfl wr.heap.size (x.val da dc) _ rfl rfl (alloc_new wr _) rfl rfl (x.val_one da dc)) ?_))
        go_meet
        exact ⟨wr.heap.size, rfl, setRow_heap _ _ _ _ _ (0, 0) (alloc_new wr _), ((Kept.refl No wr).alloc _).setRow (.inr (Nat.le_refl _)) _⟩
      case rest =>
      rename World => w3
      obtain ⟨pb, rfl, hpb, k3⟩ := hcut
      have LP := hid (ldI (w := w3) (b := pb) (o := 0) (x := x) (da := da) (dc := dc) (fun j v hv => by rw [Nat.zero_add, cell_blk hpb, ← Array.getElem?_toList]; exact hv))
      have CC := hid (copy_any w3 B (HG.out.2.2.1.keep k3))
      have H3 := hid k3
      clear k3 hpb LD
      go_wp2_with (first
        | (refine l_take 14 rfl rfl (er_ldX 28 (.tmp 6) rfl (.pointer (some ⟨pb, 0, none⟩)) (.agg (x.val da dc)) rfl LP.out) ?_)
        | (go_at_call 31; refine CC.out.mono ?_; rintro r w4 ⟨ya, yc, rfl, ir4, k4⟩; have H4 := hid (And.intro ir4 (H3.out.trans k4 (fun _ e => e.elim))); clear ir4 k4)
        | (refine l_make 16 rfl rfl (er_bsG 22 28 4 48 Z4 (x.val ya yc) _ rfl Tryd.underlying22 Tryd.infoI (by decide) (by decide) rfl (fill_I x ya yc)) ?_)
        | (at_builtin; refine wpList_apK rfl _ _ 22 28 rfl B (.agg Z4) 4 48 Tryd.underlying22 Tryd.infoI rfl (by decide) (.slice ka (m + k) kc) (m + k) _ rfl ((HG.out.1.keep (H4.out.2.alloc _)).own) (by rw [World.size_alloc]; have h1 := HG.out.2.1.size; have h2 := H4.out.2.size; omega) ⟨w4.heap.size, 0, none⟩ 1 1 (x.val ya yc).toList rfl rfl (news_alloc w4 (x.val ya yc) 28) (all_mem (x.val_one ya yc)) (by omega) (by omega) (by decide) ?_; intro g7 c7 w5 o5 k5))
      have K4a : Kept No wr (w4.alloc (.cells (x.val ya yc) 28)) := H4.out.2.alloc _
      refine ⟨⟨k + 1, some ⟨g7, 0, none⟩, c7, by omega, rfl, rfl, ?_, ?_⟩, ?_⟩
      · rw [take_snoc HG.out.2.2.2, ← List.append_assoc]
        exact (HG.out.1.keep K4a).more ((H4.out.1.keep ((Kept.refl No w4).alloc _)).mono (fun q hq => hq.kept ((Kept.refl No w4).alloc _) (fun e => e))) k5.out o5.out
      · exact (HG.out.2.1.trans K4a (fun _ e => e.elim)).trans k5.out (fun q e => .inl (HG.out.1.low e))
      · simp [intOf]; omega
    · have hltz : ¬ (k : Int) < (n : Int) := by omega
      obtain rfl : k = n := by omega
      have HG := hid (And.intro gi kr)
      clear gi kr
      go_wp2
      go_ret
      refine ⟨_, rfl, ?_, HG.out.2⟩
      have := HG.out.1
      rw [List.take_of_length_le (by rw [HH.out.2.len]; exact Nat.le_refl _)] at this
      exact this
end Go.Proofs.YtfdcmhbpnadcpaaDoor
