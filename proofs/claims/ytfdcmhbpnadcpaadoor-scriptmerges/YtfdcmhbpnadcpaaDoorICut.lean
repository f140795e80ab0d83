/-
  script.Cut; the law's sorted and rising.
-/
import Derived.Test.YtfdcmhbpnadcpaaDoorICopy
namespace Go.Proofs.YtfdcmhbpnadcpaaDoor
open Go.RowKit
set_option linter.unusedVariables false
set_option linter.unusedSimpArgs false
set_option maxRecDepth 100000

theorem cutB_eq (f t : Int) (x : Inp) : cutB f t x = true ↔ f ≤ x.tk ∧ x.tk < t := by simp [cutB]
theorem filter_snoc {α : Type} {l : List α} {i : Nat} {x : α} (h : l[i]? = some x) (p : α → Bool) : (l.take (i + 1)).filter p = if p x then (l.take i).filter p ++ [x] else (l.take i).filter p := by
  rw [take_snoc h, List.filter_append]
  by_cases e : p x
  · simp [e]
  · simp [e]
theorem kept_no {w w' : World} (h : Kept (fun k => w.heap.size ≤ k) w w') : Kept No w w' := ⟨h.os, h.tape, h.output, h.size, fun q hq _ => h.block q hq (fun e => by omega)⟩
set_option maxHeartbeats 4000000 in
theorem cut_any {F : Nat → Prop} {a : Option Addr} {n c : Nat} {xs : List Inp} (w : World) (f t : Int) (hl : Il w F a n c xs) (hs : n ≤ 1048576) :
    Calls Tryd.prog 18 #[.slice a n c, .int .i64 f, .int .i64 t] w fun r w' => ∃ ra k rc, r = .returned (.slice ra k rc) ∧ Il w' An ra k rc (cutL xs f t) ∧ Kept No w w' := by
  have hlc := hl.cap
  have hlm := hl.max
  have hlen := hl.len
  have HH := hid hl.low
  clear hl
  go_enter Tryd.func18, Tryd.ntmps18
  go_upto_region 2 with fail
  go_wp2
  go_loopw [7, 12] (fun u7 u12 wr => ∃ (k l : Nat) (ka : Option Addr) (kc : Nat), k ≤ n ∧ l ≤ k ∧ u7 = .slice ka l kc ∧ u12 = .int .i64 k ∧ Gi wr w.heap.size (.slice ka l kc) l ((xs.take k).filter (cutB f t)) ∧ Kept (fun k => w.heap.size ≤ k) w wr) (fun _ u12 _ => n - (intOf u12).toNat)
  case atStart => exact ⟨0, 0, none, 0, by omega, by omega, rfl, rfl, Gi.nil _ _, Kept.refl _ _⟩
  case round =>
    obtain ⟨k, l, ka, kc, hk, hlk, rfl, rfl, gi, kr⟩ := hrel
    by_cases hlt : k < n
    · have hltz : (k : Int) < (n : Int) := by omega
      have ilr := HH.out.kept kr (fun b hb e => by omega)
      obtain ⟨x, hx⟩ : ∃ x, xs[k]? = some x := ⟨_, List.getElem?_eq_getElem (by rw [hlen]; exact hlt)⟩
      obtain ⟨b, o, da, dc, rfl, _, hc, ir⟩ := ilr.at' k x hx
      have LD := hid (ldI hc)
      obtain ⟨As, gj⟩ := gi
      have HX := hid (filter_snoc hx (cutB f t))
      have HG := hid (And.intro gj (And.intro kr ir))
      clear gj kr ir ilr hc hx
      go_upto_region 4 with fail
      go_cut [9] (fun u wd => ∃ pb, u = .pointer (some ⟨pb, 0, none⟩) ∧ wd.heap[pb]? = some (.cells (x.val da dc) 28) ∧ Kept No wr wd)
      case first =>
        go_wp2_with (first
          | (refine l_take 15 rfl rfl (er_ldX 28 (.tmp 14) rfl (.pointer (some ⟨b, o + k * 4, none⟩)) (.agg (x.val da dc)) rfl LD.out) ?_)
          | (refine l_make 9 rfl rfl (er_alI rfl) ?_)
          | (refine l_turn rfl rfl (er_stI _ _ rfl wr.heap.size (x.val da dc) _ rfl rfl (alloc_new wr _) rfl rfl (x.val_one da dc)) ?_))
        go_meet
        exact ⟨wr.heap.size, rfl, setRow_heap _ _ _ _ _ (0, 0) (alloc_new wr _), ((Kept.refl No wr).alloc _).setRow (.inr (Nat.le_refl _)) _⟩
      case rest =>
      rename World => w3
      obtain ⟨pb, rfl, hpb, k3⟩ := hcut
      have LP := hid (ldI (w := w3) (b := pb) (o := 0) (x := x) (da := da) (dc := dc) (fun j v hv => by rw [Nat.zero_add, cell_blk hpb, ← Array.getElem?_toList]; exact hv))
      have t0 : w3.cell? ⟨pb, 0, none⟩ = some (.int .i64 x.tk) := (cell_blk hpb 0).trans rfl
      have CC := hid (copy_any w3 w.heap.size (HG.out.2.2.keep k3))
      have H3 := hid k3
      clear k3 hpb LD
      by_cases h1 : f ≤ x.tk
      · by_cases h2 : x.tk < t
        · have hcut : cutB f t x = true := by simp [cutB, h1, h2]
          rw [if_pos hcut] at HX
          clear hcut
          go_wp2_with (first
            | (refine l_take 27 rfl rfl (er_ldX 28 (.tmp 9) rfl (.pointer (some ⟨pb, 0, none⟩)) (.agg (x.val da dc)) rfl LP.out) ?_)
            | (go_at_call 31; refine CC.out.mono ?_; rintro r w4 ⟨ya, yc, rfl, ir4, k4⟩; have H4 := hid (And.intro ir4 (H3.out.trans k4 (fun _ e => e.elim))); clear ir4 k4 t0)
            | (refine l_make 29 rfl rfl (er_bsG 22 28 4 48 Z4 (x.val ya yc) _ rfl Tryd.underlying22 Tryd.infoI (by decide) (by decide) rfl (fill_I x ya yc)) ?_)
            | (at_builtin; refine wpList_apK rfl _ _ 22 28 rfl w.heap.size (.agg Z4) 4 48 Tryd.underlying22 Tryd.infoI rfl (by decide) (.slice ka l kc) l _ rfl ((HG.out.1.keep (H4.out.2.alloc _)).own) (by rw [World.size_alloc]; have h1 := HG.out.2.1.size; have h2 := H4.out.2.size; omega) ⟨w4.heap.size, 0, none⟩ 1 1 (x.val ya yc).toList rfl rfl (news_alloc w4 (x.val ya yc) 28) (all_mem (x.val_one ya yc)) (by omega) (by omega) (by decide) ?_; intro g7 c7 w5 o5 k5))
          have K4a : Kept No wr (w4.alloc (.cells (x.val ya yc) 28)) := H4.out.2.alloc _
          refine ⟨⟨k + 1, l + 1, some ⟨g7, 0, none⟩, c7, by omega, by omega, rfl, rfl, ?_, ?_⟩, ?_⟩
          · rw [HX.out]
            exact (HG.out.1.keep K4a).more ((H4.out.1.keep ((Kept.refl No w4).alloc _)).mono (fun q hq => hq.kept ((Kept.refl No w4).alloc _) (fun e => e))) k5.out o5.out
          · exact (HG.out.2.1.trans K4a (fun _ e => e.elim)).trans k5.out (fun q e => .inl (HG.out.1.low e))
          · simp [intOf]; omega
        · have hcut : ¬ cutB f t x = true := by simp [cutB, h2]
          rw [if_neg hcut] at HX
          clear hcut
          go_wp2
          refine ⟨⟨k + 1, l, ka, kc, by omega, by omega, rfl, by go_num, ?_, ?_⟩, ?_⟩
          · rw [HX.out]; exact ⟨As, HG.out.1.keep H3.out⟩
          · exact HG.out.2.1.trans H3.out (fun _ e => e.elim)
          · simp [intOf]; omega
      · have hcut : ¬ cutB f t x = true := by simp [cutB, h1]
        rw [if_neg hcut] at HX
        clear hcut
        go_wp2
        refine ⟨⟨k + 1, l, ka, kc, by omega, by omega, rfl, by go_num, ?_, ?_⟩, ?_⟩
        · rw [HX.out]; exact ⟨As, HG.out.1.keep H3.out⟩
        · exact HG.out.2.1.trans H3.out (fun _ e => e.elim)
        · simp [intOf]; omega
    · have hltz : ¬ (k : Int) < (n : Int) := by omega
      obtain rfl : k = n := by omega
      have HG := hid (And.intro gi kr)
      clear gi kr
      go_wp2
      go_ret
      have g := HG.out.1
      rw [List.take_of_length_le (by rw [hlen]; exact Nat.le_refl _)] at g
      exact ⟨ka, l, kc, rfl, g.il, kept_no HG.out.2⟩
end Go.Proofs.YtfdcmhbpnadcpaaDoor
