/-
  The document's Arm, Cancel.
-/
import Derived.Test.YtdojmmnojpeklaaWRef3
namespace Go.Proofs.Ytdojmmnojpeklaa
open Go.RowKit
set_option linter.unusedVariables false
set_option maxRecDepth 100000

section
variable {W : World} {N : Nat} {v : Value} {L : List Fi} {n : Nat}
/-- the answer: box q is loaded and laid into block q + 1 -/
theorem answer47 {w : World} {q : Nat} {x y : Value} (h : w.heap[q]? = some (.cells #[.int .i64 0, .slice none 0 0] 47)) : (loadVar 47 ⟨q, 0, none⟩).run Try.prog ((w.setCell ⟨q, 0, none⟩ x).setCell ⟨q, 1, none⟩ y) = .ok (.agg #[x, y]) ((w.setCell ⟨q, 0, none⟩ x).setCell ⟨q, 1, none⟩ y) := ld47 (set2' h x y)
set_option maxHeartbeats 1000000 in
theorem rarm_no (f : Fi) (hf : ¬ Ok N f) (hv : W.ownsRow 0 32 2 v n (fcL L)) : Calls Try.prog 29 #[mv N v, .int .i64 f.i, .int .i64 f.t] W fun ex w' => ex = .returned (.tuple #[mv N v, .int .i64 2]) ∧ Below W.heap.size W w' := by
  obtain ⟨_, a, c, rfl, -⟩ := owns_fis hv
  obtain ⟨QA, QB⟩ := heap_two W (.cells #[.int .i64 N, .slice a n c] 47) (.cells #[.int .i64 0, .slice none 0 0] 47)
  have K1 : Hid (Kept No W ((W.alloc (.cells #[.int .i64 N, .slice a n c] 47)).alloc (.cells #[.int .i64 0, .slice none 0 0] 47))) := ((Kept.refl No W).alloc _).alloc _
  have q0 := cell_of_row (k := 0) (v := .int .i64 N) QA rfl
  have q1 := cell_of_row (k := 1) (v := .slice a n c) QA rfl
  have f0 := fz_row QB
  have p0 := cell_of_row (k := 0) (v := .int .i64 0) QB rfl
  have p1 := cell_of_row (k := 1) (v := .slice none 0 0) QB rfl
  have HB : Hid (((W.alloc (.cells #[.int .i64 N, .slice a n c] 47)).alloc (.cells #[.int .i64 0, .slice none 0 0] 47)).heap[W.heap.size + 1]? = some (.cells #[.int .i64 0, .slice none 0 0] 47)) := QB
  unfold mv
  clear hv QA QB
  have key : f.i < 0 ∨ (¬ f.i < 0 ∧ f.i > 65535) ∨ (¬ f.i < 0 ∧ ¬ f.i > 65535 ∧ f.t < N) ∨ (¬ f.i < 0 ∧ ¬ f.i > 65535 ∧ ¬ f.t < N ∧ f.t ≥ 1099511627776) := by unfold Ok at hf; omega
  clear hf
  rcases key with c1 | ⟨c1, c2⟩ | ⟨c1, c2, c3⟩ | ⟨c1, c2, c3, c4⟩
  all_goals
    go_enter Try.func29, Try.ntmps29
    go_upto_region 1 with fail
    generalize (W.alloc (.cells #[.int .i64 N, .slice a n c] 47)).alloc (.cells #[.int .i64 0, .slice none 0 0] 47) = w1 at *
    go_wp2
    have hld := answer47 (x := .int .i64 N) (y := .slice a n c) HB.out
    refine bodyPost_ret (v := .tuple #[.agg #[.int .i64 N, .slice a n c], .int .i64 2]) ?_ rfl ⟨rfl, (set2_kept K1.out (Nat.le_succ _) _ _).below0⟩
    rw [results_cell_tmp rfl]
    simp [asAddr, Result.andThen, hld]
set_option maxHeartbeats 2000000 in
theorem rarm_yes (f : Fi) (hf : Ok N f) (hv : W.ownsRow 0 32 2 v n (fcL L)) (hn : n ≤ 1000000) : Calls Try.prog 29 #[mv N v, .int .i64 f.i, .int .i64 f.t] W fun ex w' => ∃ u, ex = .returned (.tuple #[mv N u, .int .i64 0]) ∧ w'.ownsRow W.heap.size 32 2 u (ins f (rem f.i L)).length (fcL (ins f (rem f.i L))) ∧ Below W.heap.size W w' := by
  obtain ⟨hl, a, c, rfl, hc1, hc2, -⟩ := owns_fis hv
  obtain ⟨QA, QB⟩ := heap_two W (.cells #[.int .i64 N, .slice a n c] 47) (.cells #[.int .i64 0, .slice none 0 0] 47)
  have K1 : Hid (Kept No W ((W.alloc (.cells #[.int .i64 N, .slice a n c] 47)).alloc (.cells #[.int .i64 0, .slice none 0 0] 47))) := ((Kept.refl No W).alloc _).alloc _
  have q0 := cell_of_row (k := 0) (v := .int .i64 N) QA rfl
  have q1 := cell_of_row (k := 1) (v := .slice a n c) QA rfl
  have HA : Hid (((W.alloc (.cells #[.int .i64 N, .slice a n c] 47)).alloc (.cells #[.int .i64 0, .slice none 0 0] 47)).heap[W.heap.size]? = some (.cells #[.int .i64 N, .slice a n c] 47)) := QA
  have HB : Hid (((W.alloc (.cells #[.int .i64 N, .slice a n c] 47)).alloc (.cells #[.int .i64 0, .slice none 0 0] 47)).heap[W.heap.size + 1]? = some (.cells #[.int .i64 0, .slice none 0 0] 47)) := QB
  have cW := without_any L (.slice a n c) n _ f.i ((hv.alloc (.cells #[.int .i64 N, .slice a n c] 47)).alloc (.cells #[.int .i64 0, .slice none 0 0] 47)) hn
  have hrl : (rem f.i L).length ≤ 1000000 := by have := rem_le f.i L; omega
  have HRL : Hid ((rem f.i L).length ≤ 1000000) := hrl
  have g1 : ¬ (f.i < 0) := by unfold Ok at hf; omega
  have g2 : ¬ (f.i > 65535) := by unfold Ok at hf; omega
  have g3 : ¬ (f.t < N) := by unfold Ok at hf; omega
  have g4 : ¬ (f.t ≥ 1099511627776) := by unfold Ok at hf; omega
  unfold mv
  clear hv QA QB hl hf
  go_enter Try.func29, Try.ntmps29
  go_upto_region 1 with fail
  generalize (W.alloc (.cells #[.int .i64 N, .slice a n c] 47)).alloc (.cells #[.int .i64 0, .slice none 0 0] 47) = w1 at *
  have hlt1 : W.heap.size + 1 < w1.heap.size := heap_lt HB.out
  go_upto_region 4 with (first
    | (go_at_call 39; refine cW.mono ?_; rintro ex w2 ⟨u2, rfl, own2, hb2⟩; have cP := placed_any (rem f.i L) u2 _ w2 f (owns_base own2 (Nat.zero_le _)) HRL.out; have K2 : Hid (Kept No w1 w2) := Kept.of_below hb2; clear own2 hb2 cW)
    | (go_at_call 38; refine cP.mono ?_; rintro ex w3 ⟨u, rfl, own3, hb3⟩; obtain ⟨a3, n3, c3, hu3⟩ : ∃ a n c, u = .slice a n c := (by
        obtain ⟨_, a, c, e, _⟩ := owns_fis own3
        exact ⟨a, _, c, e⟩); subst hu3; have k3 : Kept No w1 w3 := K2.out.trans (Kept.of_below (F := No) hb3) (fun k hk => .inl hk); have hA3 := k3.at' HA.out (fun h => h); have r1 := cell_of_row (k := 1) (v := .slice a n c) hA3 rfl; have rf := fz_row hA3; have OW : Hid (w3.ownsRow w2.heap.size 32 2 (.slice a3 n3 c3) (ins f (rem f.i L)).length (fcL (ins f (rem f.i L))) ∧ Kept No w1 w3 ∧ w1.heap.size ≤ w2.heap.size) := ⟨own3, k3, K2.out.size⟩; clear own3 hb3 cP k3))
  have own3c : ∀ g, (Value.slice a3 n3 c3).ownBlock = some g → w1.heap.size ≤ g := fun g e => Nat.le_trans OW.out.2.2 (OW.out.1.lt g e).1
  have hk4 := Kept.setCell (F := fun k => k = W.heap.size) (p := ⟨W.heap.size, 1, none⟩) (Kept.refl _ w3) (.inl rfl) (.slice a3 n3 c3)
  have HA4 : Hid ((w3.setCell ⟨W.heap.size, 1, none⟩ (.slice a3 n3 c3)).heap[W.heap.size]? = some (.cells #[.int .i64 N, .slice a3 n3 c3] 47)) := heap_setCell_eq hA3 (.slice a3 n3 c3) (i := 1)
  have HB4 : Hid ((w3.setCell ⟨W.heap.size, 1, none⟩ (.slice a3 n3 c3)).heap[W.heap.size + 1]? = some (.cells #[.int .i64 0, .slice none 0 0] 47)) := hk4.at' (OW.out.2.1.at' HB.out (fun h => h)) (by omega)
  have HR4 : Hid ((w3.setCell ⟨W.heap.size, 1, none⟩ (.slice a3 n3 c3)).ownsRow W.heap.size 32 2 (.slice a3 n3 c3) (ins f (rem f.i L)).length (fcL (ins f (rem f.i L)))) := hk4.owns (owns_base OW.out.1 (by have := OW.out.2.2; omega)) (fun g hg e => by have := own3c g hg; omega)
  have K4 : Hid (Kept No W (w3.setCell ⟨W.heap.size, 1, none⟩ (.slice a3 n3 c3))) := (K1.out.trans OW.out.2.1 (fun k hk => .inl hk)).trans hk4 (fun k e => .inr (by omega))
  generalize w3.setCell ⟨W.heap.size, 1, none⟩ (.slice a3 n3 c3) = w4 at *
  clear hk4 hA3 r1 rf q0 q1
  have x0 := cell_of_row (k := 0) (v := .int .i64 N) HA4.out rfl
  have x1 := cell_of_row (k := 1) (v := .slice a3 n3 c3) HA4.out rfl
  have p0 := cell_of_row (k := 0) (v := .int .i64 0) HB4.out rfl
  have p1 := cell_of_row (k := 1) (v := .slice none 0 0) HB4.out rfl
  have pf := fz_row HB4.out
  go_wp2
  have hld := answer47 (x := .int .i64 N) (y := .slice a3 n3 c3) HB4.out
  refine bodyPost_ret (v := .tuple #[.agg #[.int .i64 N, .slice a3 n3 c3], .int .i64 0]) ?_ rfl ⟨_, rfl, (set2_keptF (q := W.heap.size + 1) w4 _ _).owns HR4.out (fun g hg e => by have := own3c g hg; omega), (set2_kept K4.out (Nat.le_succ _) _ _).below0⟩
  rw [results_cell_tmp rfl]
  simp [asAddr, Result.andThen, hld]
set_option maxHeartbeats 2000000 in
theorem rcancel_any (i : Int) (hv : W.ownsRow 0 32 2 v n (fcL L)) (hn : n ≤ 1000000) : Calls Try.prog 30 #[mv N v, .int .i64 i] W fun ex w' => ∃ u, ex = .returned (.tuple #[mv N u, .bool (tickOf L i).isSome]) ∧ w'.ownsRow W.heap.size 32 2 u (rem i L).length (fcL (rem i L)) ∧ Below W.heap.size W w' := by
  obtain ⟨hl, a, c, rfl, hc1, hc2, -⟩ := owns_fis hv
  obtain ⟨QA, QB⟩ := heap_two W (.cells #[.int .i64 N, .slice a n c] 47) (.cells #[.int .i64 0, .slice none 0 0] 47)
  have K1 : Hid (Kept No W ((W.alloc (.cells #[.int .i64 N, .slice a n c] 47)).alloc (.cells #[.int .i64 0, .slice none 0 0] 47))) := ((Kept.refl No W).alloc _).alloc _
  have q0 := cell_of_row (k := 0) (v := .int .i64 N) QA rfl
  have q1 := cell_of_row (k := 1) (v := .slice a n c) QA rfl
  have HA : Hid (((W.alloc (.cells #[.int .i64 N, .slice a n c] 47)).alloc (.cells #[.int .i64 0, .slice none 0 0] 47)).heap[W.heap.size]? = some (.cells #[.int .i64 N, .slice a n c] 47)) := QA
  have HB : Hid (((W.alloc (.cells #[.int .i64 N, .slice a n c] 47)).alloc (.cells #[.int .i64 0, .slice none 0 0] 47)).heap[W.heap.size + 1]? = some (.cells #[.int .i64 0, .slice none 0 0] 47)) := QB
  have HV : Hid (((W.alloc (.cells #[.int .i64 N, .slice a n c] 47)).alloc (.cells #[.int .i64 0, .slice none 0 0] 47)).ownsRow 0 32 2 (.slice a n c) n (fcL L)) := (hv.alloc _).alloc _
  have cN := rwhen_any (N := N) i HV.out
  generalize (tickOf L i).isSome = bb at *
  generalize (tickOf L i).getD 0 = tt at *
  unfold mv at cN ⊢
  clear hv QA QB hl
  go_enter Try.func30, Try.ntmps30
  go_upto_region 1 with fail
  generalize (W.alloc (.cells #[.int .i64 N, .slice a n c] 47)).alloc (.cells #[.int .i64 0, .slice none 0 0] 47) = w1 at *
  have hlt1 : W.heap.size + 1 < w1.heap.size := heap_lt HB.out
  go_upto_region 2 with (go_at_call 32; refine cN.mono ?_; rintro ex w2 ⟨rfl, hb2⟩)
  have K2 : Hid (Kept No w1 w2) := Kept.of_below hb2
  have cW := without_any L (.slice a n c) n w2 i (K2.out.owns HV.out (fun _ _ h => h)) hn
  have x1 := cell_of_row (k := 1) (v := .slice a n c) (K2.out.at' HA.out (fun h => h)) rfl
  clear cN hb2 q0 q1
  go_upto_region 3 with (go_at_call 39; refine cW.mono ?_; rintro ex w3 ⟨u, rfl, own3, hb3⟩; obtain ⟨a3, n3, c3, hu3⟩ : ∃ a n c, u = .slice a n c := (by
      obtain ⟨_, a, c, e, _⟩ := owns_fis own3
      exact ⟨a, _, c, e⟩); subst hu3; have k3 : Kept No w1 w3 := K2.out.trans (Kept.of_below (F := No) hb3) (fun k hk => .inl hk); have hA3 := k3.at' HA.out (fun h => h); have r1 := cell_of_row (k := 1) (v := .slice a n c) hA3 rfl; have rf := fz_row hA3; have OW : Hid (w3.ownsRow w2.heap.size 32 2 (.slice a3 n3 c3) (rem i L).length (fcL (rem i L)) ∧ Kept No w1 w3 ∧ w1.heap.size ≤ w2.heap.size) := ⟨own3, k3, K2.out.size⟩; clear own3 hb3 cW k3)
  have own3c : ∀ g, (Value.slice a3 n3 c3).ownBlock = some g → w1.heap.size ≤ g := fun g e => Nat.le_trans OW.out.2.2 (OW.out.1.lt g e).1
  have hk4 := Kept.setCell (F := fun k => k = W.heap.size) (p := ⟨W.heap.size, 1, none⟩) (Kept.refl _ w3) (.inl rfl) (.slice a3 n3 c3)
  have HA4 : Hid ((w3.setCell ⟨W.heap.size, 1, none⟩ (.slice a3 n3 c3)).heap[W.heap.size]? = some (.cells #[.int .i64 N, .slice a3 n3 c3] 47)) := heap_setCell_eq hA3 (.slice a3 n3 c3) (i := 1)
  have HB4 : Hid ((w3.setCell ⟨W.heap.size, 1, none⟩ (.slice a3 n3 c3)).heap[W.heap.size + 1]? = some (.cells #[.int .i64 0, .slice none 0 0] 47)) := hk4.at' (OW.out.2.1.at' HB.out (fun h => h)) (by omega)
  have HR4 : Hid ((w3.setCell ⟨W.heap.size, 1, none⟩ (.slice a3 n3 c3)).ownsRow W.heap.size 32 2 (.slice a3 n3 c3) (rem i L).length (fcL (rem i L))) := hk4.owns (owns_base OW.out.1 (by have := OW.out.2.2; omega)) (fun g hg e => by have := own3c g hg; omega)
  have K4 : Hid (Kept No W (w3.setCell ⟨W.heap.size, 1, none⟩ (.slice a3 n3 c3))) := (K1.out.trans OW.out.2.1 (fun k hk => .inl hk)).trans hk4 (fun k e => .inr (by omega))
  generalize w3.setCell ⟨W.heap.size, 1, none⟩ (.slice a3 n3 c3) = w4 at *
  clear hk4 hA3 r1 rf x1
  have x0 := cell_of_row (k := 0) (v := .int .i64 N) HA4.out rfl
  have x1 := cell_of_row (k := 1) (v := .slice a3 n3 c3) HA4.out rfl
  have p0 := cell_of_row (k := 0) (v := .int .i64 0) HB4.out rfl
  have p1 := cell_of_row (k := 1) (v := .slice none 0 0) HB4.out rfl
  have pf := fz_row HB4.out
  go_wp2
  have hld := answer47 (x := .int .i64 N) (y := .slice a3 n3 c3) HB4.out
  refine bodyPost_ret (v := .tuple #[.agg #[.int .i64 N, .slice a3 n3 c3], .bool bb]) ?_ rfl ⟨_, rfl, (set2_keptF (q := W.heap.size + 1) w4 _ _).owns HR4.out (fun g hg e => by have := own3c g hg; omega), (set2_kept K4.out (Nat.le_succ _) _ _).below0⟩
  rw [results_cell_tmp rfl]
  simp [asAddr, Result.andThen, hld]
end
end Go.Proofs.Ytdojmmnojpeklaa
