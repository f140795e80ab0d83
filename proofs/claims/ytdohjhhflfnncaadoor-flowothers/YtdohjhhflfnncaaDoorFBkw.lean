/-
  backwards: made along the roads.
-/
import Derived.Test.YtdohjhhflfnncaaDoorFJo
import Derived.Test.YtdohjhhflfnncaaDoorFWm
import Derived.Test.YtdohjhhflfnncaaDoorFEr
import Derived.Test.YtdohjhhflfnncaaDoorSRound
namespace Go.Proofs.YtdohjhhflfnncaaDoor
open Go.RowKit Go.Shelf
attribute [local go_sem] Oper.semAt_some
set_option linter.unusedVariables false
set_option maxRecDepth 100000

/-- the ways behind q roads -/
def BkI (E : List (Nat × Nat)) (bx g B n : Nat) : St := fun q W S => ∃ V, S = Fw bx g n V ∧ Wm W B bx g n V (wy ((E.take q).map Prod.swap))
theorem BkI.hangs (E : List (Nat × Nat)) (bx g B n : Nat) : Hangs (BkI E bx g B n) := by
  refine ⟨?_, ?_⟩
  · rintro q W S ⟨V, rfl, h⟩ k hk
    exact h.lt k hk
  · rintro q W W' S ⟨V, rfl, h⟩ hs hk
    exact ⟨V, rfl, h.same hk⟩

set_option maxHeartbeats 8000000 in
theorem backwards_any {F : Nat → Prop} {a0 a1 a2 : Option Addr} {n0 c0 n1 c1 n c : Nat} {ps : List Po} {L : List Ch} (w : World) (hq : Ls 6 elPo w F a1 n1 c1 ps) (hc : Ls 5 elCh w F a2 n c L) (hd : ∀ x ∈ L, x.dst.length ≤ 1000000000000) (hn0 : n0 ≤ 1000000) (hE : (edg n0 ps L).length ≤ 1000000) :
    Calls Tryd.prog 13 #[.agg #[.slice a0 n0 c0, .slice a1 n1 c1, .slice a2 n c]] w fun e w' => ∃ g G, e = .returned (.slice (some ⟨g, 0, none⟩) n0 n0) ∧ Ls 1 elW w' G (some ⟨g, 0, none⟩) n0 n0 (bkw (edg n0 ps L) n0) ∧ (∀ k, G k → w.heap.size ≤ k ∧ k < w'.heap.size) ∧ Kept No w w' := by
  refine callsIn_wide (n := 9).1 ?_
  refine callsIn_of_wp_marks Tryd.func13 rfl trivial ?_ rfl
  simp only [Tryd.ntmps13, List.size_toArray, List.length_cons, List.length_nil, Nat.reduceAdd, Nat.reduceSub, Array.replicate_succ, Array.replicate_zero, List.push_toArray, List.append_toArray, List.nil_append, List.cons_append]
  have hmk := mk_ways (w.alloc (.cells #[.slice a0 n0 c0, .slice a1 n1 c1, .slice a2 n c] 26)) n0 hn0
  rw [World.size_alloc] at hmk
  have k1 : Kept No w (w.alloc (.cells #[.slice a0 n0 c0, .slice a1 n1 c1, .slice a2 n c] 26)) := (Kept.refl No w).alloc _
  have hb1 := alloc_new w (.cells #[.slice a0 n0 c0, .slice a1 n1 c1, .slice a2 n c] 26)
  obtain ⟨w1, hw1⟩ : ∃ w1, w1 = w.alloc (.cells #[.slice a0 n0 c0, .slice a1 n1 c1, .slice a2 n c] 26) := ⟨_, rfl⟩
  have hs1 : w1.heap.size = w.heap.size + 1 := by rw [hw1]; simp
  have hg1 := alloc_new w1 (.cells (List.replicate n0 (.slice none 0 0)).toArray 40)
  rw [hs1] at hg1
  rw [← hw1] at hmk k1 hb1
  obtain ⟨w2, hw2⟩ : ∃ w2, w2 = w1.alloc (.cells (List.replicate n0 (.slice none 0 0)).toArray 40) := ⟨_, rfl⟩
  rw [← hw2] at hmk hg1
  have k2 : Kept No w1 w2 := by rw [hw2]; exact (Kept.refl No w1).alloc _
  have hs2 : w2.heap.size = w.heap.size + 2 := by rw [hw2]; simp [hs1]
  have hg3 := alloc_new w2 (.cells #[.slice (some ⟨w.heap.size + 1, 0, none⟩) n0 n0] 56)
  obtain ⟨w3, hw3⟩ : ∃ w3, w3 = w2.alloc (.cells #[.slice (some ⟨w.heap.size + 1, 0, none⟩) n0 n0] 56) := ⟨_, rfl⟩
  rw [← hw3, hs2] at hg3
  have k3 : Kept No w2 w3 := by rw [hw3]; exact (Kept.refl No w2).alloc _
  have hs3 : w3.heap.size = w.heap.size + 3 := by rw [hw3]; simp [hs2]
  have k13 : Kept No w1 w3 := k2.trans k3 (fun _ h => .inl h)
  obtain ⟨x0, x1, x2⟩ := three (k13.at' hb1 (fun h => h))
  have kw3 : Kept No w w3 := k1.trans k13 (fun _ h => .inl h)
  have WM := Wm.new hg3 (k3.at' hg1 (fun h => h)) (by omega)
  rw [hs3] at WM
  have cJ := joined_gives (a0 := a0) (n0 := n0) (c0 := c0) kw3 hq hc hd hn0
  have HH : Hid (Kept No w w3 ∧ Wm w3 (w.heap.size + 3) (w.heap.size + 2) (w.heap.size + 1) n0 (fun _ => .slice none 0 0) (fun _ => []) ∧ w3.heap.size = w.heap.size + 3 ∧ (edg n0 ps L).length ≤ 1000000 ∧ Eok (edg n0 ps L) n0 ∧ w2.heap.size = w.heap.size + 2) := ⟨kw3, WM, hs3, hE, edg_ok _ _ _, hs2⟩
  have hg30 := one hg3
  clear hq hc hd k1 k2 k3 k13 kw3 WM hb1 hg1 hs1 hg3 hE
  generalize edg n0 ps L = E at *
  rw [hw1] at hmk
  rw [hw3] at x0 x1 x2
  clear hw1 hw2
  gi_wp2
  rw [← hw3]
  clear hw3 hmk x0 x1 x2
  refine ⟨trivial, ?_⟩
  refine (callsIn_wide.2 cJ).mono ?_
  rintro e w4 ⟨l2, rfl, k4, hgv, hl4⟩
  clear cJ
  have WM4 := HH.out.2.1.same (w' := w4) (fun k hk => k4.block k (HH.out.2.1.lt k hk) (fun h => h))
  have hbx4 := one WM4.box
  gi_wp2
  refine range_list (n := 9) (gf := 31) (lb := l2) rfl (fun args w => rfl) (el := elE E) (fun _ => rfl) hgv ?dl (Kept.refl _ _)
    (BkI E (w.heap.size + 2) (w.heap.size + 1) (w.heap.size + 3) n0) (fun c q W S => False) (BkI.hangs _ _ _ _ _) (fun _ => ⟨fun q W S hi => hi.elim, fun q W W' S hi hs hk => hi⟩) (S0 := Fw (w.heap.size + 2) (w.heap.size + 1) n0 (fun _ => .slice none 0 0)) ⟨fun _ => .slice none 0 0, rfl, WM4⟩
    ?gs
    (fun q => { tmps := #[.agg #[.slice a0 n0 c0, .slice a1 n1 c1, .slice a2 n c], .pointer (some ⟨w.heap.size, 0, none⟩), .slice none 0 0, .pointer (some ⟨w.heap.size + 2, 0, none⟩), .int .i64 (((E.getD q (0, 0)).1 : Nat) : Int), .int .i64 (((E.getD q (0, 0)).2 : Nat) : Int), .pointer (some ⟨w.heap.size, 0, none⟩), .slice a0 n0 c0, .int .i64 n0, .slice (some ⟨w.heap.size + 1, 0, none⟩) n0 n0, .agg #[.slice a0 n0 c0, .slice a1 n1 c1, .slice a2 n c], .func (.func 31) #[] l2, .int .i64 (((E.getD q (0, 0)).1 : Nat) : Int), .int .i64 (((E.getD q (0, 0)).2 : Nat) : Int), undef, undef, undef, undef, undef, undef, undef, undef, undef, undef, undef], defers := [] }) ?assign ?body ?done ?stop
  case dl =>
    have := HH.out.2.2.1
    rintro k (h | h) <;> omega
  case gs =>
    have := HH.out.2.2.1
    rintro k (h | h | ⟨i, hi, h⟩)
    · rintro (h' | h') <;> omega
    · rintro (h' | h') <;> omega
    · cases h
  case assign =>
    intro l q W K hq hK
    unfold elE
    generalize E.getD q (0, 0) = p at *
    clear hq
    gi_wp2
    exact hK
  case body =>
    rintro l q W S ⟨V, rfl, hWm⟩ hq
    have hpq : E[q]? = some (E.getD q (0, 0)) := by simp [List.getD, hq]
    have hok := HH.out.2.2.2.2.1 _ (List.mem_of_getElem? hpq)
    have htk : (E.take (q + 1)).map Prod.swap = (E.take q).map Prod.swap ++ [((E.getD q (0, 0)).2, (E.getD q (0, 0)).1)] := by rw [take_succ_get hpq, List.map_append]; rfl
    generalize E.getD q (0, 0) = p at *
    obtain ⟨x, y⟩ := p
    obtain ⟨hx, hy⟩ := hok
    simp only at hx hy
    rw [show wy ((E.take q).map Prod.swap) = wy ((E.take q).map Prod.swap) from rfl] at hWm
    have hlen : (wy ((E.take q).map Prod.swap) y).length ≤ 1000000 := by
      have h1 : (wy ((E.take q).map Prod.swap) y).length ≤ ((E.take q).map Prod.swap).length := by
        unfold wy
        rw [List.length_map]
        exact List.length_filter_le _ _
      have h2 : ((E.take q).map Prod.swap).length ≤ E.length := by simp; omega
      have := HH.out.2.2.2.1
      omega
    have hst : wy ((E.take (q + 1)).map Prod.swap) = updU (wy ((E.take q).map Prod.swap)) y x := by rw [htk, wy_app]
    generalize wy ((E.take q).map Prod.swap) = U at *
    obtain ⟨va, vn, vc, hv⟩ := own_slice (hWm.own y hy)
    have hsz : w.heap.size + 3 ≤ W.heap.size := by
      have h1 := hWm.bl
      have h2 := heap_lt hWm.box
      omega
    obtain ⟨bx, hbx⟩ : ∃ bx, bx = w.heap.size + 2 := ⟨_, rfl⟩
    obtain ⟨g, hg⟩ : ∃ g, g = w.heap.size + 1 := ⟨_, rfl⟩
    obtain ⟨B, hB⟩ : ∃ B, B = w.heap.size + 3 := ⟨_, rfl⟩
    rw [← hB] at hWm hsz
    rw [← hbx, ← hg] at hWm ⊢
    have hbox := hWm.box
    have hcx := hWm.cell hy
    have HW := hid (⟨hWm, hst, hlen, hsz, hbx, hg, hB⟩ : Wm W B bx g n0 V U ∧ wy ((E.take (q + 1)).map Prod.swap) = updU U y x ∧ (U y).length ≤ 1000000 ∧ B ≤ W.heap.size ∧ bx = w.heap.size + 2 ∧ g = w.heap.size + 1 ∧ B = w.heap.size + 3)
    have hgB := hWm.gl
    have hbB := hWm.bl
    have hne := hWm.ne
    clear hWm hst hpq htk hlen hbx hg hB hg30 hbx4 WM4 hgv hl4 k4
    dsimp only
    gi_wp2
    refine wpIn_region_round (S := fun w' => w'.heap[bx]? = some (.cells #[.slice (some ⟨g, 0, none⟩) n0 n0] 56)) (by kernel_rfl) (by kernel_rfl) (fun hl => by obtain ⟨_, _, hl⟩ := hl; exact hl) ?_
    have hS : (fun w' : World => w'.heap[bx]? = some (.cells #[.slice (some ⟨g, 0, none⟩) n0 n0] 56)) W.drew := hbox
    refine d_take 0 14 rfl rfl (by kernel_rfl) (by kernel_rfl) (by kernel_rfl) (fun _ _ _ h => h) rfl (fun w' hw' => er_ldWW _ rfl bx 0 _ rfl (one hw')) hS ?_
    simp only [Act.put, List.setIfInBounds_toArray, List.set_cons_zero, List.set_cons_succ]
    refine d_take 1 15 rfl rfl (by kernel_rfl) (by kernel_rfl) (by kernel_rfl) (fun _ _ _ h => h) rfl (fun w' hw' => er_mv _ rfl (.int .i64 (y : Int)) rfl) hS ?_
    simp only [Act.put, List.setIfInBounds_toArray, List.set_cons_zero, List.set_cons_succ]
    refine d_take 2 16 rfl rfl (by kernel_rfl) (by kernel_rfl) (by kernel_rfl) (fun _ _ _ h => h) rfl (fun w' hw' => er_ldWW _ rfl bx 0 _ rfl (one hw')) hS ?_
    simp only [Act.put, List.setIfInBounds_toArray, List.set_cons_zero, List.set_cons_succ]
    refine d_take 3 17 rfl rfl (by kernel_rfl) (by kernel_rfl) (by kernel_rfl) (fun _ _ _ h => h) rfl (fun w' hw' => er_mv _ rfl (.int .i64 (y : Int)) rfl) hS ?_
    simp only [Act.put, List.setIfInBounds_toArray, List.set_cons_zero, List.set_cons_succ]
    refine d_take 4 18 rfl rfl (by kernel_rfl) (by kernel_rfl) (by kernel_rfl) (fun _ _ _ h => h) rfl (fun w' hw' => er_ixWW _ _ rfl g 0 y n0 n0 rfl rfl hy) hS ?_
    simp only [Act.put, List.setIfInBounds_toArray, List.set_cons_zero, List.set_cons_succ, Nat.zero_add]
    refine d_take 6 20 rfl rfl (by kernel_rfl) (by kernel_rfl) (by kernel_rfl) (fun _ _ _ h => h) rfl (fun w' hw' => er_mv _ rfl (.int .i64 (x : Int)) rfl) hS ?_
    simp only [Act.put, List.setIfInBounds_toArray, List.set_cons_zero, List.set_cons_succ]
    have ka : Kept No W (W.drew.alloc (.cells #[.int .i64 (x : Int)] 3)) := ((Kept.refl No W).drew).alloc _
    have hca : (W.drew.alloc (.cells #[.int .i64 (x : Int)] 3)).cell? ⟨W.drew.heap.size, 0, none⟩ = some (nv x) := one (alloc_new W.drew _)
    have hSa : (fun w' : World => w'.heap[bx]? = some (.cells #[.slice (some ⟨g, 0, none⟩) n0 n0] 56)) (W.drew.alloc (.cells #[.int .i64 (x : Int)] 3)) := ka.at' hbox (fun h => h)
    have hcxa : (W.drew.alloc (.cells #[.int .i64 (x : Int)] 3)).cell? ⟨g, y, none⟩ = some (V y) := ka.cell hcx (fun h => h)
    have howa := ka.owns (HW.out.1.own y hy) (fun _ _ h => h)
    have hsza : B ≤ (W.drew.alloc (.cells #[.int .i64 (x : Int)] 3)).heap.size := by have := ka.size; omega
    have hdr : W.drew.cell? ⟨g, y, none⟩ = some (V y) := hcx
    have news : ∀ j u, [nv x][j]? = some u → (W.drew.alloc (.cells #[.int .i64 (x : Int)] 3)).cell? ((⟨W.drew.heap.size, 0, none⟩ : Addr).add j) = some u := by
      intro j u hu
      have hj : j = 0 := by have := (List.getElem?_eq_some_iff.1 hu).1; simp at this; exact this
      subst hj
      simp at hu
      subst hu
      simpa [Addr.add] using hca
    obtain ⟨i0, hi, hz0, hz1, hz2⟩ := info_parts Tryd.infoI
    obtain ⟨v', w', hr, ho', hgr, _, hl'⟩ := run_append_own_at (P := Tryd.prog) (W.drew.alloc (.cells #[.int .i64 (x : Int)] 3)) B 40 40 3 i0 _ 1 8 Tryd.underlying40 hi hz0 hz1 hz2 rfl (by decide) (V y) (U y).length _ howa ⟨W.drew.heap.size, 0, none⟩ 1 1 [nv x] rfl news (by intro u hu; simp at hu; subst hu; rfl) (by have := HW.out.2.2.1; unfold maxLen; omega) (by have := HW.out.2.2.1; omega) hsza
    obtain ⟨ya, yn, yc, rfl⟩ := own_slice ho'
    have hrow : ∀ k, (V y).ownBlock = some k → B ≤ k := fun k e => (owns_at (HW.out.1.own y hy) e).1
    have kw' : Kept (fun k => (V y).ownBlock = some k) W w' := (ka.mono (fun _ e => e.elim)).grown hgr (fun k e => .inl e)
    have hSw : (fun w' : World => w'.heap[bx]? = some (.cells #[.slice (some ⟨g, 0, none⟩) n0 n0] 56)) w' := kw'.at' hbox (fun e => by have := hrow bx e; omega)
    have hgw := kw'.at' HW.out.1.hd (fun e => by have := hrow g e; omega)
    have hcw : w'.cell? ⟨g, y, none⟩ = some (V y) := by rw [cell_blk hgw]; simp [hy]
    have hfw : w'.frozen? ⟨g, y, none⟩ = false := fz_blk hgw _
    have hSe : (fun w' : World => w'.heap[bx]? = some (.cells #[.slice (some ⟨g, 0, none⟩) n0 n0] 56)) (w'.setCell ⟨g, y, none⟩ (.slice ya yn yc)) := ((Kept.refl (fun k => k = g) w').setCell (p := ⟨g, y, none⟩) (.inl rfl) _).at' hSw hne
    have hfin := HW.out.1.step hy ka ho' hgr hl'
    refine d_pair 5 19 7 21 (by kernel_rfl) rfl rfl rfl rfl rfl rfl (er_ldSI _ rfl g y _ rfl hdr) (er_bsI _ rfl (x : Int) rfl) hS hSa ?_ ?_
    · simp only [Act.put, List.setIfInBounds_toArray, List.set_cons_zero, List.set_cons_succ]
      refine d_make 7 21 (by kernel_rfl) rfl rfl rfl (er_bsI _ rfl (x : Int) rfl) hSa ?_
      simp only [Act.put, List.setIfInBounds_toArray, List.set_cons_zero, List.set_cons_succ]
      refine d_make 8 22 (by kernel_rfl) rfl rfl rfl (er_apI _ _ rfl (V y) (.slice (some ⟨W.drew.heap.size, 0, none⟩) 1 1) rfl rfl (.slice ya yn yc) w' rfl hr) hSw ?_
      simp only [Act.put, List.setIfInBounds_toArray, List.set_cons_zero, List.set_cons_succ]
      refine d_take 9 23 rfl rfl (by kernel_rfl) (by kernel_rfl) (by kernel_rfl) (fun _ _ _ h => h) rfl (fun w' hw' => er_ixWW _ _ rfl g 0 y n0 n0 rfl rfl hy) hSw ?_
      simp only [Act.put, List.setIfInBounds_toArray, List.set_cons_zero, List.set_cons_succ, Nat.zero_add]
      refine d_turn 10 (by kernel_rfl) rfl rfl rfl (er_stSI _ _ rfl g y (V y) (.slice ya yn yc) ⟨ya, yn, yc, rfl⟩ rfl rfl hcw hfw) hSe ?_
      refine wpAnyH_done (by kernel_rfl) ?_ _
      have HF := hid hfin
      clear hfin
      gi_wp2
      exact ⟨_, HF.out.2.1, HF.out.2.2, _, rfl, by rw [HW.out.2.1, ← HW.out.2.2.2.2.2.2]; exact HF.out.1⟩
    · simp only [Act.put, List.setIfInBounds_toArray, List.set_cons_zero, List.set_cons_succ]
      refine d_read 5 19 (by kernel_rfl) rfl rfl rfl (er_ldSI _ rfl g y _ rfl hcxa) hSa ?_
      simp only [Act.put, List.setIfInBounds_toArray, List.set_cons_zero, List.set_cons_succ]
      refine d_make 8 22 (by kernel_rfl) rfl rfl rfl (er_apI _ _ rfl (V y) (.slice (some ⟨W.drew.heap.size, 0, none⟩) 1 1) rfl rfl (.slice ya yn yc) w' rfl hr) hSw ?_
      simp only [Act.put, List.setIfInBounds_toArray, List.set_cons_zero, List.set_cons_succ]
      refine d_take 9 23 rfl rfl (by kernel_rfl) (by kernel_rfl) (by kernel_rfl) (fun _ _ _ h => h) rfl (fun w' hw' => er_ixWW _ _ rfl g 0 y n0 n0 rfl rfl hy) hSw ?_
      simp only [Act.put, List.setIfInBounds_toArray, List.set_cons_zero, List.set_cons_succ, Nat.zero_add]
      refine d_turn 10 (by kernel_rfl) rfl rfl rfl (er_stSI _ _ rfl g y (V y) (.slice ya yn yc) ⟨ya, yn, yc, rfl⟩ rfl rfl hcw hfw) hSe ?_
      refine wpAnyH_done (by kernel_rfl) ?_ _
      have HF := hid hfin
      clear hfin
      gi_wp2
      exact ⟨_, HF.out.2.1, HF.out.2.2, _, rfl, by rw [HW.out.2.1, ← HW.out.2.2.2.2.2.2]; exact HF.out.1⟩
  case done =>
    rintro D W S' hk hm ⟨V, rfl, hWm⟩ hD1 hD2 hD3
    rw [List.take_of_length_le (Nat.le_refl _)] at hWm
    have c0 := one hWm.box
    have hs4 := k4.size
    have hs3 := HH.out.2.2.1
    have kw : Kept No w W := (HH.out.1.trans k4 (fun _ h => .inl h)).trans hk (fun k e => by
      rcases e with e | e | ⟨i, hi, e⟩
      · exact .inr (by omega)
      · exact .inr (by omega)
      · cases e)
    have HF : Hid (Wm W (w.heap.size + 3) (w.heap.size + 2) (w.heap.size + 1) n0 V (wy (E.map Prod.swap)) ∧ Kept No w W ∧ W.heap[D]? = some (.deferred (some [])) ∧ ¬ Fw (w.heap.size + 2) (w.heap.size + 1) n0 V D ∧ w.heap.size ≤ D) := ⟨hWm, kw, hD3, hD1, by omega⟩
    clear hWm kw hD3 hD1 hk hm hgv WM4 hbx4 hg30
    gi_wp2
    refine ⟨by simp, .inl ⟨_, _, rfl, run_takeDeferred HF.out.2.2.1, ?_⟩⟩
    have kp : Kept (fun k => k = D) W (W.putObj D (.deferred none)) := kept_put (S := fun k => k = D) _ rfl
    have hW2 := HF.out.1.same (w' := W.putObj D (.deferred none)) (fun k hk => kp.block k (HF.out.1.lt k hk) (fun e => HF.out.2.2.2.1 (e ▸ hk)))
    refine ⟨_, results_tmp rfl _ _ _, w.heap.size + 1, Fw (w.heap.size + 2) (w.heap.size + 1) n0 V, rfl, ?_, ?_, ?_⟩
    · rw [bkw_wy]; exact hW2.ls hn0
    · intro k hk
      refine ⟨?_, hW2.lt k hk⟩
      rcases hk with e | e | ⟨i, hi, e⟩
      · omega
      · omega
      · have := (owns_at (hW2.own i hi) e).1; omega
    · exact HF.out.2.1.trans kp (fun k e => .inr (by have := HF.out.2.2.2.2; omega))
  case stop =>
    rintro D c q W S' hk hm h
    exact h.elim
end Go.Proofs.YtdohjhhflfnncaaDoor
