/-
  port: push, pop.
-/
import Derived.Test.YthebokkogeigoaaPHeld
namespace Go.Proofs.Ythebokkogeigoaa
open Go.RowKit
set_option linter.unusedVariables false
set_option maxRecDepth 100000

section
variable {B : Nat} {e : En}
/-- a port with one message more -/
def En.more (e : En) (it m : Value) (x : List Int) : En := { e with it := it, ms := e.ms ++ [m], xs := e.xs ++ [x] }
theorem Ep.more {w w1 wa : World} (h : Ep w B e) {x : List Int} {m it : Value} (K1 : Kept No w w1) (om : w1.ownsRow w.heap.size 2 1 m x.length (x.map iv)) (K : Kept (fun k => e.it.ownBlock = some k) w1 wa) (q : Qr wa B 22 it (e.ms ++ [m])) (hit : it.ownBlock = e.it.ownBlock ∨ ∃ k, it.ownBlock = some k ∧ w1.heap.size ≤ k) :
    Did w (wa.setCell ⟨e.eb, 6, none⟩ it) B e (e.more it m x) := by
  have hs1 := K1.size
  have hB := h.B_le
  have hm_blk : ∀ k, m.ownBlock = some k → w.heap.size ≤ k := fun k hk => (owns_blk om hk).1
  have K2 : Kept (fun k => e.it.ownBlock = some k) w wa := (K1.mono (fun _ e => e.elim)).trans K (fun k e => .inl e)
  have K3 : Kept (fun k => k = e.eb) wa (wa.setCell ⟨e.eb, 6, none⟩ it) := (Kept.refl (fun k => k = e.eb) wa).setCell (p := ⟨e.eb, 6, none⟩) (.inl rfl) _
  have Kf : Kept (Ew e) w (wa.setCell ⟨e.eb, 6, none⟩ it) := (K2.mono (fun k hk => Or.inr hk)).trans K3 (fun k hk => .inl (.inl hk))
  have bx := set_blk (K2.at' h.box h.it_ne) 6 it
  have iblk : ∀ k, it.ownBlock = some k → e.it.ownBlock = some k ∨ w.heap.size ≤ k := fun k hk => by
    rcases hit with h1 | ⟨k', h1, h2⟩
    · exact .inl (h1 ▸ hk)
    · rw [h1] at hk
      injection hk with hk
      subst hk
      exact .inr (by omega)
  have key : ∀ v, v ∈ e.ms → Far v m := fun v hv k hk hk' => by
    have := ((h.ef_blk (.inr (.inl ⟨v, hv, hk⟩)))).2.1
    have := hm_blk k hk'
    omega
  have nw : ∀ {t sz n : Nat} {v : Value} {ys : List Value}, t ≠ 90 → t ≠ 22 → w.ownsRow B t sz v n ys → (wa.setCell ⟨e.eb, 6, none⟩ it).ownsRow B t sz v n ys := fun {t sz n v ys} h1 h2 ho => Kf.owns ho (fun k hk hk' => by
    obtain ⟨_, cs, h3⟩ := owns_blk ho hk
    rcases h.ew_tag hk' h3 with h4 | h4
    · exact h1 h4
    · exact h2 h4)
  refine ⟨⟨bx, h.low, q.kept K3 (fun k hk hk' => ?_), ?_, fun j v y hv hy => ?_, fun j j' v v' hv hv' hjj => ?_, nw (by decide) (by decide) h.smp, fun v hv => ?_⟩, Kf, rfl, fun k hk => ?_⟩
  · obtain ⟨_, cs, h2⟩ := q.blk hk
    have h3 := K2.at' h.box h.it_ne
    rw [hk'] at h2
    exact absurd (two_tags h2 h3) (by decide)
  · show (e.xs ++ [x]).length = (e.ms ++ [m]).length
    rw [List.length_append, List.length_append, h.len]
    rfl
  · rcases get_snoc (show (e.ms ++ [m])[j]? = some v from hv) with ⟨h1, h2⟩ | ⟨h1, rfl⟩
    · have hy' : (e.xs ++ [x])[j]? = some y := hy
      rw [List.getElem?_append_left (by rw [h.len]; exact h2)] at hy'
      exact nw (by decide) (by decide) (h.msg j v y h1 hy')
    · rcases get_snoc (show (e.xs ++ [x])[j]? = some y from hy) with ⟨_, h2⟩ | ⟨_, rfl⟩
      · rw [h.len] at h2; omega
      · refine owns_base (K3.owns (K.owns om (fun k hk hk' => ?_)) (fun k hk hk' => ?_)) hB
        · obtain ⟨_, cs, h2⟩ := h.que.blk hk'
          have := heap_lt h2
          have := hm_blk k hk
          omega
        · have h3 := heap_lt h.box
          have := hm_blk k hk
          omega
  · rcases get_snoc (show (e.ms ++ [m])[j]? = some v from hv) with ⟨h1, h2⟩ | ⟨h1, rfl⟩
    · rcases get_snoc (show (e.ms ++ [m])[j']? = some v' from hv') with ⟨h3, h4⟩ | ⟨h3, rfl⟩
      · exact h.far j j' v v' h1 h3 hjj
      · exact key v (List.mem_of_getElem? h1)
    · rcases get_snoc (show (e.ms ++ [v])[j']? = some v' from hv') with ⟨h3, h4⟩ | ⟨h3, rfl⟩
      · exact (key v' (List.mem_of_getElem? h3)).symm
      · omega
  · rcases List.mem_append.1 (show v ∈ e.ms ++ [m] from hv) with h1 | h1
    · exact h.sfar v h1
    · simp at h1
      subst h1
      intro k hk hk'
      have := (h.ef_blk (.inr (.inr hk'))).2.1
      have := hm_blk k hk
      omega
  · rcases hk with (hk | hk) | (⟨v, hv, hk⟩ | hk)
    · exact .inl (.inl (.inl hk))
    · rcases iblk k hk with h1 | h1
      · exact .inl (.inl (.inr h1))
      · exact .inr h1
    · rcases List.mem_append.1 (show v ∈ e.ms ++ [m] from hv) with h1 | h1
      · exact .inl (.inr (.inl ⟨v, h1, hk⟩))
      · simp at h1
        subst h1
        exact .inr (hm_blk k hk)
    · exact .inl (.inr (.inr hk))
/-- what push makes of the port -/
def Pushed (w w' : World) (B : Nat) (e : En) (x : List Int) : Prop := ∃ it m, Did w w' B e (e.more it m x)
theorem push_full (w : World) (h : Ep w B e) (hf : e.dp ≤ (e.ms.length : Int)) (da : Option Addr) (dn dc : Nat) : Calls Try.prog 34 #[.pointer (some ⟨e.eb, 0, none⟩), .slice da dn dc] w fun r w' => r = .returned (.bool false) ∧ Kept No w w' := by
  obtain ⟨ia, ic, hia, hc1, hc2⟩ := h.que.shape
  have c6 : w.cell? ⟨e.eb, 6, none⟩ = some (.slice ia e.ms.length ic) := (h.cell 6).trans (by show some e.it = _; rw [hia])
  have c4 : w.cell? ⟨e.eb, 4, none⟩ = some (.int .i64 e.dp) := (h.cell 4).trans rfl
  clear h hia
  generalize e.ms.length = n at *
  generalize e.dp = dp at *
  generalize e.eb = eb at *
  go_enter Try.func34, Try.ntmps34
  go_upto_region 1 with fail
  go_region
  go_wp2
  go_ret
  exact ⟨rfl, (Kept.refl No w).drew⟩
set_option maxHeartbeats 2000000 in
theorem push_yes {F : Nat → Prop} {da : Option Addr} {dn dc : Nat} {x : List Int} (w : World) (h : Ep w B e) (hf : (e.ms.length : Int) < e.dp) (hz : Zs w F da dn dc x) (hlen : e.ms.length + 1 ≤ 1099511627776) (hdn : dn ≤ 17592186044416) : Calls Try.prog 34 #[.pointer (some ⟨e.eb, 0, none⟩), .slice da dn dc] w fun r w' => r = .returned (.bool true) ∧ Pushed w w' B e x := by
  obtain ⟨ia, ic, hia, hc1, hc2⟩ := h.que.shape
  have c6 : w.cell? ⟨e.eb, 6, none⟩ = some (.slice ia e.ms.length ic) := (h.cell 6).trans (by show some e.it = _; rw [hia])
  have c4 : w.cell? ⟨e.eb, 4, none⟩ = some (.int .i64 e.dp) := (h.cell 4).trans rfl
  have hnf : ¬ e.dp ≤ (e.ms.length : Int) := by omega
  have hxl := hz.len
  have CW : Hid (∀ W, Kept No w W → Calls Try.prog 31 #[.slice da dn dc] W fun r w' => ∃ u, r = .returned u ∧ True ∧ ∃ ya yc, u = .slice ya dn yc ∧ w'.ownsRow W.heap.size 2 1 (.slice ya dn yc) dn (x.map iv) ∧ Kept No W w') := fun W k => (words_any W (hz.kept k (fun _ _ e => e)) hdn).mono (by
    rintro r w' ⟨ya, yc, rfl, o, k'⟩
    exact ⟨_, rfl, trivial, ya, yc, rfl, o, k'⟩)
  have L6 : Hid (∀ W, Kept No w W → W.cell? ⟨e.eb, 6, none⟩ = some (.slice ia e.ms.length ic)) := fun W k => k.cell c6 (fun e => e)
  have AP : Hid (∀ W, Kept No w W → ∀ ya yc, ∃ v' w', (Builtin.append_ #[47, 47] 47 #[.slice ia e.ms.length ic, .slice (some ⟨W.heap.size, 0, none⟩) 1 1]).run Try.prog (W.alloc (.cells #[.slice ya dn yc] 22)) = .ok v' w' ∧ Qr w' B 22 v' (e.ms ++ [.slice ya dn yc]) ∧ Kept (fun k => (Value.slice ia e.ms.length ic).ownBlock = some k) (W.alloc (.cells #[.slice ya dn yc] 22)) w' ∧ (v'.ownBlock = (Value.slice ia e.ms.length ic).ownBlock ∨ ∃ k, v'.ownBlock = some k ∧ (W.alloc (.cells #[.slice ya dn yc] 22)).heap.size ≤ k) ∧ w'.cell? ⟨e.eb, 0 + 6, none⟩ = some (.slice ia e.ms.length ic) ∧ w'.frozen? ⟨e.eb, 0 + 6, none⟩ = false) := fun W k ya yc => by
    have ka : Kept No w (W.alloc (.cells #[.slice ya dn yc] 22)) := k.alloc _
    have hE := h.keep ka
    obtain ⟨i0, hi, hz0, hz1, hz2⟩ := info_parts Try.infoL
    have q := hE.que
    rw [hia] at q
    obtain ⟨v', w', r1, r2, r3, r4⟩ := run_append_q (P := Try.prog) (w := W.alloc (.cells #[.slice ya dn yc] 22)) 47 47 22 i0 _ 24 Try.underlying47 hi hz0 hz1 hz2 rfl q ⟨W.heap.size, 0, none⟩ 1 (.slice ya dn yc) ((cell_blk (alloc_new W _) 0).trans rfl) rfl (by unfold maxLen; omega) (by omega) hE.B_le
    have hne : ¬ (Value.slice ia e.ms.length ic).ownBlock = some e.eb := by rw [← hia]; exact h.it_ne
    refine ⟨v', w', r1, r2, r3, r4, r3.cell (ka.cell c6 (fun e => e)) hne, fz_blk (r3.at' hE.box hne) _⟩
  have FI : Hid (∀ W w' (k : Kept No w W) ya yc w0 v', Kept No w w0 → Kept No w0 W → W.ownsRow w0.heap.size 2 1 (.slice ya dn yc) dn (x.map iv) → Qr w' B 22 v' (e.ms ++ [.slice ya dn yc]) → Kept (fun k => (Value.slice ia e.ms.length ic).ownBlock = some k) (W.alloc (.cells #[.slice ya dn yc] 22)) w' → (v'.ownBlock = (Value.slice ia e.ms.length ic).ownBlock ∨ ∃ k, v'.ownBlock = some k ∧ (W.alloc (.cells #[.slice ya dn yc] 22)).heap.size ≤ k) → Pushed w (w'.setCell ⟨e.eb, 0 + 6, none⟩ v') B e x) := fun W w' k ya yc w0 v' k0 k1 om q K hit => by
    subst hxl
    rw [← hia] at K hit
    exact ⟨v', _, Did.pre k0 ((h.keep k0).more ((k1.alloc (.cells #[.slice ya x.length yc] 22))) (((Kept.refl No W).alloc _).owns om (fun _ _ e => e)) K q hit)⟩
  clear h hia hz hlen hdn hf hxl
  generalize e.dp = dp at *
  generalize e.ms.length = n at *
  generalize e.eb = eb at *
  go_enter Try.func34, Try.ntmps34
  go_upto_region 1 with fail
  go_region
  go_upto_region 3 with fail
  clear c4 hnf
  refine wp_region_held_drew (S := fun _ => True) (by kernel_rfl) trivial (fun hS => ?_)
  refine d_take 0 17 rfl rfl (by kernel_rfl) (by kernel_rfl) (by kernel_rfl) (fun _ _ _ h => h) rfl (fun w' hw' => er_mv _ rfl (.pointer (some ⟨eb, 0, none⟩)) rfl) trivial ?_
  simp only [Act.put, List.setIfInBounds_toArray, List.set_cons_zero, List.set_cons_succ]
  refine d_take 1 18 rfl rfl (by kernel_rfl) (by kernel_rfl) (by kernel_rfl) (fun _ _ _ h => h) rfl (fun w' hw' => er_mv _ rfl (.pointer (some ⟨eb, 0, none⟩)) rfl) trivial ?_
  simp only [Act.put, List.setIfInBounds_toArray, List.set_cons_zero, List.set_cons_succ]
  refine d_take 2 19 rfl rfl (by kernel_rfl) (by kernel_rfl) (by kernel_rfl) (fun _ _ _ h => h) rfl (fun w' hw' => er_nil _ rfl ⟨eb, 0, none⟩ rfl) trivial ?_
  simp only [Act.put, List.setIfInBounds_toArray, List.set_cons_zero, List.set_cons_succ]
  refine d_take 3 20 rfl rfl (by kernel_rfl) (by kernel_rfl) (by kernel_rfl) (fun _ _ _ h => h) rfl (fun w' hw' => er_fE1 _ rfl eb 0 rfl) trivial ?_
  simp only [Act.put, List.setIfInBounds_toArray, List.set_cons_zero, List.set_cons_succ]
  refine d_take 4 21 rfl rfl (by kernel_rfl) (by kernel_rfl) (by kernel_rfl) (fun _ _ _ h => h) rfl (fun w' hw' => er_fS0 _ rfl eb (0 + 6) rfl) trivial ?_
  simp only [Act.put, List.setIfInBounds_toArray, List.set_cons_zero, List.set_cons_succ]
  refine d_take 6 23 rfl rfl (by kernel_rfl) (by kernel_rfl) (by kernel_rfl) (fun _ _ _ h => h) rfl (fun w' hw' => er_mv _ rfl (.slice da dn dc) rfl) trivial ?_
  simp only [Act.put, List.setIfInBounds_toArray, List.set_cons_zero, List.set_cons_succ]
  refine d_rc _ 5 22 7 24 (by kernel_rfl) rfl rfl rfl rfl rfl rfl (er_ldLL _ rfl eb (0 + 6) (.slice ia n ic) rfl c6) (er_c_copy _ _ rfl (.slice da dn dc) rfl) (CW.out _ (Kept.refl No w).drew.drew) trivial ?_ ?_
  · simp only [Act.put, List.setIfInBounds_toArray, List.set_cons_zero, List.set_cons_succ]
    refine d_callN _ 7 24 (by kernel_rfl) rfl rfl rfl (er_c_copy _ _ rfl (.slice da dn dc) rfl) (CW.out _ (Kept.refl No w).drew.drew) ?_
    rintro u wx _ ⟨ya, yc, rfl, ox, kx⟩
    have OX := hid ox
    have KX := hid kx
    have K0 : Kept No w w.drew.drew := (Kept.refl No w).drew.drew
    clear ox kx
    simp only [Act.put, List.setIfInBounds_toArray, List.set_cons_zero, List.set_cons_succ]
    refine d_make 8 25 (by kernel_rfl) rfl rfl rfl (er_bsL _ rfl ya dn yc rfl) trivial ?_
    simp only [Act.put, List.setIfInBounds_toArray, List.set_cons_zero, List.set_cons_succ]
    obtain ⟨v', w', hr, q', k', l', c', f'⟩ := AP.out wx (K0.trans KX.out (fun _ e => e.elim)) ya yc
    obtain ⟨za, zc, hz', _⟩ := q'.shape
    subst hz'
    have HF := hid (FI.out wx w' (K0.trans KX.out (fun _ e => e.elim)) ya yc w.drew.drew _ K0 KX.out OX.out q' k' l')
    refine d_make 9 26 (by kernel_rfl) rfl rfl rfl (er_appL _ _ rfl (.slice ia n ic) (.slice (some ⟨wx.heap.size, 0, none⟩) 1 1) rfl rfl _ _ rfl hr) trivial ?_
    simp only [Act.put, List.setIfInBounds_toArray, List.set_cons_zero, List.set_cons_succ]
    refine d_take 10 27 rfl rfl (by kernel_rfl) (by kernel_rfl) (by kernel_rfl) (fun _ _ _ h => h) rfl (fun w' hw' => er_nil _ rfl ⟨eb, 0, none⟩ rfl) trivial ?_
    simp only [Act.put, List.setIfInBounds_toArray, List.set_cons_zero, List.set_cons_succ]
    refine d_take 11 28 rfl rfl (by kernel_rfl) (by kernel_rfl) (by kernel_rfl) (fun _ _ _ h => h) rfl (fun w' hw' => er_fE1 _ rfl eb 0 rfl) trivial ?_
    simp only [Act.put, List.setIfInBounds_toArray, List.set_cons_zero, List.set_cons_succ]
    refine d_take 12 29 rfl rfl (by kernel_rfl) (by kernel_rfl) (by kernel_rfl) (fun _ _ _ h => h) rfl (fun w' hw' => er_fS0 _ rfl eb (0 + 6) rfl) trivial ?_
    simp only [Act.put, List.setIfInBounds_toArray, List.set_cons_zero, List.set_cons_succ]
    refine d_turn 13 (by kernel_rfl) rfl rfl rfl (er_stLL _ _ rfl eb (0 + 6) (.slice ia n ic) za _ zc rfl rfl c' f') trivial ?_
    refine wpAnyH_done (by kernel_rfl) ?_ _
    clear hr q' k' l' c' f'
    go_wp2
    go_ret
    exact ⟨rfl, HF.out⟩
  · rintro u wx _ ⟨ya, yc, rfl, ox, kx⟩
    have OX := hid ox
    have KX := hid kx
    have K0 : Kept No w w.drew.drew := (Kept.refl No w).drew.drew
    clear ox kx
    simp only [Act.put, List.setIfInBounds_toArray, List.set_cons_zero, List.set_cons_succ]
    refine d_pair 5 22 8 25 (by kernel_rfl) rfl rfl rfl rfl rfl rfl (er_ldLL _ rfl eb (0 + 6) (.slice ia n ic) rfl (L6.out _ (K0.trans KX.out (fun _ e => e.elim)))) (er_bsL _ rfl ya dn yc rfl) trivial trivial ?_ ?_
    · simp only [Act.put, List.setIfInBounds_toArray, List.set_cons_zero, List.set_cons_succ]
      refine d_make 8 25 (by kernel_rfl) rfl rfl rfl (er_bsL _ rfl ya dn yc rfl) trivial ?_
      simp only [Act.put, List.setIfInBounds_toArray, List.set_cons_zero, List.set_cons_succ]
      obtain ⟨v', w', hr, q', k', l', c', f'⟩ := AP.out wx (K0.trans KX.out (fun _ e => e.elim)) ya yc
      obtain ⟨za, zc, hz', _⟩ := q'.shape
      subst hz'
      have HF := hid (FI.out wx w' (K0.trans KX.out (fun _ e => e.elim)) ya yc w.drew.drew _ K0 KX.out OX.out q' k' l')
      refine d_make 9 26 (by kernel_rfl) rfl rfl rfl (er_appL _ _ rfl (.slice ia n ic) (.slice (some ⟨wx.heap.size, 0, none⟩) 1 1) rfl rfl _ _ rfl hr) trivial ?_
      simp only [Act.put, List.setIfInBounds_toArray, List.set_cons_zero, List.set_cons_succ]
      refine d_take 10 27 rfl rfl (by kernel_rfl) (by kernel_rfl) (by kernel_rfl) (fun _ _ _ h => h) rfl (fun w' hw' => er_nil _ rfl ⟨eb, 0, none⟩ rfl) trivial ?_
      simp only [Act.put, List.setIfInBounds_toArray, List.set_cons_zero, List.set_cons_succ]
      refine d_take 11 28 rfl rfl (by kernel_rfl) (by kernel_rfl) (by kernel_rfl) (fun _ _ _ h => h) rfl (fun w' hw' => er_fE1 _ rfl eb 0 rfl) trivial ?_
      simp only [Act.put, List.setIfInBounds_toArray, List.set_cons_zero, List.set_cons_succ]
      refine d_take 12 29 rfl rfl (by kernel_rfl) (by kernel_rfl) (by kernel_rfl) (fun _ _ _ h => h) rfl (fun w' hw' => er_fS0 _ rfl eb (0 + 6) rfl) trivial ?_
      simp only [Act.put, List.setIfInBounds_toArray, List.set_cons_zero, List.set_cons_succ]
      refine d_turn 13 (by kernel_rfl) rfl rfl rfl (er_stLL _ _ rfl eb (0 + 6) (.slice ia n ic) za _ zc rfl rfl c' f') trivial ?_
      refine wpAnyH_done (by kernel_rfl) ?_ _
      clear hr q' k' l' c' f'
      go_wp2
      go_ret
      exact ⟨rfl, HF.out⟩
    · simp only [Act.put, List.setIfInBounds_toArray, List.set_cons_zero, List.set_cons_succ]
      refine d_read 5 22 (by kernel_rfl) rfl rfl rfl (er_ldLL _ rfl eb (0 + 6) (.slice ia n ic) rfl (L6.out _ ((K0.trans KX.out (fun _ e => e.elim)).alloc _))) trivial ?_
      simp only [Act.put, List.setIfInBounds_toArray, List.set_cons_zero, List.set_cons_succ]
      obtain ⟨v', w', hr, q', k', l', c', f'⟩ := AP.out wx (K0.trans KX.out (fun _ e => e.elim)) ya yc
      obtain ⟨za, zc, hz', _⟩ := q'.shape
      subst hz'
      have HF := hid (FI.out wx w' (K0.trans KX.out (fun _ e => e.elim)) ya yc w.drew.drew _ K0 KX.out OX.out q' k' l')
      refine d_make 9 26 (by kernel_rfl) rfl rfl rfl (er_appL _ _ rfl (.slice ia n ic) (.slice (some ⟨wx.heap.size, 0, none⟩) 1 1) rfl rfl _ _ rfl hr) trivial ?_
      simp only [Act.put, List.setIfInBounds_toArray, List.set_cons_zero, List.set_cons_succ]
      refine d_take 10 27 rfl rfl (by kernel_rfl) (by kernel_rfl) (by kernel_rfl) (fun _ _ _ h => h) rfl (fun w' hw' => er_nil _ rfl ⟨eb, 0, none⟩ rfl) trivial ?_
      simp only [Act.put, List.setIfInBounds_toArray, List.set_cons_zero, List.set_cons_succ]
      refine d_take 11 28 rfl rfl (by kernel_rfl) (by kernel_rfl) (by kernel_rfl) (fun _ _ _ h => h) rfl (fun w' hw' => er_fE1 _ rfl eb 0 rfl) trivial ?_
      simp only [Act.put, List.setIfInBounds_toArray, List.set_cons_zero, List.set_cons_succ]
      refine d_take 12 29 rfl rfl (by kernel_rfl) (by kernel_rfl) (by kernel_rfl) (fun _ _ _ h => h) rfl (fun w' hw' => er_fS0 _ rfl eb (0 + 6) rfl) trivial ?_
      simp only [Act.put, List.setIfInBounds_toArray, List.set_cons_zero, List.set_cons_succ]
      refine d_turn 13 (by kernel_rfl) rfl rfl rfl (er_stLL _ _ rfl eb (0 + 6) (.slice ia n ic) za _ zc rfl rfl c' f') trivial ?_
      refine wpAnyH_done (by kernel_rfl) ?_ _
      clear hr q' k' l' c' f'
      go_wp2
      go_ret
      exact ⟨rfl, HF.out⟩
end
end Go.Proofs.Ythebokkogeigoaa
