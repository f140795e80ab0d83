/-
  port: Lose, Set, Last.
-/
import Derived.Test.YthebokkogeigoaaPPop
namespace Go.Proofs.Ythebokkogeigoaa
open Go.RowKit
set_option linter.unusedVariables false
set_option maxRecDepth 100000

theorem results_tmp4 {fn : Func} {t u v x : Tmp} (h : fn.results = #[.tmp t, .tmp u, .tmp v, .tmp x]) (tmps : Array Value) (P : Program) (w : World) :
    (results fn tmps).run P w = .ok (.tuple #[tmps.getD t undef, tmps.getD u undef, tmps.getD v undef, tmps.getD x undef]) w := by
  simp [results, h]
section
variable {B : Nat} {e : En}
/-- a port whose cells are others, its lists the same -/
theorem Ep.turn {w w' : World} (h : Ep w B e) {e' : En} (K : Kept (fun k => k = e.eb) w w') (bx : w'.heap[e.eb]? = some (.cells e'.cells 90 (0, 0))) (q0 : e'.eb = e.eb) (q1 : e'.it = e.it) (q2 : e'.ms = e.ms) (q3 : e'.xs = e.xs) (q4 : e'.sv = e.sv) (q5 : e'.sx = e.sx) : Did w w' B e e' := by
  have nw : ∀ {t sz n : Nat} {v : Value} {ys : List Value}, t ≠ 90 → w.ownsRow B t sz v n ys → w'.ownsRow B t sz v n ys := fun {t sz n v ys} h1 ho => K.owns ho (fun k hk hk' => by
    obtain ⟨_, cs, h3⟩ := owns_blk ho hk
    rw [hk'] at h3
    exact h1 (two_tags h3 h.box))
  refine ⟨⟨by rw [q0]; exact bx, by rw [q0]; exact h.low, by
    rw [q1, q2]
    exact h.que.kept K (fun k hk hk' => h.it_ne (hk' ▸ hk)), by rw [q2, q3]; exact h.len, by
    rw [q2, q3]
    exact fun j v x hv hx => nw (by decide) (h.msg j v x hv hx), by rw [q2]; exact h.far, by rw [q4, q5]; exact nw (by decide) h.smp, by rw [q2, q4]; exact h.sfar⟩, K.mono (fun k hk => .inl hk), q0, fun k hk => .inl ?_⟩
  unfold Ef Ew Em at hk ⊢
  rw [q0, q1, q2, q4] at hk
  exact hk
def En.lose (e : En) : En := { e with lost := e.lost + 1 }
theorem Ep.lose {w : World} (h : Ep w B e) : Did w (w.setCell ⟨e.eb, 10, none⟩ (.int .i64 (e.lost + 1))) B e e.lose :=
  h.turn ((Kept.refl (fun k => k = e.eb) w).setCell (p := ⟨e.eb, 10, none⟩) (.inl rfl) _) (set_blk h.box 10 _) rfl rfl rfl rfl rfl rfl
/-- a port with another sample -/
def En.stamp (e : En) (t : Int) (v : Value) (x : List Int) : En := { e with has := true, tk := t, sv := v, sx := x }
theorem Ep.stamp {w w1 : World} (h : Ep w B e) {t : Int} {v : Value} {x : List Int} (K1 : Kept No w w1) (om : w1.ownsRow w.heap.size 2 1 v x.length (x.map iv)) :
    Did w (((w1.setCell ⟨e.eb, 7, none⟩ (.bool true)).setCell ⟨e.eb, 8, none⟩ (.int .i64 t)).setCell ⟨e.eb, 9, none⟩ v) B e (e.stamp t v x) := by
  have h1 := h.keep K1
  have hB := h.B_le
  have hv_blk : ∀ k, v.ownBlock = some k → w.heap.size ≤ k := fun k hk => (owns_blk om hk).1
  have K : Kept (fun k => k = e.eb) w1 (((w1.setCell ⟨e.eb, 7, none⟩ (.bool true)).setCell ⟨e.eb, 8, none⟩ (.int .i64 t)).setCell ⟨e.eb, 9, none⟩ v) := (((Kept.refl (fun k => k = e.eb) w1).setCell (p := ⟨e.eb, 7, none⟩) (.inl rfl) _).setCell (p := ⟨e.eb, 8, none⟩) (.inl rfl) _).setCell (p := ⟨e.eb, 9, none⟩) (.inl rfl) _
  have bx := set_blk (set_blk (set_blk h1.box 7 (.bool true)) 8 (.int .i64 t)) 9 v
  have nw : ∀ {t' sz n : Nat} {u : Value} {ys : List Value}, t' ≠ 90 → w1.ownsRow B t' sz u n ys → (((w1.setCell ⟨e.eb, 7, none⟩ (.bool true)).setCell ⟨e.eb, 8, none⟩ (.int .i64 t)).setCell ⟨e.eb, 9, none⟩ v).ownsRow B t' sz u n ys := fun {t' sz n u ys} h2 ho => K.owns ho (fun k hk hk' => by
    obtain ⟨_, cs, h3⟩ := owns_blk ho hk
    rw [hk'] at h3
    exact h2 (two_tags h3 h1.box))
  refine ⟨⟨bx, h.low, h1.que.kept K (fun k hk hk' => h1.it_ne (hk' ▸ hk)), h.len, fun j u y hu hy => nw (by decide) (h1.msg j u y hu hy), h.far, nw (by decide) (owns_base om hB), fun u hu k hk hk' => ?_⟩, ((K1.mono (fun _ e => e.elim)).trans K (fun k hk => .inl hk)).mono (fun k hk => .inl hk), rfl, fun k hk => ?_⟩
  · have := (h.ef_blk (.inr (.inl ⟨u, hu, hk⟩))).2.1
    have := hv_blk k hk'
    omega
  · rcases hk with (hk | hk) | (hk | hk)
    · exact .inl (.inl (.inl hk))
    · exact .inl (.inl (.inr hk))
    · exact .inl (.inr (.inl hk))
    · exact .inr (hv_blk k hk)
end
section
variable {B b mb c : Nat} {S : Pd}
theorem Pd.ownB_yes {S : Pd} {x k : Int} {o : Bool} (h : S.ownB x k o = true) : ∃ i, S.idx x = some i ∧ (S.en i).kd = k ∧ (S.en i).out = o := by
  unfold Pd.ownB at h
  cases hi : S.idx x with
  | none => rw [hi] at h; cases h
  | some i =>
    rw [hi] at h
    simp at h
    exact ⟨i, rfl, h.1, h.2⟩
theorem lose_port (w : World) (h : Pt w B b mb c S) {x : Int} (hx : I6 x) (hq : S.ownB x 1 false = false) : Calls Try.prog 16 #[.pointer (some ⟨b, 0, none⟩), .int .i64 x] w fun r w' => r = .returned (.int .i64 107) ∧ w' = w := by
  have qu := own_any w h hx 1 false
  rw [hq] at qu
  clear h hx hq
  go_enter Try.func16, Try.ntmps16
  go_wp2_with (go_at_call 28; refine qu.mono ?_; rintro e w1 ⟨rfl, hw⟩; obtain rfl := hw.symm)
  go_ret
  exact ⟨rfl, rfl⟩
theorem lose_yes (w : World) (h : Pt w B b mb c S) {x : Int} (hx : I6 x) (hq : S.ownB x 1 false = true) {i : Nat} (hi : S.idx x = some i) (hlo : -9223372036854775808 ≤ (S.en i).lost) (hhi : (S.en i).lost < 9223372036854775807) : Calls Try.prog 16 #[.pointer (some ⟨b, 0, none⟩), .int .i64 x] w fun r w' => r = .returned (.int .i64 0) ∧ Did w w' B (S.en i) (S.en i).lose := by
  have qu := own_any w h hx 1 false
  rw [hq] at qu
  have fi := find_yes w h hx hi
  obtain ⟨h1, h2, h3⟩ := Pd.idx_some hi
  have hE := h.ends i h1 h2
  have c10 : w.cell? ⟨(S.en i).eb, 10, none⟩ = some (.int .i64 (S.en i).lost) := (hE.cell 10).trans rfl
  have f10 := hE.fz 10
  have hL := hid hE.lose
  have hwr : wrap64 ((S.en i).lost + 1) = (S.en i).lost + 1 := by unfold wrap64; omega
  clear h hx hq hi h1 h2 h3 hE
  generalize S.en i = e at *
  generalize he : e.eb = eb at *
  have HE := hid he
  clear he
  generalize hl : e.lost = lo at *
  have HL := hid hl
  clear hl
  go_enter Try.func16, Try.ntmps16
  go_wp2_with (first
    | (go_at_call 28; refine qu.mono ?_; rintro e w1 ⟨rfl, hw⟩; obtain rfl := hw.symm)
    | (go_at_call 29; refine fi.mono ?_; rintro e w1 ⟨rfl, hw⟩; obtain rfl := hw.symm))
  go_ret
  exact ⟨rfl, hL.out⟩
theorem set_port (w : World) (h : Pt w B b mb c S) {x : Int} (hx : I6 x) (hq : S.ownB x 0 false = false) (da : Option Addr) (dn dc : Nat) (t : Int) : Calls Try.prog 10 #[.pointer (some ⟨b, 0, none⟩), .int .i64 x, .slice da dn dc, .int .i64 t] w fun r w' => r = .returned (.int .i64 107) ∧ w' = w := by
  have qu := own_any w h hx 0 false
  rw [hq] at qu
  clear h hx hq
  go_enter Try.func10, Try.ntmps10
  go_wp2_with (go_at_call 28; refine qu.mono ?_; rintro e w1 ⟨rfl, hw⟩; obtain rfl := hw.symm)
  go_ret
  exact ⟨rfl, rfl⟩
theorem set_arg (w : World) (h : Pt w B b mb c S) {x : Int} (hx : I6 x) (hq : S.ownB x 0 false = true) {i : Nat} (hi : S.idx x = some i) (da : Option Addr) (dn dc : Nat) (t : Int) (hd : ¬ ((dn : Int) = (S.en i).sz ∧ tickB t = true)) : Calls Try.prog 10 #[.pointer (some ⟨b, 0, none⟩), .int .i64 x, .slice da dn dc, .int .i64 t] w fun r w' => r = .returned (.int .i64 2) ∧ w' = w := by
  have qu := own_any w h hx 0 false
  rw [hq] at qu
  have fi := find_yes w h hx hi
  obtain ⟨h1, h2, h3⟩ := Pd.idx_some hi
  have ft := fits_any w (h.ends i h1 h2) da dn dc
  have it := isTick_any w t
  clear h hx hq hi h1 h2 h3
  generalize (S.en i).eb = eb at *
  by_cases hs : (dn : Int) = (S.en i).sz
  · have ht : tickB t = false := by
      cases h : tickB t with
      | false => rfl
      | true => exact absurd ⟨hs, h⟩ hd
    rw [ht] at it
    rw [show ((dn : Int) == (S.en i).sz) = true by simp [hs]] at ft
    clear hs hd ht
    go_enter Try.func10, Try.ntmps10
    go_wp2_with (first
      | (go_at_call 28; refine qu.mono ?_; rintro e w1 ⟨rfl, hw⟩; obtain rfl := hw.symm)
      | (go_at_call 29; refine fi.mono ?_; rintro e w1 ⟨rfl, hw⟩; obtain rfl := hw.symm)
      | (go_at_call 32; refine ft.mono ?_; rintro e w1 ⟨rfl, hw⟩; obtain rfl := hw.symm)
      | (go_at_call 30; refine it.mono ?_; rintro e w1 ⟨rfl, hw⟩; obtain rfl := hw.symm))
    go_ret
    exact ⟨rfl, rfl⟩
  · rw [show ((dn : Int) == (S.en i).sz) = false by simp [hs]] at ft
    clear hs hd
    go_enter Try.func10, Try.ntmps10
    go_wp2_with (first
      | (go_at_call 28; refine qu.mono ?_; rintro e w1 ⟨rfl, hw⟩; obtain rfl := hw.symm)
      | (go_at_call 29; refine fi.mono ?_; rintro e w1 ⟨rfl, hw⟩; obtain rfl := hw.symm)
      | (go_at_call 32; refine ft.mono ?_; rintro e w1 ⟨rfl, hw⟩; obtain rfl := hw.symm))
    go_ret
    exact ⟨rfl, rfl⟩
/-- what Set makes of the port -/
def Stamped (w w' : World) (B : Nat) (e : En) (t : Int) (x : List Int) : Prop := ∃ v, Did w w' B e (e.stamp t v x)
set_option maxHeartbeats 2000000 in
theorem set_yes {F : Nat → Prop} {da : Option Addr} {dn dc : Nat} {y : List Int} (w : World) (h : Pt w B b mb c S) {x : Int} (hx : I6 x) (hq : S.ownB x 0 false = true) {i : Nat} (hi : S.idx x = some i) (t : Int) (hz : Zs w F da dn dc y) (hs : (dn : Int) = (S.en i).sz) (ht : tickB t = true) (hdn : dn ≤ 17592186044416) : Calls Try.prog 10 #[.pointer (some ⟨b, 0, none⟩), .int .i64 x, .slice da dn dc, .int .i64 t] w fun r w' => r = .returned (.int .i64 0) ∧ Stamped w w' B (S.en i) t y := by
  have qu := own_any w h hx 0 false
  rw [hq] at qu
  have fi := find_yes w h hx hi
  obtain ⟨h1, h2, h3⟩ := Pd.idx_some hi
  have hE := h.ends i h1 h2
  have ft := fits_any w hE da dn dc
  have it := isTick_any w t
  rw [ht] at it
  rw [show ((dn : Int) == (S.en i).sz) = true by simp [hs]] at ft
  have cw := words_any w hz hdn
  have hyl := hz.len
  have FI : Hid (∀ w1 ya yc, Kept No w w1 → w1.ownsRow w.heap.size 2 1 (.slice ya dn yc) dn (y.map iv) → (∃ u, w1.cell? ⟨(S.en i).eb, 7, none⟩ = some u) ∧ (∃ u, w1.cell? ⟨(S.en i).eb, 8, none⟩ = some u) ∧ (∃ u, w1.cell? ⟨(S.en i).eb, 9, none⟩ = some u) ∧ (∀ k, w1.frozen? ⟨(S.en i).eb, k, none⟩ = false) ∧ Stamped w (((w1.setCell ⟨(S.en i).eb, 7, none⟩ (.bool true)).setCell ⟨(S.en i).eb, 8, none⟩ (.int .i64 t)).setCell ⟨(S.en i).eb, 9, none⟩ (.slice ya dn yc)) B (S.en i) t y) := fun w1 ya yc k om => by
    have h1 := hE.keep k
    refine ⟨⟨_, (h1.cell 7).trans rfl⟩, ⟨_, (h1.cell 8).trans rfl⟩, ⟨_, (h1.cell 9).trans rfl⟩, h1.fz, ?_⟩
    subst hyl
    exact ⟨_, hE.stamp k om⟩
  clear h hx hq hi h1 h2 h3 hE hz hs ht hyl
  generalize S.en i = e at *
  generalize he : e.eb = eb at *
  have HE := hid he
  clear he
  go_enter Try.func10, Try.ntmps10
  go_wp2_with (first
    | (go_at_call 28; refine qu.mono ?_; rintro e w1 ⟨rfl, hw⟩; obtain rfl := hw.symm)
    | (go_at_call 29; refine fi.mono ?_; rintro e w1 ⟨rfl, hw⟩; obtain rfl := hw.symm)
    | (go_at_call 32; refine ft.mono ?_; rintro e w1 ⟨rfl, hw⟩; obtain rfl := hw.symm)
    | (go_at_call 30; refine it.mono ?_; rintro e w1 ⟨rfl, hw⟩; obtain rfl := hw.symm)
    | (go_at_call 31; refine cw.mono ?_; rintro e w1 ⟨ya, yc, rfl, om, km⟩; obtain ⟨⟨u7, c7⟩, ⟨u8, c8⟩, ⟨u9, c9⟩, fz, hd⟩ := FI.out w1 ya yc km om; have HD := hid hd; have f7 := fz 7; have f8 := fz 8; have f9 := fz 9; clear om km hd fz))
  go_ret
  exact ⟨rfl, HD.out⟩
theorem last_port (w : World) (h : Pt w B b mb c S) {x : Int} (hx : I6 x) (hq : S.ownB x 0 false = false) (t : Int) : Calls Try.prog 9 #[.pointer (some ⟨b, 0, none⟩), .int .i64 x, .int .i64 t] w fun r w' => r = .returned (.tuple #[.slice none 0 0, .int .i64 0, .bool false, .int .i64 107]) ∧ Kept No w w' := by
  have qu := own_any w h hx 0 false
  rw [hq] at qu
  clear h hx hq
  go_enter Try.func9, Try.ntmps9
  go_wp2_with (go_at_call 28; refine qu.mono ?_; rintro e w1 ⟨rfl, hw⟩; obtain rfl := hw.symm)
  (try simp only [Exit.inBlock, Exit.then]); refine bodyPost_ret (results_tmp4 rfl _ _ _) rfl ?_
  exact ⟨rfl, Kept.refl No w⟩
set_option maxHeartbeats 2000000 in
theorem last_arg (w : World) (h : Pt w B b mb c S) {x : Int} (hx : I6 x) (hq : S.ownB x 0 false = true) {i : Nat} (hi : S.idx x = some i) (t : Int) (ht : tickB t = false ∨ (S.en i).has = true ∧ t < (S.en i).tk) : Calls Try.prog 9 #[.pointer (some ⟨b, 0, none⟩), .int .i64 x, .int .i64 t] w fun r w' => r = .returned (.tuple #[.slice none 0 0, .int .i64 0, .bool false, .int .i64 2]) ∧ Kept No w w' := by
  have qu := own_any w h hx 0 false
  rw [hq] at qu
  have fi := find_yes w h hx hi
  obtain ⟨h1, h2, h3⟩ := Pd.idx_some hi
  have hE := h.ends i h1 h2
  clear h hx hq hi h1 h2 h3
  generalize S.en i = e at *
  obtain ⟨sa, sn, sc, hsv⟩ := own_slice hE.smp
  have c7 : w.cell? ⟨e.eb, 7, none⟩ = some (.bool e.has) := (hE.cell 7).trans rfl
  have c8 : w.cell? ⟨e.eb, 8, none⟩ = some (.int .i64 e.tk) := (hE.cell 8).trans rfl
  have c9 : w.cell? ⟨e.eb, 9, none⟩ = some (.slice sa sn sc) := (hE.cell 9).trans (by show some e.sv = _; rw [hsv])
  have it := fun W => isTick_any W t
  clear hE hsv
  generalize e.eb = eb at *
  generalize e.tk = tk at *
  generalize e.has = ha at *
  cases hT : tickB t with
  | false =>
    simp only [hT] at it
    clear ht hT
    go_enter Try.func9, Try.ntmps9
    go_wp2_with (first
    | (go_at_call 28; refine qu.mono ?_; rintro e w1 ⟨rfl, hw⟩; obtain rfl := hw.symm)
    | (go_at_call 29; refine fi.mono ?_; rintro e w1 ⟨rfl, hw⟩; obtain rfl := hw.symm)
    | (go_at_call 30; refine (it _).mono ?_; rintro e w1 ⟨rfl, hw⟩; obtain rfl := hw.symm))
    (try simp only [Exit.inBlock, Exit.then]); refine bodyPost_ret (results_tmp4 rfl _ _ _) rfl ?_
    exact ⟨rfl, (Kept.refl No w).alloc _⟩
  | true =>
    obtain ⟨rfl, hlt⟩ : ha = true ∧ t < tk := by
      rcases ht with h | h
      · rw [hT] at h; cases h
      · exact h
    simp only [hT] at it
    clear ht hT
    go_enter Try.func9, Try.ntmps9
    go_wp2_with (first
    | (go_at_call 28; refine qu.mono ?_; rintro e w1 ⟨rfl, hw⟩; obtain rfl := hw.symm)
    | (go_at_call 29; refine fi.mono ?_; rintro e w1 ⟨rfl, hw⟩; obtain rfl := hw.symm)
    | (go_at_call 30; refine (it _).mono ?_; rintro e w1 ⟨rfl, hw⟩; obtain rfl := hw.symm))
    (try simp only [Exit.inBlock, Exit.then]); refine bodyPost_ret (results_tmp4 rfl _ _ _) rfl ?_
    exact ⟨rfl, (Kept.refl No w).alloc _⟩
set_option maxHeartbeats 2000000 in
theorem last_none (w : World) (h : Pt w B b mb c S) {x : Int} (hx : I6 x) (hq : S.ownB x 0 false = true) {i : Nat} (hi : S.idx x = some i) (t : Int) (ht : tickB t = true) (hh : (S.en i).has = false) : Calls Try.prog 9 #[.pointer (some ⟨b, 0, none⟩), .int .i64 x, .int .i64 t] w fun r w' => r = .returned (.tuple #[.slice none 0 0, .int .i64 0, .bool false, .int .i64 0]) ∧ Kept No w w' := by
  have qu := own_any w h hx 0 false
  rw [hq] at qu
  have fi := find_yes w h hx hi
  obtain ⟨h1, h2, h3⟩ := Pd.idx_some hi
  have hE := h.ends i h1 h2
  clear h hx hq hi h1 h2 h3
  generalize S.en i = e at *
  obtain ⟨sa, sn, sc, hsv⟩ := own_slice hE.smp
  have c7 : w.cell? ⟨e.eb, 7, none⟩ = some (.bool e.has) := (hE.cell 7).trans rfl
  have c8 : w.cell? ⟨e.eb, 8, none⟩ = some (.int .i64 e.tk) := (hE.cell 8).trans rfl
  have c9 : w.cell? ⟨e.eb, 9, none⟩ = some (.slice sa sn sc) := (hE.cell 9).trans (by show some e.sv = _; rw [hsv])
  have it := fun W => isTick_any W t
  clear hE hsv
  rw [hh] at c7
  simp only [ht] at it
  generalize e.eb = eb at *
  generalize e.tk = tk at *
  clear ht hh
  go_enter Try.func9, Try.ntmps9
  go_wp2_with (first
    | (go_at_call 28; refine qu.mono ?_; rintro e w1 ⟨rfl, hw⟩; obtain rfl := hw.symm)
    | (go_at_call 29; refine fi.mono ?_; rintro e w1 ⟨rfl, hw⟩; obtain rfl := hw.symm)
    | (go_at_call 30; refine (it _).mono ?_; rintro e w1 ⟨rfl, hw⟩; obtain rfl := hw.symm))
  (try simp only [Exit.inBlock, Exit.then]); refine bodyPost_ret (results_tmp4 rfl _ _ _) rfl ?_
  exact ⟨rfl, (Kept.refl No w).alloc _⟩
set_option maxHeartbeats 4000000 in
theorem last_yes (w : World) (h : Pt w B b mb c S) {x : Int} (hx : I6 x) (hq : S.ownB x 0 false = true) {i : Nat} (hi : S.idx x = some i) (t : Int) (ht : tickB t = true) (hh : (S.en i).has = true) (hge : (S.en i).tk ≤ t) (h0 : 0 ≤ (S.en i).tk) (hdn : (S.en i).sx.length ≤ 17592186044416) : Calls Try.prog 9 #[.pointer (some ⟨b, 0, none⟩), .int .i64 x, .int .i64 t] w fun r w' => ∃ ya yc, r = .returned (.tuple #[.slice ya (S.en i).sx.length yc, .int .i64 (t - (S.en i).tk), .bool (decide (t - (S.en i).tk ≤ (S.en i).rf)), .int .i64 0]) ∧ w'.ownsRow w.heap.size 2 1 (.slice ya (S.en i).sx.length yc) (S.en i).sx.length ((S.en i).sx.map iv) ∧ Kept No w w' := by
  have qu := own_any w h hx 0 false
  rw [hq] at qu
  have fi := find_yes w h hx hi
  obtain ⟨h1, h2, h3⟩ := Pd.idx_some hi
  have hE := h.ends i h1 h2
  clear h hx hq hi h1 h2 h3
  generalize S.en i = e at *
  obtain ⟨sa, sn, sc, hsv⟩ := own_slice hE.smp
  have c7 : w.cell? ⟨e.eb, 7, none⟩ = some (.bool e.has) := (hE.cell 7).trans rfl
  have c8 : w.cell? ⟨e.eb, 8, none⟩ = some (.int .i64 e.tk) := (hE.cell 8).trans rfl
  have c9 : w.cell? ⟨e.eb, 9, none⟩ = some (.slice sa sn sc) := (hE.cell 9).trans (by show some e.sv = _; rw [hsv])
  have it := fun W => isTick_any W t
  rw [hh] at c7
  simp only [ht] at it
  have c5 : w.cell? ⟨e.eb, 5, none⟩ = some (.int .i64 e.rf) := (hE.cell 5).trans rfl
  have C5 : Hid (∀ W, Kept No w W → W.cell? ⟨e.eb, 5, none⟩ = some (.int .i64 e.rf)) := fun W k => k.cell c5 (fun e => e)
  have hsn : sn = e.sx.length := by
    have := hE.smp
    rw [hsv] at this
    rcases owns_cells this with ⟨h1, h2⟩ | ⟨g, cap, h1, _⟩
    · injection h1 with _ h1 _; omega
    · injection h1
  subst hsn
  have CW : Hid (∀ W, Kept No w W → Calls Try.prog 31 #[.slice sa e.sx.length sc] W fun r w' => ∃ ya yc, r = .returned (.slice ya e.sx.length yc) ∧ w'.ownsRow W.heap.size 2 1 (.slice ya e.sx.length yc) e.sx.length (e.sx.map iv) ∧ Kept No W w') := fun W k => by
    obtain ⟨a', c', hv, hz⟩ := Zs.of_owns hE.smp
    rw [hsv] at hv
    injection hv with hv1 _ hv2
    subst hv1 hv2
    exact words_any W (hz.kept k (fun _ _ e => e)) hdn
  have htb : t < 1099511627776 := by unfold tickB at ht; simp at ht; exact ht.2
  have hnl : ¬ t < e.tk := by omega
  have hwr : wrap64 (t - e.tk) = t - e.tk := by unfold wrap64; omega
  clear hE hsv hdn ht htb hh hge h0 c5
  generalize e.sx.length = n at *
  generalize e.sx = xs at *
  generalize e.eb = eb at *
  generalize e.tk = tk at *
  generalize e.rf = rf at *
  go_enter Try.func9, Try.ntmps9
  go_upto_region 10 with (first
    | (go_at_call 28; refine qu.mono ?_; rintro e w1 ⟨rfl, hw⟩; obtain rfl := hw.symm)
    | (go_at_call 29; refine fi.mono ?_; rintro e w1 ⟨rfl, hw⟩; obtain rfl := hw.symm)
    | (go_at_call 30; refine (it _).mono ?_; rintro e w1 ⟨rfl, hw⟩; obtain rfl := hw.symm))
  simp only [hwr]
  clear c7 c8 c9 hnl qu fi it hwr
  have KA : Kept No w (w.alloc (.cells #[.bool true, .int .i64 tk, .slice sa n sc] 59)) := (Kept.refl No w).alloc _
  have cd : (w.alloc (.cells #[.bool true, .int .i64 tk, .slice sa n sc] 59)).cell? ⟨w.heap.size, 2, none⟩ = some (.slice sa n sc) := (cell_blk (alloc_new w _) 2).trans rfl
  have HSZ := hid (Nat.le_refl w.heap.size)
  have KS : Hid (w.heap.size ≤ (w.alloc (.cells #[.bool true, .int .i64 tk, .slice sa n sc] 59)).heap.size) := KA.size
  have HKA := hid KA
  clear KA
  generalize (w.alloc (.cells #[.bool true, .int .i64 tk, .slice sa n sc] 59)) = w2 at *
  generalize w.heap.size = z at *
  have c5 := C5.out _ HKA.out
  go_region_with (go_at_call 31; refine (CW.out _ (by first | exact HKA.out.drew | exact HKA.out)).mono ?_; rintro e w3 ⟨ya, yc, rfl, o3, k3⟩; have O3 := hid o3; have K3 := hid k3; have c5' := C5.out _ ((HKA.out.drew).trans k3 (fun _ e => e.elim)); clear o3 k3)
  all_goals go_wp2
  all_goals ((try simp only [Exit.inBlock, Exit.then]); refine bodyPost_ret (results_tmp4 rfl _ _ _) rfl ?_)
  all_goals exact ⟨ya, yc, rfl, owns_base O3.out HKA.out.size, (HKA.out.drew).trans K3.out (fun _ e => e.elim)⟩
end
end Go.Proofs.Ythebokkogeigoaa
