/-
  port: pop; Push, Pop.
-/
import Derived.Test.YthebokkogeigoaaPPush
namespace Go.Proofs.Ythebokkogeigoaa
open Go.RowKit
set_option linter.unusedVariables false
set_option maxRecDepth 100000

section
variable {B : Nat} {e : En}
def En.less (e : En) (it : Value) (ms : List Value) (xs : List (List Int)) : En := { e with it := it, ms := ms, xs := xs }
theorem Ep.less {w wa : World} (h : Ep w B e) {x : List Int} {m it : Value} {ms : List Value} {xs : List (List Int)} (hm : e.ms = m :: ms) (hx : e.xs = x :: xs) (K : Kept (fun k => e.it.ownBlock = some k) w wa) (q : Qr wa B 22 it ms) (hit : it.ownBlock = e.it.ownBlock) :
    Did w (wa.setCell ⟨e.eb, 6, none⟩ it) B e (e.less it ms xs) ∧ (wa.setCell ⟨e.eb, 6, none⟩ it).ownsRow B 2 1 m x.length (x.map iv) ∧ (∀ k, m.ownBlock = some k → Em e k ∧ ¬ Ef (e.less it ms xs) k) := by
  have K3 : Kept (fun k => k = e.eb) wa (wa.setCell ⟨e.eb, 6, none⟩ it) := (Kept.refl (fun k => k = e.eb) wa).setCell (p := ⟨e.eb, 6, none⟩) (.inl rfl) _
  have Kf : Kept (Ew e) w (wa.setCell ⟨e.eb, 6, none⟩ it) := (K.mono (fun k hk => Or.inr hk)).trans K3 (fun k hk => .inl (.inl hk))
  have bx := set_blk (K.at' h.box h.it_ne) 6 it
  have nw : ∀ {t sz n : Nat} {v : Value} {ys : List Value}, t ≠ 90 → t ≠ 22 → w.ownsRow B t sz v n ys → (wa.setCell ⟨e.eb, 6, none⟩ it).ownsRow B t sz v n ys := fun {t sz n v ys} h1 h2 ho => Kf.owns ho (fun k hk hk' => by
    obtain ⟨_, cs, h3⟩ := owns_blk ho hk
    rcases h.ew_tag hk' h3 with h4 | h4
    · exact h1 h4
    · exact h2 h4)
  have up : ∀ (j : Nat) (v : Value), ms[j]? = some v → e.ms[j + 1]? = some v := fun j v hv => by rw [hm]; simpa using hv
  have m0 : e.ms[0]? = some m := by rw [hm]; rfl
  have mm : ∀ v, v ∈ ms → v ∈ e.ms := fun v hv => by rw [hm]; exact List.mem_cons_of_mem _ hv
  refine ⟨⟨⟨bx, h.low, q.kept K3 (fun k hk hk' => ?_), ?_, fun j v y hv hy => ?_, fun j j' v v' hv hv' hjj => ?_, nw (by decide) (by decide) h.smp, fun v hv => h.sfar v (mm v hv)⟩, Kf, rfl, fun k hk => ?_⟩, nw (by decide) (by decide) (h.msg 0 m x m0 (by rw [hx]; rfl)), fun k hk => ⟨.inl ⟨m, List.mem_of_getElem? m0, hk⟩, fun hk' => ?_⟩⟩
  · obtain ⟨_, cs, h2⟩ := q.blk hk
    have h3 := K.at' h.box h.it_ne
    rw [hk'] at h2
    exact absurd (two_tags h2 h3) (by decide)
  · show xs.length = ms.length
    have := h.len
    rw [hm, hx, List.length_cons, List.length_cons] at this
    omega
  · exact nw (by decide) (by decide) (h.msg (j + 1) v y (up j v hv) (by rw [hx]; have hy' : xs[j]? = some y := hy; simpa using hy'))
  · exact h.far (j + 1) (j' + 1) v v' (up j v hv) (up j' v' hv') (by omega)
  · rcases hk with (hk | hk) | (⟨v, hv, hk⟩ | hk)
    · exact .inl (.inl (.inl hk))
    · exact .inl (.inl (.inr (hit ▸ hk)))
    · exact .inl (.inr (.inl ⟨v, mm v hv, hk⟩))
    · exact .inl (.inr (.inr hk))
  · obtain ⟨_, cs, hc⟩ := owns_blk (h.msg 0 m x m0 (by rw [hx]; rfl)) hk
    rcases hk' with (hk' | hk') | (⟨v, hv, hk'⟩ | hk')
    · rcases h.ew_tag (k := k) (.inl hk') hc with h4 | h4 <;> exact absurd h4 (by decide)
    · rcases h.ew_tag (k := k) (.inr (hit ▸ hk')) hc with h4 | h4 <;> exact absurd h4 (by decide)
    · obtain ⟨j, hj, e2⟩ := List.mem_iff_getElem.1 (show v ∈ ms from hv)
      exact h.far 0 (j + 1) m v m0 (up j v (by rw [List.getElem?_eq_getElem hj, e2])) (by omega) k hk hk'
    · exact h.sfar m (List.mem_of_getElem? m0) k hk hk'
theorem pop_none (w : World) (h : Ep w B e) (hm : e.ms = []) : Calls Try.prog 35 #[.pointer (some ⟨e.eb, 0, none⟩)] w fun r w' => r = .returned (.tuple #[.slice none 0 0, .bool false]) ∧ Kept No w w' := by
  obtain ⟨ia, ic, hia, hc1, hc2⟩ := h.que.shape
  have c6 : w.cell? ⟨e.eb, 6, none⟩ = some (.slice ia 0 ic) := (h.cell 6).trans (by show some e.it = _; rw [hia, hm]; rfl)
  clear h hia hm hc1 hc2
  generalize e.eb = eb at *
  go_enter Try.func35, Try.ntmps35
  go_wp2
  go_ret2
  exact ⟨rfl, Kept.refl No w⟩
/-- what pop makes of the port -/
def Popped (w w' : World) (B : Nat) (e : En) (m : Value) (x : List Int) (ms : List Value) (xs : List (List Int)) : Prop := ∃ it, Did w w' B e (e.less it ms xs) ∧ w'.ownsRow B 2 1 m x.length (x.map iv) ∧ (∀ k, m.ownBlock = some k → Em e k ∧ ¬ Ef (e.less it ms xs) k)
set_option maxHeartbeats 2000000 in
theorem pop_yes (w : World) (h : Ep w B e) {x : List Int} {m : Value} {ms : List Value} {xs : List (List Int)} (hm : e.ms = m :: ms) (hx : e.xs = x :: xs) (hlen : ms.length + 1 ≤ 1099511627776) : Calls Try.prog 35 #[.pointer (some ⟨e.eb, 0, none⟩)] w fun r w' => r = .returned (.tuple #[m, .bool true]) ∧ Popped w w' B e m x ms xs := by
  have q := h.que
  rw [hm] at q
  have hml : ∃ ma mn mc, m = .slice ma mn mc := own_slice (h.msg 0 m x (by rw [hm]; rfl) (by rw [hx]; rfl))
  obtain ⟨ma, mn, mc, rfl⟩ := hml
  obtain ⟨z, p, cap, hit, hc1, hc2, _, cz, fz⟩ := q.look (i := 0) rfl
  rw [List.length_cons] at hc1 hit
  have hne := h.it_ne
  rw [hit] at hne q
  have hgz : z ≠ e.eb := fun q => hne (by rw [q]; rfl)
  have c6 : w.cell? ⟨e.eb, 6, none⟩ = some (.slice (some ⟨z, p, none⟩) (ms.length + 1) cap) := (h.cell 6).trans (by show some e.it = _; rw [hit])
  have f6 := h.fz 6
  have cz0 : w.cell? ⟨z, p, none⟩ = some (.slice ma mn mc) := cz
  have f0 := fz p
  have qt := Qr.tail (x := .slice ma mn mc) (xs := ms) q (.slice none 0 0)
  have K : Kept (fun k => e.it.ownBlock = some k) w (w.setCell ⟨z, p, none⟩ (.slice none 0 0)) := (Kept.refl (fun k => e.it.ownBlock = some k) w).setCell (p := ⟨z, p, none⟩) (.inl (by rw [hit]; rfl)) _
  have HQ : Hid (∀ v', v' = Value.slice (if cap = 1 then some ⟨z, p, none⟩ else some ⟨z, p + 1, none⟩) ms.length (cap - 1) → Popped w ((w.setCell ⟨z, p, none⟩ (.slice none 0 0)).setCell ⟨e.eb, 6, none⟩ v') B e (.slice ma mn mc) x ms xs) := fun v' hv' => by
    subst hv'
    exact ⟨_, h.less hm hx K qt (by rw [hit]; split <;> rfl)⟩
  have cg : (w.setCell ⟨z, p, none⟩ (.slice none 0 0)).cell? ⟨e.eb, 6, none⟩ = some (.slice (some ⟨z, p, none⟩) (ms.length + 1) cap) := K.cell c6 (fun q => by rw [hit] at q; injection q with q; exact hgz q)
  have fg : (w.setCell ⟨z, p, none⟩ (.slice none 0 0)).frozen? ⟨e.eb, 6, none⟩ = false := by rw [World.frozen?_setCell]; exact f6
  clear h q hne qt K fz cz hit hm hx
  generalize ms.length = n at *
  generalize e.eb = eb at *
  by_cases h1 : cap = 1
  · subst h1
    have HQ2 := hid (HQ.out _ rfl)
    rw [if_pos rfl] at HQ2
    clear HQ
    have hn0 : n = 0 := by omega
    subst hn0
    go_enter Try.func35, Try.ntmps35
    go_wp2
    go_ret2
    exact ⟨rfl, HQ2.out⟩
  · have HQ2 := hid (HQ.out _ rfl)
    rw [if_neg h1] at HQ2
    clear HQ
    go_enter Try.func35, Try.ntmps35
    go_wp2
    go_ret2
    exact ⟨rfl, HQ2.out⟩
end
section
variable {B b mb c : Nat} {S : Pd}
theorem Pd.queB_no {S : Pd} {x : Int} (h : S.queB x = false) (i : Nat) (hi : S.idx x = some i) : (S.en i).kd ≠ 1 := by
  unfold Pd.queB at h
  rw [hi] at h
  simpa using h
theorem Pd.queB_yes {S : Pd} {x : Int} (h : S.queB x = true) : ∃ i, S.idx x = some i ∧ (S.en i).kd = 1 := by
  unfold Pd.queB at h
  cases hi : S.idx x with
  | none => rw [hi] at h; cases h
  | some i => rw [hi] at h; exact ⟨i, rfl, by simpa using h⟩
theorem push_port (w : World) (h : Pt w B b mb c S) {x : Int} (hx : I6 x) (hq : S.queB x = false) (da : Option Addr) (dn dc : Nat) : Calls Try.prog 13 #[.pointer (some ⟨b, 0, none⟩), .int .i64 x, .slice da dn dc] w fun r w' => r = .returned (.tuple #[.bool false, .int .i64 107]) ∧ w' = w := by
  have qu := queuing_any w h hx
  rw [hq] at qu
  clear h hx hq
  go_enter Try.func13, Try.ntmps13
  go_wp2_with (go_at_call 33; refine qu.mono ?_; rintro e w1 ⟨rfl, hw⟩; obtain rfl := hw.symm)
  go_ret2
  exact ⟨rfl, rfl⟩
theorem push_arg (w : World) (h : Pt w B b mb c S) {x : Int} (hx : I6 x) {i : Nat} (hi : S.idx x = some i) (hk : (S.en i).kd = 1) (da : Option Addr) (dn dc : Nat) (hd : ¬ (dn : Int) = (S.en i).sz) : Calls Try.prog 13 #[.pointer (some ⟨b, 0, none⟩), .int .i64 x, .slice da dn dc] w fun r w' => r = .returned (.tuple #[.bool false, .int .i64 2]) ∧ w' = w := by
  have qu := queuing_any w h hx
  rw [show S.queB x = true by unfold Pd.queB; rw [hi]; simp [hk]] at qu
  have fi := find_yes w h hx hi
  obtain ⟨h1, h2, h3⟩ := Pd.idx_some hi
  have ft := fits_any w (h.ends i h1 h2) da dn dc
  rw [show ((dn : Int) == (S.en i).sz) = false by simp [hd]] at ft
  clear h hx hi hk hd h1 h2 h3
  generalize (S.en i).eb = eb at *
  go_enter Try.func13, Try.ntmps13
  go_wp2_with (first
    | (go_at_call 33; refine qu.mono ?_; rintro e w1 ⟨rfl, hw⟩; obtain rfl := hw.symm)
    | (go_at_call 29; refine fi.mono ?_; rintro e w1 ⟨rfl, hw⟩; obtain rfl := hw.symm)
    | (go_at_call 32; refine ft.mono ?_; rintro e w1 ⟨rfl, hw⟩; obtain rfl := hw.symm))
  go_ret2
  exact ⟨rfl, rfl⟩
/-- Push of a message that fits, by what the port's own push does -/
theorem push_by (w : World) (h : Pt w B b mb c S) {x : Int} (hx : I6 x) {i : Nat} (hi : S.idx x = some i) (hk : (S.en i).kd = 1) (da : Option Addr) (dn dc : Nat) (hd : (dn : Int) = (S.en i).sz) (r : Bool) (T : World → Prop) (pu : Calls Try.prog 34 #[.pointer (some ⟨(S.en i).eb, 0, none⟩), .slice da dn dc] w fun e w' => e = .returned (.bool r) ∧ T w') :
    Calls Try.prog 13 #[.pointer (some ⟨b, 0, none⟩), .int .i64 x, .slice da dn dc] w fun e w' => e = .returned (.tuple #[.bool r, .int .i64 0]) ∧ T w' := by
  have qu := queuing_any w h hx
  rw [show S.queB x = true by unfold Pd.queB; rw [hi]; simp [hk]] at qu
  have fi := find_yes w h hx hi
  obtain ⟨h1, h2, h3⟩ := Pd.idx_some hi
  have ft := fits_any w (h.ends i h1 h2) da dn dc
  rw [show ((dn : Int) == (S.en i).sz) = true by simp [hd]] at ft
  clear h hx hi hk hd h1 h2 h3
  generalize (S.en i).eb = eb at *
  go_enter Try.func13, Try.ntmps13
  go_wp2_with (first
    | (go_at_call 33; refine qu.mono ?_; rintro e w1 ⟨rfl, hw⟩; obtain rfl := hw.symm)
    | (go_at_call 29; refine fi.mono ?_; rintro e w1 ⟨rfl, hw⟩; obtain rfl := hw.symm)
    | (go_at_call 32; refine ft.mono ?_; rintro e w1 ⟨rfl, hw⟩; obtain rfl := hw.symm)
    | (go_at_call 34; refine pu.mono ?_; rintro e w1 ⟨rfl, ht⟩; have HT := hid ht; clear ht))
  go_ret2
  exact ⟨rfl, HT.out⟩
theorem push_out (w : World) (h : Pt w B b mb c S) {x : Int} (hx : I6 x) {i : Nat} (hi : S.idx x = some i) (hk : (S.en i).kd = 1) (da : Option Addr) (dn dc : Nat) (hd : (dn : Int) = (S.en i).sz) (hf : (S.en i).dp ≤ ((S.en i).ms.length : Int)) :
    Calls Try.prog 13 #[.pointer (some ⟨b, 0, none⟩), .int .i64 x, .slice da dn dc] w fun e w' => e = .returned (.tuple #[.bool false, .int .i64 0]) ∧ Kept No w w' := by
  obtain ⟨h1, h2, _⟩ := Pd.idx_some hi
  exact push_by w h hx hi hk da dn dc hd false _ (push_full w (h.ends i h1 h2) hf da dn dc)
theorem push_in {F : Nat → Prop} {da : Option Addr} {dn dc : Nat} {y : List Int} (w : World) (h : Pt w B b mb c S) {x : Int} (hx : I6 x) {i : Nat} (hi : S.idx x = some i) (hk : (S.en i).kd = 1) (hz : Zs w F da dn dc y) (hd : (dn : Int) = (S.en i).sz) (hf : ((S.en i).ms.length : Int) < (S.en i).dp) (hlen : (S.en i).ms.length + 1 ≤ 1099511627776) (hdn : dn ≤ 17592186044416) :
    Calls Try.prog 13 #[.pointer (some ⟨b, 0, none⟩), .int .i64 x, .slice da dn dc] w fun e w' => e = .returned (.tuple #[.bool true, .int .i64 0]) ∧ Pushed w w' B (S.en i) y := by
  obtain ⟨h1, h2, _⟩ := Pd.idx_some hi
  exact push_by w h hx hi hk da dn dc hd true _ (push_yes w (h.ends i h1 h2) hf hz hlen hdn)
theorem pop_port (w : World) (h : Pt w B b mb c S) {x : Int} (hx : I6 x) (hq : S.queB x = false) : Calls Try.prog 15 #[.pointer (some ⟨b, 0, none⟩), .int .i64 x] w fun r w' => r = .returned (.tuple #[.slice none 0 0, .bool false, .int .i64 107]) ∧ w' = w := by
  have qu := queuing_any w h hx
  rw [hq] at qu
  clear h hx hq
  go_enter Try.func15, Try.ntmps15
  go_wp2_with (go_at_call 33; refine qu.mono ?_; rintro e w1 ⟨rfl, hw⟩; obtain rfl := hw.symm)
  go_ret3
  exact ⟨rfl, rfl⟩
theorem pop_by (w : World) (h : Pt w B b mb c S) {x : Int} (hx : I6 x) {i : Nat} (hi : S.idx x = some i) (hk : (S.en i).kd = 1) (ma : Option Addr) (mn mc : Nat) (r : Bool) (T : World → Prop) (pu : Calls Try.prog 35 #[.pointer (some ⟨(S.en i).eb, 0, none⟩)] w fun e w' => e = .returned (.tuple #[.slice ma mn mc, .bool r]) ∧ T w') :
    Calls Try.prog 15 #[.pointer (some ⟨b, 0, none⟩), .int .i64 x] w fun e w' => e = .returned (.tuple #[.slice ma mn mc, .bool r, .int .i64 0]) ∧ T w' := by
  have qu := queuing_any w h hx
  rw [show S.queB x = true by unfold Pd.queB; rw [hi]; simp [hk]] at qu
  have fi := find_yes w h hx hi
  clear h hx hi hk
  generalize (S.en i).eb = eb at *
  go_enter Try.func15, Try.ntmps15
  go_wp2_with (first
    | (go_at_call 33; refine qu.mono ?_; rintro e w1 ⟨rfl, hw⟩; obtain rfl := hw.symm)
    | (go_at_call 29; refine fi.mono ?_; rintro e w1 ⟨rfl, hw⟩; obtain rfl := hw.symm)
    | (go_at_call 35; refine pu.mono ?_; rintro e w1 ⟨rfl, ht⟩; have HT := hid ht; clear ht))
  go_ret3
  exact ⟨rfl, HT.out⟩
theorem pop_empty (w : World) (h : Pt w B b mb c S) {x : Int} (hx : I6 x) {i : Nat} (hi : S.idx x = some i) (hk : (S.en i).kd = 1) (hm : (S.en i).ms = []) :
    Calls Try.prog 15 #[.pointer (some ⟨b, 0, none⟩), .int .i64 x] w fun e w' => e = .returned (.tuple #[.slice none 0 0, .bool false, .int .i64 0]) ∧ Kept No w w' := by
  obtain ⟨h1, h2, _⟩ := Pd.idx_some hi
  exact pop_by w h hx hi hk none 0 0 false _ (pop_none w (h.ends i h1 h2) hm)
theorem pop_one (w : World) (h : Pt w B b mb c S) {x : Int} (hx : I6 x) {i : Nat} (hi : S.idx x = some i) (hk : (S.en i).kd = 1) {y : List Int} {m : Value} {ms : List Value} {xs : List (List Int)} (hm : (S.en i).ms = m :: ms) (hxs : (S.en i).xs = y :: xs) (hlen : ms.length + 1 ≤ 1099511627776) :
    Calls Try.prog 15 #[.pointer (some ⟨b, 0, none⟩), .int .i64 x] w fun e w' => e = .returned (.tuple #[m, .bool true, .int .i64 0]) ∧ Popped w w' B (S.en i) m y ms xs := by
  obtain ⟨h1, h2, _⟩ := Pd.idx_some hi
  have hE := h.ends i h1 h2
  obtain ⟨ma, mn, mc, rfl⟩ : ∃ ma mn mc, m = .slice ma mn mc := own_slice (hE.msg 0 m y (by rw [hm]; rfl) (by rw [hxs]; rfl))
  exact pop_by w h hx hi hk ma mn mc true _ (pop_yes w hE hm hxs hlen)
end
end Go.Proofs.Ythebokkogeigoaa
