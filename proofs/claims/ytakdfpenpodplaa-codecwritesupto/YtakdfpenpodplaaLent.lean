/-
  'lent' and 'stood'.
-/
import Derived.Test.YtakdfpenpodplaaShelfI
import Derived.BigQuiet
namespace Go.Proofs.Ytakdfpenpodplaa
open Go.RowKit
set_option linter.unusedVariables false

set_option maxHeartbeats 2000000 in
theorem lent_any (G : Nat → Prop) (a : Option Addr) (n c : Nat) (zs : List Int) (w : World) (h : Zs w G a n c zs) (hn : n ≤ 1000000000) :
    Calls Try.prog 86 #[.slice a n c] w fun ex w' => ∃ g cap, ex = .returned (.slice (some ⟨g, 0, none⟩) n cap) ∧ w'.ownsRow w.heap.size 3 1 (.slice (some ⟨g, 0, none⟩) (n + 1) cap) (n + 1) ((zs ++ [-77]).map iv) ∧ Below w.heap.size w w' := by
  obtain ⟨i0, hi, hz0, hz1, hz2⟩ := info_parts Try.info3
  have hl := h.len
  have HL : Hid (zs.length = n) := hl
  have HB : Hid (Zs w G a n c zs) := h
  clear h hl
  go_enter Try.func86, Try.ntmps86
  go_upto_region 2 with fail
  go_cut [3] (fun l wx => wx.ownsRow w.heap.size 3 1 l n (zs.map iv) ∧ Below w.heap.size w wx)
  case first =>
    cases a with
    | none =>
      have hc0 := HB.out.nil rfl
      have hn0 : n = 0 := by have := HB.out.cap; omega
      have hx0 : zs = [] := List.eq_nil_of_length_eq_zero (by rw [HL.out]; exact hn0)
      subst hc0 hn0 hx0
      go_wp2_with (at_builtin; refine wpList_append_own_none rfl (.tmp 4) (.tmp 5) 41 rfl w.heap.size 3 i0 1 Try.underlying41 hi _ _ _ rfl (World.ownsRow_nil _ _ _ _) rfl ?_)
      go_meet
      case rel => exact ⟨World.ownsRow_nil _ _ _ _, Below.refl _ _⟩
    | some ad =>
      go_wp2_with (at_builtin; refine wpList_append_own _ rfl _ _ 41 rfl w.heap.size 3 i0 (.int .i64 0) 1 8 Try.underlying41 hi hz0 hz1 hz2 rfl (by decide) _ 0 [] rfl (World.ownsRow_nil _ _ _ _) ad n c (zs.map iv) rfl (by rw [List.length_map, HL.out]; omega) HB.out.news (iv_one _) (by unfold maxLen; omega) (by omega) (Nat.le_refl _) ?_; intro v1 w1 own1 grow1 _)
      have hb1 : Below w.heap.size w w1 := (Below.refl _ _).grown grow1 (Nat.le_refl _) (fun k hk => by cases hk)
      rw [Nat.zero_add, List.nil_append] at own1
      clear grow1
      go_wp2
      go_meet
      case rel => exact ⟨own1, hb1⟩
  case rest =>
    obtain ⟨hown, hbel⟩ := hcut
    have OWN : Hid (wc.ownsRow w.heap.size 3 1 u3 n (zs.map iv)) := hown
    have hs := hbel.size
    have BEL : Hid (Below w.heap.size w wc) := hbel
    clear hown hbel
    go_upto_region 4 with (at_builtin; refine wpList_append_own _ rfl _ _ 41 rfl w.heap.size 3 i0 (.int .i64 0) 1 8 Try.underlying41 hi hz0 hz1 hz2 rfl (by decide) _ _ _ rfl (OWN.out.alloc _) ⟨wc.heap.size, 0, none⟩ 1 1 [.int .i64 (-77)] rfl rfl (cell_one_new _ _ _) (one_one _ _) (by unfold maxLen; omega) (by omega) (by simp; omega) ?_; intro v1 w1 own1 grow1 _)
    have hb1 : Below w.heap.size w w1 := (BEL.out.alloc hs _).grown grow1 (by simp; omega) (fun k hk => (OWN.out.lt k hk).1)
    have own2 : w1.ownsRow w.heap.size 3 1 v1 (n + 1) ((zs ++ [-77]).map iv) := by rw [List.map_append]; exact own1
    clear grow1 own1
    rcases owns_cells own2 with ⟨_, h0⟩ | ⟨g, cap, rfl, hg1, hg2, hcap, hmax, _, _⟩
    · omega
    · have HO : Hid (w1.ownsRow w.heap.size 3 1 (.slice (some ⟨g, 0, none⟩) (n + 1) cap) (n + 1) ((zs ++ [-77]).map iv)) := own2
      have HBE : Hid (Below w.heap.size w w1) := hb1
      have hmax2 : cap ≤ 9223372036854775807 := hmax
      clear own2 hb1 hmax hg1 hg2
      go_wp2
      go_ret
      exact ⟨g, cap, rfl, HO.out, HBE.out⟩

/-- the row of what is lent, as a slice of the numbers alone -/
theorem lent_zs {w : World} {B g n cap : Nat} {xs ys : List Int} (h : w.ownsRow B 3 1 (.slice (some ⟨g, 0, none⟩) (n + 1) cap) (n + 1) ((xs ++ ys).map iv)) (hl : xs.length = n) : Zs w (fun k => k = g) (some ⟨g, 0, none⟩) n cap xs := by
  rcases owns_cells h with ⟨h0, _⟩ | ⟨g', cap', hv, _, _, hcap, hmax, hc, _⟩
  · cases h0
  · injection hv with h1 h2 h3
    injection h1 with h1
    injection h1 with h1 _ _
    subst h1 h3
    refine ⟨hl, by omega, hmax, fun h => (by cases h), fun i hi => ⟨g, 0, rfl, rfl, ?_⟩⟩
    rw [Nat.zero_add]
    refine hc i _ ?_
    rw [List.map_append, List.getElem?_append_left (by rw [List.length_map]; omega), iv_get (by omega)]

set_option maxHeartbeats 2000000 in
theorem stood_any (G : Nat → Prop) (B g n cap : Nat) (a : Option Addr) (c : Nat) (xs : List Int) (w : World) (h : Zs w G a n c xs) (hr : w.ownsRow B 3 1 (.slice (some ⟨g, 0, none⟩) (n + 1) cap) (n + 1) ((xs ++ [-77]).map iv)) (hn : n ≤ 1000000000) :
    Calls Try.prog 88 #[.slice (some ⟨g, 0, none⟩) n cap, .slice a n c] w fun ex w' => ex = .returned (.bool true) ∧ Kept (fun k => k = g) w w' := by
  have hl := h.len
  have c66 := sameInts_any _ _ (some ⟨g, 0, none⟩) a n n cap c xs xs w (lent_zs hr hl) h
  rw [decide_eq_true rfl] at c66
  have HR : Hid (w.ownsRow B 3 1 (.slice (some ⟨g, 0, none⟩) (n + 1) cap) (n + 1) ((xs ++ [-77]).map iv)) := hr
  obtain ⟨hcap, hmax⟩ : n + 1 ≤ cap ∧ cap ≤ 9223372036854775807 := by
    obtain ⟨_, ⟨h0, _⟩ | ⟨g', cap', cur, hv, _, _, h1, h2, _⟩⟩ := hr
    · cases h0
    · injection hv with _ _ h3; subst h3; exact ⟨h1, h2⟩
  have HL : Hid (xs.length = n) := hl
  clear h hr hl
  go_enter Try.func88, Try.ntmps88
  have hcell : ∀ nd, (w.drewN nd).cell? ⟨g, n, none⟩ = some (.int .i64 (-77)) := by
    intro nd
    rcases owns_cells HR.out with ⟨h0, _⟩ | ⟨g', cap', hv, _, _, _, _, hc, _⟩
    · cases h0
    · injection hv with h3 _ _
      injection h3 with h3
      injection h3 with h3 _ _
      subst h3
      refine hc n _ ?_
      rw [List.map_append, List.getElem?_append_right (by rw [List.length_map, HL.out]; exact Nat.le_refl _), List.length_map, HL.out, Nat.sub_self]; rfl
  go_upto_region 3 with (go_at_call 66; refine c66.mono ?_; rintro ex w1 ⟨rfl, nd, rfl⟩; have hc1 := hcell nd)
  clear c66 hcell
  have HBLK : Hid (∃ cur, (w.drewN nd).heap[g]? = some (.cells cur 3 (0, 0)) ∧ cur.size = cap) := by
    obtain ⟨_, ⟨h0, _⟩ | ⟨g', cap', cur, hv, _, hg, _, _, hs, _⟩⟩ := HR.out
    · cases h0
    · injection hv with h3 _ h5
      injection h3 with h3
      injection h3 with h3 _ _
      subst h3 h5
      exact ⟨cur, hg, by omega⟩
  have HK : Hid (Kept (fun k => k = g) w (w.drewN nd)) := (Kept.refl _ _).drewN nd
  clear hc1
  generalize w.drewN nd = W at HBLK HK ⊢
  go_wp2
  go_loopw [7] (fun i wr => ∃ q : Nat, q ≤ n + 1 ∧ i = .int .i64 q ∧ Kept (fun k => k = g) w wr ∧ ∃ cur, wr.heap[g]? = some (.cells cur 3 (0, 0)) ∧ cur.size = cap) (fun i _ => n + 1 - (intOf i).toNat)
  case atStart => exact ⟨0, by omega, rfl, HK.out, HBLK.out⟩
  case round =>
    obtain ⟨q, hq, rfl, hkp, cur, hcur, hcs⟩ := hrel
    have HKP : Hid (Kept (fun k => k = g) w wr) := hkp
    have HCUR : Hid (wr.heap[g]? = some (.cells cur 3 (0, 0)) ∧ cur.size = cap) := ⟨hcur, hcs⟩
    by_cases hlq : q < n + 1
    · obtain ⟨u, hcell⟩ : ∃ u, wr.cell? ⟨g, q, none⟩ = some u := ⟨cur[q]'(by omega), by simp [World.cell?, hcur]⟩
      have hfz : wr.frozen? ⟨g, q, none⟩ = false := by simp [World.frozen?, hcur]
      clear hkp hcur hcs
      go_wp2
      go_roundw
      case rel =>
        refine ⟨q + 1, by omega, by go_num, HKP.out.setCell (p := ⟨g, q, none⟩) (.inl rfl) _, cur.setIfInBounds q (.int .i64 (-78)), ?_, by rw [Array.size_setIfInBounds]; exact HCUR.out.2⟩
        simp [World.setCell, Array.getElem?_modify, HCUR.out.1]
      case measure => simp [intOf]; omega
    · clear hkp hcur hcs
      go_wp2
      go_ret
      exact ⟨rfl, HKP.out⟩

end Go.Proofs.Ytakdfpenpodplaa
