/-
  Shelf.keep and keepInts of a full shelf; Shelf.holds with both halves.
-/
import Derived.Test.YtakdfpenpodplaaShelfJ
namespace Go.Proofs.Ytakdfpenpodplaa
open Go.RowKit
set_option linter.unusedVariables false

theorem Spf.drewN {w : World} {F : Nat → Prop} {s : Nat} {es : List En} {is : List Ei} (h : Spf w F s es is) (n : Nat) : Spf (w.drewN n) F s es is :=
  h.kept ((Kept.refl No w).drewN n) (fun _ _ h => h)

set_option maxHeartbeats 1000000 in
set_option maxRecDepth 100000 in
theorem keepFull_any (F : Nat → Prop) (s : Nat) (es : List En) (is : List Ei) (u v : Value) (w : World) (h : Spf w F s es is) (hes : es.length = 400) :
    Calls Try.prog 56 #[.pointer (some ⟨s, 0, none⟩), u, v] w fun ex w' => ex = .returned (.tuple #[]) ∧ w' = w := by
  obtain ⟨A, B, C, D, hg, hj⟩ := h
  obtain ⟨ba, bc, rfl⟩ := owns_shape hg.bown
  rw [hes] at hg
  have hc0 := hg.c0
  clear hg hj hes
  go_enter Try.func56, Try.ntmps56
  go_wp2
  go_end0
  exact ⟨rfl, rfl⟩

set_option maxHeartbeats 1000000 in
set_option maxRecDepth 100000 in
theorem keepIntsFull_any (F : Nat → Prop) (s : Nat) (es : List En) (is : List Ei) (u v : Value) (w : World) (h : Spf w F s es is) (hes : is.length = 400) :
    Calls Try.prog 77 #[.pointer (some ⟨s, 0, none⟩), u, v] w fun ex w' => ex = .returned (.tuple #[]) ∧ w' = w := by
  obtain ⟨A, B, C, D, hg, hj⟩ := h
  obtain ⟨ba, bc, rfl⟩ := owns_shape hj.bown
  rw [hes] at hj
  have hc0 := hj.c0
  clear hg hj hes
  go_enter Try.func77, Try.ntmps77
  go_wp2
  go_end0
  exact ⟨rfl, rfl⟩

set_option maxHeartbeats 2000000 in
set_option maxRecDepth 100000 in
theorem holdsP_any (F : Nat → Prop) (s : Nat) (es : List En) (is : List Ei) (w : World) (h : Spf w F s es is) (hes : es.length ≤ 400) (his : is.length ≤ 400) :
    Calls Try.prog 96 #[.pointer (some ⟨s, 0, none⟩)] w fun ex w' => ex = .returned (.bool true) ∧ ∃ k, w' = w.drewN k := by
  obtain ⟨A, B, C, D, hg, hjj⟩ := h
  obtain ⟨ba, bc, rfl⟩ := owns_shape hg.bown
  obtain ⟨ha, hc, rfl⟩ := owns_shape hg.hown
  obtain ⟨ia, ic, rfl⟩ := owns_shape hjj.bown
  obtain ⟨ta, tc, rfl⟩ := owns_shape hjj.hown
  obtain ⟨m, hm⟩ : ∃ m, m = es.length := ⟨_, rfl⟩
  obtain ⟨m2, hm2⟩ : ∃ m2, m2 = is.length := ⟨_, rfl⟩
  rw [← hm, ← hm2] at hg hjj
  rw [← hm] at hes
  rw [← hm2] at his
  have HS : Hid (Sg (.slice ia m2 ic) (.slice ta m2 tc) w F s (.slice ba m bc) (.slice ha m hc) es) := hg
  have HJ : Hid (Sj (.slice ba m bc) (.slice ha m hc) w F s (.slice ia m2 ic) (.slice ta m2 tc) is) := hjj
  have HM : Hid (m = es.length) := hm
  have HM2 : Hid (m2 = is.length) := hm2
  clear hg hjj hm hm2
  go_enter Try.func96, Try.ntmps96
  go_wp2
  go_loopw [3] (fun i wr => ∃ j : Nat, j ≤ m ∧ i = .int .i64 j ∧ ∃ q, wr = w.drewN q) (fun i _ => m - (intOf i).toNat)
  case atStart => exact ⟨0, by omega, rfl, 0, rfl⟩
  case round =>
    obtain ⟨j, hj, rfl, q, hq⟩ := hrel
    have hsh : Sg (.slice ia m2 ic) (.slice ta m2 tc) wr F s (.slice ba m bc) (.slice ha m hc) es := by rw [hq]; exact HS.out.drewN q
    have HQ : Hid (wr = w.drewN q) := hq
    have hc0 := hsh.c0
    have hc1 := hsh.c1
    have hc2 := hsh.c2
    have hc3 := hsh.c3
    by_cases hlt : j < m
    · obtain ⟨g, gc, k, kc, e, hb, hh, he, cl, ch, hmem⟩ := hsh.look (j := j) (by rw [← HM.out]; exact hlt)
      obtain ⟨rfl, rfl⟩ : ba = some ⟨g, 0, none⟩ ∧ bc = gc := by injection hb with h1 _ h3; exact ⟨h1, h3⟩
      obtain ⟨rfl, rfl⟩ : ha = some ⟨k, 0, none⟩ ∧ hc = kc := by injection hh with h1 _ h3; exact ⟨h1, h3⟩
      obtain ⟨a, c, a', c', hl, hh', c12⟩ := hsh.pair hmem
      rw [hl] at cl
      rw [hh'] at ch
      clear hb hh he hmem hl hh' hsh hq
      go_wp2
      go_quiet ((go_at_call 12; refine Calls.quiet_of (c12 _)))
      go_wp2
      go_roundw
      case rel => exact ⟨j + 1, by omega, by go_num, _, by rw [HQ.out, drewN_add]⟩
      case measure => simp [intOf]; omega
    · clear hsh hq
      rename World => W1
      go_wp2
      clear hc0 hc1 hc2 hc3
      go_loopw [4] (fun i wr => ∃ j : Nat, j ≤ m2 ∧ i = .int .i64 j ∧ ∃ q, wr = w.drewN q) (fun i _ => m2 - (intOf i).toNat)
      case atStart => exact ⟨0, by omega, rfl, q, HQ.out⟩
      case round =>
        obtain ⟨j, hj, rfl, q, hq⟩ := hrel
        have hsh : Sj (.slice ba m bc) (.slice ha m hc) wr F s (.slice ia m2 ic) (.slice ta m2 tc) is := by rw [hq]; exact HJ.out.drewN q
        have HQ : Hid (wr = w.drewN q) := hq
        have hc0 := hsh.c0
        have hc1 := hsh.c1
        by_cases hlt : j < m2
        · obtain ⟨g, gc, k, kc, e, hb, hh, he, cl, ch, hmem⟩ := hsh.look (j := j) (by rw [← HM2.out]; exact hlt)
          obtain ⟨rfl, rfl⟩ : ia = some ⟨g, 0, none⟩ ∧ ic = gc := by injection hb with h1 _ h3; exact ⟨h1, h3⟩
          obtain ⟨rfl, rfl⟩ : ta = some ⟨k, 0, none⟩ ∧ tc = kc := by injection hh with h1 _ h3; exact ⟨h1, h3⟩
          obtain ⟨a, c, a', c', hl, hh', c66⟩ := hsh.pair hmem
          rw [hl] at cl
          rw [hh'] at ch
          clear hb hh he hmem hl hh' hsh hq
          go_wp2
          go_quiet ((go_at_call 66; refine Calls.quiet_of (c66 _)))
          go_wp2
          go_roundw
          case rel => exact ⟨j + 1, by omega, by go_num, _, by rw [HQ.out, drewN_add]⟩
          case measure => simp [intOf]; omega
        · clear hsh hq
          go_wp2
          go_ret
          exact ⟨rfl, q, HQ.out⟩

end Go.Proofs.Ytakdfpenpodplaa
