/-
  Shelf.holds.
-/
import Derived.Test.YtgapljgnedbkiaaKeep
import Derived.BigQuiet
namespace Go.Proofs.Ytgapljgnedbkiaa
open Go.RowKit
set_option linter.unusedVariables false

/-- a thing on the shelf, read -/
theorem Sh.look {w : World} {F : Nat → Prop} {s : Nat} {bvv hvv : Value} {es : List En} (h : Sh w F s bvv hvv es) {j : Nat} (hj : j < es.length) :
    ∃ g gc k kc e, bvv = .slice (some ⟨g, 0, none⟩) es.length gc ∧ hvv = .slice (some ⟨k, 0, none⟩) es.length kc ∧ es[j]? = some e ∧ w.cell? ⟨g, j, none⟩ = some e.l ∧ w.cell? ⟨k, j, none⟩ = some e.h ∧ e ∈ es := by
  obtain ⟨e, he⟩ : ∃ e, es[j]? = some e := ⟨es[j], List.getElem?_eq_getElem hj⟩
  have hmem : e ∈ es := List.mem_of_getElem? he
  rcases owns_cells h.bown with ⟨_, h0⟩ | ⟨g, gc, hb, _, _, _, _, hc, _⟩
  · omega
  rcases owns_cells h.hown with ⟨_, h0⟩ | ⟨k, kc, hh, _, _, _, _, hc2, _⟩
  · omega
  exact ⟨g, gc, k, kc, e, hb, hh, he, hc j _ (by rw [List.getElem?_map, he]; rfl), hc2 j _ (by rw [List.getElem?_map, he]; rfl), hmem⟩

theorem Sh.drewN {w : World} {F : Nat → Prop} {s : Nat} {bvv hvv : Value} {es : List En} (h : Sh w F s bvv hvv es) (n : Nat) : Sh (w.drewN n) F s bvv hvv es :=
  h.kept ((Kept.refl No w).drewN n) (fun _ _ h => h)

theorem Sh.pair {w : World} {F : Nat → Prop} {s : Nat} {bvv hvv : Value} {es : List En} (h : Sh w F s bvv hvv es) {e : En} (he : e ∈ es) :
    ∃ a c a' c', e.l = .slice a e.xs.length c ∧ e.h = .slice a' e.xs.length c' ∧ ∀ n, Calls Try.prog 16 #[.slice a e.xs.length c, .slice a' e.xs.length c'] (w.drewN n) fun ex w' => ex = .returned (.bool true) ∧ ∃ k, w' = (w.drewN n).drewN k := by
  obtain ⟨h1, h2, h3⟩ := h.ent e he
  obtain ⟨a, c, hl, hB⟩ := Zs.of_owns h1
  obtain ⟨a', c', hh, hB'⟩ := Zs.of_owns h2
  refine ⟨a, c, a', c', hl, hh, fun n => ?_⟩
  have := same_any _ _ _ _ _ _ _ _ _ _ (w.drewN n) (hB.drewN n) (hB'.drewN n)
  simpa using this

set_option maxHeartbeats 2000000 in
set_option maxRecDepth 100000 in
theorem holds_any (F : Nat → Prop) (s : Nat) (es : List En) (w : World) (h : Shf w F s es) (hes : es.length ≤ 400) :
    Calls Try.prog 31 #[.pointer (some ⟨s, 0, none⟩)] w fun ex w' => ex = .returned (.bool true) ∧ ∃ k, w' = w.drewN k := by
  obtain ⟨bvv, hvv, h⟩ := h
  obtain ⟨ba, bc, rfl⟩ := owns_shape h.bown
  obtain ⟨ha, hc, rfl⟩ := owns_shape h.hown
  obtain ⟨m, hm⟩ : ∃ m, m = es.length := ⟨_, rfl⟩
  rw [← hm] at h hes
  have HS : Hid (Sh w F s (.slice ba m bc) (.slice ha m hc) es) := h
  have HM : Hid (m = es.length) := hm
  clear h hm
  go_enter Try.func31, Try.ntmps31
  go_wp2
  go_loopw [3] (fun i wr => ∃ j : Nat, j ≤ m ∧ i = .int .i64 j ∧ ∃ q, wr = w.drewN q) (fun i _ => m - (intOf i).toNat)
  case atStart => exact ⟨0, by omega, rfl, 0, rfl⟩
  case round =>
    obtain ⟨j, hj, rfl, q, hq⟩ := hrel
    have hsh : Sh wr F s (.slice ba m bc) (.slice ha m hc) es := by rw [hq]; exact HS.out.drewN q
    have HQ : Hid (wr = w.drewN q) := hq
    have hc0 := hsh.c0
    have hc1 := hsh.c1
    by_cases hlt : j < m
    · obtain ⟨g, gc, k, kc, e, hb, hh, he, cl, ch, hmem⟩ := hsh.look (j := j) (by rw [← HM.out]; exact hlt)
      obtain ⟨rfl, rfl⟩ : ba = some ⟨g, 0, none⟩ ∧ bc = gc := by injection hb with h1 _ h3; exact ⟨h1, h3⟩
      obtain ⟨rfl, rfl⟩ : ha = some ⟨k, 0, none⟩ ∧ hc = kc := by injection hh with h1 _ h3; exact ⟨h1, h3⟩
      obtain ⟨a, c, a', c', hl, hh', c12⟩ := hsh.pair hmem
      rw [hl] at cl
      rw [hh'] at ch
      clear hb hh he hmem hl hh' hsh hq
      go_wp2
      go_quiet ((go_at_call 16; refine Calls.quiet_of (c12 _)))
      go_wp2
      go_roundw
      case rel => exact ⟨j + 1, by omega, by go_num, _, by rw [HQ.out, drewN_add]⟩
      case measure => simp [intOf]; omega
    · clear hsh hq
      go_wp2
      go_ret
      exact ⟨rfl, q, HQ.out⟩

end Go.Proofs.Ytgapljgnedbkiaa
