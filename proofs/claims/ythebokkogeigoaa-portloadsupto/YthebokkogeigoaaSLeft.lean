/-
  left: words that were marked are left as they were; they are written over then.
-/
import Derived.Test.YthebokkogeigoaaSState
namespace Go.Proofs.Ythebokkogeigoaa
open Go.RowKit
set_option linter.unusedVariables false
set_option linter.unusedSimpArgs false
set_option maxRecDepth 100000

theorem owns_set {w : World} {B t k g m c : Nat} {L : List Value} (h : w.ownsRow B t k (.slice (some ⟨g, 0, none⟩) m c) m L) (j : Nat) (u : Value) : (w.setCell ⟨g, j, none⟩ u).ownsRow B t k (.slice (some ⟨g, 0, none⟩) m c) m (L.set j u) := by
  obtain ⟨h1, ⟨h2, _⟩ | ⟨g', cap, cur, h2, h3, h4, h5, h6, h7, h8⟩⟩ := h
  · cases h2
  · injection h2 with h2 _ h9
    injection h2 with h2
    injection h2 with h2 _ _
    subst h2 h9
    refine ⟨by rw [List.length_set]; exact h1, .inr ⟨g, c, _, rfl, h3, set_blk h4 _ _, h5, h6, by rw [Array.size_setIfInBounds]; exact h7, ?_⟩⟩
    rw [Array.toList_setIfInBounds, ← h8, List.take_set]
theorem own_cell {w : World} {B t k g m c : Nat} {L : List Value} (h : w.ownsRow B t k (.slice (some ⟨g, 0, none⟩) m c) m L) {j : Nat} {u : Value} (hj : L[j]? = some u) : w.cell? ⟨g, j, none⟩ = some u := by
  have := h.cells (g := g) rfl j u hj
  rw [add_none, Nat.zero_add] at this
  exact this
theorem own_fz {w : World} {B t k g m c : Nat} {L : List Value} (h : w.ownsRow B t k (.slice (some ⟨g, 0, none⟩) m c) m L) (j : Nat) : w.frozen? ⟨g, j, none⟩ = false := by
  obtain ⟨_, cs, h2⟩ := owns_blk h (g := g) rfl
  exact fz_blk h2 j
theorem own_cap {w : World} {B t k m c : Nat} {a : Option Addr} {L : List Value} (h : w.ownsRow B t k (.slice a m c) m L) : m ≤ c ∧ c ≤ 9223372036854775807 := by
  obtain ⟨h1, ⟨h2, h3⟩ | ⟨g', cap, cur, h2, h3, h4, h5, h6, h7, h8⟩⟩ := h
  · injection h2 with _ _ h9; subst h9; omega
  · injection h2 with h2 _ h9
    subst h9
    unfold maxLen at h6
    omega
theorem Mks.zs {w : World} {B g n cap : Nat} {xs : List Int} (h : Mks w B g n cap xs) (hx : xs.length = n) : Zs w (fun k => k = g) (some ⟨g, 0, none⟩) n cap xs := by
  have hc := own_cap h
  refine ⟨hx, by omega, hc.2, (fun e => by cases e), fun i hi => ⟨g, 0, rfl, rfl, ?_⟩⟩
  rw [Nat.zero_add]
  refine own_cell h ?_
  rw [List.getElem?_append_left (by rw [List.length_map, hx]; exact hi)]
  simp [List.getD, hx, hi]
set_option maxHeartbeats 4000000 in
theorem left_yes {F : Nat → Prop} {a : Option Addr} {n c B g cap : Nat} {xs : List Int} (w : World) (hm : Mks w B g n cap xs) (hz : Zs w F a n c xs) (hn : n ≤ 1048576) :
    Calls Try.prog 20 #[.slice (some ⟨g, 0, none⟩) n cap, .slice a n c] w fun r w' => r = .returned (.bool true) ∧ Kept (fun k => k = g) w w' := by
  have hc := own_cap hm
  have hz1 := hz.cap
  have hz2 := hz.max
  have sm := same_any w (hm.zs hz.len) hz
  have HM := hid (And.intro hm hz.len)
  clear hm hz
  go_enter Try.func20, Try.ntmps20
  go_upto_region 5 with (go_at_call 12; refine sm.mono ?_; rintro r w1 ⟨rfl, k1⟩; have K1 := hid k1; clear k1 sm)
  go_wp2
  go_loopw [6, 7] (fun u6 u7 wr => ∃ (j : Nat), n ≤ j ∧ j ≤ n + 70 ∧ u6 = .bool true ∧ u7 = .int .i64 j ∧ Kept No w wr) (fun _ u7 _ => n + 70 - (intOf u7).toNat)
  case atStart => exact ⟨n, by omega, by omega, rfl, rfl, K1.out⟩
  case round =>
    clear K1
    obtain ⟨j, hj1, hj2, rfl, rfl, kr⟩ := hrel
    by_cases hlt : j < n + 70
    · have hltz : (j : Int) < (n : Int) + 70 := by omega
      have hltc : (j : Int) < ((n + 70 : Nat) : Int) := by omega
      have cj : wr.cell? ⟨g, j, none⟩ = some (.int .i64 (-77)) := kr.cell (own_cell HM.out.1 (by
        rw [List.getElem?_append_right (by rw [List.length_map, HM.out.2]; exact hj1), List.getElem?_replicate, if_pos (by rw [List.length_map, HM.out.2]; omega)]
        rfl)) (fun e => e)
      have KR := hid kr
      clear kr
      go_wp2
      refine ⟨⟨j + 1, by omega, by omega, rfl, by go_num, KR.out⟩, ?_⟩
      simp [intOf]; omega
    · have hltz : ¬ (j : Int) < (n : Int) + 70 := by omega
      have hltc : ¬ (j : Int) < ((n + 70 : Nat) : Int) := by omega
      have HK : Hid (∃ L, wr.ownsRow B 2 1 (.slice (some ⟨g, 0, none⟩) (n + 70) cap) (n + 70) L) := ⟨_, kr.owns HM.out.1 (fun _ _ e => e)⟩
      have KR : Hid (Kept (fun k => k = g) w wr) := kr.mono (fun _ e => e.elim)
      clear kr
      go_wp2
      go_loopw [8] (fun u8 wr => ∃ (x : Nat) (L : List Value), x ≤ n + 70 ∧ u8 = .int .i64 x ∧ wr.ownsRow B 2 1 (.slice (some ⟨g, 0, none⟩) (n + 70) cap) (n + 70) L ∧ Kept (fun k => k = g) w wr) (fun u8 _ => n + 70 - (intOf u8).toNat)
      case atStart =>
        obtain ⟨L, hL⟩ := HK.out
        exact ⟨0, L, by omega, rfl, hL, KR.out⟩
      case round =>
        clear HK KR
        rename World => w3
        obtain ⟨x, L, hx, rfl, ow, k3⟩ := hrel
        by_cases hlx : x < n + 70
        · have hlxz : (x : Int) < (n : Int) + 70 := by omega
          have hlxc : (x : Int) < ((n + 70 : Nat) : Int) := by omega
          have hxl : x < L.length := by rw [ow.1]; omega
          have cx := own_cell ow (List.getElem?_eq_getElem hxl)
          have fx := own_fz ow x
          generalize L[x] = ux at *
          have HO := hid (And.intro (owns_set ow x (.int .i64 (-78))) (k3.setCell (p := ⟨g, x, none⟩) (.inl rfl) (.int .i64 (-78))))
          clear ow k3 hxl
          go_wp2
          refine ⟨⟨x + 1, _, by omega, by go_num, HO.out.1, HO.out.2⟩, ?_⟩
          simp [intOf]; omega
        · have hlxz : ¬ (x : Int) < (n : Int) + 70 := by omega
          have hlxc : ¬ (x : Int) < ((n + 70 : Nat) : Int) := by omega
          have K3 := hid k3
          clear ow k3
          go_wp2
          go_ret
          exact ⟨rfl, K3.out⟩
end Go.Proofs.Ythebokkogeigoaa
