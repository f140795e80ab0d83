/-
  'marked', 'left', 'let', 'turned', 'lay': slices that the statement itself makes and writes.
-/
import Derived.Test.YtakdfpenpodplaaSame
import Derived.Deep.DeepCutAuto
namespace Go.Proofs.Ytakdfpenpodplaa
open Go.RowKit
set_option linter.unusedVariables false

theorem bv165 (j : Nat) : ((List.replicate (j + 1) 165 : List Nat)) = List.replicate j 165 ++ [165] := List.replicate_succ'

set_option maxHeartbeats 2000000 in
theorem marked_any (G : Nat → Prop) (a : Option Addr) (n c : Nat) (xs : List Nat) (w : World) (h : Bs w G a n c xs) (hn : n ≤ 140737488351232) :
    Calls Try.prog 13 #[.slice a n c] w fun ex w' => ∃ g cap, ex = .returned (.slice (some ⟨g, 0, none⟩) n cap) ∧ w'.ownsRow w.heap.size 5 1 (.slice (some ⟨g, 0, none⟩) (n + 70) cap) (n + 70) ((xs ++ List.replicate 70 165).map bv) ∧ Below w.heap.size w w' := by
  obtain ⟨i0, hi, hz0, hz1, hz2⟩ := info_parts Try.info5
  have hl := h.len
  have HL : Hid (xs.length = n) := hl
  have HB : Hid (Bs w G a n c xs) := h
  clear h hl
  go_enter Try.func13, Try.ntmps13
  go_upto_region 2 with fail
  go_cut [3] (fun l wx => wx.ownsRow w.heap.size 5 1 l n (xs.map bv) ∧ Below w.heap.size w wx)
  case first =>
    cases a with
    | none =>
      have hc0 := HB.out.nil rfl
      have hn0 : n = 0 := by have := HB.out.cap; omega
      have hx0 : xs = [] := List.eq_nil_of_length_eq_zero (by rw [HL.out]; exact hn0)
      subst hc0 hn0 hx0
      go_wp2_with (at_builtin; refine wpList_append_own_none rfl (.tmp 5) (.tmp 6) 22 rfl w.heap.size 5 i0 1 Try.underlying22 hi _ _ _ rfl (World.ownsRow_nil _ _ _ _) rfl ?_)
      go_meet
      case rel => exact ⟨World.ownsRow_nil _ _ _ _, Below.refl _ _⟩
    | some ad =>
      go_wp2_with (at_builtin; refine wpList_append_own _ rfl _ _ 22 rfl w.heap.size 5 i0 (.int .u8 0) 1 1 Try.underlying22 hi hz0 hz1 hz2 rfl (by decide) _ 0 [] rfl (World.ownsRow_nil _ _ _ _) ad n c (xs.map bv) rfl (by rw [List.length_map, HL.out]; omega) HB.out.news (bv_one _) (by unfold maxLen; omega) (by omega) (Nat.le_refl _) ?_; intro v1 w1 own1 grow1 _)
      have hb1 : Below w.heap.size w w1 := (Below.refl _ _).grown grow1 (Nat.le_refl _) (fun k hk => by cases hk)
      rw [Nat.zero_add, List.nil_append] at own1
      clear grow1
      go_wp2
      go_meet
      case rel => exact ⟨own1, hb1⟩
  case rest =>
    obtain ⟨hown, hbel⟩ := hcut
    have OWN : Hid (wc.ownsRow w.heap.size 5 1 u3 n (xs.map bv)) := hown
    have BEL : Hid (Below w.heap.size w wc) := hbel
    clear hown hbel
    go_wp2
    go_loopw [3, 4] (fun l i wr => ∃ j : Nat, j ≤ 70 ∧ i = .int .i64 j ∧ wr.ownsRow w.heap.size 5 1 l (n + j) ((xs ++ List.replicate j 165).map bv) ∧ Below w.heap.size w wr) (fun _ i _ => 70 - (intOf i).toNat)
    case atStart => exact ⟨0, by omega, rfl, by simpa using OWN.out, BEL.out⟩
    case round =>
      obtain ⟨j, hj, rfl, hown, hbel⟩ := hrel
      have HOW : Hid (wr.ownsRow w.heap.size 5 1 u3 (n + j) ((xs ++ List.replicate j 165).map bv)) := hown
      have hs := hbel.size
      have HBE : Hid (Below w.heap.size w wr) := hbel
      by_cases hlt : j < 70
      · clear hown hbel
        go_wp2_with (at_builtin; refine wpList_append_own _ rfl _ _ 22 rfl w.heap.size 5 i0 (.int .u8 0) 1 1 Try.underlying22 hi hz0 hz1 hz2 rfl (by decide) _ _ _ rfl (HOW.out.alloc _) ⟨wr.heap.size, 0, none⟩ 1 1 [.int .u8 165] rfl rfl (cell_one_new _ _ _) (one_one _ _) (by unfold maxLen; omega) (by omega) (by simp; omega) ?_; intro v1 w1 own1 grow1 _)
        have hb1 : Below w.heap.size w w1 := (HBE.out.alloc hs _).grown grow1 (by simp; omega) (fun k hk => (HOW.out.lt k hk).1)
        have own2 : w1.ownsRow w.heap.size 5 1 v1 (n + (j + 1)) ((xs ++ List.replicate (j + 1) 165).map bv) := by
          rw [bv165, ← List.append_assoc, List.map_append]; exact own1
        clear grow1 own1
        go_wp2
        go_roundw
        case rel => exact ⟨j + 1, by omega, by go_num, own2, hb1⟩
        case measure => simp [intOf]; omega
      · have hj70 : j = 70 := by omega
        subst hj70
        rcases owns_cells hown with ⟨_, h0⟩ | ⟨g, cap, rfl, hg1, hg2, hcap, hmax, _, _⟩
        · omega
        · have hmax2 : cap ≤ 9223372036854775807 := hmax
          clear hown hbel hmax
          go_wp2
          go_ret
          exact ⟨g, cap, rfl, HOW.out, HBE.out⟩

/-- the mark's row, as a slice of the bytes alone -/
theorem marked_bs {w : World} {B g n cap : Nat} {xs ys : List Nat} (h : w.ownsRow B 5 1 (.slice (some ⟨g, 0, none⟩) (n + 70) cap) (n + 70) ((xs ++ ys).map bv)) (hl : xs.length = n) (hx : ∀ x ∈ xs, x < 256) : Bs w (fun k => k = g) (some ⟨g, 0, none⟩) n cap xs := by
  rcases owns_cells h with ⟨h0, _⟩ | ⟨g', cap', hv, _, _, hcap, hmax, hc, _⟩
  · cases h0
  · injection hv with h1 h2 h3
    injection h1 with h1
    injection h1 with h1 _ _
    subst h1 h3
    refine ⟨hl, by omega, hmax, fun h => (by cases h), fun i hi => ⟨g, 0, rfl, rfl, ?_⟩, hx⟩
    rw [Nat.zero_add]
    refine hc i _ ?_
    rw [List.map_append, List.getElem?_append_left (by rw [List.length_map]; omega), bv_get (by omega)]

set_option maxHeartbeats 2000000 in
theorem left_any' (G : Nat → Prop) (B g n cap : Nat) (a : Option Addr) (c : Nat) (xs : List Nat) (w : World) (h : Bs w G a n c xs) (hG : ¬ G g) (hr : w.ownsRow B 5 1 (.slice (some ⟨g, 0, none⟩) (n + 70) cap) (n + 70) ((xs ++ List.replicate 70 165).map bv)) (hn : n ≤ 140737488351232) :
    Calls Try.prog 17 #[.slice (some ⟨g, 0, none⟩) n cap, .slice a n c] w fun ex w' => ex = .returned (.bool true) ∧ Kept (fun k => k = g) w w' := by
  have hl := h.len
  have c12 := same_any _ _ (some ⟨g, 0, none⟩) a n n cap c xs xs w (marked_bs hr hl h.lt) h
  rw [decide_eq_true rfl] at c12
  have HR : Hid (w.ownsRow B 5 1 (.slice (some ⟨g, 0, none⟩) (n + 70) cap) (n + 70) ((xs ++ List.replicate 70 165).map bv)) := hr
  obtain ⟨hcap, hmax⟩ : n + 70 ≤ cap ∧ cap ≤ 9223372036854775807 := by
    obtain ⟨_, ⟨h0, _⟩ | ⟨g', cap', cur, hv, _, _, h1, h2, _⟩⟩ := hr
    · cases h0
    · injection hv with _ _ h3; subst h3; exact ⟨h1, h2⟩
  have HL : Hid (xs.length = n) := hl
  clear h hG hr hl
  go_enter Try.func17, Try.ntmps17
  go_upto_region 3 with (go_at_call 12; refine c12.mono ?_; rintro ex w1 ⟨rfl, nd, rfl⟩)
  clear c12
  have HC : Hid (∀ i, n ≤ i → i < n + 70 → (w.drewN nd).cell? ⟨g, i, none⟩ = some (.int .u8 165)) := by
    intro i h1 h2
    rcases owns_cells HR.out with ⟨h0, _⟩ | ⟨g', cap', hv, _, _, _, _, hc, _⟩
    · cases h0
    · injection hv with h3 _ _
      injection h3 with h3
      injection h3 with h3 _ _
      subst h3
      refine hc i _ ?_
      rw [List.map_append, List.getElem?_append_right (by rw [List.length_map, HL.out]; exact h1), List.length_map, HL.out, List.getElem?_map, List.getElem?_replicate]
      rw [if_pos (by omega)]; rfl
  have HBLK : Hid (∃ cur, (w.drewN nd).heap[g]? = some (.cells cur 5 (0, 0)) ∧ cur.size = cap) := by
    obtain ⟨_, ⟨h0, _⟩ | ⟨g', cap', cur, hv, _, hg, _, _, hs, _⟩⟩ := HR.out
    · cases h0
    · injection hv with h3 _ h5
      injection h3 with h3
      injection h3 with h3 _ _
      subst h3 h5
      exact ⟨cur, hg, by omega⟩
  obtain ⟨W, hW⟩ : ∃ W, W = w.drewN nd := ⟨_, rfl⟩
  have HK : Hid (Kept (fun k => k = g) w W) := by rw [hW]; exact (Kept.refl _ _).drewN nd
  rw [← hW] at HC HBLK ⊢
  clear hW
  go_wp2
  go_loop [6, 7] (fun ok i => ∃ j : Nat, n ≤ j ∧ j ≤ n + 70 ∧ i = .int .i64 j ∧ ok = .bool true) (fun _ i => n + 70 - (intOf i).toNat)
  case atStart => exact ⟨n, by omega, by omega, rfl, rfl⟩
  case round =>
    obtain ⟨j, hj1, hj2, rfl, rfl⟩ := hrel
    by_cases hlt : j < n + 70
    · have hc := HC.out j hj1 hlt
      go_wp2
      go_round
      case rel => exact ⟨j + 1, by omega, by omega, by go_num, rfl⟩
      case measure => simp [intOf]; omega
    · have hj3 : j = n + 70 := by omega
      subst hj3
      go_wp2
      go_loopw [8] (fun i wr => ∃ q : Nat, q ≤ n + 70 ∧ i = .int .i64 q ∧ Kept (fun k => k = g) w wr ∧ ∃ cur, wr.heap[g]? = some (.cells cur 5 (0, 0)) ∧ cur.size = cap) (fun i _ => n + 70 - (intOf i).toNat)
      case atStart => exact ⟨0, by omega, rfl, HK.out, HBLK.out⟩
      case round =>
        obtain ⟨q, hq, rfl, hkp, cur, hcur, hcs⟩ := hrel
        have HKP : Hid (Kept (fun k => k = g) w wr) := hkp
        have HCUR : Hid (wr.heap[g]? = some (.cells cur 5 (0, 0)) ∧ cur.size = cap) := ⟨hcur, hcs⟩
        by_cases hlq : q < n + 70
        · obtain ⟨u, hcell⟩ : ∃ u, wr.cell? ⟨g, q, none⟩ = some u := ⟨cur[q]'(by omega), by simp [World.cell?, hcur]⟩
          have hfz : wr.frozen? ⟨g, q, none⟩ = false := by simp [World.frozen?, hcur]
          clear hkp hcur hcs
          go_wp2
          go_roundw
          case rel =>
            refine ⟨q + 1, by omega, by go_num, HKP.out.setCell (p := ⟨g, q, none⟩) (.inl rfl) _, cur.setIfInBounds q (.int .u8 90), ?_, ?_⟩
            · have := HCUR.out.1
              simp [World.setCell, Array.getElem?_modify, this]
            · rw [Array.size_setIfInBounds]; exact HCUR.out.2
          case measure => simp [intOf]; omega
        · clear hkp hcur hcs
          go_wp2
          go_ret
          exact ⟨rfl, HKP.out⟩

end Go.Proofs.Ytakdfpenpodplaa
