/-
  The walk of NumExact's part 'turned': a list gathered by append, two lists overwritten, asked again.
-/
import Derived.Test.YtpkifhbjlpkcnaaRefLcm
import Derived.Test.YtpkifhbjlpkcnaaIntCalls
namespace Go.Proofs.Ytpkifhbjlpkcnaa
open Go.RowKit Plain
set_option linter.unusedVariables false

theorem Try.info2 : (Try.prog.info? 2).map (fun i => (i.zero, i.size, i.bytes)) = some (some (.int .i64 0), 1, 8) := by kernel_rfl
theorem Try.info3 : (Try.prog.info? 3).map (fun i => (i.zero, i.size, i.bytes)) = some (some (.int .i64 0), 1, 8) := by kernel_rfl

/-- the cells of the numbers z 0 .. z (n - 1) -/
def xs (z : Nat → Int) (n : Nat) : List Value := (List.range n).map (fun i => Value.int .i64 (z i))
theorem xs_succ (z : Nat → Int) (n : Nat) : xs z (n + 1) = xs z n ++ [.int .i64 (z n)] := by
  unfold xs; rw [List.range_succ, List.map_append]; rfl
theorem xs_get (z : Nat → Int) (n i : Nat) (h : i < n) : (xs z n)[i]? = some (.int .i64 (z i)) := by
  unfold xs; simp [h]
theorem xs_length (z : Nat → Int) (n : Nat) : (xs z n).length = n := by unfold xs; simp

/-- an owned slice is nil, or a row of cells at the head of a block of the call's own -/
theorem owns_row {w : World} {base : Nat} {e : TypeId} {v : Value} {n : Nat} {z : Nat → Int} (h : w.ownsRow base e 1 v n (xs z n)) :
    (v = .slice none 0 0 ∧ n = 0) ∨ ∃ g cap, v = .slice (some ⟨g, 0, none⟩) n cap ∧ base ≤ g ∧ g < w.heap.size ∧ n ≤ cap ∧ (∀ i, i < n → w.cell? ⟨g, i, none⟩ = some (.int .i64 (z i))) ∧ ∀ i, w.frozen? ⟨g, i, none⟩ = false := by
  have hc := h
  obtain ⟨_, h1 | ⟨g, cap, cur, rfl, hb, hg, hn, _, _, _⟩⟩ := h
  · exact .inl h1
  · refine .inr ⟨g, cap, rfl, hb, ?_, hn, ?_, ?_⟩
    · exact (hc.lt g rfl).2
    · intro i hi
      have := hc.cells (g := g) rfl i _ (xs_get z n i hi)
      have e : (Addr.add ⟨g, 0, none⟩ i) = ⟨g, i, none⟩ := by
        by_cases h : i = 0
        · subst h; simp [Addr.add]
        · simp [Addr.add, h]
      rw [e] at this
      exact this
    · intro i
      simp [World.frozen?, hg]

def half (z : Nat → Int) (i : Nat) : Int := (z i).tdiv 2 + 1
theorem half_I64 (z : Nat → Int) (i : Nat) (h : I64 (z i)) : I64 (half z i) ∧ -4611686018427387904 ≤ (z i).tdiv 2 ∧ (z i).tdiv 2 ≤ 4611686018427387904 := by
  have := Int.natAbs_tdiv (z i) 2
  have h2 : (z i).natAbs.div (Int.natAbs 2) = (z i).natAbs / 2 := rfl
  rw [h2] at this
  unfold half I64 at *
  omega

/-- what holds of the two lists, k of whose numbers are turned, and of the list of the turned ones -/
def Half (B N gl gk n : Nat) (ta : Option Addr) (z : Nat → Int) (w : World) (k : Nat) (wr : World) : Prop :=
  Below B w wr ∧ N ≤ wr.heap.size ∧ (∀ j, j < n → wr.cell? ⟨gl, j, none⟩ = some (.int .i64 (if j < k then half z j else z j))) ∧ (∀ j, j < n → wr.cell? ⟨gk, j, none⟩ = some (.int .i64 (if j < k then half z j else z j))) ∧
  (∀ j, j < n → ∃ g, ta = some ⟨g, 0, none⟩ ∧ N ≤ g ∧ wr.cell? ⟨g, j, none⟩ = some (.int .i64 (half z j))) ∧ (∀ i, wr.frozen? ⟨gl, i, none⟩ = false) ∧ ∀ i, wr.frozen? ⟨gk, i, none⟩ = false

theorem set_at {w : World} {g i : Nat} {u v : Value} (f : Nat → Value) (n : Nat) (hi : i < n) (h : ∀ j, j < n → w.cell? ⟨g, j, none⟩ = some (f j)) (j : Nat) (hj : j < n) :
    (w.setCell ⟨g, i, none⟩ v).cell? ⟨g, j, none⟩ = some (if j = i then v else f j) := by
  by_cases e : j = i
  · subst e; rw [if_pos rfl]; exact World.cell?_setCell_same _ _ _ (h j hj)
  · rw [if_neg e, World.cell?_setCell_other _ _ _ _ (fun h => by injection h; omega)]; exact h j hj
theorem set_off {w : World} {g g' i j : Nat} {v : Value} (h : g ≠ g') : (w.setCell ⟨g, i, none⟩ v).cell? ⟨g', j, none⟩ = w.cell? ⟨g', j, none⟩ :=
  World.cell?_setCell_other _ _ _ _ (fun h => by injection h; omega)

theorem Half.step {B N gl gk n : Nat} {ta : Option Addr} {z : Nat → Int} {w : World} {k : Nat} {wr : World} (h : Half B N gl gk n ta z w k wr) (hk : k < n) (hB : B ≤ gl) (hB2 : B ≤ gk) (hne : gl ≠ gk) (hgl : gl < N) (hgk : gk < N) :
    Half B N gl gk n ta z w (k + 1) ((wr.setCell ⟨gl, k, none⟩ (.int .i64 (half z k))).setCell ⟨gk, k, none⟩ (.int .i64 (half z k))) := by
  obtain ⟨h1, h2, h3, h4, h5, h6, h7⟩ := h
  have e : ∀ j, (if j = k then Value.int .i64 (half z k) else .int .i64 (if j < k then half z j else z j)) = .int .i64 (if j < k + 1 then half z j else z j) := by
    intro j
    by_cases hj : j = k
    · subst hj; rw [if_pos rfl, if_pos (by omega)]
    · rw [if_neg hj]
      by_cases hj2 : j < k
      · rw [if_pos hj2, if_pos (by omega)]
      · rw [if_neg hj2, if_neg (by omega)]
  refine ⟨(h1.setCell (by exact hB) _).setCell (by exact hB2) _, by simpa using h2, ?_, ?_, ?_, ?_, ?_⟩
  · intro j hj
    rw [set_off (Ne.symm hne), set_at (u := .int .i64 0) _ n hk h3 j hj, e]
  · intro j hj
    have h4' : ∀ j, j < n → (wr.setCell ⟨gl, k, none⟩ (.int .i64 (half z k))).cell? ⟨gk, j, none⟩ = some (.int .i64 (if j < k then half z j else z j)) := fun j hj => (set_off hne).trans (h4 j hj)
    rw [set_at (u := .int .i64 0) _ n hk h4' j hj, e]
  · intro j hj
    obtain ⟨g, a, b, c⟩ := h5 j hj
    exact ⟨g, a, b, by rw [set_off (by omega), set_off (by omega)]; exact c⟩
  · intro i; simp [h6]
  · intro i; simp [h7]

set_option maxHeartbeats 1000000 in
theorem turned_any (B gl gk n lc kc : Nat) (z : Nat → Int) (most : Int) (w : World) (hn : n ≤ 1000) (hB : B ≤ gl) (hB2 : B ≤ gk) (hne : gl ≠ gk) (hgl : gl < w.heap.size) (hgk : gk < w.heap.size)
    (hl : ∀ i, i < n → w.cell? ⟨gl, i, none⟩ = some (.int .i64 (z i))) (hk : ∀ i, i < n → w.cell? ⟨gk, i, none⟩ = some (.int .i64 (z i))) (hz : ∀ i, i < n → I64 (z i))
    (hfl : ∀ i, w.frozen? ⟨gl, i, none⟩ = false) (hfk : ∀ i, w.frozen? ⟨gk, i, none⟩ = false) (hm : I64 most) :
    Calls Try.prog 30 #[.slice (some ⟨gl, 0, none⟩) n lc, .slice (some ⟨gk, 0, none⟩) n kc, .int .i64 most] w fun e w' => e = .returned (.bool true) ∧ Below B w w' := by
  obtain ⟨i0, hi, hz0, hz1, hz2⟩ := info_parts Try.info2
  have HL : Hid (∀ i, i < n → w.cell? ⟨gl, i, none⟩ = some (.int .i64 (z i))) := hl
  have HK : Hid (∀ i, i < n → w.cell? ⟨gk, i, none⟩ = some (.int .i64 (z i))) := hk
  have HFL : Hid (∀ i, w.frozen? ⟨gl, i, none⟩ = false) := hfl
  have HFK : Hid (∀ i, w.frozen? ⟨gk, i, none⟩ = false) := hfk
  clear hl hk hfl hfk
  go_enter Try.func30, Try.ntmps30
  go_wp2
  go_loopw [7, 8] (fun t i wr => ∃ k : Nat, k ≤ n ∧ i = .int .i64 k ∧ wr.ownsRow w.heap.size 2 1 t k (xs (half z) k) ∧ Below w.heap.size w wr) (fun _ i _ => n - (intOf i).toNat)
  case atStart => exact ⟨0, by omega, rfl, World.ownsRow_nil _ _ _ _, Below.refl _ _⟩
  case round =>
    obtain ⟨k, hk, rfl, hown, hbel⟩ := hrel
    by_cases hlt : k < n
    · have hc : wr.cell? ⟨gl, k, none⟩ = some (.int .i64 (z k)) := (hbel.cell (by exact hgl)).trans (HL.out k hlt)
      have hI := half_I64 z k (hz k hlt)
      obtain ⟨hI1, hI2, hI3⟩ := hI
      have hsz := hbel.size
      go_wp2_with (at_builtin; refine wpList_append_own _ rfl _ _ 22 rfl w.heap.size 2 i0 (.int .i64 0) 1 8 Try.underlying22 hi hz0 hz1 hz2 rfl (by decide) _ _ _ rfl (hown.alloc _) ⟨wr.heap.size, 0, none⟩ 1 1 [.int .i64 (half z k)] rfl rfl ?c1 ?c2 ?c3 ?c4 ?c5 ?_)
      case c1 =>
        intro j u hj
        match j, hj with
        | 0, hj => simp at hj; subst hj; simp [Addr.add, half]
      case c2 => intro u hu; simp at hu; subst hu; rfl
      case c3 => unfold maxLen; omega
      case c4 => omega
      case c5 => simp; omega
      · intro v' w1 hown' hgrow _
        have hb1 : Below w.heap.size w w1 := (hbel.alloc hsz _).grown hgrow (by simp; omega) (fun j hj => (hown.lt j hj).1)
        rw [← xs_succ] at hown'
        clear hgrow hown hc hbel
        go_wp2
        go_roundw
        case rel => exact ⟨k + 1, by omega, by go_num, hown', hb1⟩
        case measure => simp [intOf]; omega
    · have hkn : k = n := by omega
      subst hkn
      obtain ⟨ta, tc, rfl, htc⟩ : ∃ ta tc, u7 = .slice ta k tc ∧ ∀ j, j < k → ∃ g, ta = some ⟨g, 0, none⟩ ∧ w.heap.size ≤ g ∧ wr.cell? ⟨g, j, none⟩ = some (.int .i64 (half z j)) := by
        rcases owns_row hown with ⟨rfl, rfl⟩ | ⟨g, cap, rfl, hg1, _, _, hg2, _⟩
        · exact ⟨none, 0, rfl, fun j hj => absurd hj (by omega)⟩
        · exact ⟨_, cap, rfl, fun j hj => ⟨g, rfl, hg1, hg2 j hj⟩⟩
      have HH : Half B w.heap.size gl gk k ta z w 0 wr := by
        refine ⟨hbel.mono (by omega), hbel.size, ?_, ?_, htc, ?_, ?_⟩
        · intro j hj; rw [if_neg (by omega)]; exact (hbel.cell (by exact hgl)).trans (HL.out j hj)
        · intro j hj; rw [if_neg (by omega)]; exact (hbel.cell (by exact hgk)).trans (HK.out j hj)
        · intro i; exact (hbel.frozen (by exact hgl)).trans (HFL.out i)
        · intro i; exact (hbel.frozen (by exact hgk)).trans (HFK.out i)
      clear hown hbel htc HL HK HFL HFK
      go_wp2
      go_loopw [9] (fun i wx => ∃ k2 : Nat, k2 ≤ k ∧ i = .int .i64 k2 ∧ Half B w.heap.size gl gk k ta z w k2 wx) (fun i _ => k - (intOf i).toNat)
      case atStart => exact ⟨0, by omega, rfl, HH⟩
      case round =>
        obtain ⟨k2, hk2, rfl, hH⟩ := hrel
        clear HH
        by_cases hlt2 : k2 < k
        · have hH' := hH
          have hst := hH.step hlt2 hB hB2 hne hgl hgk
          obtain ⟨h1, h2, h3, h4, h5, h6, h7⟩ := hH
          obtain ⟨g, rfl, hg1, hg2⟩ := h5 k2 hlt2
          have c3 := h3 k2 hlt2
          have c4 := h4 k2 hlt2
          have f1 := h6 k2
          have f2 := h7 k2
          rw [if_neg (by omega)] at c3 c4
          have HST : Hid _ := hst
          clear h1 h2 h3 h4 h5 h6 h7 hH' hst
          go_wp2
          go_roundw
          case rel => exact ⟨k2 + 1, by omega, by go_num, HST.out⟩
          case measure => simp [intOf]; omega
        · have hk3 : k2 = k := by omega
          obtain ⟨h1, h2, h3, h4, h5, h6, h7⟩ := hH
          have r1 : Row wr (some ⟨gl, 0, none⟩) k (half z) := fun i hi => ⟨gl, 0, rfl, by rw [Nat.zero_add, h3 i hi, if_pos (by omega)], (half_I64 z i (hz i hi)).1⟩
          have r2 : Row wr (some ⟨gk, 0, none⟩) k (half z) := fun i hi => ⟨gk, 0, rfl, by rw [Nat.zero_add, h4 i hi, if_pos (by omega)], (half_I64 z i (hz i hi)).1⟩
          have r3 : Row wr ta k (half z) := fun i hi => by
            obtain ⟨g, a, _, c⟩ := h5 i hi
            exact ⟨g, 0, a, by rw [Nat.zero_add]; exact c, (half_I64 z i (hz i hi)).1⟩
          have hkm : k ≤ 9223372036854775807 := by omega
          clear h2 h3 h4 h5 h6 h7
          go_wp2_with (first | (go_at_call 8; refine (lcm64_any _ _ _ (half z) _ _ ?_ ?_ ?_).mono ?_; all_goals first | assumption | (rintro e w' ⟨rfl, nd, hw⟩; subst hw)) | (go_at_call 28; refine (lcmInt_any _ _ _ (half z) _ _ ?_ ?_ ?_).mono ?_; all_goals first | assumption | (rintro e w' ⟨rfl, nd, hw⟩; subst hw)) | (go_at_call 29; refine (rlcm_any _ _ _ (half z) _ _ ?_ ?_ ?_).mono ?_; all_goals first | assumption | (rintro e w' ⟨rfl, nd, hw⟩; subst hw)))
          go_ret
          exact ⟨rfl, below_drewN h1 _⟩

end Go.Proofs.Ytpkifhbjlpkcnaa
