/-
  The walk of NumExact's part 'lists'.
-/
import Derived.Test.YtpkifhbjlpkcnaaTurned
import Derived.Test.YtpkifhbjlpkcnaaPairs
import Derived.Laws.AppendOwnNone
import Derived.Deep.DeepCutAuto
import Derived.Deep.RegionWith
namespace Go.Proofs.Ytpkifhbjlpkcnaa
open Go.RowKit Plain
set_option linter.unusedVariables false

theorem owns_ne {w : World} {b b' n n' : Nat} {v v' : Value} {ys ys' : List Value} (h : w.ownsRow b 2 1 v n ys) (h' : w.ownsRow b' 3 1 v' n' ys') :
    (v.ownBlock = none ∨ v.ownBlock ≠ v'.ownBlock) ∧ (v'.ownBlock = none ∨ v'.ownBlock ≠ v.ownBlock) := by
  obtain ⟨_, ⟨rfl, _⟩ | ⟨g, cap, cur, rfl, _, hg, _⟩⟩ := h
  · refine ⟨.inl rfl, ?_⟩
    cases h2 : v'.ownBlock
    · exact .inl rfl
    · exact .inr (by simp [Value.ownBlock])
  · obtain ⟨_, ⟨rfl, _⟩ | ⟨g', cap', cur', rfl, _, hg', _⟩⟩ := h'
    · exact ⟨.inr (by simp [Value.ownBlock]), .inl rfl⟩
    · have hne : g ≠ g' := by
        rintro rfl
        rw [hg] at hg'
        simp at hg'
      exact ⟨.inr (by simpa [Value.ownBlock] using hne), .inr (by simpa [Value.ownBlock] using Ne.symm hne)⟩

def zz (z : Nat → Int) (len i : Nat) : Int := if i < len then z i else -7
theorem xs_app (z : Nat → Int) (len : Nat) : xs z len ++ [.int .i64 (-7)] = xs (zz z len) (len + 1) := by
  rw [xs_succ]
  have e1 : xs z len = xs (zz z len) len := by
    unfold xs
    apply List.map_congr_left
    intro i hi
    rw [List.mem_range] at hi
    unfold zz; rw [if_pos hi]
  have e2 : zz z len len = -7 := if_neg (by omega)
  rw [← e1, e2]
theorem xs_one (z : Nat → Int) (n : Nat) : ∀ u ∈ xs z n, u.oneCell' = true := by
  intro u hu
  unfold xs at hu
  rw [List.mem_map] at hu
  obtain ⟨i, _, rfl⟩ := hu
  rfl
theorem seven_one (x : Int) : ∀ u ∈ [Value.int .i64 x], u.oneCell' = true := by
  intro u hu; simp at hu; subst hu; rfl

theorem cell_lt {w : World} {a : Addr} {v : Value} (h : w.cell? a = some v) : a.block < w.heap.size := by
  apply Decidable.byContradiction
  intro hn
  have : w.heap[a.block]? = none := by simp; omega
  simp [World.cell?, this] at h

theorem Row.below {w w' : World} {a0 : Option Addr} {len : Nat} {z : Nat → Int} (h : Row w a0 len z) (hb : Below w.heap.size w w') : Row w' a0 len z := by
  intro i hi
  obtain ⟨bk, off, e, hc, hz⟩ := h i hi
  exact ⟨bk, off, e, (hb.cell (cell_lt hc)).trans hc, hz⟩

theorem Row.news {w : World} {ad : Addr} {len : Nat} {z : Nat → Int} (h : Row w (some ad) len z) : ∀ j u, (xs z len)[j]? = some u → w.cell? (ad.add j) = some u := by
  intro j u hj
  by_cases hl : j < len
  · rw [xs_get z len j hl] at hj
    obtain ⟨bk, off, e, hc, _⟩ := h j hl
    simp only [Option.some.injEq] at e
    subst e
    have e2 : (Addr.add ⟨bk, off, none⟩ j) = ⟨bk, off + j, none⟩ := by
      by_cases h : j = 0
      · subst h; simp [Addr.add]
      · simp [Addr.add, h]
    rw [e2, hc]; exact hj
  · have : (xs z len)[j]? = none := by simp [xs]; omega
    rw [this] at hj; cases hj

abbrev boxed (w : World) (A B P F L : Int) (a0 : Option Addr) (len cap : Nat) (M : Int) : World :=
  w.alloc (.cells #[.int .i64 A, .int .i64 B, .int .i64 P, .int .i64 F, .int .i64 L, .slice a0 len cap, .int .i64 M] 38)

theorem boxed5 (w : World) (A B P F L : Int) (a0 : Option Addr) (len cap : Nat) (M : Int) : (boxed w A B P F L a0 len cap M).cell? ⟨w.heap.size, 5, none⟩ = some (.slice a0 len cap) := by
  simp [boxed]
theorem boxed6 (w : World) (A B P F L : Int) (a0 : Option Addr) (len cap : Nat) (M : Int) : (boxed w A B P F L a0 len cap M).cell? ⟨w.heap.size, 6, none⟩ = some (.int .i64 M) := by
  simp [boxed]

set_option maxRecDepth 100000 in
set_option maxHeartbeats 2000000 in
theorem lists_any (A B P F L : Int) (a0 : Option Addr) (len cap : Nat) (M : Int) (z : Nat → Int) (w : World) (hM : I64 M) (hlen : len ≤ 1000) (hnil : a0 = none → len = 0 ∧ cap = 0) (hr : Row w a0 len z) :
    Calls Try.prog 18 #[opV A B P F L a0 len cap M] w fun e w' => e = .returned (.bool true) ∧ Below w.heap.size w w' := by
  obtain ⟨i0, hi, hz0, hz1, hz2⟩ := info_parts Try.info2
  obtain ⟨i1, hj, hy0, hy1, hy2⟩ := info_parts Try.info3
  have hb5 := boxed5 w A B P F L a0 len cap M
  have hb6 := boxed6 w A B P F L a0 len cap M
  have hbx : Below w.heap.size w (boxed w A B P F L a0 len cap M) := (Below.refl _ _).alloc (Nat.le_refl _) _
  have HR : Hid (Row w a0 len z) := hr
  have HBX : Hid (Below w.heap.size w (boxed w A B P F L a0 len cap M)) := hbx
  have HB5 : Hid ((boxed w A B P F L a0 len cap M).cell? ⟨w.heap.size, 5, none⟩ = some (.slice a0 len cap)) := hb5
  have HB6 : Hid ((boxed w A B P F L a0 len cap M).cell? ⟨w.heap.size, 6, none⟩ = some (.int .i64 M)) := hb6
  clear hr hbx hb5 hb6
  unfold opV
  go_enter Try.func18, Try.ntmps18
  go_upto_region 3 with fail
  go_cut [3] (fun s wx => wx.ownsRow (w.heap.size + 1) 2 1 s len (xs z len) ∧ Below (w.heap.size + 1) (boxed w A B P F L a0 len cap M) wx)
  case first =>
    have hrb := HR.out.below HBX.out
    cases a0 with
    | none =>
      obtain ⟨rfl, rfl⟩ := hnil rfl
      go_wp2_with (at_builtin; refine wpList_append_own_none rfl (.tmp 14) (.tmp 16) 22 rfl (w.heap.size + 1) 2 i0 1 Try.underlying22 hi _ _ _ rfl (World.ownsRow_nil _ _ _ _) rfl ?_)
      go_meet
      case rel => exact ⟨World.ownsRow_nil _ _ _ _, Below.refl _ _⟩
    | some ad =>
      go_wp2_with (at_builtin; refine wpList_append_own _ rfl (.tmp 14) (.tmp 16) 22 rfl (w.heap.size + 1) 2 i0 (.int .i64 0) 1 8 Try.underlying22 hi hz0 hz1 hz2 rfl (by decide) _ _ _ rfl (World.ownsRow_nil _ _ _ _) ad len cap (xs z len) rfl (by rw [xs_length]; omega) hrb.news (xs_one _ _) (by unfold maxLen; omega) (by omega) (by simp) ?_; intro v1 w1 own1 grow1 _)
      have hb1 : Below (w.heap.size + 1) (boxed w A B P F L (some ad) len cap M) w1 := (Below.refl _ _).grown grow1 (by simp [boxed]) (fun k hk => by cases hk)
      rw [Nat.zero_add, List.nil_append] at own1
      clear grow1
      go_wp2
      go_meet
      case rel => exact ⟨own1, hb1⟩
  case rest =>
    obtain ⟨hown, hbel⟩ := hcut
    have OWN : Hid (wc.ownsRow (w.heap.size + 1) 2 1 u3 len (xs z len)) := hown
    have BEL : Hid (Below (w.heap.size + 1) (boxed w A B P F L a0 len cap M) wc) := hbel
    clear hown hbel
    go_wp2
    go_loopw [4, 5] (fun v i wr => ∃ k : Nat, k ≤ len ∧ i = .int .i64 k ∧ wr.ownsRow (w.heap.size + 1) 3 1 v k (xs z k) ∧ wr.ownsRow (w.heap.size + 1) 2 1 u3 len (xs z len) ∧ Below (w.heap.size + 1) (boxed w A B P F L a0 len cap M) wr) (fun _ i _ => len - (intOf i).toNat)
    case atStart => exact ⟨0, by omega, rfl, World.ownsRow_nil _ _ _ _, OWN.out, BEL.out⟩
    case round =>
      obtain ⟨k, hk, rfl, hownK, hownL, hbel⟩ := hrel
      clear OWN BEL
      have c5 : wr.cell? ⟨w.heap.size, 5, none⟩ = some (.slice a0 len cap) := (hbel.cell (by show w.heap.size < w.heap.size + 1; omega)).trans HB5.out
      have hsz := hbel.size
      have hsz2 : w.heap.size + 1 ≤ wr.heap.size := by simpa [boxed] using hsz
      by_cases hlt : k < len
      · obtain ⟨bk, off, rfl, hck0, hzk⟩ := HR.out.below (HBX.out.trans (hbel.mono (by omega))) k hlt
        have hck : wr.cell? ⟨bk, off + k, none⟩ = some (.int .i64 (z k)) := hck0
        go_wp2_with (at_builtin; refine wpList_append_own _ rfl (.tmp 25) (.tmp 31) 43 rfl (w.heap.size + 1) 3 i1 (.int .i64 0) 1 8 Try.underlying43 hj hy0 hy1 hy2 rfl (by decide) _ _ _ rfl (hownK.alloc _) ⟨wr.heap.size, 0, none⟩ 1 1 [.int .i64 (z k)] rfl rfl (cell_one_new _ _ _) (seven_one _) (by unfold maxLen; omega) (by omega) (by simp; omega) ?_; intro v1 w1 own1 grow1 _)
        have hb1 : Below (w.heap.size + 1) (boxed w A B P F L (some ⟨bk, off, none⟩) len cap M) w1 := (hbel.alloc hsz2 _).grown grow1 (by simp; omega) (fun j hj => (hownK.lt j hj).1)
        have hl1 : w1.ownsRow (w.heap.size + 1) 2 1 u3 len (xs z len) := (hownL.alloc _).kept grow1 (owns_ne hownL hownK).1
        rw [← xs_succ] at own1
        clear grow1 hownK hownL hbel c5 hck hsz hsz2 hck0
        go_wp2
        go_roundw
        case rel => exact ⟨k + 1, by omega, by go_num, own1, hl1, hb1⟩
        case measure => simp [intOf]; omega
      · have hkl : k = len := by omega
        rw [hkl] at hownK
        go_upto_region 9 with (at_builtin; refine wpList_append_own _ rfl (.tmp 33) (.tmp 34) 22 rfl (w.heap.size + 1) 2 i0 (.int .i64 0) 1 8 Try.underlying22 hi hz0 hz1 hz2 rfl (by decide) _ _ _ rfl (hownL.alloc _) ⟨wr.heap.size, 0, none⟩ 1 1 [.int .i64 (-7)] rfl rfl (cell_one_new _ _ _) (seven_one _) (by unfold maxLen; omega) (by omega) (by simp; omega) ?_; intro v1 w1 own1 grow1 _)
        have hb1 : Below (w.heap.size + 1) (boxed w A B P F L a0 len cap M) w1 := (hbel.alloc hsz2 _).grown grow1 (by simp; omega) (fun j hj => (hownL.lt j hj).1)
        have hk1 : w1.ownsRow (w.heap.size + 1) 3 1 u4 len (xs z len) := (hownK.alloc _).kept grow1 (owns_ne hownL hownK).2
        rw [xs_app] at own1
        have hs1 : w.heap.size + 1 ≤ w1.heap.size := by simpa [boxed] using hb1.size
        clear grow1 hownK hownL hbel c5 hsz hsz2
        go_upto_region 10 with (at_builtin; refine wpList_append_own _ rfl (.tmp 36) (.tmp 37) 43 rfl (w.heap.size + 1) 3 i1 (.int .i64 0) 1 8 Try.underlying43 hj hy0 hy1 hy2 rfl (by decide) _ _ _ rfl (hk1.alloc _) ⟨w1.heap.size, 0, none⟩ 1 1 [.int .i64 (-7)] rfl rfl (cell_one_new _ _ _) (seven_one _) (by unfold maxLen; omega) (by omega) (by simp; omega) ?_; intro v2 w2 own2 grow2 _)
        have hb2 : Below (w.heap.size + 1) (boxed w A B P F L a0 len cap M) w2 := (hb1.alloc hs1 _).grown grow2 (by simp; omega) (fun j hj => (hk1.lt j hj).1)
        have hl2 : w2.ownsRow (w.heap.size + 1) 2 1 v1 (len + 1) (xs (zz z len) (len + 1)) := (own1.alloc _).kept grow2 (owns_ne own1 hk1).1
        rw [xs_app] at own2
        have hne := owns_ne hl2 own2
        clear grow2 own1 hk1 hb1
        obtain ⟨gl, lc, rfl, hgl1, hgl2, hlc, hlcell, hlf⟩ : ∃ g cap, v1 = .slice (some ⟨g, 0, none⟩) (len + 1) cap ∧ w.heap.size + 1 ≤ g ∧ g < w2.heap.size ∧ len + 1 ≤ cap ∧ (∀ i, i < len + 1 → w2.cell? ⟨g, i, none⟩ = some (.int .i64 (zz z len i))) ∧ ∀ i, w2.frozen? ⟨g, i, none⟩ = false := by
          rcases owns_row hl2 with ⟨_, h⟩ | h
          · omega
          · exact h
        obtain ⟨gk, kc, rfl, hgk1, hgk2, hkc, hkcell, hkf⟩ : ∃ g cap, v2 = .slice (some ⟨g, 0, none⟩) (len + 1) cap ∧ w.heap.size + 1 ≤ g ∧ g < w2.heap.size ∧ len + 1 ≤ cap ∧ (∀ i, i < len + 1 → w2.cell? ⟨g, i, none⟩ = some (.int .i64 (zz z len i))) ∧ ∀ i, w2.frozen? ⟨g, i, none⟩ = false := by
          rcases owns_row own2 with ⟨_, h⟩ | h
          · omega
          · exact h
        have hne : gl ≠ gk := by
          rcases hne.1 with h | h
          · cases h
          · simpa [Value.ownBlock] using h
        have c5 : w2.cell? ⟨w.heap.size, 5, none⟩ = some (.slice a0 len cap) := (hb2.cell (by show w.heap.size < w.heap.size + 1; omega)).trans HB5.out
        have c6 : w2.cell? ⟨w.heap.size, 6, none⟩ = some (.int .i64 M) := (hb2.cell (by show w.heap.size < w.heap.size + 1; omega)).trans HB6.out
        have hbw : Below w.heap.size w w2 := HBX.out.trans (hb2.mono (by omega))
        have rA : Row w2 a0 len z := HR.out.below hbw
        have hzI : ∀ i, i < len → I64 (z i) := fun i hi => (HR.out i hi).elim fun _ h => h.elim fun _ h => h.2.2
        have hcl : ∀ i, i < len → w2.cell? ⟨gl, i, none⟩ = some (.int .i64 (z i)) := fun i hi => by rw [hlcell i (by omega)]; unfold zz; rw [if_pos hi]
        have hck : ∀ i, i < len → w2.cell? ⟨gk, i, none⟩ = some (.int .i64 (z i)) := fun i hi => by rw [hkcell i (by omega)]; unfold zz; rw [if_pos hi]
        have rL : Row w2 (some ⟨gl, 0, none⟩) len z := fun i hi => ⟨gl, 0, rfl, by rw [Nat.zero_add]; exact hcl i hi, hzI i hi⟩
        have rK : Row w2 (some ⟨gk, 0, none⟩) len z := fun i hi => ⟨gk, 0, rfl, by rw [Nat.zero_add]; exact hck i hi, hzI i hi⟩
        have l7 : w2.cell? ⟨gl, len, none⟩ = some (.int .i64 (-7)) := by rw [hlcell len (by omega)]; unfold zz; rw [if_neg (by omega)]
        have k7 : w2.cell? ⟨gk, len, none⟩ = some (.int .i64 (-7)) := by rw [hkcell len (by omega)]; unfold zz; rw [if_neg (by omega)]
        have hlm : len ≤ 9223372036854775807 := by omega
        have HCL : Hid (∀ i, i < len → w2.cell? ⟨gl, i, none⟩ = some (.int .i64 (z i))) := hcl
        have HCK : Hid (∀ i, i < len → w2.cell? ⟨gk, i, none⟩ = some (.int .i64 (z i))) := hck
        have HLF : Hid (∀ i, w2.frozen? ⟨gl, i, none⟩ = false) := hlf
        have HKF : Hid (∀ i, w2.frozen? ⟨gk, i, none⟩ = false) := hkf
        have HZI : Hid (∀ i, i < len → I64 (z i)) := hzI
        clear hlcell hkcell hl2 own2 hb2 hcl hck hlf hkf hzI
        go_wp2
        go_quiet ((go_at_call 8; refine Calls.quiet_of (lcm64_any _ _ _ z _ _ ?_ ?_ ?_) <;> assumption))
        go_wp2
        go_quiet ((go_at_call 28; refine quiet_add (lcmInt_any _ _ _ z _ _ ?_ ?_ ?_) <;> assumption))
        go_wp2_with (go_at_call 29; refine (rlcm_any _ _ _ z _ _ ?_ ?_ ?_).mono ?_; all_goals first | assumption | (rintro e w' ⟨rfl, nd, hw⟩; subst hw))
        go_loopw [13] (fun i wx => ∃ k n2 : Nat, k ≤ len ∧ i = .int .i64 k ∧ wx = w2.drewN n2) (fun i _ => len - (intOf i).toNat)
        case atStart => exact ⟨0, _, by omega, rfl, rfl⟩
        case round =>
          obtain ⟨k3, n2, hk3, rfl, hw⟩ := hrel
          have HW : Hid (_ = w2.drewN n2) := hw
          by_cases hlt3 : k3 < len
          · have d1 : wr.cell? ⟨gl, k3, none⟩ = some (.int .i64 (z k3)) := by rw [hw]; exact HCL.out k3 hlt3
            have d2 : wr.cell? ⟨gk, k3, none⟩ = some (.int .i64 (z k3)) := by rw [hw]; exact HCK.out k3 hlt3
            have d3 : wr.cell? ⟨w.heap.size, 5, none⟩ = some (.slice a0 len cap) := by rw [hw]; exact c5
            obtain ⟨bk, off, rfl, d4, _⟩ := rA k3 hlt3
            have d5 : wr.cell? ⟨bk, off + k3, none⟩ = some (.int .i64 (z k3)) := by rw [hw]; exact d4
            have hp : (k3 : Int) < (len : Int) + 1 := by omega
            clear hw d4 rA rL rK l7 k7 HCL HCK HLF HKF HZI
            go_wp2
            go_quiet (fail)
            go_wp2
            go_roundw
            case rel => exact ⟨k3 + 1, n2 + nq, by omega, by go_num, by rw [HW.out, World.drewN_drewN]⟩
            case measure => simp [intOf]; omega
          · have d3 : wr.cell? ⟨w.heap.size, 6, none⟩ = some (.int .i64 M) := by rw [hw]; exact c6
            have q1 : ∀ i, i < len → wr.cell? ⟨gl, i, none⟩ = some (.int .i64 (z i)) := by rw [hw]; exact HCL.out
            have q2 : ∀ i, i < len → wr.cell? ⟨gk, i, none⟩ = some (.int .i64 (z i)) := by rw [hw]; exact HCK.out
            have q3 : ∀ i, wr.frozen? ⟨gl, i, none⟩ = false := by rw [hw]; exact HLF.out
            have q4 : ∀ i, wr.frozen? ⟨gk, i, none⟩ = false := by rw [hw]; exact HKF.out
            have q5 : gl < wr.heap.size := by rw [hw]; exact hgl2
            have q6 : gk < wr.heap.size := by rw [hw]; exact hgk2
            have HBW : Hid (Below w.heap.size w wr) := by rw [hw]; exact below_drewN hbw _
            have T : ∀ (n : Nat), Calls Try.prog 30 #[.slice (some ⟨gl, 0, none⟩) len lc, .slice (some ⟨gk, 0, none⟩) len kc, .int .i64 M] (wr.drewN n) fun e w' => e = .returned (.bool true) ∧ Below w.heap.size w w' := fun n =>
              (turned_any w.heap.size gl gk len lc kc z M (wr.drewN n) hlen (by omega) (by omega) hne q5 q6 q1 q2 HZI.out q3 q4 hM).mono fun e w' h => ⟨h.1, (below_drewN HBW.out n).trans h.2⟩
            clear hw rA rL rK l7 k7 HCL HCK HLF HKF q1 q2 q3 q4 q5 q6 c5 c6
            go_wp2
            go_region_with (go_at_call 30; refine (T _).mono ?_; rintro e w' ⟨rfl, hbl⟩)
            all_goals (go_wp2; go_ret; exact ⟨rfl, hbl⟩)

end Go.Proofs.Ytpkifhbjlpkcnaa
