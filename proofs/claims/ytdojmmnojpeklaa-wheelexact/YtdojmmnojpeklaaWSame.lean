/-
  'same', 'last': the statements' own calls.
-/
import Derived.Test.YtdojmmnojpeklaaWForgP
namespace Go.Proofs.Ytdojmmnojpeklaa
open Go.RowKit
set_option linter.unusedVariables false

theorem Fs.of_own {w : World} {B n c : Nat} {a : Option Addr} {xs : List Fi} (h : w.ownsRow B 32 2 (.slice a n c) n (fcL xs)) (h6 : ∀ x, x ∈ xs → I6 x.t ∧ I6 x.i) : Fs w (fun k => (Value.slice a n c).ownBlock = some k) a n c xs := by
  have hl := owns_len2 h
  have hh := h
  rcases owns_cells2 h with ⟨e, e2, e3⟩ | ⟨g, cap, e, _, _, h3, h4, h5, _⟩
  · injection e with e1 e4 e5
    subst e1 e4 e5 e3
    exact ⟨rfl, Nat.le_refl _, by omega, h6, (fun i x hx => by cases hx)⟩
  · injection e with e1 e4 e5
    subst e1 e5
    refine ⟨hl, h3, h4, h6, fun i x hx => ⟨g, 0, rfl, rfl, ?_⟩⟩
    rw [Nat.zero_add]
    exact h5 i x hx

set_option maxHeartbeats 1000000 in
set_option maxRecDepth 100000 in
theorem same_eq (F G : Nat → Prop) (p p' : Option Addr) (n c c' : Nat) (xs : List Fi) (w : World) (hx : Fs w F p n c xs) (hy : Fs w G p' n c' xs) :
    Calls Try.prog 17 #[.slice p n c, .slice p' n c'] w fun ex w' => ex = .returned (.bool true) ∧ ∃ q, w' = w.drewN q := by
  have HX : Hid (Fs w F p n c xs ∧ Fs w G p' n c' xs) := ⟨hx, hy⟩
  have h1 := hx.cap
  have h2 := hx.max
  have h3 := hy.cap
  have h4 := hy.max
  have HL : Hid (xs.length = n) := hx.len
  clear hx hy
  go_enter Try.func17, Try.ntmps17
  go_wp2
  go_loopw [5] (fun d wr => ∃ (j : Nat), j ≤ n ∧ d = .int .i64 j ∧ ∃ q, wr = w.drewN q) (fun d _ => n - (intOf d).toNat)
  case atStart => exact ⟨0, Nat.zero_le _, rfl, 0, rfl⟩
  case round =>
    obtain ⟨j, hj, rfl, q, hwr⟩ := hrel
    have HW : Hid (wr = w.drewN q) := hwr
    clear hwr
    by_cases hlt : j < n
    · obtain ⟨x, hx⟩ : ∃ x, xs[j]? = some x := ⟨_, List.getElem?_eq_getElem (by rw [HL.out]; exact hlt)⟩
      obtain ⟨g, o, rfl, _, r0, r1⟩ := HX.out.1.at' j x hx
      obtain ⟨g', o', rfl, _, s0, s1⟩ := HX.out.2.at' j x hx
      obtain ⟨xt, xi⟩ := x
      dsimp only at r0 r1 s0 s1
      have HC : Hid (wr.drew.cell? ⟨g, o + j * 2, none⟩ = some (.int .i64 xt) ∧ wr.drew.cell? ⟨g, o + j * 2 + 1, none⟩ = some (.int .i64 xi) ∧ wr.drew.cell? ⟨g', o' + j * 2, none⟩ = some (.int .i64 xt) ∧ wr.drew.cell? ⟨g', o' + j * 2 + 1, none⟩ = some (.int .i64 xi)) := (by rw [HW.out]; exact ⟨r0, r1, s0, s1⟩)
      clear r0 r1 s0 s1 hx
      go_upto_region 6 with fail
      try simp only [Act.put, List.setIfInBounds_toArray, List.set_cons_zero, List.set_cons_succ]
      refine wp_region_held_drew (S := fun w' => w'.cell? ⟨g, o + j * 2, none⟩ = some (.int .i64 xt) ∧ w'.cell? ⟨g, o + j * 2 + 1, none⟩ = some (.int .i64 xi) ∧ w'.cell? ⟨g', o' + j * 2, none⟩ = some (.int .i64 xt) ∧ w'.cell? ⟨g', o' + j * 2 + 1, none⟩ = some (.int .i64 xi)) (by kernel_rfl) HC.out (fun hS => ?_)
      refine d_take 0 17 rfl rfl (by kernel_rfl) (by kernel_rfl) (by kernel_rfl) (fun _ _ _ h => h) rfl (fun w' hw' => er_mv _ rfl (.slice (some ⟨g, o, none⟩) n c) rfl) hS ?_
      simp only [Act.put, List.setIfInBounds_toArray, List.set_cons_zero, List.set_cons_succ]
      refine d_take 1 18 rfl rfl (by kernel_rfl) (by kernel_rfl) (by kernel_rfl) (fun _ _ _ h => h) rfl (fun w' hw' => er_mv _ rfl (.int .i64 j) rfl) hS ?_
      simp only [Act.put, List.setIfInBounds_toArray, List.set_cons_zero, List.set_cons_succ]
      refine d_take 2 19 rfl rfl (by kernel_rfl) (by kernel_rfl) (by kernel_rfl) (fun _ _ _ h => h) rfl (fun w' hw' => er_idx22 _ _ rfl g o n c j hlt (by omega) rfl rfl) hS ?_
      simp only [Act.put, List.setIfInBounds_toArray, List.set_cons_zero, List.set_cons_succ]
      refine d_take 3 20 rfl rfl (by kernel_rfl) (by kernel_rfl) (by kernel_rfl) (fun _ _ _ h => h) rfl (fun w' hw' => er_load32 _ rfl g (o + j * 2) (.int .i64 xt) (.int .i64 xi) rfl hw'.1 hw'.2.1) hS ?_
      simp only [Act.put, List.setIfInBounds_toArray, List.set_cons_zero, List.set_cons_succ]
      refine d_take 4 21 rfl rfl (by kernel_rfl) (by kernel_rfl) (by kernel_rfl) (fun _ _ _ h => h) rfl (fun w' hw' => er_mv _ rfl (.slice (some ⟨g', o', none⟩) n c') rfl) hS ?_
      simp only [Act.put, List.setIfInBounds_toArray, List.set_cons_zero, List.set_cons_succ]
      refine d_take 5 22 rfl rfl (by kernel_rfl) (by kernel_rfl) (by kernel_rfl) (fun _ _ _ h => h) rfl (fun w' hw' => er_mv _ rfl (.int .i64 j) rfl) hS ?_
      simp only [Act.put, List.setIfInBounds_toArray, List.set_cons_zero, List.set_cons_succ]
      refine d_take 6 23 rfl rfl (by kernel_rfl) (by kernel_rfl) (by kernel_rfl) (fun _ _ _ h => h) rfl (fun w' hw' => er_idx22 _ _ rfl g' o' n c' j hlt (by omega) rfl rfl) hS ?_
      simp only [Act.put, List.setIfInBounds_toArray, List.set_cons_zero, List.set_cons_succ]
      refine d_take 7 24 rfl rfl (by kernel_rfl) (by kernel_rfl) (by kernel_rfl) (fun _ _ _ h => h) rfl (fun w' hw' => er_load32 _ rfl g' (o' + j * 2) (.int .i64 xt) (.int .i64 xi) rfl hw'.2.2.1 hw'.2.2.2) hS ?_
      simp only [Act.put, List.setIfInBounds_toArray, List.set_cons_zero, List.set_cons_succ]
      refine d_take 8 25 rfl rfl (by kernel_rfl) (by kernel_rfl) (by kernel_rfl) (fun _ _ _ h => h) rfl (fun w' hw' => er_ne32 _ _ _ rfl xt xi rfl rfl) hS ?_
      simp only [Act.put, List.setIfInBounds_toArray, List.set_cons_zero, List.set_cons_succ]
      refine wpAnyH_done (by kernel_rfl) ?_ _
      clear hS HC
      have HW2 : Hid (wr.drew = w.drewN (q + 1)) := (by rw [HW.out]; rfl)
      generalize wr.drew = w9 at HW2 ⊢
      go_wp2
      go_roundw
      case rel => exact ⟨j + 1, by omega, by go_num, q + 1, HW2.out⟩
      case measure => simp [intOf]; omega
    · have hjn : j = n := by omega
      subst hjn
      go_wp2
      go_ret
      exact ⟨rfl, q, HW.out⟩

/-- the last tick at which a number was armed -/
def lastT (n : Nat) (i : Int) (xs : List Fi) : Option Int := xs.foldl (fun a x => if x.i = i ∧ Ok n x then some x.t else a) none
theorem lastT_snoc (n : Nat) (i : Int) (xs : List Fi) (x : Fi) : lastT n i (xs ++ [x]) = if x.i = i ∧ Ok n x then some x.t else lastT n i xs := by unfold lastT; rw [List.foldl_append]; rfl

set_option maxHeartbeats 1000000 in
set_option maxRecDepth 100000 in
theorem last_any (now : Nat) (G : Nat → Prop) (p : Option Addr) (n c : Nat) (xs : List Fi) (i : Int) (w : World) (hx : Fs w G p n c xs) (hG : ∀ k, G k → k < w.heap.size) :
    Calls Try.prog 15 #[.slice p n c, .int .i64 now, .int .i64 i] w fun ex w' => ex = .returned (.tuple #[.int .i64 ((lastT now i xs).getD 0), .bool (lastT now i xs).isSome]) ∧ Below w.heap.size w w' := by
  have HX : Hid (Fs w G p n c xs) := hx
  have h1 := hx.cap
  have h2 := hx.max
  have HL : Hid (xs.length = n) := hx.len
  generalize hrr : lastT now i xs = rr
  have HRR : Hid (lastT now i xs = rr) := hrr
  clear hx hG hrr
  go_enter Try.func15, Try.ntmps15
  go_wp2
  go_loopw [8, 9, 10] (fun t b d wr => ∃ (j : Nat), j ≤ n ∧ d = .int .i64 j ∧ t = .int .i64 ((lastT now i (xs.take j)).getD 0) ∧ b = .bool (lastT now i (xs.take j)).isSome ∧ Below w.heap.size w wr) (fun _ _ d _ => n - (intOf d).toNat)
  case atStart => exact ⟨0, Nat.zero_le _, rfl, rfl, rfl, Below.refl _ _⟩
  case round =>
    obtain ⟨j, hj, rfl, rfl, rfl, hB⟩ := hrel
    have HB : Hid (Below w.heap.size w wr) := hB
    clear hB
    by_cases hlt : j < n
    · obtain ⟨x, hx⟩ : ∃ x, xs[j]? = some x := ⟨_, List.getElem?_eq_getElem (by rw [HL.out]; exact hlt)⟩
      obtain ⟨g, o, rfl, _, r0, r1⟩ := (HX.out.below HB.out).at' j x hx
      have HT : Hid (lastT now i (xs.take (j + 1)) = if x.i = i ∧ Ok now x then some x.t else lastT now i (xs.take j)) := (show _ = _ by rw [List.take_add_one, hx, ← lastT_snoc]; rfl)
      have cM := fun w0 => may_any x now w0
      unfold Fi.v at cM
      generalize lastT now i (xs.take j) = l0 at HT ⊢
      obtain ⟨xt, xi⟩ := x
      dsimp only at r0 r1 HT cM
      have HC : Hid (∀ w', Below w.heap.size w w' → w'.cell? ⟨g, o + j * 2, none⟩ = some (.int .i64 xt)) := (fun w' hb => by
        obtain ⟨g2, o2, e, _, q0, q1⟩ := (HX.out.below hb).at' j _ hx
        injection e with e
        injection e with e1 e2 _
        subst e1 e2
        exact q0)
      clear hx
      by_cases e : xi = i
      · have e2 : (xi == i) = true := by simpa using e
        by_cases hok : Ok now ⟨xt, xi⟩
        · have HT2 : Hid (lastT now i (xs.take (j + 1)) = some xt) := (show _ = _ by rw [HT.out, if_pos ⟨e, hok⟩])
          rw [decide_eq_true hok] at cM
          clear e hok HT
          go_upto_region 7 with (go_at_call 10; refine (cM _).mono ?_; rintro ex w2 ⟨rfl, hb2⟩)
          have HB2 : Hid (Below w.heap.size w w2) := HB.out.trans (hb2.mono HB.out.size)
          have r0' := HC.out w2 HB2.out
          clear hb2 r0 r1
          go_wp2
          go_roundw
          case rel => exact ⟨j + 1, by omega, by go_num, by rw [HT2.out]; rfl, by rw [HT2.out]; rfl, HB2.out⟩
          case measure => simp [intOf]; omega
        · have HT2 : Hid (lastT now i (xs.take (j + 1)) = l0) := (show _ = _ by rw [HT.out, if_neg (fun h => hok h.2)])
          rw [decide_eq_false hok] at cM
          clear e hok HT
          go_wp2_with (go_at_call 10; refine (cM _).mono ?_; rintro ex w2 ⟨rfl, hb2⟩; have HB2 : Hid (Below w.heap.size w w2) := HB.out.trans (hb2.mono HB.out.size); clear hb2)
          go_roundw
          case rel => exact ⟨j + 1, by omega, by go_num, by rw [HT2.out], by rw [HT2.out], HB2.out⟩
          case measure => simp [intOf]; omega
      · have e2 : (xi == i) = false := by simpa using e
        have HT2 : Hid (lastT now i (xs.take (j + 1)) = l0) := (show _ = _ by rw [HT.out, if_neg (fun h => e h.1)])
        clear e HT cM
        go_wp2
        go_roundw
        case rel => exact ⟨j + 1, by omega, by go_num, by rw [HT2.out], by rw [HT2.out], HB.out⟩
        case measure => simp [intOf]; omega
    · have hjn : j = n := by omega
      subst hjn
      have HT : Hid (lastT now i (xs.take j) = rr) := (show _ = _ by rw [List.take_of_length_le (by rw [HL.out]; exact Nat.le_refl _)]; exact HRR.out)
      rw [HT.out]
      go_wp2
      go_ret2
      exact ⟨rfl, HB.out⟩

end Go.Proofs.Ytdojmmnojpeklaa
