/-
  The Reader's Bool, Bytes, Left, Done.
-/
import Derived.Test.YtakdfpenpodplaaRdNum
namespace Go.Proofs.Ytakdfpenpodplaa
open Go.RowKit
set_option linter.unusedVariables false

theorem Rd.kept {w w' : World} {F G : Nat → Prop} {p : Nat} {xs : List Nat} {e : Int} (h : Rd w F p xs e) (k : Kept G w w') (hd : ∀ b, F b → ¬ G b) : Rd w' F p xs e := by
  obtain ⟨a, n, c, hv⟩ := h; exact ⟨a, n, c, hv.kept k hd⟩
theorem Rd.drewN {w : World} {F : Nat → Prop} {p : Nat} {xs : List Nat} {e : Int} (h : Rd w F p xs e) (n : Nat) : Rd (w.drewN n) F p xs e := h.kept ((Kept.refl No w).drewN n) (fun _ _ h => h)
theorem Rd.put1 {w : World} {F : Nat → Prop} {p : Nat} {xs : List Nat} {e : Int} (h : Rd w F p xs e) (e' : Int) : Rd (w.setCell ⟨p, 1, none⟩ (.int .i64 e')) F p xs e' := by
  obtain ⟨a, n, c, hv⟩ := h; exact ⟨a, n, c, hv.put1 e'⟩
theorem RdDid.ahead {F : Nat → Prop} {p : Nat} {xs : List Nat} {e : Int} {w0 w w1 : World} (h : RdDid F p xs e w w1) (hk : Kept (fun k => k = p) w0 w) : RdDid F p xs e w0 w1 := ⟨h.1, hk.trans h.2 (fun _ h => .inl h)⟩

theorem left_any (F : Nat → Prop) (p : Nat) (xs : List Nat) (e : Int) (w : World) (h : Rd w F p xs e) :
    Calls Try.prog 38 #[.pointer (some ⟨p, 0, none⟩)] w fun ex w' => ex = .returned (.int .i64 xs.length) ∧ w' = w := by
  obtain ⟨a, n, c, hv⟩ := h
  have c0 := hv.c0
  rw [hv.bs.len]
  clear hv
  go_enter Try.func38, Try.ntmps38
  go_wp2
  go_ret
  exact ⟨rfl, rfl⟩

def rdDone (xs : List Nat) (e : Int) : Int := if e ≠ 0 then e else if xs = [] then 0 else 20

set_option maxHeartbeats 1000000 in
theorem rdone_any (F : Nat → Prop) (p : Nat) (xs : List Nat) (e : Int) (w : World) (h : Rd w F p xs e) :
    Calls Try.prog 33 #[.pointer (some ⟨p, 0, none⟩)] w fun ex w' => ex = .returned (.int .i64 (rdDone xs e)) ∧ ∃ n, w' = w.drewN n := by
  obtain ⟨a, n, c, hv⟩ := h
  have c0 := hv.c0
  have c1 := hv.c1
  have hl := hv.bs.len
  clear hv
  by_cases he : e = 0
  · subst he
    by_cases hn : n = 0
    · have hx : xs = [] := List.eq_nil_of_length_eq_zero (by rw [hl]; exact hn)
      subst hn hx
      rw [show rdDone [] 0 = 0 from by simp [rdDone]]
      go_enter Try.func33, Try.ntmps33
      go_wp2
      go_ret
      exact ⟨rfl, 0, rfl⟩
    · have hx : xs ≠ [] := by rintro rfl; simp at hl; omega
      rw [show rdDone xs 0 = 20 from by simp [rdDone, hx]]
      have hp : 0 < n := by omega
      clear hx hl
      go_enter Try.func33, Try.ntmps33
      go_wp2
      go_ret
      exact ⟨rfl, 0, rfl⟩
  · have he2 : (e == 0) = false := by simpa using he
    rw [show rdDone xs e = e from if_pos he]
    go_enter Try.func33, Try.ntmps33
    go_wp2
    go_ret
    exact ⟨rfl, 0, rfl⟩

theorem rbytes_any (F : Nat → Prop) (p : Nat) (xs : List Nat) (e n : Int) (w : World) (h : Rd w F p xs e) (hsz : xs.length ≤ 140737488355328) :
    Calls Try.prog 29 #[.pointer (some ⟨p, 0, none⟩), .int .i64 n] w fun ex w' => ∃ v, ex = .returned v ∧ w'.ownsRow w.heap.size 5 1 v (tkXs xs e n).length ((tkXs xs e n).map bv) ∧ RdDid F p (tkRest xs e n) (tkE xs e n) w w' := by
  have cc := take_any F p xs e n w h
  have hlen : (tkXs xs e n).length ≤ xs.length := by unfold tkXs; split <;> simp <;> omega
  clear h
  go_enter Try.func29, Try.ntmps29
  go_wp2_with (first | (go_at_call 59; refine cc.mono ?_; rintro ex w1 ⟨a, k, c, rfl, hB, hd⟩; have hk := hB.len; have c2 := clone_any _ a k c (tkXs xs e n) w1 hB (by omega); clear hB) | (go_at_call 52; refine c2.mono ?_; rintro ex w2 ⟨v, rfl, own, bel⟩))
  go_ret
  exact ⟨v, rfl, owns_base own hd.2.size, hd.1.kept (Kept.of_below (F := No) bel) (fun _ _ h => h), hd.2.trans (Kept.of_below (F := No) bel) (fun _ h => h.elim)⟩

def rbE (xs : List Nat) (e : Int) : Int := if e ≠ 0 then e else match xs with | [] => 20 | b :: _ => if 1 < b then 20 else 0
def rbRest (xs : List Nat) (e : Int) : List Nat := if e ≠ 0 then xs else match xs with | [] => [] | b :: t => if 1 < b then b :: t else t
def rbV (xs : List Nat) (e : Int) : Bool := if e ≠ 0 then false else match xs with | [] => false | b :: _ => b == 1

set_option maxHeartbeats 1000000 in
theorem rbool_any (F : Nat → Prop) (p : Nat) (xs : List Nat) (e : Int) (w : World) (h : Rd w F p xs e) :
    Calls Try.prog 28 #[.pointer (some ⟨p, 0, none⟩)] w fun ex w' => ex = .returned (.bool (rbV xs e)) ∧ RdDid F p (rbRest xs e) (rbE xs e) w w' := by
  have c58 : ∀ W xs e, Rd W F p xs e → Calls Try.prog 58 #[.pointer (some ⟨p, 0, none⟩), .int .i64 1] W fun ex w' => ex = .returned (.int .u64 (rdN xs e 1)) ∧ RdDid F p (tkRest xs e 1) (tkE xs e 1) W w' := fun W xs e h => rnumber_any F p xs e 1 W h (by omega)
  have H : Hid (Rd w F p xs e) := h
  obtain ⟨a, n, c, hv⟩ := h
  have c0 := hv.c0
  have c1 := hv.c1
  have f1 := hv.fz 1
  have hl := hv.bs.len
  have hpF := hv.fp
  by_cases he : e = 0
  · subst he
    cases xs with
    | nil =>
      have hn : n = 0 := hl.symm
      subst hn
      have e1 : rdN [] 0 1 = 0 := by decide
      have cc := c58 w [] 0 H.out
      rw [e1] at cc
      clear hv c58
      go_enter Try.func28, Try.ntmps28
      go_wp2_with (go_at_call 58; refine cc.mono ?_; rintro ex w1 ⟨rfl, hd⟩)
      go_ret
      exact ⟨rfl, hd⟩
    | cons b t =>
      obtain ⟨bk, o, rfl, _, hc0⟩ := hv.bs.at' 0 (by rw [← hl]; simp)
      have hn : 0 < n := by rw [← hl]; simp
      have hc : w.cell? ⟨bk, o, none⟩ = some (.int .u8 (b : Nat)) := hc0
      clear hv hc0
      by_cases h1 : 1 < b
      · have e1 : rdN (b :: t) 20 1 = 0 := by simp [rdN, tkXs, tkOk, val]
        have e2 : rbV (b :: t) 0 = false := by simp [rbV]; omega
        have e3 : rbRest (b :: t) 0 = b :: t := by simp [rbRest, h1]
        have e4 : rbE (b :: t) 0 = 20 := by simp [rbE, h1]
        rw [e2, e3, e4]
        have cc := c58 _ _ _ (H.out.put1 20)
        have e5 : tkRest (b :: t) 20 1 = b :: t := by simp [tkRest, tkOk]
        have e6 : tkE (b :: t) 20 1 = 20 := by simp [tkE]
        rw [e1, e5, e6] at cc
        clear e1 e2 e3 e4 e5 e6 c58 hl
        go_enter Try.func28, Try.ntmps28
        go_wp2_with (go_at_call 58; refine cc.mono ?_; rintro ex w1 ⟨rfl, hd⟩)
        go_ret
        exact ⟨rfl, hd.ahead ((Kept.refl (fun k => k = p) w).setCell (p := ⟨p, 1, none⟩) (.inl rfl) _)⟩
      · have kk : tkOk (b :: t) 0 1 = true := by simp [tkOk]; omega
        have e1 : rdN (b :: t) 0 1 = (b : Int) := by simp [rdN, tkXs, kk, val]
        have e3 : rbRest (b :: t) 0 = t := by simp [rbRest, h1]
        have e4 : rbE (b :: t) 0 = 0 := by simp [rbE, h1]
        have e5 : tkRest (b :: t) 0 1 = t := by simp [tkRest, kk]
        have e6 : tkE (b :: t) 0 1 = 0 := by simp [tkE, kk]
        have cc := c58 w (b :: t) 0 H.out
        rw [e1, e5, e6] at cc
        rw [e3, e4]
        have hb01 : b = 0 ∨ b = 1 := by omega
        rcases hb01 with rfl | rfl
        · rw [show rbV (0 :: t) 0 = false from by simp [rbV]]
          clear e1 e3 e4 e5 e6 c58 hl h1 kk
          go_enter Try.func28, Try.ntmps28
          go_wp2_with (go_at_call 58; refine cc.mono ?_; rintro ex w1 ⟨rfl, hd⟩)
          go_ret
          exact ⟨rfl, hd⟩
        · rw [show rbV (1 :: t) 0 = true from by simp [rbV]]
          clear e1 e3 e4 e5 e6 c58 hl h1 kk
          go_enter Try.func28, Try.ntmps28
          go_wp2_with (go_at_call 58; refine cc.mono ?_; rintro ex w1 ⟨rfl, hd⟩)
          go_ret
          exact ⟨rfl, hd⟩
  · have he2 : (e == 0) = false := by simpa using he
    have e1 : rdN xs e 1 = 0 := by simp [rdN, tkXs, tkOk, he, val]
    have e2 : rbV xs e = false := if_pos he
    have e3 : rbRest xs e = xs := if_pos he
    have e4 : rbE xs e = e := if_pos he
    have e5 : tkRest xs e 1 = xs := by simp [tkRest, tkOk, he]
    have e6 : tkE xs e 1 = e := if_pos he
    have cc := c58 w xs e H.out
    rw [e1, e5, e6] at cc
    rw [e2, e3, e4]
    clear e1 e2 e3 e4 e5 e6 c58 hl hv
    go_enter Try.func28, Try.ntmps28
    go_wp2_with (go_at_call 58; refine cc.mono ?_; rintro ex w1 ⟨rfl, hd⟩)
    go_ret
    exact ⟨rfl, hd⟩

end Go.Proofs.Ytakdfpenpodplaa
