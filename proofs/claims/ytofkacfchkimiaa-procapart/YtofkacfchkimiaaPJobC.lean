/-
  ProcJobs: clip, fired, the world's tick.
-/
import Derived.Test.YtofkacfchkimiaaPJobP
namespace Go.Proofs.Ytofkacfchkimiaa
open Go.RowKit Plain
set_option linter.unusedVariables false
set_option maxRecDepth 100000

def clipV (n lo hi : Int) : Int := if n < lo then lo else if hi < n then hi else n
theorem clip_any (n lo hi : Int) (w : World) : Calls Try.prog 17 #[.int .i64 n, .int .i64 lo, .int .i64 hi] w fun e w' => e = .returned (.int .i64 (clipV n lo hi)) ∧ w' = w := by
  unfold clipV
  by_cases h1 : n < lo
  · rw [if_pos h1]
    go_enter Try.func17, Try.ntmps17
    go_wp2
    go_ret
    exact ⟨rfl, rfl⟩
  · rw [if_neg h1]
    by_cases h2 : hi < n
    · rw [if_pos h2]
      go_enter Try.func17, Try.ntmps17
      go_wp2
      go_ret
      exact ⟨rfl, rfl⟩
    · rw [if_neg h2]
      go_enter Try.func17, Try.ntmps17
      go_wp2
      go_ret
      exact ⟨rfl, rfl⟩

/-- both timers, fired if they are due -/
def Tt.fm (T : Tt) (n : Int) : Tt := if (T.ps 0).due 1 n then T.miss 0 else T
def Tt.fr (T : Tt) (n : Int) : Tt := if (T.ps 0).due 2 n then T.release 0 n else T
theorem fm_ps (T : Tt) (n : Int) : (T.fm n).ps 0 = (T.ps 0).fm n ∧ (T.fm n).n = T.n ∧ (T.fm n).lk = T.lk ∧ (T.fm n).hd = T.hd ∧ (T.fm n).pl = T.pl := by
  unfold Tt.fm Pr.fm
  by_cases h : (T.ps 0).due 1 n = true
  · rw [if_pos h, if_pos h]; exact ⟨rfl, rfl, rfl, rfl, rfl⟩
  · rw [if_neg h, if_neg h]; exact ⟨rfl, rfl, rfl, rfl, rfl⟩
theorem fr_ps (T : Tt) (n : Int) : (T.fr n).ps 0 = (T.ps 0).fr n T.pl ∧ (T.fr n).n = T.n ∧ (T.fr n).lk = T.lk ∧ (T.fr n).hd = T.hd ∧ (T.pl ≤ (T.fr n).pl ∧ (T.fr n).pl ≤ T.pl + 1) := by
  unfold Tt.fr Pr.fr Tt.release
  by_cases h : (T.ps 0).due 2 n = true
  · rw [if_pos h, if_pos h]
    by_cases h3 : (T.ps 0).st = 3
    · rw [if_pos h3, if_pos h3]
      exact ⟨rfl, rfl, rfl, rfl, by show T.pl ≤ T.pl + 1 ∧ T.pl + 1 ≤ T.pl + 1; omega⟩
    · rw [if_neg h3, if_neg h3]
      exact ⟨rfl, rfl, rfl, rfl, by show T.pl ≤ T.pl ∧ T.pl ≤ T.pl + 1; omega⟩
  · rw [if_neg h, if_neg h]
    exact ⟨rfl, rfl, rfl, rfl, by omega⟩
section
variable {b g cap : Nat} {T : Tt}
theorem one_fire (w : World) (h : Tw w b g cap T) (hn : T.n = 1) (hr : Rm T.pl) (hm : Rm (T.ps 0).mis) (k n : Int) :
    (Calls Try.prog 12 #[.pointer (some ⟨b, 0, none⟩), .int .i64 1, .int .i64 k, .int .i64 n] w fun e w' => e = .returned (.bool ((T.ps 0).due k n)) ∧ Kept No w w') ∧
    ((T.ps 0).due k n = true → ∀ W, Kept No w W → Calls Try.prog 15 #[.pointer (some ⟨b, 0, none⟩), .int .i64 1, .int .i64 k, .int .i64 n] W fun e w' => e = .returned (.bool true) ∧ Tw w' b g cap (T.fire 0 k n) ∧ Kept (Bg b g) W w') :=
  ⟨due_any (i := 0) w h (by rw [hn]; omega) (by rw [hn]; omega) k n, fun hd W kW => fire_yes (i := 0) W (h.keep kW) (by rw [hn]; omega) (by rw [hn]; omega) hr hm k n hd⟩
set_option maxHeartbeats 2000000 in
theorem fired_any {w0 : World} (w : World) (h : Tn w0 w b g cap T) (hn : T.n = 1) (hr : Rm T.pl) (hm : Rm (T.ps 0).mis) (n : Int) (hm2 : Rm ((T.fm n).ps 0).mis) :
    Calls Try.prog 18 #[.pointer (some ⟨b, 0, none⟩), .int .i64 n] w fun e w' => e = .returned (.tuple #[.bool (((T.fm n).ps 0).due 2 n), .bool ((T.ps 0).due 1 n)]) ∧ Tn w0 w' b g cap ((T.fm n).fr n) ∧ Kept (Bg b g) w w' := by
  obtain ⟨d1, f1⟩ := one_fire w h.1 hn hr hm 1 n
  obtain ⟨p1, p2, p3, p4, p5⟩ := fm_ps T n
  have EU : T.fm n = if (T.ps 0).due 1 n then T.miss 0 else T := rfl
  have H1 : Hid (Tn w0 w b g cap T ∧ ∀ W, Tn w0 W b g cap (T.fm n) → (Calls Try.prog 12 #[.pointer (some ⟨b, 0, none⟩), .int .i64 1, .int .i64 2, .int .i64 n] W fun e w' => e = .returned (.bool (((T.fm n).ps 0).due 2 n)) ∧ Kept No W w') ∧ (((T.fm n).ps 0).due 2 n = true → ∀ W', Kept No W W' → Calls Try.prog 15 #[.pointer (some ⟨b, 0, none⟩), .int .i64 1, .int .i64 2, .int .i64 n] W' fun e w' => e = .returned (.bool true) ∧ Tw w' b g cap ((T.fm n).fire 0 2 n) ∧ Kept (Bg b g) W' w')) :=
    ⟨h, fun W t => one_fire W t.1 (by rw [p2]; exact hn) (by rw [p5]; exact hr) hm2 2 n⟩
  have ER : (T.fm n).fr n = if ((T.fm n).ps 0).due 2 n then (T.fm n).release 0 n else T.fm n := rfl
  clear p1 p2 p3 p4 p5 hr hm hm2 h
  generalize (T.fm n).fr n = Z at *
  have EF : ((T.fm n).fire 0 2 n) = (T.fm n).release 0 n := rfl
  rw [EF] at H1
  clear EF
  generalize (T.fm n).release 0 n = RL at *
  have EM : T.fire 0 1 n = T.miss 0 := rfl
  rw [EM] at f1
  clear EM
  generalize T.miss 0 = ML at *
  have HR : Hid (((T.fm n).ps 0).due 2 n = ((T.fm n).ps 0).due 2 n) := rfl
  generalize ((T.fm n).ps 0).due 2 n = rb at *
  generalize T.fm n = U at *
  generalize (T.ps 0).due 1 n = mb at *
  clear HR
  cases mb with
  | true =>
    obtain rfl : U = ML := EU
    have F1 : Hid (∀ W, Kept No w W → Calls Try.prog 15 #[.pointer (some ⟨b, 0, none⟩), .int .i64 1, .int .i64 1, .int .i64 n] W fun e w' => e = .returned (.bool true) ∧ Tw w' b g cap U ∧ Kept (Bg b g) W w') := f1 rfl
    clear f1
    go_enter Try.func18, Try.ntmps18
    go_upto_region 2 with (first
      | (go_at_call 12; refine d1.mono ?_; rintro e w1 ⟨rfl, k1⟩; have f1 := F1.out w1 k1; have K1 : Hid (Kept No w w1) := k1; clear d1 k1)
      | (go_at_call 15; refine f1.mono ?_; rintro e w2 ⟨rfl, t2, k2⟩; have H2 : Hid (Tn w0 w2 b g cap U ∧ Kept (Bg b g) w w2) := ⟨(H1.out.1.keep K1.out).step t2 k2, (K1.out.mono (fun _ e => e.elim)).trans k2 (fun _ e => .inl e)⟩; clear t2 k2 f1))
    obtain ⟨d2, f2⟩ := H1.out.2 w2 H2.out.1
    cases rb with
    | true =>
      obtain rfl : Z = RL := ER
      have F2 : Hid (∀ W', Kept No w2 W' → Calls Try.prog 15 #[.pointer (some ⟨b, 0, none⟩), .int .i64 1, .int .i64 2, .int .i64 n] W' fun e w' => e = .returned (.bool true) ∧ Tw w' b g cap Z ∧ Kept (Bg b g) W' w') := f2 rfl
      clear f2
      go_wp2_with (first
        | (go_at_call 12; refine d2.mono ?_; rintro e w3 ⟨rfl, k3⟩; have f3 := F2.out w3 k3; have K3 : Hid (Kept No w2 w3) := k3; clear d2 k3)
        | (go_at_call 15; refine f3.mono ?_; rintro e w4 ⟨rfl, t4, k4⟩; have H4 : Hid (Tn w0 w4 b g cap Z ∧ Kept (Bg b g) w w4) := ⟨(H2.out.1.keep K3.out).step t4 k4, (H2.out.2.trans K3.out (fun _ e => e.elim)).trans k4 (fun _ e => .inl e)⟩; clear t4 k4 f3))
      go_ret2
      exact ⟨rfl, H4.out⟩
    | false =>
      obtain rfl : Z = U := ER
      clear f2
      go_wp2_with (go_at_call 12; refine d2.mono ?_; rintro e w3 ⟨rfl, k3⟩; have H4 : Hid (Tn w0 w3 b g cap Z ∧ Kept (Bg b g) w w3) := ⟨H2.out.1.keep k3, H2.out.2.trans k3 (fun _ e => e.elim)⟩; clear d2 k3)
      go_ret2
      exact ⟨rfl, H4.out⟩
  | false =>
    obtain rfl : U = T := EU
    clear f1
    go_enter Try.func18, Try.ntmps18
    go_upto_region 2 with (go_at_call 12; refine d1.mono ?_; rintro e w2 ⟨rfl, k1⟩; have H2 : Hid (Tn w0 w2 b g cap U ∧ Kept (Bg b g) w w2) := ⟨H1.out.1.keep k1, k1.mono (fun _ e => e.elim)⟩; clear d1 k1)
    obtain ⟨d2, f2⟩ := H1.out.2 w2 H2.out.1
    cases rb with
    | true =>
      obtain rfl : Z = RL := ER
      have F2 : Hid (∀ W', Kept No w2 W' → Calls Try.prog 15 #[.pointer (some ⟨b, 0, none⟩), .int .i64 1, .int .i64 2, .int .i64 n] W' fun e w' => e = .returned (.bool true) ∧ Tw w' b g cap Z ∧ Kept (Bg b g) W' w') := f2 rfl
      clear f2
      go_wp2_with (first
        | (go_at_call 12; refine d2.mono ?_; rintro e w3 ⟨rfl, k3⟩; have f3 := F2.out w3 k3; have K3 : Hid (Kept No w2 w3) := k3; clear d2 k3)
        | (go_at_call 15; refine f3.mono ?_; rintro e w4 ⟨rfl, t4, k4⟩; have H4 : Hid (Tn w0 w4 b g cap Z ∧ Kept (Bg b g) w w4) := ⟨(H2.out.1.keep K3.out).step t4 k4, (H2.out.2.trans K3.out (fun _ e => e.elim)).trans k4 (fun _ e => .inl e)⟩; clear t4 k4 f3))
      go_ret2
      exact ⟨rfl, H4.out⟩
    | false =>
      obtain rfl : Z = U := ER
      clear f2
      go_wp2_with (go_at_call 12; refine d2.mono ?_; rintro e w3 ⟨rfl, k3⟩; have H4 : Hid (Tn w0 w3 b g cap Z ∧ Kept (Bg b g) w w3) := ⟨H2.out.1.keep k3, H2.out.2.trans k3 (fun _ e => e.elim)⟩; clear d2 k3)
      go_ret2
      exact ⟨rfl, H4.out⟩
end
end Go.Proofs.Ytofkacfchkimiaa
