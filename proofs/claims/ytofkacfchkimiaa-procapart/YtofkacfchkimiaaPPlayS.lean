/-
  plays: the calls that hand in neither words nor registers.
-/
import Derived.Test.YtofkacfchkimiaaPPlay
namespace Go.Proofs.Ytofkacfchkimiaa
open Go.RowKit Plain
set_option linter.unusedVariables false
set_option maxRecDepth 100000
section
variable {b g cap : Nat} {T : Tt} {da : Option Addr} {dn dc : Nat}
theorem plays_1 (w : World) (h : Tw w b g cap T) (hn : T.n ≤ 1048576) (hr : Rm T.pl) (p A B C D x y z : Int) :
    Calls Try.prog 29 #[.pointer (some ⟨b, 0, none⟩), .agg #[.int .i64 1, .int .i64 p, .int .i64 A, .int .i64 B, .int .i64 C, .int .i64 D, .int .i64 x, .int .i64 y, .int .i64 z, .slice da dn dc]] w (Does w b g cap T (T.cStart p A x y z)) := by
  have k1 : Kept No w (w.alloc (.cells #[.int .i64 1, .int .i64 p, .int .i64 A, .int .i64 B, .int .i64 C, .int .i64 D, .int .i64 x, .int .i64 y, .int .i64 z, .slice da dn dc] 77)) := (Kept.refl No w).alloc _
  have ct := start_does _ (h.keep k1) hn hr p A x y z
  have HK : Hid (Kept No w (w.alloc (.cells #[.int .i64 1, .int .i64 p, .int .i64 A, .int .i64 B, .int .i64 C, .int .i64 D, .int .i64 x, .int .i64 y, .int .i64 z, .slice da dn dc] 77))) := k1
  clear h k1 hr hn
  generalize T.cStart p A x y z = R at *
  go_enter Try.func29, Try.ntmps29
  go_wp2_with (go_at_call 10; refine ct.mono ?_; rintro e w2 ⟨rfl, t2, k2⟩; have H2 : Hid (Tw w2 b g cap (R.getD T) ∧ Kept (Bg b g) w w2) := ⟨t2, (HK.out.mono (fun _ e => e.elim)).trans k2 (fun _ e => .inl e)⟩; clear t2 k2 ct)
  go_ret
  exact ⟨rfl, H2.out⟩
theorem plays_2 (w : World) (h : Tw w b g cap T) (hn : T.n ≤ 1048576) (hr : Rm T.pl) (p A B C D x y z : Int) :
    Calls Try.prog 29 #[.pointer (some ⟨b, 0, none⟩), .agg #[.int .i64 2, .int .i64 p, .int .i64 A, .int .i64 B, .int .i64 C, .int .i64 D, .int .i64 x, .int .i64 y, .int .i64 z, .slice da dn dc]] w (Does w b g cap T (T.cStop p)) := by
  have k1 : Kept No w (w.alloc (.cells #[.int .i64 2, .int .i64 p, .int .i64 A, .int .i64 B, .int .i64 C, .int .i64 D, .int .i64 x, .int .i64 y, .int .i64 z, .slice da dn dc] 77)) := (Kept.refl No w).alloc _
  have ct := stop_does _ (h.keep k1) hn p
  have HK : Hid (Kept No w (w.alloc (.cells #[.int .i64 2, .int .i64 p, .int .i64 A, .int .i64 B, .int .i64 C, .int .i64 D, .int .i64 x, .int .i64 y, .int .i64 z, .slice da dn dc] 77))) := k1
  clear h k1 hr hn
  generalize T.cStop p = R at *
  go_enter Try.func29, Try.ntmps29
  go_wp2_with (go_at_call 54; refine ct.mono ?_; rintro e w2 ⟨rfl, t2, k2⟩; have H2 : Hid (Tw w2 b g cap (R.getD T) ∧ Kept (Bg b g) w w2) := ⟨t2, (HK.out.mono (fun _ e => e.elim)).trans k2 (fun _ e => .inl e)⟩; clear t2 k2 ct)
  go_ret
  exact ⟨rfl, H2.out⟩
theorem plays_3 (w : World) (h : Tw w b g cap T) (hn : T.n ≤ 1048576) (hr : Rm T.pl) (p A B C D x y z : Int) :
    Calls Try.prog 29 #[.pointer (some ⟨b, 0, none⟩), .agg #[.int .i64 3, .int .i64 p, .int .i64 A, .int .i64 B, .int .i64 C, .int .i64 D, .int .i64 x, .int .i64 y, .int .i64 z, .slice da dn dc]] w (Does w b g cap T (T.cSuspend p)) := by
  have k1 : Kept No w (w.alloc (.cells #[.int .i64 3, .int .i64 p, .int .i64 A, .int .i64 B, .int .i64 C, .int .i64 D, .int .i64 x, .int .i64 y, .int .i64 z, .slice da dn dc] 77)) := (Kept.refl No w).alloc _
  have ct := suspend_does _ (h.keep k1) hn hr p
  have HK : Hid (Kept No w (w.alloc (.cells #[.int .i64 3, .int .i64 p, .int .i64 A, .int .i64 B, .int .i64 C, .int .i64 D, .int .i64 x, .int .i64 y, .int .i64 z, .slice da dn dc] 77))) := k1
  clear h k1 hr hn
  generalize T.cSuspend p = R at *
  go_enter Try.func29, Try.ntmps29
  go_wp2_with (go_at_call 55; refine ct.mono ?_; rintro e w2 ⟨rfl, t2, k2⟩; have H2 : Hid (Tw w2 b g cap (R.getD T) ∧ Kept (Bg b g) w w2) := ⟨t2, (HK.out.mono (fun _ e => e.elim)).trans k2 (fun _ e => .inl e)⟩; clear t2 k2 ct)
  go_ret
  exact ⟨rfl, H2.out⟩
theorem plays_4 (w : World) (h : Tw w b g cap T) (hn : T.n ≤ 1048576) (hr : Rm T.pl) (p A B C D x y z : Int) :
    Calls Try.prog 29 #[.pointer (some ⟨b, 0, none⟩), .agg #[.int .i64 4, .int .i64 p, .int .i64 A, .int .i64 B, .int .i64 C, .int .i64 D, .int .i64 x, .int .i64 y, .int .i64 z, .slice da dn dc]] w (Does w b g cap T (T.cResume p)) := by
  have k1 : Kept No w (w.alloc (.cells #[.int .i64 4, .int .i64 p, .int .i64 A, .int .i64 B, .int .i64 C, .int .i64 D, .int .i64 x, .int .i64 y, .int .i64 z, .slice da dn dc] 77)) := (Kept.refl No w).alloc _
  have ct := resume_does _ (h.keep k1) hn hr p
  have HK : Hid (Kept No w (w.alloc (.cells #[.int .i64 4, .int .i64 p, .int .i64 A, .int .i64 B, .int .i64 C, .int .i64 D, .int .i64 x, .int .i64 y, .int .i64 z, .slice da dn dc] 77))) := k1
  clear h k1 hr hn
  generalize T.cResume p = R at *
  go_enter Try.func29, Try.ntmps29
  go_wp2_with (go_at_call 56; refine ct.mono ?_; rintro e w2 ⟨rfl, t2, k2⟩; have H2 : Hid (Tw w2 b g cap (R.getD T) ∧ Kept (Bg b g) w w2) := ⟨t2, (HK.out.mono (fun _ e => e.elim)).trans k2 (fun _ e => .inl e)⟩; clear t2 k2 ct)
  go_ret
  exact ⟨rfl, H2.out⟩
theorem plays_5 (w : World) (h : Tw w b g cap T) (hn : T.n ≤ 1048576) (hr : Rm T.pl) (p A B C D x y z : Int) :
    Calls Try.prog 29 #[.pointer (some ⟨b, 0, none⟩), .agg #[.int .i64 5, .int .i64 p, .int .i64 A, .int .i64 B, .int .i64 C, .int .i64 D, .int .i64 x, .int .i64 y, .int .i64 z, .slice da dn dc]] w (Does w b g cap T (T.cLock p)) := by
  have k1 : Kept No w (w.alloc (.cells #[.int .i64 5, .int .i64 p, .int .i64 A, .int .i64 B, .int .i64 C, .int .i64 D, .int .i64 x, .int .i64 y, .int .i64 z, .slice da dn dc] 77)) := (Kept.refl No w).alloc _
  have ct := lock_does _ (h.keep k1) hn p
  have HK : Hid (Kept No w (w.alloc (.cells #[.int .i64 5, .int .i64 p, .int .i64 A, .int .i64 B, .int .i64 C, .int .i64 D, .int .i64 x, .int .i64 y, .int .i64 z, .slice da dn dc] 77))) := k1
  clear h k1 hr hn
  generalize T.cLock p = R at *
  go_enter Try.func29, Try.ntmps29
  go_wp2_with (go_at_call 57; refine ct.mono ?_; rintro e w2 ⟨rfl, t2, k2⟩; have H2 : Hid (Tw w2 b g cap (R.getD T) ∧ Kept (Bg b g) w w2) := ⟨t2, (HK.out.mono (fun _ e => e.elim)).trans k2 (fun _ e => .inl e)⟩; clear t2 k2 ct)
  go_ret
  exact ⟨rfl, H2.out⟩
theorem plays_6 (w : World) (h : Tw w b g cap T) (hn : T.n ≤ 1048576) (hr : Rm T.pl) (p A B C D x y z : Int) :
    Calls Try.prog 29 #[.pointer (some ⟨b, 0, none⟩), .agg #[.int .i64 6, .int .i64 p, .int .i64 A, .int .i64 B, .int .i64 C, .int .i64 D, .int .i64 x, .int .i64 y, .int .i64 z, .slice da dn dc]] w (Does w b g cap T (T.cUnlock p)) := by
  have k1 : Kept No w (w.alloc (.cells #[.int .i64 6, .int .i64 p, .int .i64 A, .int .i64 B, .int .i64 C, .int .i64 D, .int .i64 x, .int .i64 y, .int .i64 z, .slice da dn dc] 77)) := (Kept.refl No w).alloc _
  have ct := unlock_does _ (h.keep k1) hn p
  have HK : Hid (Kept No w (w.alloc (.cells #[.int .i64 6, .int .i64 p, .int .i64 A, .int .i64 B, .int .i64 C, .int .i64 D, .int .i64 x, .int .i64 y, .int .i64 z, .slice da dn dc] 77))) := k1
  clear h k1 hr hn
  generalize T.cUnlock p = R at *
  go_enter Try.func29, Try.ntmps29
  go_wp2_with (go_at_call 58; refine ct.mono ?_; rintro e w2 ⟨rfl, t2, k2⟩; have H2 : Hid (Tw w2 b g cap (R.getD T) ∧ Kept (Bg b g) w w2) := ⟨t2, (HK.out.mono (fun _ e => e.elim)).trans k2 (fun _ e => .inl e)⟩; clear t2 k2 ct)
  go_ret
  exact ⟨rfl, H2.out⟩
theorem plays_7 (w : World) (h : Tw w b g cap T) (hn : T.n ≤ 1048576) (hr : Rm T.pl) (p A B C D x y z : Int) :
    Calls Try.prog 29 #[.pointer (some ⟨b, 0, none⟩), .agg #[.int .i64 7, .int .i64 p, .int .i64 A, .int .i64 B, .int .i64 C, .int .i64 D, .int .i64 x, .int .i64 y, .int .i64 z, .slice da dn dc]] w (Does w b g cap T (T.cPrio p A)) := by
  have k1 : Kept No w (w.alloc (.cells #[.int .i64 7, .int .i64 p, .int .i64 A, .int .i64 B, .int .i64 C, .int .i64 D, .int .i64 x, .int .i64 y, .int .i64 z, .slice da dn dc] 77)) := (Kept.refl No w).alloc _
  have ct := prio_does _ (h.keep k1) hn hr p A
  have HK : Hid (Kept No w (w.alloc (.cells #[.int .i64 7, .int .i64 p, .int .i64 A, .int .i64 B, .int .i64 C, .int .i64 D, .int .i64 x, .int .i64 y, .int .i64 z, .slice da dn dc] 77))) := k1
  clear h k1 hr hn
  generalize T.cPrio p A = R at *
  go_enter Try.func29, Try.ntmps29
  go_wp2_with (go_at_call 59; refine ct.mono ?_; rintro e w2 ⟨rfl, t2, k2⟩; have H2 : Hid (Tw w2 b g cap (R.getD T) ∧ Kept (Bg b g) w w2) := ⟨t2, (HK.out.mono (fun _ e => e.elim)).trans k2 (fun _ e => .inl e)⟩; clear t2 k2 ct)
  go_ret
  exact ⟨rfl, H2.out⟩
theorem plays_8 (w : World) (h : Tw w b g cap T) (hn : T.n ≤ 1048576) (hr : Rm T.pl) (p A B C D x y z : Int) :
    Calls Try.prog 29 #[.pointer (some ⟨b, 0, none⟩), .agg #[.int .i64 8, .int .i64 p, .int .i64 A, .int .i64 B, .int .i64 C, .int .i64 D, .int .i64 x, .int .i64 y, .int .i64 z, .slice da dn dc]] w (Does w b g cap T (T.cYield p)) := by
  have k1 : Kept No w (w.alloc (.cells #[.int .i64 8, .int .i64 p, .int .i64 A, .int .i64 B, .int .i64 C, .int .i64 D, .int .i64 x, .int .i64 y, .int .i64 z, .slice da dn dc] 77)) := (Kept.refl No w).alloc _
  have ct := yield_does _ (h.keep k1) hn hr p
  have HK : Hid (Kept No w (w.alloc (.cells #[.int .i64 8, .int .i64 p, .int .i64 A, .int .i64 B, .int .i64 C, .int .i64 D, .int .i64 x, .int .i64 y, .int .i64 z, .slice da dn dc] 77))) := k1
  clear h k1 hr hn
  generalize T.cYield p = R at *
  go_enter Try.func29, Try.ntmps29
  go_wp2_with (go_at_call 23; refine ct.mono ?_; rintro e w2 ⟨rfl, t2, k2⟩; have H2 : Hid (Tw w2 b g cap (R.getD T) ∧ Kept (Bg b g) w w2) := ⟨t2, (HK.out.mono (fun _ e => e.elim)).trans k2 (fun _ e => .inl e)⟩; clear t2 k2 ct)
  go_ret
  exact ⟨rfl, H2.out⟩
theorem plays_10 (w : World) (h : Tw w b g cap T) (hn : T.n ≤ 1048576) (hr : Rm T.pl) (h1 : ∀ i, i < T.n → I64 (T.ps i).rel ∧ I64 (T.ps i).per) (p A B C D x y z : Int) :
    Calls Try.prog 29 #[.pointer (some ⟨b, 0, none⟩), .agg #[.int .i64 10, .int .i64 p, .int .i64 A, .int .i64 B, .int .i64 C, .int .i64 D, .int .i64 x, .int .i64 y, .int .i64 z, .slice da dn dc]] w (Does w b g cap T (T.cPeriod p A)) := by
  have k1 : Kept No w (w.alloc (.cells #[.int .i64 10, .int .i64 p, .int .i64 A, .int .i64 B, .int .i64 C, .int .i64 D, .int .i64 x, .int .i64 y, .int .i64 z, .slice da dn dc] 77)) := (Kept.refl No w).alloc _
  have ct := period_does _ (h.keep k1) hn hr h1 p A
  have HK : Hid (Kept No w (w.alloc (.cells #[.int .i64 10, .int .i64 p, .int .i64 A, .int .i64 B, .int .i64 C, .int .i64 D, .int .i64 x, .int .i64 y, .int .i64 z, .slice da dn dc] 77))) := k1
  clear h k1 hr hn
  generalize T.cPeriod p A = R at *
  go_enter Try.func29, Try.ntmps29
  go_wp2_with (go_at_call 21; refine ct.mono ?_; rintro e w2 ⟨rfl, t2, k2⟩; have H2 : Hid (Tw w2 b g cap (R.getD T) ∧ Kept (Bg b g) w w2) := ⟨t2, (HK.out.mono (fun _ e => e.elim)).trans k2 (fun _ e => .inl e)⟩; clear t2 k2 ct)
  go_ret
  exact ⟨rfl, H2.out⟩
theorem plays_11 (w : World) (h : Tw w b g cap T) (hn : T.n ≤ 1048576) (hr : Rm T.pl) (p A B C D x y z : Int) :
    Calls Try.prog 29 #[.pointer (some ⟨b, 0, none⟩), .agg #[.int .i64 11, .int .i64 p, .int .i64 A, .int .i64 B, .int .i64 C, .int .i64 D, .int .i64 x, .int .i64 y, .int .i64 z, .slice da dn dc]] w (Does w b g cap T (T.cWake p x)) := by
  have k1 : Kept No w (w.alloc (.cells #[.int .i64 11, .int .i64 p, .int .i64 A, .int .i64 B, .int .i64 C, .int .i64 D, .int .i64 x, .int .i64 y, .int .i64 z, .slice da dn dc] 77)) := (Kept.refl No w).alloc _
  have ct := wake_does _ (h.keep k1) hn hr p x
  have HK : Hid (Kept No w (w.alloc (.cells #[.int .i64 11, .int .i64 p, .int .i64 A, .int .i64 B, .int .i64 C, .int .i64 D, .int .i64 x, .int .i64 y, .int .i64 z, .slice da dn dc] 77))) := k1
  clear h k1 hr hn
  generalize T.cWake p x = R at *
  go_enter Try.func29, Try.ntmps29
  go_wp2_with (go_at_call 14; refine ct.mono ?_; rintro e w2 ⟨rfl, t2, k2⟩; have H2 : Hid (Tw w2 b g cap (R.getD T) ∧ Kept (Bg b g) w w2) := ⟨t2, (HK.out.mono (fun _ e => e.elim)).trans k2 (fun _ e => .inl e)⟩; clear t2 k2 ct)
  go_ret
  exact ⟨rfl, H2.out⟩
theorem plays_13 (w : World) (h : Tw w b g cap T) (hn : T.n ≤ 1048576) (hr : Rm T.pl) (hm : ∀ i, i < T.n → Rm (T.ps i).mis) (p A B C D x y z : Int) :
    Calls Try.prog 29 #[.pointer (some ⟨b, 0, none⟩), .agg #[.int .i64 13, .int .i64 p, .int .i64 A, .int .i64 B, .int .i64 C, .int .i64 D, .int .i64 x, .int .i64 y, .int .i64 z, .slice da dn dc]] w (Does w b g cap T (T.cFire p A B)) := by
  have k1 : Kept No w (w.alloc (.cells #[.int .i64 13, .int .i64 p, .int .i64 A, .int .i64 B, .int .i64 C, .int .i64 D, .int .i64 x, .int .i64 y, .int .i64 z, .slice da dn dc] 77)) := (Kept.refl No w).alloc _
  have ct := fire_does _ (h.keep k1) hn hr hm p A B
  have HK : Hid (Kept No w (w.alloc (.cells #[.int .i64 13, .int .i64 p, .int .i64 A, .int .i64 B, .int .i64 C, .int .i64 D, .int .i64 x, .int .i64 y, .int .i64 z, .slice da dn dc] 77))) := k1
  clear h k1 hr hn
  generalize T.cFire p A B = R at *
  go_enter Try.func29, Try.ntmps29
  go_wp2_with (go_at_call 15; refine ct.mono ?_; rintro e w2 ⟨rfl, t2, k2⟩; have H2 : Hid (Tw w2 b g cap (R.getD T) ∧ Kept (Bg b g) w w2) := ⟨t2, (HK.out.mono (fun _ e => e.elim)).trans k2 (fun _ e => .inl e)⟩; clear t2 k2 ct)
  go_ret
  exact ⟨rfl, H2.out⟩
theorem plays_none (w : World) (h : Tw w b g cap T) (K p A B C D x y z : Int) (hK : K < 1 ∨ 13 < K) :
    Calls Try.prog 29 #[.pointer (some ⟨b, 0, none⟩), .agg #[.int .i64 K, .int .i64 p, .int .i64 A, .int .i64 B, .int .i64 C, .int .i64 D, .int .i64 x, .int .i64 y, .int .i64 z, .slice da dn dc]] w (Does w b g cap T none) := by
  refine does_no h ?_
  have HK : Hid (Kept No w (w.alloc (.cells #[.int .i64 K, .int .i64 p, .int .i64 A, .int .i64 B, .int .i64 C, .int .i64 D, .int .i64 x, .int .i64 y, .int .i64 z, .slice da dn dc] 77))) := (Kept.refl No w).alloc _
  have n1 : (K == 1) = false := by simp; omega
  have n2 : (K == 2) = false := by simp; omega
  have n3 : (K == 3) = false := by simp; omega
  have n4 : (K == 4) = false := by simp; omega
  have n5 : (K == 5) = false := by simp; omega
  have n6 : (K == 6) = false := by simp; omega
  have n7 : (K == 7) = false := by simp; omega
  have n8 : (K == 8) = false := by simp; omega
  have n9 : (K == 9) = false := by simp; omega
  have n10 : (K == 10) = false := by simp; omega
  have n11 : (K == 11) = false := by simp; omega
  have n12 : (K == 12) = false := by simp; omega
  have n13 : (K == 13) = false := by simp; omega
  clear h hK
  go_enter Try.func29, Try.ntmps29
  go_wp2
  go_ret
  exact ⟨rfl, HK.out⟩
end
end Go.Proofs.Ytofkacfchkimiaa
