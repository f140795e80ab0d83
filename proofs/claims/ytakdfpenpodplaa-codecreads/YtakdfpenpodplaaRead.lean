/-
  One call on the program's Reader and on the document's.
-/
import Derived.Test.YtakdfpenpodplaaListed
import Derived.Test.YtakdfpenpodplaaGetLists
import Derived.Test.YtakdfpenpodplaaMarks2
import Derived.Test.YtakdfpenpodplaaAgainWalk
import Derived.Deep.DeepCutAuto
namespace Go.Proofs.Ytakdfpenpodplaa
open Go.RowKit
set_option linter.unusedVariables false

/-- behind an operation: what is left, the fault -/
def rO (xs : List Nat) (e K N M : Int) : List Nat × Int :=
  if K = 1 then (tkRest xs e 1, tkE xs e 1) else if K = 2 then (tkRest xs e 2, tkE xs e 2) else if K = 3 then (tkRest xs e 4, tkE xs e 4) else if K = 4 then (tkRest xs e 8, tkE xs e 8)
  else if K = 5 then (rbRest xs e, rbE xs e) else if K = 6 then (tkRest xs e N, tkE xs e N) else if K = 7 then (glRest xs e M, glE xs e M) else (xs, e)

/-- both have done it -/
def Both (F G : Nat → Prop) (p q : Nat) (xs' : List Nat) (e' : Int) (w w' : World) : Prop := Rd w' F p xs' e' ∧ Il w' G q xs' e' ∧ Kept (fun k => k = p ∨ k = q) w w'

theorem both_of {F G : Nat → Prop} {p q : Nat} {xs' : List Nat} {e' : Int} {w w0 w1 w2 : World} (D : ∀ k, F k → ¬ G k) (k0 : Kept No w w0) (hR : RdDid F p xs' e' w0 w1) (hI : IlDid G q xs' e' w1 w2) : Both F G p q xs' e' w w2 := by
  have hq : G q := by obtain ⟨⟨a, n, c, bs, m, hv, _⟩, _⟩ := hI; exact hv.fp
  refine ⟨hR.1.kept hI.2.1 (fun b hb e => D b hb (e ▸ hq)), hI.1, ?_⟩
  exact ((k0.mono (G := fun k => k = p ∨ k = q) (fun k h => h.elim)).trans hR.2 (fun k h => .inl (.inl h))).trans hI.2.1 (fun k h => .inl (.inr h))
theorem Both.later {F G : Nat → Prop} {p q : Nat} {xs' : List Nat} {e' : Int} {w w2 w3 : World} {H : Nat → Prop} (h : Both F G p q xs' e' w w2) (k : Kept H w2 w3) (h1 : ∀ b, F b → ¬ H b) (h2 : ∀ b, G b → ¬ H b) (h3 : ∀ b, H b → w.heap.size ≤ b) : Both F G p q xs' e' w w3 :=
  ⟨h.1.kept k h1, h.2.1.kept k h2, h.2.2.trans k (fun b hb => .inr (h3 b hb))⟩
theorem Both.drewN {F G : Nat → Prop} {p q : Nat} {xs' : List Nat} {e' : Int} {w w2 : World} (h : Both F G p q xs' e' w w2) (n : Nat) : Both F G p q xs' e' w (w2.drewN n) :=
  h.later ((Kept.refl No w2).drewN n) (fun _ _ h => h) (fun _ _ h => h) (fun _ h => h.elim)
theorem Rd.alloc {w : World} {F : Nat → Prop} {p : Nat} {xs : List Nat} {e : Int} (h : Rd w F p xs e) (o : Obj) : Rd (w.alloc o) F p xs e := h.kept ((Kept.refl No w).alloc o) (fun _ _ h => h)
theorem Il.alloc {w : World} {F : Nat → Prop} {p : Nat} {xs : List Nat} {e : Int} (h : Il w F p xs e) (o : Obj) : Il (w.alloc o) F p xs e := h.kept ((Kept.refl No w).alloc o) (fun _ _ h => h)
theorem Il.fp {w : World} {F : Nat → Prop} {p : Nat} {xs : List Nat} {e : Int} (h : Il w F p xs e) : F p := by obtain ⟨a, n, c, bs, m, hv, _⟩ := h; exact hv.fp
theorem Il.rd {w w1 : World} {F G : Nat → Prop} {p q : Nat} {xs ys : List Nat} {e e' : Int} (h : Il w G q xs e) (D : ∀ k, F k → ¬ G k) (hR : RdDid F p ys e' w w1) : Il w1 G q xs e := h.kept hR.2 (fun b hb e => by subst e; exact D b hR.fp hb)

abbrev opC (K N Wd : Int) (Fl : Bool) (ba : Option Addr) (bn bc : Nat) (la : Option Addr) (ln lc : Nat) (M : Int) : Obj := .cells #[.int .i64 K, .int .i64 N, .int .i64 Wd, .bool Fl, .slice ba bn bc, .slice la ln lc, .int .i64 M] 43

set_option maxHeartbeats 4000000 in
set_option maxRecDepth 100000 in
theorem read1 (F G : Nat → Prop) (p q : Nat) (xs : List Nat) (e N Wd : Int) (Fl : Bool) (ba : Option Addr) (bn bc : Nat) (la : Option Addr) (ln lc : Nat) (M : Int) (w : World) (hR : Rd w F p xs e) (hI : Il w G q xs e) (D : ∀ k, F k → ¬ G k) :
    Calls Try.prog 39 #[.pointer (some ⟨p, 0, none⟩), .pointer (some ⟨q, 0, none⟩), opV 1 N Wd Fl ba bn bc la ln lc M] w fun ex w' => ex = .returned (.bool true) ∧ Both F G p q (tkRest xs e 1) (tkE xs e 1) w w' := by
  have c1 := ru8_any F p xs e (w.alloc (opC 1 N Wd Fl ba bn bc la ln lc M)) (hR.alloc _)
  have c2 : ∀ w1, RdDid F p (tkRest xs e 1) (tkE xs e 1) (w.alloc (opC 1 N Wd Fl ba bn bc la ln lc M)) w1 → _ := fun w1 h => inU8_any G q xs e w1 ((hI.alloc (opC 1 N Wd Fl ba bn bc la ln lc M)).rd D h)
  obtain ⟨X, hX⟩ : ∃ X, X = rdN xs e 1 := ⟨_, rfl⟩
  rw [← hX] at c1 c2
  have HD : Hid (∀ k, F k → ¬ G k) := D
  clear hR hI D hX
  unfold opV
  go_enter Try.func39, Try.ntmps39
  go_wp2_with (first
    | (go_at_call 24; refine c1.mono ?_; rintro ex w1 ⟨rfl, hd1⟩)
    | (go_at_call 68; refine (c2 _ hd1).mono ?_; rintro ex w2 ⟨rfl, hd2⟩))
  go_ret
  exact ⟨by simp, both_of HD.out ((Kept.refl No w).alloc _) hd1 hd2⟩

set_option maxHeartbeats 4000000 in
set_option maxRecDepth 100000 in
theorem read2 (F G : Nat → Prop) (p q : Nat) (xs : List Nat) (e N Wd : Int) (Fl : Bool) (ba : Option Addr) (bn bc : Nat) (la : Option Addr) (ln lc : Nat) (M : Int) (w : World) (hR : Rd w F p xs e) (hI : Il w G q xs e) (D : ∀ k, F k → ¬ G k) :
    Calls Try.prog 39 #[.pointer (some ⟨p, 0, none⟩), .pointer (some ⟨q, 0, none⟩), opV 2 N Wd Fl ba bn bc la ln lc M] w fun ex w' => ex = .returned (.bool true) ∧ Both F G p q (tkRest xs e 2) (tkE xs e 2) w w' := by
  have c1 := ru16_any F p xs e (w.alloc (opC 2 N Wd Fl ba bn bc la ln lc M)) (hR.alloc _)
  have c2 : ∀ w1, RdDid F p (tkRest xs e 2) (tkE xs e 2) (w.alloc (opC 2 N Wd Fl ba bn bc la ln lc M)) w1 → _ := fun w1 h => inU16_any G q xs e w1 ((hI.alloc (opC 2 N Wd Fl ba bn bc la ln lc M)).rd D h)
  obtain ⟨X, hX⟩ : ∃ X, X = rdN xs e 2 := ⟨_, rfl⟩
  rw [← hX] at c1 c2
  have HD : Hid (∀ k, F k → ¬ G k) := D
  clear hR hI D hX
  unfold opV
  go_enter Try.func39, Try.ntmps39
  go_wp2_with (first
    | (go_at_call 25; refine c1.mono ?_; rintro ex w1 ⟨rfl, hd1⟩)
    | (go_at_call 69; refine (c2 _ hd1).mono ?_; rintro ex w2 ⟨rfl, hd2⟩))
  go_ret
  exact ⟨by simp, both_of HD.out ((Kept.refl No w).alloc _) hd1 hd2⟩

set_option maxHeartbeats 4000000 in
set_option maxRecDepth 100000 in
theorem read3 (F G : Nat → Prop) (p q : Nat) (xs : List Nat) (e N Wd : Int) (Fl : Bool) (ba : Option Addr) (bn bc : Nat) (la : Option Addr) (ln lc : Nat) (M : Int) (w : World) (hR : Rd w F p xs e) (hI : Il w G q xs e) (D : ∀ k, F k → ¬ G k) :
    Calls Try.prog 39 #[.pointer (some ⟨p, 0, none⟩), .pointer (some ⟨q, 0, none⟩), opV 3 N Wd Fl ba bn bc la ln lc M] w fun ex w' => ex = .returned (.bool true) ∧ Both F G p q (tkRest xs e 4) (tkE xs e 4) w w' := by
  have c1 := ru32_any F p xs e (w.alloc (opC 3 N Wd Fl ba bn bc la ln lc M)) (hR.alloc _)
  have c2 : ∀ w1, RdDid F p (tkRest xs e 4) (tkE xs e 4) (w.alloc (opC 3 N Wd Fl ba bn bc la ln lc M)) w1 → _ := fun w1 h => inU32_any G q xs e w1 ((hI.alloc (opC 3 N Wd Fl ba bn bc la ln lc M)).rd D h)
  obtain ⟨X, hX⟩ : ∃ X, X = rdN xs e 4 := ⟨_, rfl⟩
  rw [← hX] at c1 c2
  have HD : Hid (∀ k, F k → ¬ G k) := D
  clear hR hI D hX
  unfold opV
  go_enter Try.func39, Try.ntmps39
  go_wp2_with (first
    | (go_at_call 26; refine c1.mono ?_; rintro ex w1 ⟨rfl, hd1⟩)
    | (go_at_call 70; refine (c2 _ hd1).mono ?_; rintro ex w2 ⟨rfl, hd2⟩))
  go_ret
  exact ⟨by simp, both_of HD.out ((Kept.refl No w).alloc _) hd1 hd2⟩

set_option maxHeartbeats 4000000 in
set_option maxRecDepth 100000 in
theorem read4 (F G : Nat → Prop) (p q : Nat) (xs : List Nat) (e N Wd : Int) (Fl : Bool) (ba : Option Addr) (bn bc : Nat) (la : Option Addr) (ln lc : Nat) (M : Int) (w : World) (hR : Rd w F p xs e) (hI : Il w G q xs e) (D : ∀ k, F k → ¬ G k) :
    Calls Try.prog 39 #[.pointer (some ⟨p, 0, none⟩), .pointer (some ⟨q, 0, none⟩), opV 4 N Wd Fl ba bn bc la ln lc M] w fun ex w' => ex = .returned (.bool true) ∧ Both F G p q (tkRest xs e 8) (tkE xs e 8) w w' := by
  have c1 := ri64_any F p xs e (w.alloc (opC 4 N Wd Fl ba bn bc la ln lc M)) (hR.alloc _)
  have c2 : ∀ w1, RdDid F p (tkRest xs e 8) (tkE xs e 8) (w.alloc (opC 4 N Wd Fl ba bn bc la ln lc M)) w1 → _ := fun w1 h => inI64_any G q xs e w1 ((hI.alloc (opC 4 N Wd Fl ba bn bc la ln lc M)).rd D h)
  obtain ⟨X, hX⟩ : ∃ X, X = rdI xs e := ⟨_, rfl⟩
  rw [← hX] at c1 c2
  have HD : Hid (∀ k, F k → ¬ G k) := D
  clear hR hI D hX
  unfold opV
  go_enter Try.func39, Try.ntmps39
  go_wp2_with (first
    | (go_at_call 27; refine c1.mono ?_; rintro ex w1 ⟨rfl, hd1⟩)
    | (go_at_call 71; refine (c2 _ hd1).mono ?_; rintro ex w2 ⟨rfl, hd2⟩))
  go_ret
  exact ⟨by simp, both_of HD.out ((Kept.refl No w).alloc _) hd1 hd2⟩

set_option maxHeartbeats 4000000 in
set_option maxRecDepth 100000 in
theorem read5 (F G : Nat → Prop) (p q : Nat) (xs : List Nat) (e N Wd : Int) (Fl : Bool) (ba : Option Addr) (bn bc : Nat) (la : Option Addr) (ln lc : Nat) (M : Int) (w : World) (hR : Rd w F p xs e) (hI : Il w G q xs e) (D : ∀ k, F k → ¬ G k) :
    Calls Try.prog 39 #[.pointer (some ⟨p, 0, none⟩), .pointer (some ⟨q, 0, none⟩), opV 5 N Wd Fl ba bn bc la ln lc M] w fun ex w' => ex = .returned (.bool true) ∧ Both F G p q (rbRest xs e) (rbE xs e) w w' := by
  have c1 := rbool_any F p xs e (w.alloc (opC 5 N Wd Fl ba bn bc la ln lc M)) (hR.alloc _)
  have c2 : ∀ w1, RdDid F p (rbRest xs e) (rbE xs e) (w.alloc (opC 5 N Wd Fl ba bn bc la ln lc M)) w1 → _ := fun w1 h => inBool_any G q xs e w1 ((hI.alloc (opC 5 N Wd Fl ba bn bc la ln lc M)).rd D h)
  obtain ⟨X, hX⟩ : ∃ X, X = rbV xs e := ⟨_, rfl⟩
  rw [← hX] at c1 c2
  have HD : Hid (∀ k, F k → ¬ G k) := D
  clear hR hI D hX
  unfold opV
  go_enter Try.func39, Try.ntmps39
  go_wp2_with (first
    | (go_at_call 28; refine c1.mono ?_; rintro ex w1 ⟨rfl, hd1⟩)
    | (go_at_call 72; refine (c2 _ hd1).mono ?_; rintro ex w2 ⟨rfl, hd2⟩))
  go_ret
  exact ⟨by simp, both_of HD.out ((Kept.refl No w).alloc _) hd1 hd2⟩

set_option maxHeartbeats 4000000 in
set_option maxRecDepth 100000 in
theorem read8 (F G : Nat → Prop) (p q : Nat) (xs : List Nat) (e N Wd : Int) (Fl : Bool) (ba : Option Addr) (bn bc : Nat) (la : Option Addr) (ln lc : Nat) (M : Int) (w : World) (hR : Rd w F p xs e) (hI : Il w G q xs e) (D : ∀ k, F k → ¬ G k) :
    Calls Try.prog 39 #[.pointer (some ⟨p, 0, none⟩), .pointer (some ⟨q, 0, none⟩), opV 8 N Wd Fl ba bn bc la ln lc M] w fun ex w' => ex = .returned (.bool true) ∧ Both F G p q xs e w w' := by
  have hR0 := hR.alloc (opC 8 N Wd Fl ba bn bc la ln lc M)
  have hI0 := hI.alloc (opC 8 N Wd Fl ba bn bc la ln lc M)
  have c33 := fun n => rdone_any F p xs e ((w.alloc (opC 8 N Wd Fl ba bn bc la ln lc M)).drewN n) (hR0.drewN n)
  have c40 := fun n => inDone_any G q xs e ((w.alloc (opC 8 N Wd Fl ba bn bc la ln lc M)).drewN n) (hI0.drewN n)
  have c38 := fun n => left_any F p xs e ((w.alloc (opC 8 N Wd Fl ba bn bc la ln lc M)).drewN n) (hR0.drewN n)
  have c41 := fun n => inLeft_any G q xs e ((w.alloc (opC 8 N Wd Fl ba bn bc la ln lc M)).drewN n) (hI0.drewN n)
  obtain ⟨X, hX⟩ : ∃ X, X = rdDone xs e := ⟨_, rfl⟩
  rw [← hX] at c33 c40
  obtain ⟨L, hL⟩ : ∃ L, L = xs.length := ⟨_, rfl⟩
  rw [← hL] at c38 c41
  have HR0 : Hid (Rd (w.alloc (opC 8 N Wd Fl ba bn bc la ln lc M)) F p xs e) := hR0
  have HI0 : Hid (Il (w.alloc (opC 8 N Wd Fl ba bn bc la ln lc M)) G q xs e) := hI0
  obtain ⟨W0, hW0⟩ : ∃ W0, W0 = w.alloc (opC 8 N Wd Fl ba bn bc la ln lc M) := ⟨_, rfl⟩
  have HK0 : Hid (Kept (fun k => k = p ∨ k = q) w W0) := (show Kept (fun k => k = p ∨ k = q) w W0 by rw [hW0]; exact (Kept.refl _ w).alloc _)
  rw [← hW0] at c33 c40 c38 c41 HR0 HI0
  have c33a := c33 0
  rw [show W0.drewN 0 = W0 from rfl] at c33a
  clear hR hI D hX hL hR0 hI0 c33
  unfold opV
  go_enter Try.func39, Try.ntmps39
  go_upto_region 30 with fail
  rw [← hW0]
  clear hW0
  go_wp2_with (first
    | (go_at_call 33; refine c33a.mono ?_; rintro ex w1 ⟨rfl, n1, rfl⟩)
    | (go_at_call 40; refine (c40 _).mono ?_; rintro ex w2 ⟨rfl, n2, rfl⟩; rw [drewN_add])
    | (go_at_call 38; refine (c38 _).mono ?_; rintro ex w3 ⟨rfl, hw⟩; obtain rfl := hw.symm)
    | (go_at_call 41; refine (c41 _).mono ?_; rintro ex w4 ⟨rfl, n4, rfl⟩; rw [drewN_add]))
  go_ret
  exact ⟨by simp, HR0.out.drewN _, HI0.out.drewN _, HK0.out.drewN _⟩

theorem readElse (F G : Nat → Prop) (p q : Nat) (xs : List Nat) (e N Wd : Int) (Fl : Bool) (ba : Option Addr) (bn bc : Nat) (la : Option Addr) (ln lc : Nat) (M : Int) (w : World) (hR : Rd w F p xs e) (hI : Il w G q xs e) (D : ∀ k, F k → ¬ G k) (K : Int) (n1 : ¬ K = 1) (n2 : ¬ K = 2) (n3 : ¬ K = 3) (n4 : ¬ K = 4) (n5 : ¬ K = 5) (n6 : ¬ K = 6) (n7 : ¬ K = 7) (n8 : ¬ K = 8) :
    Calls Try.prog 39 #[.pointer (some ⟨p, 0, none⟩), .pointer (some ⟨q, 0, none⟩), opV K N Wd Fl ba bn bc la ln lc M] w fun ex w' => ex = .returned (.bool true) ∧ Both F G p q xs e w w' := by
  have q1 : (K == 1) = false := by simpa using n1
  have q2 : (K == 2) = false := by simpa using n2
  have q3 : (K == 3) = false := by simpa using n3
  have q4 : (K == 4) = false := by simpa using n4
  have q5 : (K == 5) = false := by simpa using n5
  have q6 : (K == 6) = false := by simpa using n6
  have q7 : (K == 7) = false := by simpa using n7
  have q8 : (K == 8) = false := by simpa using n8
  have HR : Hid (Rd w F p xs e) := hR
  have HI : Hid (Il w G q xs e) := hI
  clear hR hI D n1 n2 n3 n4 n5 n6 n7 n8
  unfold opV
  go_enter Try.func39, Try.ntmps39
  go_wp2
  go_ret
  exact ⟨rfl, HR.out.alloc _, HI.out.alloc _, (Kept.refl _ w).alloc _⟩

set_option maxHeartbeats 4000000 in
set_option maxRecDepth 100000 in
theorem read6 (F G : Nat → Prop) (p q : Nat) (xs : List Nat) (e N Wd : Int) (Fl : Bool) (ba : Option Addr) (bn bc : Nat) (la : Option Addr) (ln lc : Nat) (M : Int) (w : World) (hR : Rd w F p xs e) (hI : Il w G q xs e) (D : ∀ k, F k → ¬ G k) (hsz : xs.length ≤ 140737488351232) (hGw : ∀ k, G k → k < w.heap.size) :
    Calls Try.prog 39 #[.pointer (some ⟨p, 0, none⟩), .pointer (some ⟨q, 0, none⟩), opV 6 N Wd Fl ba bn bc la ln lc M] w fun ex w' => ex = .returned (.bool true) ∧ Both F G p q (tkRest xs e N) (tkE xs e N) w w' := by
  have hFw : ∀ k, F k → k < w.heap.size := by obtain ⟨a, n, c, hv⟩ := hR; exact hv.flt
  have c29 := rbytes_any F p xs e N (w.alloc (opC 6 N Wd Fl ba bn bc la ln lc M)) (hR.alloc _) (by omega)
  have c73 : ∀ w1, RdDid F p (tkRest xs e N) (tkE xs e N) (w.alloc (opC 6 N Wd Fl ba bn bc la ln lc M)) w1 → _ := fun w1 h => inBytes_any G q xs e N w1 ((hI.alloc (opC 6 N Wd Fl ba bn bc la ln lc M)).rd D h)
  have hlt := tkXs_lt e N hR.lt
  have hyl : (tkXs xs e N).length ≤ 140737488351232 := by unfold tkXs; split <;> simp <;> omega
  have hpw := hFw p hR.fp
  have hqw := hGw q hI.fp
  obtain ⟨ys, hys⟩ : ∃ ys, ys = tkXs xs e N := ⟨_, rfl⟩
  rw [← hys] at c29 c73 hlt hyl
  have HD : Hid (∀ k, F k → ¬ G k) := D
  have HFW : Hid (∀ k, F k → k < w.heap.size) := hFw
  have HGW : Hid (∀ k, G k → k < w.heap.size) := hGw
  have HLT : Hid (∀ x ∈ ys, x < 256) := hlt
  have hblk0 : OpBlk (w.alloc (opC 6 N Wd Fl ba bn bc la ln lc M)) w.heap.size 6 N Wd Fl ba bn bc la ln lc M := heap_alloc_new _ _
  have HBK : Hid (OpBlk (w.alloc (opC 6 N Wd Fl ba bn bc la ln lc M)) w.heap.size 6 N Wd Fl ba bn bc la ln lc M) := hblk0
  clear hR hI D hys hlt hFw hGw hblk0 hsz
  unfold opV
  go_enter Try.func39, Try.ntmps39
  go_upto_region 15 with (first
    | (go_at_call 29; refine c29.mono ?_; rintro ex w1 ⟨va, rfl, own1, hd1⟩; obtain ⟨s0, s1, s2, s3, s4, s5, s6⟩ := (show OpBlk w1 w.heap.size 6 N Wd Fl ba bn bc la ln lc M from hd1.2.at' HBK.out (fun h => by omega)).at'; have HD1 : Hid (RdDid F p (tkRest xs e N) (tkE xs e N) (w.alloc (opC 6 N Wd Fl ba bn bc la ln lc M)) w1) := hd1; have HO1 : Hid (w1.ownsRow (w.alloc (opC 6 N Wd Fl ba bn bc la ln lc M)).heap.size 5 1 va ys.length (ys.map bv)) := own1; clear own1 hd1)
    | (go_at_call 73; refine (c73 _ HD1.out).mono ?_; rintro ex w2 ⟨vb, rfl, own2, hd2⟩; have HD2 : Hid (IlDid G q (tkRest xs e N) (tkE xs e N) w1 w2) := hd2; have HO2 : Hid (w2.ownsRow w1.heap.size 5 1 vb ys.length (ys.map bv)) := own2; clear own2 hd2))
  have hoa : w2.ownsRow (w.alloc (opC 6 N Wd Fl ba bn bc la ln lc M)).heap.size 5 1 va ys.length (ys.map bv) := HD2.out.2.1.owns HO1.out (fun g hg e => by have := (HO1.out.lt g hg).1; simp at this; omega)
  obtain ⟨aa, ca, hva, hBa⟩ := Bs.of_owns hoa HLT.out
  obtain ⟨ab, cb, hvb, hBb⟩ := Bs.of_owns HO2.out HLT.out
  subst hva hvb
  have cs := same_any _ _ aa ab _ _ ca cb ys ys w2 hBa hBb
  rw [decide_eq_true (rfl : ys = ys)] at cs
  have cl := fun n => let_any _ aa ys.length ca ys (w2.drewN n) (show (w2.drewN n).ownsRow _ 5 1 _ _ _ from hoa) rfl hyl
  have HOA : Hid (w2.ownsRow (w.alloc (opC 6 N Wd Fl ba bn bc la ln lc M)).heap.size 5 1 (.slice aa ys.length ca) ys.length (ys.map bv)) := hoa
  have HBO : Hid (Both F G p q (tkRest xs e N) (tkE xs e N) w w2) := both_of HD.out ((Kept.refl No w).alloc _) HD1.out HD2.out
  clear hoa hBa hBb c29 c73 s0 s1 s2 s3 s4 s5 s6
  go_wp2_with (first
    | (go_at_call 12; refine cs.mono ?_; rintro ex w3 ⟨rfl, n3, rfl⟩)
    | (go_at_call 18; refine (cl _).mono ?_; rintro ex w4 ⟨⟨k4, rfl⟩, kp4⟩))
  go_ret
  refine ⟨rfl, (HBO.out.drewN _).later kp4 (fun b hb hg => ?_) (fun b hb hg => ?_) (fun b hg => ?_)⟩
  · have := (HOA.out.lt b hg).1; have := HFW.out b hb; simp at *; omega
  · have := (HOA.out.lt b hg).1; have := HGW.out b hb; simp at *; omega
  · have := (HOA.out.lt b hg).1; simp at this; omega

end Go.Proofs.Ytakdfpenpodplaa
