/-
  One call on the program's Writer and on the document's.
-/
import Derived.Test.YtakdfpenpodplaaToldOut
import Derived.Test.YtakdfpenpodplaaPutLists
import Derived.Test.YtakdfpenpodplaaLent
import Derived.Test.YtakdfpenpodplaaWrite
import Derived.Test.YtakdfpenpodplaaAgainWalk
namespace Go.Proofs.Ytakdfpenpodplaa
open Go.RowKit
set_option linter.unusedVariables false

/-- both have done it -/
def Bw (F G : Nat → Prop) (p q : Nat) (bs' : List Nat) (e' : Int) (w w' : World) : Prop :=
  ∃ F' G', Wr w' F' p bs' e' ∧ Ou w' G' q bs' e' ∧ (∀ k, F' k → ¬ G' k) ∧ Kept (fun k => F k ∨ G k) w w' ∧ (∀ k, F' k → F k ∨ w.heap.size ≤ k) ∧ (∀ k, G' k → G k ∨ w.heap.size ≤ k)

theorem bw_of {F G : Nat → Prop} {p q : Nat} {bs bs' : List Nat} {e e' : Int} {w w0 w1 w2 : World} (hO : Ou w G q bs e) (D : ∀ k, F k → ¬ G k) (k0 : Kept No w w0) (hW : WrDid F p bs' e' w0 w1) (hI : OuDid G q bs' e' w1 w2) : Bw F G p q bs' e' w w2 := by
  obtain ⟨F', hw, kw, fw⟩ := hW
  obtain ⟨G', ho, ko, fo⟩ := hI
  have hg := hO.flt
  have s0 := k0.size
  have s1 := kw.size
  refine ⟨F', G', hw.kept ko (fun b hb hG => ?_), ho, fun k hF hG => ?_, ((k0.mono (fun _ h => h.elim)).trans kw (fun k h => .inl (.inl h))).trans ko (fun k h => .inl (.inr h)), fun k h => (fw k h).elim .inl (fun h => .inr (by omega)), fun k h => (fo k h).elim .inl (fun h => .inr (by omega))⟩
  · rcases fw b hb with h | h
    · exact D b h hG
    · have := hg b hG; omega
  · rcases fo k hG with h | h
    · rcases fw k hF with h2 | h2
      · exact D k h2 h
      · have := hg k h; omega
    · have := hw.flt' k hF; omega
theorem Ou.alloc {w : World} {F : Nat → Prop} {p : Nat} {bs : List Nat} {e : Int} (h : Ou w F p bs e) (o : Obj) : Ou (w.alloc o) F p bs e := h.kept ((Kept.refl No w).alloc o) (fun _ _ h => h)
theorem Wr.alloc' {w : World} {F : Nat → Prop} {p : Nat} {bs : List Nat} {e : Int} (h : Wr w F p bs e) (o : Obj) : Wr (w.alloc o) F p bs e := h.kept ((Kept.refl No w).alloc o) (fun _ _ h => h)
theorem Ou.wr {w w1 : World} {F G : Nat → Prop} {p q : Nat} {bs ys : List Nat} {e e' : Int} (h : Ou w G q bs e) (D : ∀ k, F k → ¬ G k) (hW : WrDid F p ys e' w w1) : Ou w1 G q bs e := by
  obtain ⟨F', hw, kw, fw⟩ := hW
  exact h.kept kw (fun b hb hf => D b hf hb)

abbrev opW (K N Wd : Int) (Fl : Bool) (ba : Option Addr) (bn bc : Nat) (la : Option Addr) (ln lc : Nat) (M : Int) : Obj := .cells #[.int .i64 K, .int .i64 N, .int .i64 Wd, .bool Fl, .slice ba bn bc, .slice la ln lc, .int .i64 M] 43

set_option maxHeartbeats 4000000 in
set_option maxRecDepth 100000 in
theorem put1o (F G : Nat → Prop) (p q : Nat) (bs : List Nat) (e N Wd : Int) (Fl : Bool) (ba : Option Addr) (bn bc : Nat) (la : Option Addr) (ln lc : Nat) (M : Int) (w : World) (hW : Wr w F p bs e) (hO : Ou w G q bs e) (D : ∀ k, F k → ¬ G k) (hsz : bs.length ≤ 1000000000) (hN : N ≤ 9223372036854775807) :
    Calls Try.prog 43 #[.pointer (some ⟨p, 0, none⟩), .pointer (some ⟨q, 0, none⟩), opV 1 N Wd Fl ba bn bc la ln lc M] w fun ex w' => ex = .returned (.bool true) ∧ Bw F G p q (numBs bs e N 1) (numE e N 1) w w' := by
  have c1 := u8_any F p bs e N (w.alloc (opW 1 N Wd Fl ba bn bc la ln lc M)) (hW.alloc' _) (by omega) hN
  have c2 : ∀ w1, WrDid F p (numBs bs e N 1) (numE e N 1) (w.alloc (opW 1 N Wd Fl ba bn bc la ln lc M)) w1 → _ := fun w1 h => u8Out_any G q bs e N w1 ((hO.alloc (opW 1 N Wd Fl ba bn bc la ln lc M)).wr D h) (by omega) hN
  have HE : Hid (∀ w1 w2, WrDid F p (numBs bs e N 1) (numE e N 1) (w.alloc (opW 1 N Wd Fl ba bn bc la ln lc M)) w1 → OuDid G q (numBs bs e N 1) (numE e N 1) w1 w2 → Bw F G p q (numBs bs e N 1) (numE e N 1) w w2) := fun w1 w2 h1 h2 => bw_of hO D ((Kept.refl No w).alloc _) h1 h2
  have HB : Hid (∀ w1, WrDid F p (numBs bs e N 1) (numE e N 1) (w.alloc (opW 1 N Wd Fl ba bn bc la ln lc M)) w1 → OpBlk w1 w.heap.size 1 N Wd Fl ba bn bc la ln lc M) := fun w1 h => by
    obtain ⟨F', hw, kw, fw⟩ := h
    exact kw.at' (heap_alloc_new _ _) (fun hF => by have := hW.flt' _ hF; omega)
  obtain ⟨X, hX⟩ : ∃ X, X = (numBs bs e N 1) := ⟨_, rfl⟩
  obtain ⟨E, hE⟩ : ∃ E, E = (numE e N 1) := ⟨_, rfl⟩
  rw [← hX] at c1 c2 HE HB ⊢
  rw [← hE] at c1 c2 HE HB ⊢
  clear hW hO D hX hE
  unfold opV
  go_enter Try.func43, Try.ntmps43
  go_wp2_with (first
    | (go_at_call 48; refine c1.mono ?_; rintro ex w1 ⟨rfl, hd1⟩; obtain ⟨o0, o1, o2, o3, o4, o5, o6⟩ := (HB.out w1 hd1).at'; have c3 := c2 w1 hd1; have HD1 := (show Hid _ from hd1); clear hd1)
    | (go_at_call 80; refine c3.mono ?_; rintro ex w2 ⟨rfl, hd2⟩))
  go_ret
  exact ⟨rfl, HE.out _ _ HD1.out hd2⟩

set_option maxHeartbeats 4000000 in
set_option maxRecDepth 100000 in
theorem put2o (F G : Nat → Prop) (p q : Nat) (bs : List Nat) (e N Wd : Int) (Fl : Bool) (ba : Option Addr) (bn bc : Nat) (la : Option Addr) (ln lc : Nat) (M : Int) (w : World) (hW : Wr w F p bs e) (hO : Ou w G q bs e) (D : ∀ k, F k → ¬ G k) (hsz : bs.length ≤ 1000000000) (hN : N ≤ 9223372036854775807) :
    Calls Try.prog 43 #[.pointer (some ⟨p, 0, none⟩), .pointer (some ⟨q, 0, none⟩), opV 2 N Wd Fl ba bn bc la ln lc M] w fun ex w' => ex = .returned (.bool true) ∧ Bw F G p q (numBs bs e N 2) (numE e N 2) w w' := by
  have c1 := u16_any F p bs e N (w.alloc (opW 2 N Wd Fl ba bn bc la ln lc M)) (hW.alloc' _) (by omega) hN
  have c2 : ∀ w1, WrDid F p (numBs bs e N 2) (numE e N 2) (w.alloc (opW 2 N Wd Fl ba bn bc la ln lc M)) w1 → _ := fun w1 h => u16Out_any G q bs e N w1 ((hO.alloc (opW 2 N Wd Fl ba bn bc la ln lc M)).wr D h) (by omega) hN
  have HE : Hid (∀ w1 w2, WrDid F p (numBs bs e N 2) (numE e N 2) (w.alloc (opW 2 N Wd Fl ba bn bc la ln lc M)) w1 → OuDid G q (numBs bs e N 2) (numE e N 2) w1 w2 → Bw F G p q (numBs bs e N 2) (numE e N 2) w w2) := fun w1 w2 h1 h2 => bw_of hO D ((Kept.refl No w).alloc _) h1 h2
  have HB : Hid (∀ w1, WrDid F p (numBs bs e N 2) (numE e N 2) (w.alloc (opW 2 N Wd Fl ba bn bc la ln lc M)) w1 → OpBlk w1 w.heap.size 2 N Wd Fl ba bn bc la ln lc M) := fun w1 h => by
    obtain ⟨F', hw, kw, fw⟩ := h
    exact kw.at' (heap_alloc_new _ _) (fun hF => by have := hW.flt' _ hF; omega)
  obtain ⟨X, hX⟩ : ∃ X, X = (numBs bs e N 2) := ⟨_, rfl⟩
  obtain ⟨E, hE⟩ : ∃ E, E = (numE e N 2) := ⟨_, rfl⟩
  rw [← hX] at c1 c2 HE HB ⊢
  rw [← hE] at c1 c2 HE HB ⊢
  clear hW hO D hX hE
  unfold opV
  go_enter Try.func43, Try.ntmps43
  go_wp2_with (first
    | (go_at_call 49; refine c1.mono ?_; rintro ex w1 ⟨rfl, hd1⟩; obtain ⟨o0, o1, o2, o3, o4, o5, o6⟩ := (HB.out w1 hd1).at'; have c3 := c2 w1 hd1; have HD1 := (show Hid _ from hd1); clear hd1)
    | (go_at_call 81; refine c3.mono ?_; rintro ex w2 ⟨rfl, hd2⟩))
  go_ret
  exact ⟨rfl, HE.out _ _ HD1.out hd2⟩

set_option maxHeartbeats 4000000 in
set_option maxRecDepth 100000 in
theorem put3o (F G : Nat → Prop) (p q : Nat) (bs : List Nat) (e N Wd : Int) (Fl : Bool) (ba : Option Addr) (bn bc : Nat) (la : Option Addr) (ln lc : Nat) (M : Int) (w : World) (hW : Wr w F p bs e) (hO : Ou w G q bs e) (D : ∀ k, F k → ¬ G k) (hsz : bs.length ≤ 1000000000) (hN : N ≤ 9223372036854775807) :
    Calls Try.prog 43 #[.pointer (some ⟨p, 0, none⟩), .pointer (some ⟨q, 0, none⟩), opV 3 N Wd Fl ba bn bc la ln lc M] w fun ex w' => ex = .returned (.bool true) ∧ Bw F G p q (numBs bs e N 4) (numE e N 4) w w' := by
  have c1 := u32_any F p bs e N (w.alloc (opW 3 N Wd Fl ba bn bc la ln lc M)) (hW.alloc' _) (by omega) hN
  have c2 : ∀ w1, WrDid F p (numBs bs e N 4) (numE e N 4) (w.alloc (opW 3 N Wd Fl ba bn bc la ln lc M)) w1 → _ := fun w1 h => u32Out_any G q bs e N w1 ((hO.alloc (opW 3 N Wd Fl ba bn bc la ln lc M)).wr D h) (by omega) hN
  have HE : Hid (∀ w1 w2, WrDid F p (numBs bs e N 4) (numE e N 4) (w.alloc (opW 3 N Wd Fl ba bn bc la ln lc M)) w1 → OuDid G q (numBs bs e N 4) (numE e N 4) w1 w2 → Bw F G p q (numBs bs e N 4) (numE e N 4) w w2) := fun w1 w2 h1 h2 => bw_of hO D ((Kept.refl No w).alloc _) h1 h2
  have HB : Hid (∀ w1, WrDid F p (numBs bs e N 4) (numE e N 4) (w.alloc (opW 3 N Wd Fl ba bn bc la ln lc M)) w1 → OpBlk w1 w.heap.size 3 N Wd Fl ba bn bc la ln lc M) := fun w1 h => by
    obtain ⟨F', hw, kw, fw⟩ := h
    exact kw.at' (heap_alloc_new _ _) (fun hF => by have := hW.flt' _ hF; omega)
  obtain ⟨X, hX⟩ : ∃ X, X = (numBs bs e N 4) := ⟨_, rfl⟩
  obtain ⟨E, hE⟩ : ∃ E, E = (numE e N 4) := ⟨_, rfl⟩
  rw [← hX] at c1 c2 HE HB ⊢
  rw [← hE] at c1 c2 HE HB ⊢
  clear hW hO D hX hE
  unfold opV
  go_enter Try.func43, Try.ntmps43
  go_wp2_with (first
    | (go_at_call 47; refine c1.mono ?_; rintro ex w1 ⟨rfl, hd1⟩; obtain ⟨o0, o1, o2, o3, o4, o5, o6⟩ := (HB.out w1 hd1).at'; have c3 := c2 w1 hd1; have HD1 := (show Hid _ from hd1); clear hd1)
    | (go_at_call 82; refine c3.mono ?_; rintro ex w2 ⟨rfl, hd2⟩))
  go_ret
  exact ⟨rfl, HE.out _ _ HD1.out hd2⟩

set_option maxHeartbeats 4000000 in
set_option maxRecDepth 100000 in
theorem put4o (F G : Nat → Prop) (p q : Nat) (bs : List Nat) (e N Wd : Int) (Fl : Bool) (ba : Option Addr) (bn bc : Nat) (la : Option Addr) (ln lc : Nat) (M : Int) (w : World) (hW : Wr w F p bs e) (hO : Ou w G q bs e) (D : ∀ k, F k → ¬ G k) (hsz : bs.length ≤ 1000000000) (hN : N ≤ 9223372036854775807) :
    Calls Try.prog 43 #[.pointer (some ⟨p, 0, none⟩), .pointer (some ⟨q, 0, none⟩), opV 4 N Wd Fl ba bn bc la ln lc M] w fun ex w' => ex = .returned (.bool true) ∧ Bw F G p q (layBs bs e (be64 Wd)) (e) w w' := by
  have c1 := i64_any F p bs e Wd (w.alloc (opW 4 N Wd Fl ba bn bc la ln lc M)) (hW.alloc' _) (by omega)
  have c2 : ∀ w1, WrDid F p (layBs bs e (be64 Wd)) (e) (w.alloc (opW 4 N Wd Fl ba bn bc la ln lc M)) w1 → _ := fun w1 h => i64Out_any G q bs e Wd w1 ((hO.alloc (opW 4 N Wd Fl ba bn bc la ln lc M)).wr D h) (by omega)
  have HE : Hid (∀ w1 w2, WrDid F p (layBs bs e (be64 Wd)) (e) (w.alloc (opW 4 N Wd Fl ba bn bc la ln lc M)) w1 → OuDid G q (layBs bs e (be64 Wd)) (e) w1 w2 → Bw F G p q (layBs bs e (be64 Wd)) (e) w w2) := fun w1 w2 h1 h2 => bw_of hO D ((Kept.refl No w).alloc _) h1 h2
  have HB : Hid (∀ w1, WrDid F p (layBs bs e (be64 Wd)) (e) (w.alloc (opW 4 N Wd Fl ba bn bc la ln lc M)) w1 → OpBlk w1 w.heap.size 4 N Wd Fl ba bn bc la ln lc M) := fun w1 h => by
    obtain ⟨F', hw, kw, fw⟩ := h
    exact kw.at' (heap_alloc_new _ _) (fun hF => by have := hW.flt' _ hF; omega)
  obtain ⟨X, hX⟩ : ∃ X, X = (layBs bs e (be64 Wd)) := ⟨_, rfl⟩
  obtain ⟨E, hE⟩ : ∃ E, E = (e) := ⟨_, rfl⟩
  rw [← hX] at c1 c2 HE HB ⊢
  
  clear hW hO D hX hE
  unfold opV
  go_enter Try.func43, Try.ntmps43
  go_wp2_with (first
    | (go_at_call 61; refine c1.mono ?_; rintro ex w1 ⟨rfl, hd1⟩; obtain ⟨o0, o1, o2, o3, o4, o5, o6⟩ := (HB.out w1 hd1).at'; have c3 := c2 w1 hd1; have HD1 := (show Hid _ from hd1); clear hd1)
    | (go_at_call 83; refine c3.mono ?_; rintro ex w2 ⟨rfl, hd2⟩))
  go_ret
  exact ⟨rfl, HE.out _ _ HD1.out hd2⟩

set_option maxHeartbeats 4000000 in
set_option maxRecDepth 100000 in
theorem put5o (F G : Nat → Prop) (p q : Nat) (bs : List Nat) (e N Wd : Int) (Fl : Bool) (ba : Option Addr) (bn bc : Nat) (la : Option Addr) (ln lc : Nat) (M : Int) (w : World) (hW : Wr w F p bs e) (hO : Ou w G q bs e) (D : ∀ k, F k → ¬ G k) (hsz : bs.length ≤ 1000000000) (hN : N ≤ 9223372036854775807) :
    Calls Try.prog 43 #[.pointer (some ⟨p, 0, none⟩), .pointer (some ⟨q, 0, none⟩), opV 5 N Wd Fl ba bn bc la ln lc M] w fun ex w' => ex = .returned (.bool true) ∧ Bw F G p q (layBs bs e (flagB Fl)) (e) w w' := by
  have c1 := bool_any F p bs e Fl (w.alloc (opW 5 N Wd Fl ba bn bc la ln lc M)) (hW.alloc' _) (by omega)
  have c2 : ∀ w1, WrDid F p (layBs bs e (flagB Fl)) (e) (w.alloc (opW 5 N Wd Fl ba bn bc la ln lc M)) w1 → _ := fun w1 h => boolOut_any G q bs e Fl w1 ((hO.alloc (opW 5 N Wd Fl ba bn bc la ln lc M)).wr D h) (by omega)
  have HE : Hid (∀ w1 w2, WrDid F p (layBs bs e (flagB Fl)) (e) (w.alloc (opW 5 N Wd Fl ba bn bc la ln lc M)) w1 → OuDid G q (layBs bs e (flagB Fl)) (e) w1 w2 → Bw F G p q (layBs bs e (flagB Fl)) (e) w w2) := fun w1 w2 h1 h2 => bw_of hO D ((Kept.refl No w).alloc _) h1 h2
  have HB : Hid (∀ w1, WrDid F p (layBs bs e (flagB Fl)) (e) (w.alloc (opW 5 N Wd Fl ba bn bc la ln lc M)) w1 → OpBlk w1 w.heap.size 5 N Wd Fl ba bn bc la ln lc M) := fun w1 h => by
    obtain ⟨F', hw, kw, fw⟩ := h
    exact kw.at' (heap_alloc_new _ _) (fun hF => by have := hW.flt' _ hF; omega)
  obtain ⟨X, hX⟩ : ∃ X, X = (layBs bs e (flagB Fl)) := ⟨_, rfl⟩
  obtain ⟨E, hE⟩ : ∃ E, E = (e) := ⟨_, rfl⟩
  rw [← hX] at c1 c2 HE HB ⊢
  
  clear hW hO D hX hE
  unfold opV
  go_enter Try.func43, Try.ntmps43
  go_wp2_with (first
    | (go_at_call 50; refine c1.mono ?_; rintro ex w1 ⟨rfl, hd1⟩; obtain ⟨o0, o1, o2, o3, o4, o5, o6⟩ := (HB.out w1 hd1).at'; have c3 := c2 w1 hd1; have HD1 := (show Hid _ from hd1); clear hd1)
    | (go_at_call 84; refine c3.mono ?_; rintro ex w2 ⟨rfl, hd2⟩))
  go_ret
  exact ⟨rfl, HE.out _ _ HD1.out hd2⟩

set_option maxHeartbeats 4000000 in
set_option maxRecDepth 100000 in
theorem put8o (F G : Nat → Prop) (p q : Nat) (bs : List Nat) (e N Wd : Int) (Fl : Bool) (ba : Option Addr) (bn bc : Nat) (la : Option Addr) (ln lc : Nat) (M : Int) (w : World) (hW : Wr w F p bs e) (hO : Ou w G q bs e) (D : ∀ k, F k → ¬ G k) (hsz : bs.length ≤ 1000000000) (hN : N ≤ 9223372036854775807) :
    Calls Try.prog 43 #[.pointer (some ⟨p, 0, none⟩), .pointer (some ⟨q, 0, none⟩), opV 8 N Wd Fl ba bn bc la ln lc M] w fun ex w' => ex = .returned (.bool true) ∧ Bw F G p q bs e w w' := by
  have c44 := told_any F G p q bs e (w.alloc (opW 8 N Wd Fl ba bn bc la ln lc M)) (hW.alloc' _) (hO.alloc _) D hsz
  have HD : Hid (∀ k, F k → ¬ G k) := D
  clear hW hO D
  unfold opV
  go_enter Try.func43, Try.ntmps43
  go_wp2_with (go_at_call 44; refine c44.mono ?_; rintro ex w1 ⟨rfl, h1, h2, k1⟩)
  go_ret
  exact ⟨rfl, F, G, h1, h2, HD.out, (((Kept.refl No w).alloc _).mono (fun _ h => h.elim)).trans k1 (fun k h => .inl (.inl h)), fun _ h => .inl h, fun _ h => .inl h⟩

set_option maxHeartbeats 4000000 in
set_option maxRecDepth 100000 in
theorem putElse (K : Int) (F G : Nat → Prop) (p q : Nat) (bs : List Nat) (e N Wd : Int) (Fl : Bool) (ba : Option Addr) (bn bc : Nat) (la : Option Addr) (ln lc : Nat) (M : Int) (w : World) (hW : Wr w F p bs e) (hO : Ou w G q bs e) (D : ∀ k, F k → ¬ G k) (hsz : bs.length ≤ 1000000000) (hN : N ≤ 9223372036854775807) (h1 : K ≠ 1) (h2 : K ≠ 2) (h3 : K ≠ 3) (h4 : K ≠ 4) (h5 : K ≠ 5) (h6 : K ≠ 6) (h7 : K ≠ 7) (h8 : K ≠ 8) :
    Calls Try.prog 43 #[.pointer (some ⟨p, 0, none⟩), .pointer (some ⟨q, 0, none⟩), opV K N Wd Fl ba bn bc la ln lc M] w fun ex w' => ex = .returned (.bool true) ∧ Bw F G p q bs e w w' := by
  have HE : Hid (Bw F G p q bs e w (w.alloc (opW K N Wd Fl ba bn bc la ln lc M))) := ⟨F, G, hW.alloc' _, hO.alloc _, D, ((Kept.refl No w).alloc _).mono (fun _ h => h.elim), fun _ h => .inl h, fun _ h => .inl h⟩
  have t1 : (K == 1) = false := by simpa using h1
  have t2 : (K == 2) = false := by simpa using h2
  have t3 : (K == 3) = false := by simpa using h3
  have t4 : (K == 4) = false := by simpa using h4
  have t5 : (K == 5) = false := by simpa using h5
  have t6 : (K == 6) = false := by simpa using h6
  have t7 : (K == 7) = false := by simpa using h7
  have t8 : (K == 8) = false := by simpa using h8
  clear hW hO D h1 h2 h3 h4 h5 h6 h7 h8
  unfold opV
  go_enter Try.func43, Try.ntmps43
  go_wp2
  go_ret
  exact ⟨rfl, HE.out⟩

end Go.Proofs.Ytakdfpenpodplaa
