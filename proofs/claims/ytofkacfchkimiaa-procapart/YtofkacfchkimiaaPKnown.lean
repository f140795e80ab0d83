/-
  known: a process that is started may run, and its deadline is due.
-/
import Derived.Test.YtofkacfchkimiaaPNew
import Derived.Test.YtofkacfchkimiaaPFire
import Derived.Test.YtofkacfchkimiaaPNext
import Derived.Test.YtofkacfchkimiaaPPick
namespace Go.Proofs.Ytofkacfchkimiaa
open Go.RowKit Plain
set_option linter.unusedVariables false
set_option maxRecDepth 100000

/-- a table that is new since w -/
def Tn (w W : World) (b g cap : Nat) (T : Tt) : Prop := Tw W b g cap T ∧ Kept No w W ∧ w.heap.size ≤ b ∧ w.heap.size ≤ g
theorem Tn.step {w W W' : World} {b g cap : Nat} {T T' : Tt} (h : Tn w W b g cap T) (t : Tw W' b g cap T') (k : Kept (Bg b g) W W') : Tn w W' b g cap T' :=
  ⟨t, h.2.1.trans k (fun j e => .inr (by rcases e with rfl | rfl; exact h.2.2.1; exact h.2.2.2)), h.2.2⟩
theorem Tn.keep {w W W' : World} {b g cap : Nat} {T : Tt} (h : Tn w W b g cap T) (k : Kept No W W') : Tn w W' b g cap T :=
  ⟨h.1.keep k, h.2.1.trans k (fun j e => e.elim), h.2.2⟩
/-- a list of one plan -/
theorem pq_one {w : World} {g : Nat} {q : Ql} (h : w.heap[g]? = some (.cells #[.int .i64 q.en, .int .i64 q.pp, .int .i64 q.per, .int .i64 q.lim, .int .i64 q.ca, .bool q.au] 28)) : Pq w (fun k => k = g) (some ⟨g, 0, none⟩) 1 1 (fun _ => q) :=
  ⟨Nat.le_refl _, by omega, fun i hi => ⟨g, 0, rfl, rfl, by
    have hi0 : i = 0 := by omega
    subst hi0
    exact ⟨cell_of_row _ _ 0 _ _ _ h, cell_of_row _ _ 1 _ _ _ h, cell_of_row _ _ 2 _ _ _ h, cell_of_row _ _ 3 _ _ _ h, cell_of_row _ _ 4 _ _ _ h, cell_of_row _ _ 5 _ _ _ h⟩⟩⟩
/-- the table of one process -/
def T1 (q : Ql) : Tt := { ps := fun _ => q.pr, n := 1, cd := 1, hd := 0, lk := 0, pl := 1 }
def TnX (w w' : World) (b : Nat) (T : Tt) : Prop := ∃ g cap, Tn w w' b g cap T
theorem new_one (w : World) (q : Ql) : Calls Try.prog 8 #[.agg #[.int .i64 0, .int .i64 0, .int .i64 0, .int .i64 0, .int .i64 0, .int .i64 0, .slice none 0 0, .slice (some ⟨w.heap.size, 0, none⟩) 1 1, .slice (some ⟨w.heap.size + 1, 0, none⟩) 1 1, .int .i64 0, .int .i64 0, .int .i64 0, .int .i64 0, .int .i64 0, .int .i64 0, .int .i64 0, .int .i64 0, .int .i64 0, .slice none 0 0, .slice none 0 0, .slice none 0 0]] ((w.alloc (.cells #[.int .u8 0, .int .u8 0, .int .u8 0, .int .u8 0, .int .i32 0] 25)).alloc (.cells #[.int .i64 q.en, .int .i64 q.pp, .int .i64 q.per, .int .i64 q.lim, .int .i64 q.ca, .bool q.au] 28)) fun e w' => e = .returned (.pointer (some ⟨w.heap.size + 3, 0, none⟩)) ∧ TnX w w' (w.heap.size + 3) (T1 q) := by
  have hs : ((w.alloc (.cells #[.int .u8 0, .int .u8 0, .int .u8 0, .int .u8 0, .int .i32 0] 25)).alloc (.cells #[.int .i64 q.en, .int .i64 q.pp, .int .i64 q.per, .int .i64 q.lim, .int .i64 q.ca, .bool q.au] 28)).heap.size = w.heap.size + 2 := by rw [World.size_alloc, World.size_alloc]
  have k0 : Kept No w ((w.alloc (.cells #[.int .u8 0, .int .u8 0, .int .u8 0, .int .u8 0, .int .i32 0] 25)).alloc (.cells #[.int .i64 q.en, .int .i64 q.pp, .int .i64 q.per, .int .i64 q.lim, .int .i64 q.ca, .bool q.au] 28)) := ((Kept.refl No w).alloc _).alloc _
  have h1 : ((w.alloc (.cells #[.int .u8 0, .int .u8 0, .int .u8 0, .int .u8 0, .int .i32 0] 25)).alloc (.cells #[.int .i64 q.en, .int .i64 q.pp, .int .i64 q.per, .int .i64 q.lim, .int .i64 q.ca, .bool q.au] 28)).heap[w.heap.size + 1]? = some (.cells #[.int .i64 q.en, .int .i64 q.pp, .int .i64 q.per, .int .i64 q.lim, .int .i64 q.ca, .bool q.au] 28) := by
    have := alloc_new (w.alloc (.cells #[.int .u8 0, .int .u8 0, .int .u8 0, .int .u8 0, .int .i32 0] 25)) (.cells #[.int .i64 q.en, .int .i64 q.pp, .int .i64 q.per, .int .i64 q.lim, .int .i64 q.ca, .bool q.au] 28)
    rwa [World.size_alloc] at this
  have nw := new_any (A := #[.int .i64 0, .int .i64 0, .int .i64 0, .int .i64 0, .int .i64 0, .int .i64 0, .slice none 0 0, .slice (some ⟨w.heap.size, 0, none⟩) 1 1, .slice (some ⟨w.heap.size + 1, 0, none⟩) 1 1, .int .i64 0, .int .i64 0, .int .i64 0, .int .i64 0, .int .i64 0, .int .i64 0, .int .i64 0, .int .i64 0, .int .i64 0, .slice none 0 0, .slice none 0 0, .slice none 0 0]) (ca := some ⟨w.heap.size, 0, none⟩) (cn := 1) (cc := 1) (hd := 0) _ rfl rfl rfl rfl ⟨Nat.le_refl _, by omega⟩ (pq_one h1) (fun k e => by rw [hs, e]; omega) (Nat.le_refl _) (by omega)
  rw [hs] at nw
  refine nw.mono ?_
  rintro e w' ⟨he, g, cap, t, hg, k⟩
  rw [hs] at t hg
  exact ⟨he, g, cap, t, k0.trans k (fun _ e => e.elim), by omega, by omega⟩
section
variable {q : Ql}
theorem low_pl : Rm (T1 q).pl := ⟨(by decide : (0 : Int) ≤ 1), (by decide : (1 : Int) < 4611686018427387904)⟩
end
set_option maxHeartbeats 4000000 in
theorem known_any (w : World) : Calls Try.prog 9 #[] w fun e w' => e = .returned (.bool true) ∧ Kept No w w' := by
  have nw := new_one w ⟨0, 4, 10, 3, 0, false⟩
  go_enter Try.func9, Try.ntmps9
  go_upto_region 2 with (go_at_call 8; refine nw.mono ?_; rintro e w1 ⟨rfl, g, cap, t1⟩; clear nw)
  obtain ⟨b, hb⟩ : ∃ b, w.heap.size + 3 = b := ⟨_, rfl⟩
  rw [hb] at t1
  simp only [hb]
  clear hb
  have st : Calls Try.prog 10 #[.pointer (some ⟨b, 0, none⟩), .int .i64 1, .int .i64 5, .agg #[.int .i64 0, .int .i64 0, .int .i64 0]] w1 fun e w' => e = .returned (.bool true) ∧ Tw w' b g cap ((T1 ⟨0, 4, 10, 3, 0, false⟩).start 0 5 0 0 0) ∧ Kept (Bg b g) w1 w' := start_yes (i := 0) w1 t1.1 (by show 0 < 1; omega) (by show 1 ≤ 1048576; omega) low_pl rfl 5 0 0 0 rfl
  have e1 : (((T1 ⟨0, 4, 10, 3, 0, false⟩).start 0 5 0 0 0).ps 0).due 1 8 = true := by kernel_rfl
  have e2 : nout 5 ((T1 ⟨0, 4, 10, 3, 0, false⟩).start 0 5 0 0 0).ps 1 = 8 := by kernel_rfl
  have e3 : ((T1 ⟨0, 4, 10, 3, 0, false⟩).start 0 5 0 0 0).pk 1 = 1 := by kernel_rfl
  have e4 : ((T1 ⟨0, 4, 10, 3, 0, false⟩).start 0 5 0 0 0).n = 1 := rfl
  have e5 : ((T1 ⟨0, 4, 10, 3, 0, false⟩).start 0 5 0 0 0).hd = 0 := rfl
  have e6 : ((T1 ⟨0, 4, 10, 3, 0, false⟩).start 0 5 0 0 0).lk = 0 := rfl
  generalize (T1 ⟨0, 4, 10, 3, 0, false⟩).start 0 5 0 0 0 = U at *
  have CC : ∀ W, Tn w W b g cap U → (Calls Try.prog 12 #[.pointer (some ⟨b, 0, none⟩), .int .i64 1, .int .i64 1, .int .i64 8] W fun e w' => e = .returned (.bool true) ∧ Kept No W w') ∧ (Calls Try.prog 13 #[.pointer (some ⟨b, 0, none⟩), .int .i64 5] W fun e w' => e = .returned (.int .i64 8) ∧ Kept No W w') ∧ (Calls Try.prog 22 #[.pointer (some ⟨b, 0, none⟩)] W fun e w' => e = .returned (.tuple #[.int .i64 1, .bool true]) ∧ Kept No W w') := fun W t => by
    refine ⟨?_, ?_, ?_⟩
    · have := due_any W t.1 (i := 0) (by rw [e4]; omega) (by rw [e4]; omega) 1 8
      rw [e1] at this
      exact this
    · have := next_tw W t.1 (by rw [e4]; omega) 5
      rw [e4, e2] at this
      exact this
    · have := pick_line W t.1 (by rw [e4]; omega) (ready_no W t.1 (by rw [e5]; omega) (by rw [e4]; omega)) e6
      rw [e4, e3] at this
      exact this
  have HC : Hid (∀ W, Tn w W b g cap U → _) := CC
  clear CC e1 e2 e3 e4 e5 e6
  have HT : Hid (Tn w w1 b g cap (T1 ⟨0, 4, 10, 3, 0, false⟩)) := t1
  clear t1
  go_wp2_with (first
    | (go_at_call 10; refine st.mono ?_; rintro e w2 ⟨rfl, t2, k2⟩; have H2 : Hid (Tn w w2 b g cap U) := HT.out.step t2 k2; have du := (HC.out w2 H2.out).1; clear t2 k2 st)
    | (go_at_call 12; refine du.mono ?_; rintro e w3 ⟨rfl, k3⟩; have H3 : Hid (Tn w w3 b g cap U) := H2.out.keep k3; have nx := (HC.out w3 H3.out).2.1; clear k3 du)
    | (go_at_call 13; refine nx.mono ?_; rintro e w4 ⟨rfl, k4⟩; have H4 : Hid (Tn w w4 b g cap U) := H3.out.keep k4; have pi := (HC.out w4 H4.out).2.2; clear k4 nx)
    | (go_at_call 22; refine pi.mono ?_; rintro e w5 ⟨rfl, k5⟩; have H5 : Hid (Tn w w5 b g cap U) := H4.out.keep k5; clear k5 pi))
  go_ret
  exact ⟨rfl, H5.out.2.1⟩
end Go.Proofs.Ytofkacfchkimiaa
