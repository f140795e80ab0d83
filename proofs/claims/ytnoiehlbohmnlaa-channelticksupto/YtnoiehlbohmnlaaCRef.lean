/-
  The document's Due and Next.
-/
import Derived.Test.YtnoiehlbohmnlaaCDue
import Derived.Test.YtnoiehlbohmnlaaCHeld
namespace Go.Proofs.Ytnoiehlbohmnlaa
open Go.RowKit Plain
set_option linter.unusedVariables false
set_option maxRecDepth 100000

theorem takes_any (k f ph pe : Int) (a : Option Addr) (n c : Nat) (w : World) :
    Calls Try.prog 20 #[.agg #[.int .i64 k, .int .i64 f, .slice a n c, .int .i64 ph, .int .i64 pe]] w fun e w' => e = .returned (.bool (decide (Tk k f ph pe))) ∧ Kept No w w' := by
  by_cases h1 : k = 1
  · by_cases h2 : f = 0
    · rw [show decide (Tk k f ph pe) = false from decide_eq_false (by unfold Tk; omega)]
      subst h1 h2
      go_enter Try.func20, Try.ntmps20
      go_wp2
      go_ret
      exact ⟨rfl, (Kept.refl No w).alloc _⟩
    · by_cases h3 : pe < 1
      · rw [show decide (Tk k f ph pe) = false from decide_eq_false (by unfold Tk; omega)]
        subst h1
        have h3' : decide (0 < pe) = false := by simp; omega
        have h2' : (f != 0) = true := by simp [h2]
        go_enter Try.func20, Try.ntmps20
        go_wp2
        go_ret
        exact ⟨rfl, (Kept.refl No w).alloc _⟩
      · rw [show decide (Tk k f ph pe) = decide (0 ≤ ph) from by
          apply decide_eq_decide.2; unfold Tk; omega]
        subst h1
        have h3' : decide (0 < pe) = true := by simp; omega
        have h2' : (f != 0) = true := by simp [h2]
        go_enter Try.func20, Try.ntmps20
        go_wp2
        go_ret
        exact ⟨rfl, (Kept.refl No w).alloc _⟩
  · rw [show decide (Tk k f ph pe) = false from decide_eq_false (by unfold Tk; omega)]
    go_enter Try.func20, Try.ntmps20
    go_wp2
    go_ret
    exact ⟨rfl, (Kept.refl No w).alloc _⟩

theorem bxc (w : World) (k f : Int) (a : Option Addr) (n c : Nat) (ph pe : Int) : (w.alloc (.cells #[.int .i64 k, .int .i64 f, .slice a n c, .int .i64 ph, .int .i64 pe] 24)).heap[w.heap.size]? = some (.cells #[.int .i64 k, .int .i64 f, .slice a n c, .int .i64 ph, .int .i64 pe] 24) := alloc_new w _

set_option maxHeartbeats 2000000 in
theorem rdue_any (k f ph pe t : Int) (a : Option Addr) (n c : Nat) (w : World) (h1 : I64 ph) (h2 : I64 pe) (h3 : I64 t) :
    Calls Try.prog 7 #[.agg #[.int .i64 k, .int .i64 f, .slice a n c, .int .i64 ph, .int .i64 pe], .int .i64 t] w fun e w' => e = .returned (.bool (dueB k f ph pe t)) ∧ Kept No w w' := by
  have cT := fun w => takes_any k f ph pe a n c w
  have hb0 := bxc w k f a n c ph pe
  have K0 : Kept No w (w.alloc (.cells #[.int .i64 k, .int .i64 f, .slice a n c, .int .i64 ph, .int .i64 pe] 24)) := (Kept.refl No w).alloc _
  by_cases hT : Tk k f ph pe
  · have hd := due_iff t hT
    rw [decide_eq_true hT] at cT
    have hd' : dueB k f ph pe t = (decide (ph ≤ t) && decide (t < 1099511627776) && decide ((t - ph) % pe = 0)) := by
      cases hb : dueB k f ph pe t
      · symm
        rw [Bool.eq_false_iff]
        intro h
        simp only [Bool.and_eq_true, decide_eq_true_eq] at h
        rw [hd.2 ⟨h.1.1, h.1.2, h.2⟩] at hb
        cases hb
      · obtain ⟨x, y, z⟩ := hd.1 hb
        symm
        simp [x, y, z]
    rw [hd']
    unfold I64 at h1 h2 h3
    obtain ⟨-, -, t2, t3⟩ := hT
    clear hd hd'
    by_cases p1 : ph ≤ t
    · rw [decide_eq_true p1]
      by_cases p2 : t < 1099511627776
      · rw [decide_eq_true p2, Bool.true_and, Bool.true_and]
        have p1' : decide (ph ≤ t) = true := decide_eq_true p1
        have p2' : decide (t < 1099511627776) = true := decide_eq_true p2
        generalize hb : w.heap.size = b at *
        go_enter Try.func7, Try.ntmps7
        go_wp2_with (go_at_call 20; refine (cT _).mono ?_; rintro e w1 ⟨rfl, hk⟩; replace hb0 := hk.at' hb0 (fun h => h); replace K0 := K0.trans hk (fun _ h => .inl h); obtain ⟨d0, d1, d2, d3, d4⟩ := five hb0; clear hk)
        go_ret
        exact ⟨rfl, K0⟩
      · rw [decide_eq_false p2]
        have p1' : decide (ph ≤ t) = true := decide_eq_true p1
        have p2' : decide (t < 1099511627776) = false := decide_eq_false p2
        generalize hb : w.heap.size = b at *
        go_enter Try.func7, Try.ntmps7
        go_wp2_with (go_at_call 20; refine (cT _).mono ?_; rintro e w1 ⟨rfl, hk⟩; replace hb0 := hk.at' hb0 (fun h => h); replace K0 := K0.trans hk (fun _ h => .inl h); obtain ⟨d0, d1, d2, d3, d4⟩ := five hb0; clear hk)
        go_ret
        exact ⟨rfl, K0⟩
    · rw [decide_eq_false p1]
      have p1' : decide (ph ≤ t) = false := decide_eq_false p1
      generalize hb : w.heap.size = b at *
      go_enter Try.func7, Try.ntmps7
      go_wp2_with (go_at_call 20; refine (cT _).mono ?_; rintro e w1 ⟨rfl, hk⟩; replace hb0 := hk.at' hb0 (fun h => h); replace K0 := K0.trans hk (fun _ h => .inl h); obtain ⟨d0, d1, d2, d3, d4⟩ := five hb0; clear hk)
      go_ret
      exact ⟨rfl, K0⟩
  · rw [due_no t hT]
    rw [decide_eq_false hT] at cT
    clear hT h1 h2 h3
    generalize hb : w.heap.size = b at *
    go_enter Try.func7, Try.ntmps7
    go_wp2_with (go_at_call 20; refine (cT _).mono ?_; rintro e w1 ⟨rfl, hk⟩; replace hb0 := hk.at' hb0 (fun h => h); replace K0 := K0.trans hk (fun _ h => .inl h); obtain ⟨d0, d1, d2, d3, d4⟩ := five hb0; clear hk)
    go_ret
    exact ⟨rfl, K0⟩

set_option maxHeartbeats 2000000 in
theorem rnxt_any (k f ph pe t : Int) (a : Option Addr) (n c : Nat) (w : World) (h1 : I64 ph) (h2 : I64 pe) (h3 : I64 t) :
    Calls Try.prog 9 #[.agg #[.int .i64 k, .int .i64 f, .slice a n c, .int .i64 ph, .int .i64 pe], .int .i64 t] w fun e w' => e = .returned (.int .i64 (nxtV k f ph pe t)) ∧ Kept No w w' := by
  have cT := fun w => takes_any k f ph pe a n c w
  have hb0 := bxc w k f a n c ph pe
  have K0 : Kept No w (w.alloc (.cells #[.int .i64 k, .int .i64 f, .slice a n c, .int .i64 ph, .int .i64 pe] 24)) := (Kept.refl No w).alloc _
  by_cases hT : Tk k f ph pe
  · rw [nxt_eq t hT]
    rw [decide_eq_true hT] at cT
    unfold I64 at h1 h2 h3
    obtain ⟨-, -, t2, t3⟩ := hT
    have r1 := Int.emod_nonneg (t - ph) (b := pe) (by omega)
    have r2 := Int.emod_lt_of_pos (t - ph) (b := pe) (by omega)
    have hs : (1099511627776 ≤ ph) ∨ (ph < 1099511627776 ∧ t ≤ ph) ∨ (ph < 1099511627776 ∧ ph < t ∧ 1099511627776 ≤ t) ∨ (ph < 1099511627776 ∧ ph < t ∧ t < 1099511627776 ∧ (t - ph) % pe = 0) ∨ (ph < 1099511627776 ∧ ph < t ∧ t < 1099511627776 ∧ (t - ph) % pe ≠ 0 ∧ 1099511627776 - t ≤ pe - (t - ph) % pe) ∨ (ph < 1099511627776 ∧ ph < t ∧ t < 1099511627776 ∧ (t - ph) % pe ≠ 0 ∧ ¬ 1099511627776 - t ≤ pe - (t - ph) % pe) := by omega
    generalize hb : w.heap.size = b at *
    rcases hs with q1 | ⟨q1, q2⟩ | ⟨q1, q2, q3⟩ | ⟨q1, q2, q3, q4⟩ | ⟨q1, q2, q3, q4, q5⟩ | ⟨q1, q2, q3, q4, q5⟩
    · rw [if_pos q1]
      go_enter Try.func9, Try.ntmps9
      go_wp2_with (go_at_call 20; refine (cT _).mono ?_; rintro e w1 ⟨rfl, hk⟩; replace hb0 := hk.at' hb0 (fun h => h); replace K0 := K0.trans hk (fun _ h => .inl h); obtain ⟨d0, d1, d2, d3, d4⟩ := five hb0; clear hk)
      go_ret
      exact ⟨rfl, K0⟩
    · rw [if_neg (by omega), if_pos q2]
      have q1' : decide (1099511627776 ≤ ph) = false := by simp; omega
      go_enter Try.func9, Try.ntmps9
      go_wp2_with (go_at_call 20; refine (cT _).mono ?_; rintro e w1 ⟨rfl, hk⟩; replace hb0 := hk.at' hb0 (fun h => h); replace K0 := K0.trans hk (fun _ h => .inl h); obtain ⟨d0, d1, d2, d3, d4⟩ := five hb0; clear hk)
      go_ret
      exact ⟨rfl, K0⟩
    · rw [if_neg (by omega), if_neg (by omega), if_pos q3]
      have q1' : decide (1099511627776 ≤ ph) = false := by simp; omega
      go_enter Try.func9, Try.ntmps9
      go_wp2_with (go_at_call 20; refine (cT _).mono ?_; rintro e w1 ⟨rfl, hk⟩; replace hb0 := hk.at' hb0 (fun h => h); replace K0 := K0.trans hk (fun _ h => .inl h); obtain ⟨d0, d1, d2, d3, d4⟩ := five hb0; clear hk)
      go_ret
      exact ⟨rfl, K0⟩
    · rw [if_neg (by omega), if_neg (by omega), if_neg (by omega), if_pos q4]
      have q1' : decide (1099511627776 ≤ ph) = false := by simp; omega
      go_enter Try.func9, Try.ntmps9
      go_wp2_with (go_at_call 20; refine (cT _).mono ?_; rintro e w1 ⟨rfl, hk⟩; replace hb0 := hk.at' hb0 (fun h => h); replace K0 := K0.trans hk (fun _ h => .inl h); obtain ⟨d0, d1, d2, d3, d4⟩ := five hb0; clear hk)
      go_ret
      exact ⟨rfl, K0⟩
    · rw [if_neg (by omega), if_neg (by omega), if_neg (by omega), if_neg q4, if_pos q5]
      have q1' : decide (1099511627776 ≤ ph) = false := by simp; omega
      go_enter Try.func9, Try.ntmps9
      go_wp2_with (go_at_call 20; refine (cT _).mono ?_; rintro e w1 ⟨rfl, hk⟩; replace hb0 := hk.at' hb0 (fun h => h); replace K0 := K0.trans hk (fun _ h => .inl h); obtain ⟨d0, d1, d2, d3, d4⟩ := five hb0; clear hk)
      go_ret
      exact ⟨rfl, K0⟩
    · rw [if_neg (by omega), if_neg (by omega), if_neg (by omega), if_neg q4, if_neg q5]
      have e9 : wrap64 (wrap64 (t + pe) - (t - ph) % pe) = t + pe - (t - ph) % pe := by
        generalize (t - ph) % pe = r at *
        unfold wrap64; omega
      have q1' : decide (1099511627776 ≤ ph) = false := by simp; omega
      go_enter Try.func9, Try.ntmps9
      go_wp2_with (go_at_call 20; refine (cT _).mono ?_; rintro e w1 ⟨rfl, hk⟩; replace hb0 := hk.at' hb0 (fun h => h); replace K0 := K0.trans hk (fun _ h => .inl h); obtain ⟨d0, d1, d2, d3, d4⟩ := five hb0; clear hk)
      go_ret
      exact ⟨congrArg (fun z => Ending.returned (Value.int .i64 z)) e9, K0⟩
  · rw [nxt_no t hT]
    rw [decide_eq_false hT] at cT
    clear hT h1 h2 h3
    generalize hb : w.heap.size = b at *
    go_enter Try.func9, Try.ntmps9
    go_wp2_with (go_at_call 20; refine (cT _).mono ?_; rintro e w1 ⟨rfl, hk⟩; replace hb0 := hk.at' hb0 (fun h => h); replace K0 := K0.trans hk (fun _ h => .inl h); obtain ⟨d0, d1, d2, d3, d4⟩ := five hb0; clear hk)
    go_ret
    exact ⟨rfl, K0⟩
end Go.Proofs.Ytnoiehlbohmnlaa
