/-
  ChannelOnce: the walk, known's answer taken.
-/
import Derived.Test.YtnoiehlbohmnlaaCOnceP
import Derived.Test.YtnoiehlbohmnlaaCDue
import Derived.Test.YtnoiehlbohmnlaaCHeld
import Derived.Deep.RegionWith
namespace Go.Proofs.Ytnoiehlbohmnlaa
open Go.RowKit Plain
set_option linter.unusedVariables false
set_option maxRecDepth 100000

/-- what known answers -/
def KnownY : Prop := ∀ w : World, Calls Try.prog 11 #[] w fun e w' => e = .returned (.bool true) ∧ Kept No w w'

set_option maxHeartbeats 4000000 in
theorem once_no (kn : KnownY) (k f ph pe t g : Int) (w : World) (h1 : I64 ph) (h2 : I64 pe) (h3 : I64 t) (hT : ¬ Tk k f ph pe) :
    Calls Try.prog 4 #[.int .i64 k, .int .i64 f, .int .i64 ph, .int .i64 pe, .int .i64 t, .int .i64 g] w fun e w' => e = .returned (.bool true) ∧ Kept No w w' := by
  have cN := fun w => nxt_any k f ph pe t none 0 0 w h1 h2 h3
  have cD : ∀ (u : Int) (hu : I64 u) (w : World), Calls Try.prog 6 #[.agg #[.int .i64 k, .int .i64 f, .slice none 0 0, .int .i64 ph, .int .i64 pe], .int .i64 u] w fun e w' => e = .returned (.bool false) ∧ Kept No w w' := fun u hu w => by
    have := due_any k f ph pe u none 0 0 w h1 h2 hu
    rw [due_no u hT] at this
    exact this
  rw [nxt_no t hT] at cN
  have hp1 : Hid (I64 ph) := h1
  have hp3 : Hid (I64 t) := h3
  have hs : k ≠ 1 ∨ (k = 1 ∧ f = 0) ∨ (k = 1 ∧ f ≠ 0 ∧ pe < 1) ∨ (k = 1 ∧ f ≠ 0 ∧ 1 ≤ pe ∧ ph < 0) := by unfold Tk at hT; omega
  have hb0 : (w.alloc (.cells #[.int .i64 k, .int .i64 f, .slice none 0 0, .int .i64 ph, .int .i64 pe] 24)).heap[w.heap.size]? = some (.cells #[.int .i64 k, .int .i64 f, .slice none 0 0, .int .i64 ph, .int .i64 pe] 24) := alloc_new w _
  have K0 : Kept No w (w.alloc (.cells #[.int .i64 k, .int .i64 f, .slice none 0 0, .int .i64 ph, .int .i64 pe] 24)) := (Kept.refl No w).alloc _
  generalize hb : w.heap.size = b at *
  clear hT h1 h2 h3
  rcases hs with hs | ⟨rfl, rfl⟩ | ⟨rfl, hf, hs⟩ | ⟨rfl, hf, hp, hs⟩
  all_goals
    go_enter Try.func4, Try.ntmps4
    go_wp2_with (first
      | (go_at_call 8; refine (cN _).mono ?_; rintro e w1 ⟨rfl, hk⟩; replace hb0 := hk.at' hb0 (fun h => h); replace K0 := K0.trans hk (fun _ h => .inl h); obtain ⟨d0, d1, d2, d3, d4⟩ := five hb0; clear hk)
      | (go_at_call 11; refine (kn _).mono ?_; rintro e w1 ⟨rfl, hk⟩; replace hb0 := hk.at' hb0 (fun h => h); replace K0 := K0.trans hk (fun _ h => .inl h); obtain ⟨d0, d1, d2, d3, d4⟩ := five hb0; clear hk)
      | (go_at_call 6; refine (cD _ ?_ _).mono ?_; (first | exact hp1.out | exact hp3.out); rintro e w1 ⟨rfl, hk⟩; replace hb0 := hk.at' hb0 (fun h => h); replace K0 := K0.trans hk (fun _ h => .inl h); obtain ⟨d0, d1, d2, d3, d4⟩ := five hb0; clear hk))
    go_ret
    exact ⟨rfl, K0⟩

theorem bx0 (w : World) (k f ph pe : Int) : (w.alloc (.cells #[.int .i64 k, .int .i64 f, .slice none 0 0, .int .i64 ph, .int .i64 pe] 24)).heap[w.heap.size]? = some (.cells #[.int .i64 k, .int .i64 f, .slice none 0 0, .int .i64 ph, .int .i64 pe] 24) := alloc_new w _

set_option maxHeartbeats 1000000 in
theorem once_never (kn : KnownY) (k f ph pe t g : Int) (w : World) (h1 : I64 ph) (h2 : I64 pe) (h3 : I64 t) (hT : Tk k f ph pe) (hn : nxtV k f ph pe t = -1) (hc : 1099511627776 ≤ ph ∨ 1099511627776 ≤ t ∨ (ph < t ∧ 1099511627776 - t ≤ pe)) (hd : dueB k f ph pe t = false) :
    Calls Try.prog 4 #[.int .i64 k, .int .i64 f, .int .i64 ph, .int .i64 pe, .int .i64 t, .int .i64 g] w fun e w' => e = .returned (.bool true) ∧ Kept No w w' := by
  have cN := fun w => nxt_any k f ph pe t none 0 0 w h1 h2 h3
  have cA := fun w => due_any k f ph pe t none 0 0 w h1 h2 h3
  rw [hn] at cN
  rw [hd] at cA
  have hb0 := bx0 w k f ph pe
  have K0 : Kept No w (w.alloc (.cells #[.int .i64 k, .int .i64 f, .slice none 0 0, .int .i64 ph, .int .i64 pe] 24)) := (Kept.refl No w).alloc _
  have hs : 1099511627776 ≤ ph ∨ (ph < 1099511627776 ∧ 1099511627776 ≤ t) ∨ (ph < 1099511627776 ∧ t < 1099511627776 ∧ ph < t ∧ 1099511627776 - t ≤ pe) := by omega
  generalize hb : w.heap.size = b at *
  obtain ⟨rfl, t1, t2, t3⟩ := hT
  unfold I64 at h1 h2 h3
  have t2' : decide (pe < 1) = false := by simp; omega
  have t3' : decide (ph < 0) = false := by simp; omega
  clear hn hd hc
  rcases hs with hs | ⟨hs0, hs⟩ | ⟨hs0, hs1, hs2, hs⟩
  all_goals
    go_enter Try.func4, Try.ntmps4
    go_wp2_with (first
      | (go_at_call 8; refine (cN _).mono ?_; rintro e w1 ⟨rfl, hk⟩; replace hb0 := hk.at' hb0 (fun h => h); replace K0 := K0.trans hk (fun _ h => .inl h); obtain ⟨d0, d1, d2, d3, d4⟩ := five hb0; clear hk)
      | (go_at_call 11; refine (kn _).mono ?_; rintro e w1 ⟨rfl, hk⟩; replace hb0 := hk.at' hb0 (fun h => h); replace K0 := K0.trans hk (fun _ h => .inl h); obtain ⟨d0, d1, d2, d3, d4⟩ := five hb0; clear hk)
      | (go_at_call 6; refine (cA _).mono ?_; rintro e w1 ⟨rfl, hk⟩; replace hb0 := hk.at' hb0 (fun h => h); replace K0 := K0.trans hk (fun _ h => .inl h); obtain ⟨d0, d1, d2, d3, d4⟩ := five hb0; clear hk))
    go_ret
    exact ⟨rfl, K0⟩
end Go.Proofs.Ytnoiehlbohmnlaa
