/-
  A region that draws, within a round of a range over a function: driven by hand as outside of one (no dump).
-/
import Derived.Test.YtdohjhhflfnncaaDoorCRange
import Derived.RegionIn
import Derived.Deep.RegionHeld
namespace Go.Proofs.YtdohjhhflfnncaaDoor
open Go.RowKit Go.Shelf
set_option linter.unusedVariables false
set_option maxRecDepth 100000

section
variable {P : Program} {md : Region.Mode} {ops : Array Oper} {Q : Exit → Act → World → Prop} {S : World → Prop} {l n : Nat}
/-- no operation defers -/
def undeferred (ops : Array Oper) : Bool := ops.all fun o => match o.op with | .defer _ => false | _ => true
theorem undeferred_at (h : undeferred ops = true) {i : Nat} {o : Oper} (ho : ops[i]? = some o) : ∀ c, o.op ≠ .defer c := by
  intro c hc
  have h1 := Array.all_eq_true_iff_forall_mem.1 h o (Array.mem_of_getElem? ho)
  rw [hc] at h1
  cases h1
theorem wpOpIn_round (hd : undeferred ops = true) (hL : ¬ LetsOut Q) {i : Nat} {K K' : Act → World → Prop} (hK : ∀ a w, K a w → K' a w) {a : Act} {w : World} (h : wpOp P ops Q i K a w) : wpOpIn (Fence.wide.inRound l) n P ops Q i K' a w := by
  unfold wpOp at h
  unfold wpOpIn
  cases ho : ops[i]? with
  | none => rw [ho] at h; exact hK _ _ h
  | some o =>
    rw [ho] at h
    simp only at h ⊢
    by_cases hw : Region.wanted o (yielded ops a.tmps) = true
    · rw [if_pos hw] at h ⊢
      rcases h with h | h
      · refine ⟨fun _ _ => trivial, ?_⟩
        unfold Oper.wp at h
        rw [Oper.semAt_eq _ _ _ (undeferred_at hd ho)]
        generalize (execOp a.eval o).run P w = r at h
        cases r with
        | ok x w' =>
          cases x with
          | value v => exact hK _ _ h
          | skip => exact hK _ _ h
          | defer d => exact hK _ _ h
          | enter f args =>
            refine ⟨fun hx => (by simp [Fence.wide, Fence.inRound] at hx), CallsIn.inRound l (callsIn_wide.2 (Calls.mono h ?_))⟩
            intro e w'' he
            cases e with
            | returned v => exact hK _ _ he
            | panicked c => exact he
            | outgrown => exact he
          | row r x => exact ⟨fun hx => (by simp [Fence.wide, Fence.inRound] at hx), fun c cs _ => let ⟨v, w3, r3, s3⟩ := h c cs; ⟨v, w3, hK _ _ r3, stepsIn_wide.2 s3⟩⟩
          | _ => exact h.elim
        | halt x w' =>
          cases x with
          | panic v => exact h
          | _ => exact h.elim
      · exact (hL h.2).elim
    · rw [if_neg hw] at h ⊢
      exact ⟨fun _ _ => trivial, hK _ _ h⟩
theorem wpAnyIn_round (hd : undeferred ops = true) (hL : ¬ LetsOut Q) : ∀ (fuel : Nat) (listed : Array Bool) (a : Act) (w : World), wpAny P md ops Q fuel listed a w → wpAnyIn (Fence.wide.inRound l) n P md ops Q fuel listed a w
  | 0, listed, a, w, h => h
  | fuel + 1, listed, a, w, h => ⟨h.1, fun i hi => wpOpIn_round hd hL (fun a w h => wpAnyIn_round hd hL fuel _ a w h) (h.2 i hi)⟩
theorem wpIn_region_round {id : Nat} {a : Act} {w : World} (hm : P.follows .mixedOrders = true) (hd : undeferred ops = true) (hL : ¬ LetsOut Q)
    (h : wpAnyH P .any ops Q S ops.size (Array.replicate ops.size false) a w.drew) : (Code.region id ops true).wpIn (Fence.wide.inRound l) n P Q a w :=
  wpIn_region_any hm (wpAnyIn_round hd hL _ _ _ _ (wpAny_of_held _ _ _ _ h))

variable {fuel : Nat} {listed : Array Bool} {a : Act} {w : World}
theorem r_take (i k : Nat) {oi : Oper} {v : Value} (hi : ops[i]? = some oi) (hd : oi.dst = some k) (hs : Region.noSelect ops = true) (hf : Region.free md ops listed i = true) (hr : (Region.ready md ops listed).contains i = true)
    (hQ : ∀ c a w, Q (.panic c) (a.put (some k) v) w → Q (.panic c) a w) (hw : Region.wanted oi (yielded ops a.tmps) = true) (hv : ∀ w, S w → (execOp a.eval oi).run P w = .ok (.value v) w) (hS : S w)
    (h : wpAnyH P md ops Q S fuel (listed.setIfInBounds i true) (a.put (some k) v) w) : wpAnyH P md ops Q S (fuel + 1) listed a w :=
  wpAnyH_take hi hs hf hr (by rw [hd]; exact hQ) (.inl ⟨hw, hv⟩) hS (by rw [hd]; exact h)
/-- two stores are left, in either order -/
theorem r_stores (i j : Nat) {oi oj : Oper} {wi wj wij wji : World} (hr : Region.ready md ops listed = [i, j]) (hri : Region.ready md ops (listed.setIfInBounds i true) = [j]) (hrj : Region.ready md ops (listed.setIfInBounds j true) = [i])
    (hrij : Region.ready md ops ((listed.setIfInBounds i true).setIfInBounds j true) = []) (hrji : Region.ready md ops ((listed.setIfInBounds j true).setIfInBounds i true) = [])
    (hi : ops[i]? = some oi) (hj : ops[j]? = some oj) (hdi : oi.dst = none) (hdj : oj.dst = none) (hwi : Region.wanted oi (yielded ops a.tmps) = true) (hwj : Region.wanted oj (yielded ops a.tmps) = true)
    (e1 : (execOp a.eval oi).run P w = .ok .skip wi) (e2 : (execOp a.eval oj).run P wi = .ok .skip wij) (e3 : (execOp a.eval oj).run P w = .ok .skip wj) (e4 : (execOp a.eval oi).run P wj = .ok .skip wji)
    (s1 : S wi) (s2 : S wij) (s3 : S wj) (s4 : S wji) (q1 : Q .normal a wij) (q2 : Q .normal a wji) : wpAnyH P md ops Q S (fuel + 1 + 1) listed a w := by
  have ap : a.put none undef = a := rfl
  refine wpAnyH_ready hr (by simp) (AllReadyH.cons hi (fun K hK => ?_) (AllReadyH.cons hj (fun K hK => ?_) AllReadyH.nil))
  · rw [if_pos hwi]
    unfold Oper.wp
    rw [e1]
    refine hK.out _ _ s1 (fun _ => ?_)
    rw [hdi, ap]
    refine wpAnyH_ready hri (by simp) (AllReadyH.cons hj (fun K hK => ?_) AllReadyH.nil)
    rw [if_pos hwj]
    unfold Oper.wp
    rw [e2]
    refine hK.out _ _ s2 (fun _ => ?_)
    rw [hdj, ap]
    exact wpAnyH_done hrij q1 _
  · rw [if_pos hwj]
    unfold Oper.wp
    rw [e3]
    refine hK.out _ _ s3 (fun _ => ?_)
    rw [hdj, ap]
    refine wpAnyH_ready hrj (by simp) (AllReadyH.cons hi (fun K hK => ?_) AllReadyH.nil)
    rw [if_pos hwi]
    unfold Oper.wp
    rw [e4]
    refine hK.out _ _ s4 (fun _ => ?_)
    rw [hdi, ap]
    exact wpAnyH_done hrji q2 _
end
end Go.Proofs.YtdohjhhflfnncaaDoor
