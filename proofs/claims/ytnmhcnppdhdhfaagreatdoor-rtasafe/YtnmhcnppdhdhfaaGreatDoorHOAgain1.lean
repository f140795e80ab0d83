/-
  One text: OAgain1.
-/
import Derived.Test.YtnmhcnppdhdhfaaGreatDoorG28
namespace Go.Proofs.YtnmhcnppdhdhfaaGreatDoor
open Go.RowKit Go.Shelf Plain
attribute [local go_sem] Oper.semAt_some
set_option linter.unusedVariables false
set_option maxRecDepth 100000

set_option maxHeartbeats 16000000 in
theorem again_one {f : Nat → Nat} {H fr below : Nat} {T : List (Nat × Nat)} (hT : Turn f H fr T) (b1 b2 base : Nat) (v : Value) (hlt : fr < below) (hb : below ≤ 1099511627776) (hone : T.length = 1) (l : Nat) (J Jx : St) (W : World) (S : Nat → Prop)
    (ho : Ow W base v T) (hFS : ∀ k, v.ownBlock = some k → ¬ S k) (h1 : W.cell? ⟨b1, 0, none⟩ = some v) (h2 : W.heap[b2]? = some (.cells #[.int .i64 fr, .int .i64 below] 73)) (hn1 : ¬ S b1) (hn2 : ¬ S b2)
    (hJ : Hangs J) (hJx : Hangs Jx) (hTk : Takes Tryz.prog l f below J Jx) (h0 : J fr W S) :
    Calls Tryz.prog 61 #[.func (.yield l) #[] #[], .pointer (some ⟨b1, 0, none⟩), .pointer (some ⟨b2, 0, none⟩)] W fun e W' => (∃ v, e = .returned v) ∧ ∃ S', Kept S W W' ∧ More S W S' ∧ (J below W' S' ∨ ∃ q, Jx q W' S') := by
  refine callsIn_wide (n := 9).1 ?_
  refine callsIn_of_wp Tryz.func61 rfl trivial ?_ rfl
  simp only [Tryz.ntmps61, List.size_toArray, List.length_cons, List.length_nil, Nat.reduceAdd, Nat.reduceSub, Array.replicate_succ, Array.replicate_zero, List.push_toArray, List.append_toArray, List.nil_append, List.cons_append]
  have hpos : T ≠ [] := fun e => by have hp := hT.pos; have hs := hT.tile.sum; rw [e] at hs; simp at hs; omega
  obtain ⟨_, ⟨_, he⟩ | ⟨g, cap, cur, rfl, hrest⟩⟩ := id ho
  · exact (hpos (List.eq_nil_of_length_eq_zero he)).elim
  have hfr := hFS g rfl
  clear hrest
  obtain ⟨s0, s1⟩ := cells2' h2
  obtain ⟨x, rfl⟩ := List.length_eq_one_iff.1 hone
  have hc := ho.cells (g := g) rfl 1 _ (slL_at [x] 0 x rfl).2
  rw [add_none, Nat.zero_add] at hc
  have h0d : J fr W.drew S := hJ.kept _ W _ S h0 (Nat.le_refl _) (fun _ _ => rfl)
  have hy := hTk 8 fr (below - fr) W.drew S h0d (by omega) (by omega) (fun u a b => by
    have e1 := hT.one (u - fr)
    have e2 := hT.one 0
    rw [show fr + (u - fr) = u by omega] at e1
    rw [Nat.add_zero] at e2
    rw [e1, e2])
  rw [show f fr = x.2 by have e2 := hT.one 0; rw [Nat.add_zero] at e2; exact e2, show fr + (below - fr) = below by omega] at hy
  have e3 : ((below - fr : Nat) : Int) = IntKind.i64.wrap ((below : Int) - fr) := by rw [w64i]; unfold wrap64; omega
  unfold sv at hy
  rw [e3] at hy
  unfold nv at hc
  have hlen : ([x] : List (Nat × Nat)).length = 1 := rfl
  clear hT hTk ho h2 hJ hJx
  simp only [hlen] at h1
  have hmix : Tryz.prog.follows .mixedOrders = true := by kernel_rfl
  gi_wp2
  obtain ⟨fn, tmps, assign, body, hyr, hR⟩ := hy
  have HR : Hid (RoundIn Fence.wide 8 Tryz.prog l fn tmps assign body W.drew fun e w' => ∃ b, e = .returned (.bool b) ∧ ∃ S', Kept S W w' ∧ More S W S' ∧ (J below w' S' ∨ ∃ q, Jx q w' S')) := hR.mono (by
    rintro e w3 ⟨S3, hk3, hm3, h⟩
    have hk3' : Kept S W w3 := ((Kept.refl S W).drew).trans hk3 (fun k h => .inl h)
    rcases h with ⟨rfl, hj3⟩ | ⟨rfl, hj3⟩
    · exact ⟨true, rfl, S3, hk3', hm3, .inl hj3⟩
    · exact ⟨false, rfl, S3, hk3', hm3, .inr ⟨_, hj3⟩⟩)
  clear hR h0 h0d
  gi_region_with_o (first | (refine HR.out.mono ?_; rintro e w3 ⟨b3, rfl, h3⟩; have H3 : Hid (∃ S', Kept S W w3 ∧ More S W S' ∧ (J below w3 S' ∨ ∃ q, Jx q w3 S')) := h3; clear h3))
  all_goals (gi_wp2; refine bodyPost_ret (results_none rfl _ _ _) rfl ?_; exact ⟨⟨_, rfl⟩, H3.out⟩)
end Go.Proofs.YtnmhcnppdhdhfaaGreatDoor
