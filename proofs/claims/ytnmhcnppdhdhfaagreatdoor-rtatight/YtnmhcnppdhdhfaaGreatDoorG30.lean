/-
  One text: OAgain2, OAgain.
-/
import Derived.Test.YtnmhcnppdhdhfaaGreatDoorG28
import Derived.Test.YtnmhcnppdhdhfaaGreatDoorHOAgain1
namespace Go.Proofs.YtnmhcnppdhdhfaaGreatDoor
open Go.RowKit Go.Shelf Plain
attribute [local go_sem] Oper.semAt_some
set_option linter.unusedVariables false
set_option maxRecDepth 100000

theorem min_nat (x b q : Nat) (h : q ≤ b) : ∃ L : Nat, min (x : Int) ((b : Int) - q) = (L : Int) ∧ L ≤ x ∧ q + L ≤ b ∧ (L = x ∨ L = b - q) := by
  by_cases h1 : (x : Int) ≤ (b : Int) - q
  · exact ⟨x, by rw [Int.min_def, if_pos h1], by omega, by omega, .inl rfl⟩
  · exact ⟨b - q, by rw [Int.min_def, if_neg h1]; omega, by omega, by omega, .inr rfl⟩

set_option maxHeartbeats 4000000 in
theorem again_more {f : Nat → Nat} {H fr below : Nat} {T : List (Nat × Nat)} (hT : Turn f H fr T) (b1 b2 base : Nat) (v : Value) (hlt : fr < below) (hb : below ≤ 1099511627776) (hTl : T.length ≤ 4000000) (hone : T.length ≠ 1) (l : Nat) (J Jx : St) (W : World) (S : Nat → Prop)
    (ho : Ow W base v T) (hFS : ∀ k, v.ownBlock = some k → ¬ S k) (h1 : W.cell? ⟨b1, 0, none⟩ = some v) (h2 : W.heap[b2]? = some (.cells #[.int .i64 fr, .int .i64 below] 73)) (hn1 : ¬ S b1) (hn2 : ¬ S b2)
    (hJ : Hangs J) (hJx : Hangs Jx) (hTk : Takes Tryz.prog l f below J Jx) (h0 : J fr W S) :
    Calls Tryz.prog 61 #[.func (.yield l) #[] #[], .pointer (some ⟨b1, 0, none⟩), .pointer (some ⟨b2, 0, none⟩)] W fun e W' => (∃ v, e = .returned v) ∧ ∃ S', Kept S W W' ∧ More S W S' ∧ (J below W' S' ∨ ∃ q, Jx q W' S') := by
  refine callsIn_wide (n := 9).1 ?_
  refine callsIn_of_wp Tryz.func61 rfl trivial ?_ rfl
  simp only [Tryz.ntmps61, List.size_toArray, List.length_cons, List.length_nil, Nat.reduceAdd, Nat.reduceSub, Array.replicate_succ, Array.replicate_zero, List.push_toArray, List.append_toArray, List.nil_append, List.cons_append]
  have hpos : T ≠ [] := fun e => by have hp := hT.pos; have hs := hT.tile.sum; rw [e] at hs; simp at hs; omega
  obtain ⟨_, ⟨_, he⟩ | ⟨g, cap, cur, rfl, hrest⟩⟩ := id ho
  · exact (hpos (List.eq_nil_of_length_eq_zero he)).elim
  have hfr := hFS g rfl
  clear hrest
  obtain ⟨s0, s1⟩ := cells2' h2
  have hH1 := hT.pos
  have HT : Hid (Turn f H fr T) := hT
  have HJ : Hid (Hangs J ∧ Hangs Jx ∧ Takes Tryz.prog l f below J Jx) := ⟨hJ, hJx, hTk⟩
  have HO : Hid (Ow W base (.slice (some ⟨g, 0, none⟩) T.length cap) T ∧ ¬ S g ∧ W.cell? ⟨b1, 0, none⟩ = some (.slice (some ⟨g, 0, none⟩) T.length cap) ∧ ¬ S b1 ∧ W.heap[b2]? = some (.cells #[.int .i64 fr, .int .i64 below] 73) ∧ ¬ S b2) := ⟨ho, hfr, h1, hn1, h2, hn2⟩
  have HJ0 : Hid (J fr W S) := h0
  have hone' : ((T.length : Int) == 1) = false := by simp; omega
  clear hT hJ hJx hTk ho hfr hn1 h2 hn2 h0 hFS hpos hone
  gi_wp2
  clear h1 s0 s1 hone'
  gi_loopw [4] (fun x wr => ∃ (q : Nat) (S' : Nat → Prop), x = .int .i64 q ∧ q ≤ below ∧ (q < below → ∃ k, q = fr + k * H) ∧ J q wr S' ∧ Kept S W wr ∧ More S W S') (fun x _ => below - (intOf x).toNat)
  case atStart => exact ⟨fr, S, rfl, by omega, fun _ => ⟨0, by omega⟩, HJ0.out, Kept.refl _ _, More.refl _ _⟩
  case round =>
    clear HJ0
    obtain ⟨q0, S0, rfl, hq, hqk, hj, hk, hm⟩ := hrel
    obtain ⟨o1, o2, o3, o4, o5, o6⟩ := HO.out
    have c1 := hk.cell o3 o4
    obtain ⟨c2, c3⟩ := cells2' (hk.at' o5 o6)
    by_cases hqb : q0 < below
    · obtain ⟨k, hke⟩ := hqk hqb
      generalize wr = wo at *
      clear o1 o2 o3 o4 o5 o6
      have HS : Hid (J q0 wo S0 ∧ Kept S W wo ∧ More S W S0 ∧ q0 = fr + k * H) := ⟨hj, hk, hm, hke⟩
      clear hj hk hm hke hqk
      gi_wp2
      clear c1 c2 c3
      gi_loopw [4, 32] (fun z x wr => ∃ (i q : Nat) (S' : Nat → Prop), i ≤ T.length ∧ x = .int .i64 i ∧ z = .int .i64 q ∧ q ≤ below ∧ (q = fr + k * H + Rule.pre T i ∨ q = below) ∧ J q wr S' ∧ Kept S W wr ∧ More S W S') (fun _ x _ => T.length - (intOf x).toNat)
      case atStart =>
        obtain ⟨a1, a2, a3, a4⟩ := HS.out
        exact ⟨0, q0, S0, Nat.zero_le _, rfl, rfl, hq, .inl (by rw [Rule.pre_zero]; omega), a1, a2, a3⟩
      case round =>
        obtain ⟨i, q, S', hi, rfl, rfl, hqb2, hqe, hj, hk, hm⟩ := hrel
        obtain ⟨o1, o2, o3, o4, o5, o6⟩ := HO.out
        obtain ⟨c2, c3⟩ := cells2' (hk.at' o5 o6)
        by_cases hil : i < T.length
        · obtain ⟨x, hx⟩ : ∃ x, T[i]? = some x := ⟨_, List.getElem?_eq_getElem hil⟩
          obtain ⟨d0, d1⟩ := slL_at T i x hx
          have e0 := o1.cells (g := g) rfl (i * 2) _ d0
          have e1 := o1.cells (g := g) rfl (i * 2 + 1) _ d1
          rw [add_none, Nat.zero_add] at e0 e1
          replace e0 := hk.cell e0 o2
          replace e1 := hk.cell e1 o2
          unfold nv at e0 e1
          have h3 : 1 ≤ x.1 := HT.out.tile.pos x (List.mem_of_getElem? hx)
          have HQE : Hid (q = fr + k * H + Rule.pre T i ∨ q = below) := hqe
          have HR : Hid (J q wr S' ∧ Kept S W wr ∧ More S W S' ∧ T[i]? = some x) := ⟨hj, hk, hm, hx⟩
          have hold := HJ.out.1.old _ _ _ hj
          have c3a : (wr.alloc (.cells #[.int .i64 x.1, .int .i64 x.2] 75)).cell? ⟨b2, 1, none⟩ = some (.int .i64 below) := (World.cell?_alloc_lt _ _ _ (cell_lt c3)).trans c3
          obtain ⟨L, eL, l1, l2, l3⟩ := min_nat x.1 below q hqb2
          clear d0 d1 hj hk hm hx o1 o2 o3 o4 o5 o6 hqe
          by_cases hq0 : q = below
          · have hL0 : L = 0 := by omega
            subst hL0
            have HQ0 : Hid (q = below) := hq0
            clear hq0 l1 l2 l3 hold
            gi_wp2
            refine ⟨(fun _ h => by cases h), ?_⟩
            gi_wp2
            refine bodyPost_ret (results_none rfl _ _ _) rfl ?_
            obtain ⟨a1, a2, a3, a4⟩ := HR.out
            rw [HQ0.out] at a1
            have ho := HJ.out.1.old _ _ _ a1
            exact ⟨⟨_, rfl⟩, S', a2.alloc _, a3, .inl (HJ.out.1.kept _ wr _ _ a1 (by simp) (fun k hs => Below.heap_alloc _ _ _ (ho k hs)))⟩
          · have hL1 : 1 ≤ L := by omega
            have hL1' : ¬ ((L : Int) = 0) := by omega
            have HL3 : Hid (L = x.1 ∨ L = below - q) := l3
            have hj2 : J q (wr.alloc (.cells #[.int .i64 L, .int .i64 x.2] 75)) S' := HJ.out.1.kept _ wr _ _ HR.out.1 (by simp) (fun k hs => Below.heap_alloc _ _ _ (hold k hs))
            have hcst : ∀ u, q ≤ u → u < q + L → f u = x.2 := fun u h1 h2 => by
              rcases HQE.out with h | h
              · have := HT.out.next (k := k) HR.out.2.2.2 (u - (fr + k * H)) (by omega) (by omega)
                rw [show fr + k * H + (u - (fr + k * H)) = u by omega] at this
                exact this
              · exact (hq0 h).elim
            have hy := HJ.out.2.2 8 q L _ S' hj2 hL1 l2 (fun u h1 h2 => by rw [hcst u h1 h2, hcst q (Nat.le_refl _) (by omega)])
            rw [hcst q (Nat.le_refl _) (by omega)] at hy
            obtain ⟨fn, tmps, assign, body, hyr, hR⟩ := hy
            unfold sv at hyr
            have HRD : Hid (RoundIn Fence.wide 8 Tryz.prog l fn tmps assign body (wr.alloc (.cells #[.int .i64 L, .int .i64 x.2] 75)) (Took J Jx (q + L) (wr.alloc (.cells #[.int .i64 L, .int .i64 x.2] 75)) S')) := hR
            have HLE : Hid (q + L ≤ below) := l2
            have hbx : ¬ S' wr.heap.size := fun hs => by have := hold _ hs; omega
            clear hR hcst hj2 hq0 l1 l3 hold
            gi_wp2
            refine HRD.out.mono ?_
            clear hyr
            have hd0 : (wr.alloc (.cells #[.int .i64 L, .int .i64 x.2] 75)).cell? ⟨wr.heap.size, 0, none⟩ = some (.int .i64 L) := (cells2' (World.alloc_heap_new _ _)).1
            rintro e w3 ⟨S3, hk3, hm3, (⟨rfl, hj3⟩ | ⟨rfl, hj3⟩)⟩
            · have hd3 : w3.cell? ⟨wr.heap.size, 0, none⟩ = some (.int .i64 L) := hk3.cell hd0 hbx
              have HF : Hid (J (q + L) w3 S3 ∧ Kept S W w3 ∧ More S W S3) := by
                obtain ⟨a1, a2, a3, a4⟩ := HR.out
                exact ⟨hj3, (a2.alloc _).more a3 hk3, a3.trans hm3 (a2.alloc _).size⟩
              clear hd0 hk3 hm3 hj3
              gi_wp2
              go_roundw
              case rel =>
                obtain ⟨z1, z2, z3⟩ := HF.out
                refine ⟨i + 1, q + L, S3, by omega, by go_num, by go_num, HLE.out, ?_, z1, z2, z3⟩
                rcases HL3.out with h | h
                · rcases HQE.out with h' | h'
                  · left; rw [Rule.pre_succ HR.out.2.2.2]; omega
                  · right; have := HLE.out; omega
                · right; omega
              case measure => simp [intOf]; omega
            · have HF : Hid (Kept S W w3 ∧ More S W S3 ∧ Jx (q + L) w3 S3) := by
                obtain ⟨a1, a2, a3, a4⟩ := HR.out
                exact ⟨(a2.alloc _).more a3 hk3, a3.trans hm3 (a2.alloc _).size, hj3⟩
              clear hd0 hk3 hm3 hj3
              gi_wp2
              refine bodyPost_ret (results_none rfl _ _ _) rfl ?_
              exact ⟨⟨_, rfl⟩, S3, HF.out.1, HF.out.2.1, .inr ⟨_, HF.out.2.2⟩⟩
        · have hie : i = T.length := by omega
          subst hie
          have hp : Rule.pre T T.length = H := by rw [Rule.pre_all, HT.out.tile.sum]
          have HF : Hid (J q wr S' ∧ Kept S W wr ∧ More S W S' ∧ (q = fr + (k + 1) * H ∨ q = below)) := ⟨hj, hk, hm, by
            rcases hqe with h | h
            · left; rw [h, hp, Nat.succ_mul]; omega
            · exact .inr h⟩
          have HQ : Hid (q0 = fr + k * H) := HS.out.2.2.2
          clear hj hk hm hqe hp o1 o2 o3 o4 o5 o6 c2 c3
          gi_wp2
          go_roundw
          case rel =>
            obtain ⟨z1, z2, z3, z4⟩ := HF.out
            exact ⟨q, S', rfl, hqb2, fun hlt => ⟨k + 1, by omega⟩, z1, z2, z3⟩
          case measure =>
            obtain ⟨z1, z2, z3, z4⟩ := HF.out
            have := HQ.out
            have e : (k + 1) * H = k * H + H := Nat.succ_mul k H
            simp [intOf]
            omega
    · have hqe : q0 = below := by omega
      subst hqe
      clear hqk
      gi_wp2
      go_end0
      exact ⟨⟨_, rfl⟩, S0, hk, hm, .inl hj⟩
end Go.Proofs.YtnmhcnppdhdhfaaGreatDoor

namespace Go.Proofs.YtnmhcnppdhdhfaaGreatDoor
open Go.RowKit Go.Shelf Plain
set_option linter.unusedVariables false
theorem again_any {f : Nat → Nat} {H fr below : Nat} {T : List (Nat × Nat)} (hT : Turn f H fr T) (b1 b2 base : Nat) (v : Value) (hlt : fr < below) (hb : below ≤ 1099511627776) (hTl : T.length ≤ 4000000) (l : Nat) (J Jx : St) (W : World) (S : Nat → Prop)
    (ho : Ow W base v T) (hFS : ∀ k, v.ownBlock = some k → ¬ S k) (h1 : W.cell? ⟨b1, 0, none⟩ = some v) (h2 : W.heap[b2]? = some (.cells #[.int .i64 fr, .int .i64 below] 73)) (hn1 : ¬ S b1) (hn2 : ¬ S b2)
    (hJ : Hangs J) (hJx : Hangs Jx) (hTk : Takes Tryz.prog l f below J Jx) (h0 : J fr W S) :
    Calls Tryz.prog 61 #[.func (.yield l) #[] #[], .pointer (some ⟨b1, 0, none⟩), .pointer (some ⟨b2, 0, none⟩)] W fun e W' => (∃ v, e = .returned v) ∧ ∃ S', Kept S W W' ∧ More S W S' ∧ (J below W' S' ∨ ∃ q, Jx q W' S') := by
  by_cases hone : T.length = 1
  · exact again_one hT b1 b2 base v hlt hb hone l J Jx W S ho hFS h1 h2 hn1 hn2 hJ hJx hTk h0
  · exact again_more hT b1 b2 base v hlt hb hTl hone l J Jx W S ho hFS h1 h2 hn1 hn2 hJ hJx hTk h0
end Go.Proofs.YtnmhcnppdhdhfaaGreatDoor
