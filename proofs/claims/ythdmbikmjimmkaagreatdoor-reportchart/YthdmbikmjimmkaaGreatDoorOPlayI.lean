/-
  play: the iterator from change to change.
-/
import Derived.Test.YthdmbikmjimmkaaGreatDoorGH
import Derived.WalkKit
import Derived.OwnWalkIn
import Derived.TacticsInMore
import Derived.LoopNIn
import Derived.LoopIn
import Derived.Shelf.RegionOpen
namespace Go.Proofs.YthdmbikmjimmkaaGreatDoor
open Go.RowKit Go.Shelf Plain
attribute [local go_sem] Oper.semAt_some
set_option linter.unusedVariables false
set_option maxRecDepth 100000

/-- a slot in a box of its own, handed to yield -/
theorem yields {P : Program} {l : Nat} {f : Nat → Nat} {b : Nat} {J Jx : St} (hJ : Hangs J) (hT : Takes P l f b J Jx) {q len part g : Nat} {w w2 : World} {S : Nat → Prop} (hj : J q w S) (hg : ¬ S g) (h1 : 1 ≤ len) (h2 : q + len ≤ b) (h3 : ∀ u, q ≤ u → u < q + len → f u = part) (hk : Kept (fun b => b = g) w w2) :
    YieldAt Fence.wide 8 P l #[.int .i64 q, .agg #[.int .i64 len, .int .i64 part]] (w2.alloc (.cells #[.int .i64 len, .int .i64 part] 33)) (Took J Jx (q + len) (w2.alloc (.cells #[.int .i64 len, .int .i64 part] 33)) S) := by
  have hp : f q = part := h3 q (Nat.le_refl _) (by omega)
  have hold := hJ.old _ _ _ hj
  have hj2 : J q (w2.alloc (.cells #[.int .i64 len, .int .i64 part] 33)) S := hJ.kept _ w _ _ hj (by have := hk.size; simp; omega) (fun k hs =>
    (Below.heap_alloc _ _ _ (Nat.lt_of_lt_of_le (hold k hs) hk.size)).trans (hk.block k (hold k hs) (fun e => hg (by have e' : k = g := e; rw [← e']; exact hs))))
  have := hT 8 q len _ S hj2 h1 h2 (fun u a b => by rw [hp]; exact h3 u a b)
  rw [hp] at this
  exact this

set_option maxHeartbeats 2000000 in
theorem play_in {F : Nat → Prop} {a : Option Addr} {c : Nat} {xs : List Srv} (hv : Vd xs) (b1 b2 : Nat) (below : Nat) (hb : below ≤ 1099511627776) (l : Nat) (J Jx : St) (W : World) (S : Nat → Prop)
    (h : Sv W F a xs.length c xs) (hFS : ∀ k, F k → ¬ S k) (h1 : W.cell? ⟨b1, 0, none⟩ = some (.slice a xs.length c)) (h2 : W.cell? ⟨b2, 0, none⟩ = some (.int .i64 below)) (hn1 : ¬ S b1) (hn2 : ¬ S b2)
    (hJ : Hangs J) (hJx : Hangs Jx) (hT : Takes Tryz.prog l (Rule.occ (sys xs)) below J Jx) (h0 : J 0 W S) :
    Calls Tryz.prog 56 #[.func (.yield l) #[] #[], .pointer (some ⟨b1, 0, none⟩), .pointer (some ⟨b2, 0, none⟩)] W fun e W' => (∃ v, e = .returned v) ∧ ∃ S', Kept S W W' ∧ More S W S' ∧ (J below W' S' ∨ ∃ q, Jx q W' S') := by
  have hc := line_up h hv
  refine callsIn_wide (n := 9).1 ?_
  refine callsIn_of_wp Tryz.func56 rfl trivial ?_ rfl
  simp only [Tryz.ntmps56, List.size_toArray, List.length_cons, List.length_nil, Nat.reduceAdd, Nat.reduceSub, Array.replicate_succ, Array.replicate_zero, List.push_toArray, List.append_toArray, List.nil_append, List.cons_append]
  gi_wp2_with ((try refine ⟨trivial, ?_⟩); gi_at_call 57; refine (callsIn_wide.2 hc).mono ?_; rintro e w1 ⟨g, idx, rfl, hg1, hg2, hp, hi, hk⟩)
  have HH : Hid (Sv W F a xs.length c xs ∧ W.cell? ⟨b2, 0, none⟩ = some (.int .i64 below) ∧ ¬ S b2) := ⟨h, h2, hn2⟩
  have HV : Hid (Vd xs) := hv
  have HJ : Hid (Hangs J ∧ Hangs Jx ∧ Takes Tryz.prog l (Rule.occ (sys xs)) below J Jx) := ⟨hJ, hJx, hT⟩
  have hold := hJ.old _ _ _ h0
  have HJ1 : Hid (J 0 w1 S) := hJ.kept 0 W w1 S h0 hk.size (fun k hs => hk.block k (hold k hs) (fun h => h))
  have HG : Hid (¬ S g ∧ g < w1.heap.size ∧ Pl w1 g (sys xs) idx (fun _ => 0) (fun k => (sys xs).O (idx k)) ∧ Rule.Inv (sys xs) idx (fun _ => 0) (fun k => (sys xs).O (idx k)) 0 ∧ Kept S W w1) := ⟨fun hs => by have := hold g hs; omega, hg2, hp, hi, hk.mono (fun _ h => h.elim)⟩
  clear hp hi hk h h1 h2 hn1 hn2 hFS hJ hJx hT h0 hold hc hg2
  gi_loopw [5] (fun x wr => ∃ (q : Nat) (S' : Nat → Prop) (rs nx : Nat → Nat), x = .int .i64 q ∧ q ≤ below ∧ J q wr S' ∧ Kept S W wr ∧ More S W S' ∧ ¬ S' g ∧ g < wr.heap.size ∧ Pl wr g (sys xs) idx rs nx ∧ Rule.Inv (sys xs) idx rs nx q) (fun x _ => below - (intOf x).toNat)
  case atStart =>
    obtain ⟨a1, a2, a3, a4, a5⟩ := HG.out
    exact ⟨0, S, _, _, rfl, Nat.zero_le _, HJ1.out, a5, More.refl _ _, a1, a2, a3, a4⟩
  case round =>
    clear HG HJ1
    obtain ⟨q, S', rs, nx, rfl, hq, hj, hk, hm, hng, hgl, hp, hi⟩ := hrel
    have hb2 : wr.cell? ⟨b2, 0, none⟩ = some (.int .i64 below) := hk.cell HH.out.2.1 HH.out.2.2
    by_cases hlt : q < below
    · have hc := next_slot HV.out.bd (c := xs.length) hgl hlt hb hp hi
      have HR : Hid (J q wr S' ∧ Kept S W wr ∧ More S W S' ∧ ¬ S' g) := ⟨hj, hk, hm, hng⟩
      have hcell : ∀ w2, Kept (fun b => b = g) wr w2 → w2.cell? ⟨b2, 0, none⟩ = some (.int .i64 below) := fun w2 hk2 => hk2.cell hb2 (fun e => by
        have h3 : b2 = g := e
        have := cell_lt HH.out.2.1
        simp only at this
        omega)
      have HC : Hid (∀ w2, Kept (fun b => b = g) wr w2 → w2.cell? ⟨b2, 0, none⟩ = some (.int .i64 below)) := hcell
      clear hj hk hm hng hp hi hcell
      gi_wp2_with ((try refine ⟨trivial, ?_⟩); gi_at_call 58; refine (callsIn_wide.2 hc).mono ?_; rintro e w2 ⟨len, part, rs', nx', rfl, t1, t2, t3, t4, t5, t6⟩; clear hc; obtain ⟨fn, tmps, assign, body, hy, hR⟩ := yields HJ.out.1 HJ.out.2.2 HR.out.1 HR.out.2.2.2 t1 t2 t3 t6; have HT : Hid (Kept (fun b => b = g) wr w2 ∧ Pl w2 g (sys xs) idx rs' nx' ∧ Rule.Inv (sys xs) idx rs' nx' (q + len)) := ⟨t6, t5, t4⟩; clear t3 t4 t5 t6; simp only [sv])
      refine hR.mono ?_
      clear hy hR
      have hbx : ¬ S' w2.heap.size := fun hs => by have := HJ.out.1.old _ _ _ HR.out.1 _ hs; have := HT.out.1.size; omega
      have hd0 : (w2.alloc (.cells #[.int .i64 len, .int .i64 part] 33)).cell? ⟨w2.heap.size, 0, none⟩ = some (.int .i64 len) := (cells2 (World.alloc_heap_new _ _)).1
      rintro e w3 ⟨S3, hk3, hm3, (⟨rfl, hj3⟩ | ⟨rfl, hj3⟩)⟩
      · have hd3 : w3.cell? ⟨w2.heap.size, 0, none⟩ = some (.int .i64 len) := hk3.cell hd0 hbx
        have HF : Hid (J (q + len) w3 S3 ∧ Kept S W w3 ∧ More S W S3 ∧ ¬ S3 g ∧ g < w3.heap.size ∧ Pl w3 g (sys xs) idx rs' nx') := by
          obtain ⟨hj, hk, hm, hng⟩ := HR.out
          obtain ⟨t6, t5, t4⟩ := HT.out
          have hmg : ∀ k, k = g → S k ∨ W.heap.size ≤ k := fun k e => .inr (by omega)
          have hka : Kept S W (w2.alloc (.cells #[.int .i64 len, .int .i64 part] 33)) := (hk.trans t6 hmg).alloc _
          have hsz : wr.heap.size ≤ (w2.alloc (.cells #[.int .i64 len, .int .i64 part] 33)).heap.size := by have := t6.size; simp; omega
          have hgl2 : g < w2.heap.size := Nat.lt_of_lt_of_le hgl t6.size
          refine ⟨hj3, hka.more hm hk3, hm.trans hm3 hka.size, fun hs => ?_, Nat.lt_of_lt_of_le hgl2 (Nat.le_trans (by simp) hk3.size), ?_⟩
          · rcases hm3 g hs with h | h
            · exact hng h
            · simp at h; omega
          · have : Pl (w2.alloc (.cells #[.int .i64 len, .int .i64 part] 33)) g (sys xs) idx rs' nx' := t5.kept (Below.heap_alloc _ _ _ hgl2)
            exact this.kept (hk3.block g (by simp; omega) hng)
        clear hd0 hk3 hm3 hj3 hb2
        gi_wp2
        go_roundw
        case rel =>
          obtain ⟨z1, z2, z3, z4, z5, z6⟩ := HF.out
          exact ⟨q + len, S3, rs', nx', by go_num, by omega, z1, z2, z3, z4, z5, z6, HT.out.2.2⟩
        case measure => simp [intOf]; omega
      · have HF : Hid (Kept S W w3 ∧ More S W S3) := by
          obtain ⟨hj, hk, hm, hng⟩ := HR.out
          obtain ⟨t6, t5, t4⟩ := HT.out
          have hmg : ∀ k, k = g → S k ∨ W.heap.size ≤ k := fun k e => .inr (by omega)
          have hka : Kept S W (w2.alloc (.cells #[.int .i64 len, .int .i64 part] 33)) := (hk.trans t6 hmg).alloc _
          exact ⟨hka.more hm hk3, hm.trans hm3 hka.size⟩
        have HX : Hid (Jx (q + len) w3 S3) := hj3
        clear hd0 hk3 hm3 hj3 hb2
        gi_wp2
        refine bodyPost_ret (results_none rfl _ _ _) rfl ?_
        exact ⟨⟨_, rfl⟩, S3, HF.out.1, HF.out.2, .inr ⟨_, HX.out⟩⟩
    · have hqe : q = below := by omega
      subst hqe
      gi_wp2
      go_end0
      exact ⟨⟨_, rfl⟩, S', hk, hm, .inl hj⟩
end Go.Proofs.YthdmbikmjimmkaaGreatDoor
