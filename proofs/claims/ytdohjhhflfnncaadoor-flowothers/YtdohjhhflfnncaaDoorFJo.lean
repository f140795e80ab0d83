/-
  joined: the roads, one after the other.
-/
import Derived.Test.YtdohjhhflfnncaaDoorFJn
namespace Go.Proofs.YtdohjhhflfnncaaDoor
open Go.RowKit Go.Shelf
attribute [local go_sem] Oper.semAt_some
set_option linter.unusedVariables false
set_option maxRecDepth 100000

set_option maxHeartbeats 8000000 in
theorem joined_in {F : Nat → Prop} {a0 a1 a2 : Option Addr} {n0 c0 n1 c1 n c : Nat} {ps : List Po} {L : List Ch} {wA w : World} (kA : Kept No wA w) (hq : Ls 6 elPo wA F a1 n1 c1 ps) (hc : Ls 5 elCh wA F a2 n c L) (hd : ∀ x ∈ L, x.dst.length ≤ 1000000000000) (hn0 : n0 ≤ 1000000)
    {B2 : Nat} (hB2 : w.heap[B2]? = some (.cells #[.slice a0 n0 c0, .slice a1 n1 c1, .slice a2 n c] 26)) :
    GivesN Tryd.prog 31 #[.pointer (some ⟨B2, 0, none⟩)] (elE (edg n0 ps L)) (edg n0 ps L).length w (fun k => k < wA.heap.size ∨ k = B2) := by
  intro l J Jx W S K0 hS hJ hJx hT h0
  obtain ⟨x0, x1, x2⟩ := three (K0.at' hB2 (fun h => h))
  refine callsIn_wide (n := 9).1 ?_
  refine callsIn_of_wp Tryd.func31 rfl trivial ?_ rfl
  simp only [Tryd.ntmps31, List.size_toArray, List.length_cons, List.length_nil, Nat.reduceAdd, Nat.reduceSub, Array.replicate_succ, Array.replicate_zero, List.push_toArray, List.append_toArray, List.nil_append, List.cons_append]
  gi_wp2
  have hl := hc.len
  have hmx := hc.cap
  have hmx2 := hc.max
  have HH : Hid (Ls 6 elPo wA F a1 n1 c1 ps ∧ Ls 5 elCh wA F a2 n c L ∧ Kept No wA W ∧ (∀ k, S k → wA.heap.size ≤ k) ∧ W.heap[B2]? = some (.cells #[.slice a0 n0 c0, .slice a1 n1 c1, .slice a2 n c] 26) ∧ (∀ x ∈ L, x.dst.length ≤ 1000000000000) ∧ ¬ S B2) := ⟨hq, hc, kA.trans K0 (fun _ h => .inl h), (fun k hk => by have := hS k hk; omega), K0.at' hB2 (fun h => h), hd, fun h => hS _ h (.inr rfl)⟩
  have HJ : Hid (Hangs J ∧ Hangs Jx ∧ TakesL Tryd.prog l (elE (edg n0 ps L)) (edg n0 ps L).length J Jx) := ⟨hJ, hJx, hT⟩
  have HJ0 : Hid (J 0 W S) := h0
  clear hq hc K0 hS hB2 hJ hJx hT h0 x0 x1 x2 hd kA
  gi_loopw [12] (fun y wr => ∃ (i : Nat) (S' : Nat → Prop), y = .int .i64 i ∧ i ≤ n ∧ J (edg n0 ps (L.take i)).length wr S' ∧ Kept S W wr ∧ More S W S') (fun y _ => n - (intOf y).toNat)
  case atStart => exact ⟨0, S, rfl, Nat.zero_le _, HJ0.out, Kept.refl _ _, More.refl _ _⟩
  case round =>
    clear HJ0
    obtain ⟨i, S', rfl, hi, hj, hk, hm⟩ := hrel
    by_cases hlt : i < n
    · have hiL : i < L.length := by omega
      have KN : Kept No wA wr := HH.out.2.2.1.trans hk (fun k h => .inr (HH.out.2.2.2.1 k h))
      have hB := hk.at' HH.out.2.2.2.2.1 HH.out.2.2.2.2.2.2
      obtain ⟨x, hx⟩ : ∃ x, L[i]? = some x := ⟨_, List.getElem?_eq_getElem hiL⟩
      have cP := parts_yes (a0 := a0) (n0 := n0) (c0 := c0) wr (HH.out.1.kept KN (fun _ _ h => h) (elPo_kept KN (fun _ _ h => h))) (HH.out.2.1.kept KN (fun _ _ h => h) (elCh_kept KN (fun _ _ h => h))) hx (HH.out.2.2.2.2.2.1 x (List.mem_of_getElem? hx))
      obtain ⟨x0, x1, x2⟩ := three hB
      have hE : edg n0 ps (L.take (i + 1)) = edg n0 ps (L.take i) ++ edC n0 ps x := by rw [take_succ_get hx, edg_app]; simp [edg]
      have hE2 : edg n0 ps L = edg n0 ps (L.take i) ++ (edC n0 ps x ++ edg n0 ps (L.drop (i + 1))) := by
        conv => lhs; rw [split_at hx]
        rw [edg_app]; congr 1
      obtain ⟨f, hf⟩ : ∃ f, f = partV ps x.fr := ⟨_, rfl⟩
      obtain ⟨PL, hPL⟩ : ∃ PL, PL = partsL ps x.dst := ⟨_, rfl⟩
      have hC : edC n0 ps x = if isP n0 f then edG n0 f PL else [] := by rw [hf, hPL]; rfl
      rw [hC] at hE hE2
      rw [← hf, ← hPL] at cP
      have HR : Hid (J (edg n0 ps (L.take i)).length wr S' ∧ Kept S W wr ∧ More S W S' ∧ wr.heap[B2]? = some (.cells #[.slice a0 n0 c0, .slice a1 n1 c1, .slice a2 n c] 26) ∧ edg n0 ps (L.take (i + 1)) = edg n0 ps (L.take i) ++ (if isP n0 f then edG n0 f PL else []) ∧ edg n0 ps L = edg n0 ps (L.take i) ++ ((if isP n0 f then edG n0 f PL else []) ++ edg n0 ps (L.drop (i + 1)))) := ⟨hj, hk, hm, hB, hE, hE2⟩
      have old : ∀ w1, Kept No wr w1 → J (edg n0 ps (L.take i)).length w1 S' ∧ Kept S W w1 := fun w1 k2 => by
        refine ⟨HJ.out.1.kept _ wr w1 S' HR.out.1 k2.size (fun k hs => k2.block k (HJ.out.1.old _ _ _ HR.out.1 k hs) (fun h => h)), HR.out.2.1.trans k2 (fun _ h => h.elim)⟩
      have OLD := hid old
      have HSO := hid (HJ.out.1.old _ _ _ HR.out.1)
      clear hj hk hm KN hB hE hE2 hC hf hPL old hx
      gi_wp2
      refine ⟨trivial, ?_⟩
      refine (callsIn_wide.2 cP).mono ?_
      rintro e w1 ⟨g, cap, rfl, hg1, hg2, hg3, hg4, hg5, k1⟩
      clear cP x0 x1 x2
      have hB1 := k1.at' HR.out.2.2.2.1 (fun h => h)
      obtain ⟨x0, x1, x2⟩ := three hB1
      have cI := isPart_any a0 a1 a2 n0 c0 n1 c1 n c f w1
      have HG : Hid (wr.heap.size ≤ g ∧ g < w1.heap.size ∧ Hd w1 g PL ∧ Kept No wr w1) := ⟨hg1, hg2, hg5, k1⟩
      clear hg1 hg2 hg5 k1 hB1
      cases hfb : isP n0 f with
      | false =>
        rw [hfb] at cI
        have HE : Hid ((edg n0 ps (L.take (i + 1))).length = (edg n0 ps (L.take i)).length) := by
          have := HR.out.2.2.2.2.1
          rw [hfb] at this
          show (edg n0 ps (L.take (i + 1))).length = _
          rw [this]; simp
        clear hfb
        gi_wp2
        refine ⟨trivial, ?_⟩
        refine (callsIn_wide.2 cI).mono ?_
        rintro e w2 ⟨rfl, k2⟩
        gi_wp2
        go_roundw
        case rel =>
          have kk := HG.out.2.2.2.trans k2 (fun _ h => .inl h)
          exact ⟨i + 1, S', by go_num, by omega, by rw [HE.out]; exact (OLD.out w2 kk).1, (OLD.out w2 kk).2, HR.out.2.2.1⟩
        case measure => simp [intOf]; omega
      | true =>
        rw [hfb] at cI
        obtain ⟨q, hq⟩ : ∃ q : Nat, f = (q : Int) + 1 := ⟨(f - 1).toNat, by have := isP_iff.1 hfb; omega⟩
        have HE : Hid (edg n0 ps (L.take (i + 1)) = edg n0 ps (L.take i) ++ edG n0 f PL ∧ edg n0 ps L = edg n0 ps (L.take i) ++ (edG n0 f PL ++ edg n0 ps (L.drop (i + 1))) ∧ isP n0 f = true) := by
          have h1 := HR.out.2.2.2.2
          rw [hfb] at h1
          exact ⟨h1.1, h1.2, hfb⟩
        clear hfb
        subst hq
        gi_wp2
        refine ⟨trivial, ?_⟩
        refine (callsIn_wide.2 cI).mono ?_
        rintro e w2 ⟨rfl, k2⟩
        have HW : Hid (Kept No wr w2 ∧ Hd w2 g PL ∧ g < w2.heap.size ∧ ¬ S' g) := ⟨HG.out.2.2.2.trans k2 (fun _ h => .inl h), HG.out.2.2.1.kept k2 (fun h => h) HG.out.2.1, (by have := k2.size; have := HG.out.2.1; omega), fun h => by have := HSO.out g h; have := HG.out.1; omega⟩
        clear k2 cI x0 x1 x2
        gi_wp2
        generalize wr = wo at *
        gi_loopw [29] (fun y wr => ∃ (j : Nat) (S2 : Nat → Prop), y = .int .i64 j ∧ j ≤ PL.length ∧ J ((edg n0 ps (L.take i)).length + (edG n0 ((q : Int) + 1) (PL.take j)).length) wr S2 ∧ Kept S W wr ∧ More S W S2 ∧ Hd wr g PL ∧ g < wr.heap.size ∧ ¬ S2 g) (fun y _ => PL.length - (intOf y).toNat)
        case atStart => exact ⟨0, S', rfl, Nat.zero_le _, (OLD.out w2 HW.out.1).1, (OLD.out w2 HW.out.1).2, HR.out.2.2.1, HW.out.2.1, HW.out.2.2.1, HW.out.2.2.2⟩
        case round =>
          obtain ⟨j, S2, rfl, hj, hjj, hk, hm, hHd, hg, hSg⟩ := hrel
          by_cases hjl : j < PL.length
          · have KN : Kept No wA wr := HH.out.2.2.1.trans hk (fun k h => .inr (HH.out.2.2.2.1 k h))
            obtain ⟨x0, x1, x2⟩ := three (hk.at' HH.out.2.2.2.2.1 HH.out.2.2.2.2.2.2)
            have hct := hHd.cell hjl
            obtain ⟨t, ht⟩ : ∃ t, t = PL.getD j 0 := ⟨_, rfl⟩
            rw [← ht] at hct
            have hpt : PL[j]? = some t := by rw [ht]; simp [List.getD, hjl]
            have cI := isPart_any a0 a1 a2 n0 c0 n1 c1 n c t wr
            have hG : edG n0 ((q : Int) + 1) (PL.take (j + 1)) = edG n0 ((q : Int) + 1) (PL.take j) ++ edG n0 ((q : Int) + 1) [t] := by rw [take_succ_get hpt, edG_app]
            have hG2 : edG n0 ((q : Int) + 1) PL = edG n0 ((q : Int) + 1) (PL.take j) ++ (edG n0 ((q : Int) + 1) [t] ++ edG n0 ((q : Int) + 1) (PL.drop (j + 1))) := by
              conv => lhs; rw [split_at hpt]
              rw [edG_app]; congr 1
              exact edG_app n0 _ [t] _
            have HI : Hid (J ((edg n0 ps (L.take i)).length + (edG n0 ((q : Int) + 1) (PL.take j)).length) wr S2 ∧ Kept S W wr ∧ More S W S2 ∧ Hd wr g PL ∧ g < wr.heap.size ∧ ¬ S2 g ∧ edG n0 ((q : Int) + 1) (PL.take (j + 1)) = edG n0 ((q : Int) + 1) (PL.take j) ++ edG n0 ((q : Int) + 1) [t] ∧ edG n0 ((q : Int) + 1) PL = edG n0 ((q : Int) + 1) (PL.take j) ++ (edG n0 ((q : Int) + 1) [t] ++ edG n0 ((q : Int) + 1) (PL.drop (j + 1)))) := ⟨hjj, hk, hm, hHd, hg, hSg, hG, hG2⟩
            have hjz : (j : Int) < (PL.length : Int) := by omega
            clear hjj hk hm hHd hg hSg hG hG2 hpt ht KN
            have OL2 : Hid (∀ w1, Kept No wr w1 → J ((edg n0 ps (L.take i)).length + (edG n0 ((q : Int) + 1) (PL.take j)).length) w1 S2 ∧ Kept S W w1 ∧ Hd w1 g PL ∧ g < w1.heap.size) := fun w1 k2 => by
              refine ⟨HJ.out.1.kept _ wr w1 S2 HI.out.1 k2.size (fun k hs => k2.block k (HJ.out.1.old _ _ _ HI.out.1 k hs) (fun h => h)), HI.out.2.1.trans k2 (fun _ h => h.elim), HI.out.2.2.2.1.kept k2 (fun h => h) HI.out.2.2.2.2.1, ?_⟩
              have := k2.size; have := HI.out.2.2.2.2.1; omega
            cases htb : isP n0 t with
            | false =>
              rw [htb] at cI
              have HT : Hid (edG n0 ((q : Int) + 1) [t] = []) := by show edG _ _ _ = _; simp [edG, htb]
              clear htb
              gi_wp2
              refine ⟨trivial, ?_⟩
              refine (callsIn_wide.2 cI).mono ?_
              rintro e w3 ⟨rfl, k3⟩
              gi_wp2
              refine ⟨fun f h => (by cases h), ?_⟩
              gi_wp2
              go_roundw
              case rel =>
                obtain ⟨z1, z2, z3, z4⟩ := OL2.out w3 k3
                exact ⟨j + 1, S2, by go_num, by omega, by rw [HI.out.2.2.2.2.2.2.1, HT.out, List.append_nil]; exact z1, z2, HI.out.2.2.1, z3, z4, HI.out.2.2.2.2.2.1⟩
              case measure => simp [intOf]; omega
            | true =>
              rw [htb] at cI
              obtain ⟨u, hu⟩ : ∃ u : Nat, t = (u : Int) + 1 := ⟨(t - 1).toNat, by have := isP_iff.1 htb; omega⟩
              have HT : Hid (edG n0 ((q : Int) + 1) [t] = [(q, u)]) := by
                show edG _ _ _ = _
                subst hu
                simp [edG, htb]
              have hqq := isP_iff.1 HE.out.2.2
              have huu := isP_iff.1 htb
              clear htb
              subst hu
              have hwq : wrap64 (q : Int) = q := by unfold wrap64; omega
              have hwu : wrap64 (u : Int) = u := by unfold wrap64; omega
              clear hqq huu
              have HA : Hid (elE (edg n0 ps L) ((edg n0 ps (L.take i)).length + (edG n0 ((q : Int) + 1) (PL.take j)).length) = #[.int .i64 (q : Int), .int .i64 (u : Int)] ∧ (edg n0 ps (L.take i)).length + (edG n0 ((q : Int) + 1) (PL.take j)).length < (edg n0 ps L).length) := by
                have h1 := HE.out.2.1
                rw [HI.out.2.2.2.2.2.2.2, HT.out, ← List.append_assoc, ← List.append_assoc] at h1
                have h2 := elE_at (E := edg n0 ps L) (A := edg n0 ps (L.take i) ++ edG n0 ((q : Int) + 1) (PL.take j)) (x := (q, u)) (B := edG n0 ((q : Int) + 1) (PL.drop (j + 1)) ++ edg n0 ps (L.drop (i + 1))) (by rw [h1]; simp)
                rw [List.length_append] at h2
                exact h2
              gi_wp2
              refine ⟨trivial, ?_⟩
              refine (callsIn_wide.2 cI).mono ?_
              rintro e w3 ⟨rfl, k3⟩
              obtain ⟨z1, z2, z3, z4⟩ := OL2.out w3 k3
              obtain ⟨fn, tmps, assign, body, hy, hR⟩ := HJ.out.2.2 8 _ w3 S2 z1 HA.out.2
              rw [HA.out.1] at hy
              have HZ : Hid (Kept S W w3 ∧ Hd w3 g PL ∧ g < w3.heap.size) := ⟨z2, z3, z4⟩
              clear k3 cI z1 z2 z3 z4 x0 x1 x2 hct
              gi_wp2
              refine hR.mono ?_
              clear hy hR
              rintro e w4 ⟨S3, hk3, hm3, (⟨rfl, hj3⟩ | ⟨rfl, hj3⟩)⟩
              · have HF : Hid (J ((edg n0 ps (L.take i)).length + (edG n0 ((q : Int) + 1) (PL.take (j + 1))).length) w4 S3 ∧ Kept S W w4 ∧ More S W S3 ∧ Hd w4 g PL ∧ g < w4.heap.size ∧ ¬ S3 g) := ⟨by rw [HI.out.2.2.2.2.2.2.1, HT.out, List.length_append]; exact hj3, HZ.out.1.more HI.out.2.2.1 hk3, HI.out.2.2.1.trans hm3 HZ.out.1.size, HZ.out.2.1.kept hk3 HI.out.2.2.2.2.2.1 HZ.out.2.2, (by have := hk3.size; have := HZ.out.2.2; omega), fun h => by
                  rcases hm3 g h with h1 | h1
                  · exact HI.out.2.2.2.2.2.1 h1
                  · have := HZ.out.2.2; omega⟩
                clear hk3 hm3 hj3
                gi_wp2
                go_roundw
                case rel =>
                  obtain ⟨z1, z2, z3, z4, z5, z6⟩ := HF.out
                  exact ⟨j + 1, S3, by go_num, by omega, z1, z2, z3, z4, z5, z6⟩
                case measure => simp [intOf]; omega
              · have HF : Hid (Kept S W w4 ∧ More S W S3 ∧ Jx ((edg n0 ps (L.take i)).length + (edG n0 ((q : Int) + 1) (PL.take j)).length + 1) w4 S3) := ⟨HZ.out.1.more HI.out.2.2.1 hk3, HI.out.2.2.1.trans hm3 HZ.out.1.size, hj3⟩
                clear hk3 hm3 hj3
                gi_wp2
                refine bodyPost_ret (results_none rfl _ _ _) rfl ?_
                exact ⟨⟨_, rfl⟩, S3, HF.out.1, HF.out.2.1, .inr ⟨_, HF.out.2.2⟩⟩
          · have hje : j = PL.length := by omega
            have HF : Hid (J (edg n0 ps (L.take (i + 1))).length wr S2 ∧ Kept S W wr ∧ More S W S2) := ⟨by rw [HE.out.1, List.length_append]; rw [List.take_of_length_le (l := PL) (i := j) (by omega)] at hjj; exact hjj, hk, hm⟩
            have hjz : ¬ (j : Int) < (PL.length : Int) := by omega
            clear hjj hk hm hHd hg hSg hje
            gi_wp2
            go_roundw
            case rel =>
              obtain ⟨z1, z2, z3⟩ := HF.out
              exact ⟨i + 1, S2, by go_num, by omega, z1, z2, z3⟩
            case measure => simp [intOf]; omega
    · have hqe : i = n := by omega
      subst hqe
      gi_wp2
      go_end0
      exact ⟨⟨_, rfl⟩, S', hk, hm, .inl (by rw [List.take_of_length_le (by omega)] at hj; exact hj)⟩

theorem joined_gives {F : Nat → Prop} {a0 a1 a2 : Option Addr} {n0 c0 n1 c1 n c : Nat} {ps : List Po} {L : List Ch} {wA w : World} (kA : Kept No wA w) (hq : Ls 6 elPo wA F a1 n1 c1 ps) (hc : Ls 5 elCh wA F a2 n c L) (hd : ∀ x ∈ L, x.dst.length ≤ 1000000000000) (hn0 : n0 ≤ 1000000) :
    Calls Tryd.prog 22 #[.agg #[.slice a0 n0 c0, .slice a1 n1 c1, .slice a2 n c]] w fun e w' => ∃ l2, e = .returned (.func (.func 31) #[] l2) ∧ Kept No w w' ∧ GivesN Tryd.prog 31 l2 (elE (edg n0 ps L)) (edg n0 ps L).length w' (fun k => k < wA.heap.size ∨ k = w.heap.size) ∧ w.heap.size < w'.heap.size := by
  refine (joined_new a0 a1 a2 n0 c0 n1 c1 n c w).mono ?_
  rintro e w' ⟨rfl, rfl⟩
  have k1 : Kept No w (w.alloc (.cells #[.slice a0 n0 c0, .slice a1 n1 c1, .slice a2 n c] 26)) := (Kept.refl No w).alloc _
  exact ⟨_, rfl, k1, joined_in (kA.trans k1 (fun _ h => .inl h)) hq hc hd hn0 (alloc_new w _), by simp⟩
end Go.Proofs.YtdohjhhflfnncaaDoor
