/-
  trace: allGo, Encode of events that go, few enough.
-/
import Derived.Test.YtjhhldgbllbbhaaGreatDoorBPutL
namespace Go.Proofs.YtjhhldgbllbbhaaGreatDoor
open Go.RowKit
set_option linter.unusedVariables false
set_option linter.unusedSimpArgs false
set_option maxRecDepth 100000

set_option maxHeartbeats 4000000 in
theorem allGo_any {F : Nat → Prop} {a : Option Addr} {n c : Nat} {xs : List Ev} (w : World) (hl : Il w F a n c xs) :
    Calls Tryz.prog 19 #[.slice a n c] w fun r w' => r = .returned (.bool (decide (∀ x ∈ xs, x.Go))) ∧ Kept No w w' := by
  have hlc := hl.cap
  have hlm := hl.max
  have hlen := hl.len
  have HL := hid hl
  clear hl
  go_enter Tryz.func19, Tryz.ntmps19
  go_upto_region 2 with fail
  go_wp2
  go_loopw [4, 7] (fun u4 u7 wr => ∃ (k : Nat), k ≤ n ∧ u7 = .int .i64 (k : Int) ∧ (∀ i x, i < k → xs[i]? = some x → x.Go) ∧ Kept No w wr) (fun _ u7 _ => n - (intOf u7).toNat)
  case atStart => exact ⟨0, by omega, rfl, fun i x hi => by omega, Kept.refl _ _⟩
  case round =>
    obtain ⟨k, hk, rfl, hg, kr⟩ := hrel
    have HK := hid (And.intro hg kr)
    clear hg kr
    by_cases hlt : k < n
    · have hltz : (k : Int) < (n : Int) := by omega
      obtain ⟨x, hx⟩ : ∃ x, xs[k]? = some x := ⟨_, List.getElem?_eq_getElem (by omega)⟩
      obtain ⟨b, o, da, dc, rfl, _, hc, ir⟩ := (HL.out.keep HK.out.2).at' k x hx
      have LD := hid (ldI hc)
      have HXK := hid hx
      clear hc ir hx
      go_upto_region 3 with fail
      go_cut [4] (fun u wd => ∃ pb, u = .pointer (some ⟨pb, 0, none⟩) ∧ wd.heap[pb]? = some (.cells (x.val da dc) 25) ∧ Kept No wr wd)
      case first =>
        go_wp2_with (first
          | (refine l_take 10 rfl rfl (er_ldX 25 (.tmp 9) rfl (.pointer (some ⟨b, o + k * 7, none⟩)) (.agg (x.val da dc)) rfl LD.out) ?_)
          | (refine l_make 4 rfl rfl (er_alI rfl) ?_)
          | (refine l_turn rfl rfl (er_stI _ _ rfl wr.heap.size (x.val da dc) _ rfl rfl (alloc_new wr _) rfl rfl (x.val_one da dc)) ?_))
        go_meet
        exact ⟨wr.heap.size, rfl, setRow_heap _ _ _ _ _ (0, 0) (alloc_new wr _), ((Kept.refl No wr).alloc _).setRow (.inr (Nat.le_refl _)) _⟩
      case rest =>
      rename World => w3
      obtain ⟨pb, rfl, hpb, k3⟩ := hcut
      have LP := hid (ldI (w := w3) (b := pb) (o := 0) (x := x) (da := da) (dc := dc) (fun j v hv => by rw [Nat.zero_add, cell_blk hpb, ← Array.getElem?_toList]; exact hv))
      have GC := goest_any (x := x) (da := da) (dc := dc) w3
      have K3 := hid k3
      clear k3 hpb LD
      by_cases hgo : x.Go
      · rw [decide_eq_true hgo] at GC
        go_wp2_with (first
          | (refine l_take 11 rfl rfl (er_ldX 25 (.tmp 4) rfl (.pointer (some ⟨pb, 0, none⟩)) (.agg (x.val da dc)) rfl LP.out) ?_)
          | (go_at_call 13; refine GC.mono ?_; rintro r w5 ⟨rfl, k5⟩; have K5 := hid k5; clear k5 GC))
        refine ⟨⟨k + 1, by omega, by go_num, fun i y hi hy => ?_, (HK.out.2.trans K3.out (fun _ e => e.elim)).trans K5.out (fun _ e => e.elim)⟩, ?_⟩
        · by_cases e : i = k
          · subst e; rw [HXK.out] at hy; injection hy with hy; rw [← hy]; exact hgo
          · exact HK.out.1 i y (by omega) hy
        · simp [intOf]; omega
      · rw [decide_eq_false hgo] at GC
        go_wp2_with (first
          | (refine l_take 11 rfl rfl (er_ldX 25 (.tmp 4) rfl (.pointer (some ⟨pb, 0, none⟩)) (.agg (x.val da dc)) rfl LP.out) ?_)
          | (go_at_call 13; refine GC.mono ?_; rintro r w5 ⟨rfl, k5⟩; have K5 := hid k5; clear k5 GC))
        go_ret
        refine ⟨?_, (HK.out.2.trans K3.out (fun _ e => e.elim)).trans K5.out (fun _ e => e.elim)⟩
        rw [decide_eq_false (fun h => hgo (h x (List.mem_of_getElem? HXK.out)))]
        rfl
    · have hltz : ¬ (k : Int) < (n : Int) := by omega
      obtain rfl : k = n := by omega
      go_wp2
      go_ret
      refine ⟨?_, HK.out.2⟩
      rw [decide_eq_true (fun x hx => by
        obtain ⟨i, hi⟩ := List.getElem?_of_mem hx
        exact HK.out.1 i x (by have := (List.getElem?_eq_some_iff.1 hi).1; omega) hi)]
      rfl
theorem encode_no (G : Nat → Prop) (a : Option Addr) (n c : Nat) (xs : List Ev) (w : World) (hZ : Il w G a n c xs) (hgo : ¬ ∀ x ∈ xs, x.Go) :
    Calls Tryz.prog 10 #[.slice a n c] w fun ex w' => ex = .returned (.tuple #[.slice none 0 0, .int .i64 2]) ∧ Kept No w w' := by
  have cA := allGo_any w hZ
  rw [decide_eq_false hgo] at cA
  clear hZ hgo
  go_enter Tryz.func10, Tryz.ntmps10
  go_wp2_with (go_at_call 19; refine cA.mono ?_; rintro ex w1 ⟨rfl, k1⟩; have K1 := hid k1; clear k1 cA)
  go_ret2
  exact ⟨rfl, K1.out⟩
def encB (xs : List Ev) : List Nat := be xs.length 4 ++ evsB xs
theorem encB_len (xs : List Ev) : (encB xs).length = 4 + (28 * xs.length + 8 * wds xs) := by unfold encB; rw [List.length_append, be_length, evsB_len]
set_option maxHeartbeats 4000000 in
theorem encode_yes (G : Nat → Prop) (a : Option Addr) (n c : Nat) (xs : List Ev) (w : World) (hZ : Il w G a n c xs) (hgo : ∀ x ∈ xs, x.Go) (hsm : n + wds xs ≤ 5000) :
    Calls Tryz.prog 10 #[.slice a n c] w fun ex w' => ∃ a' n' c', ex = .returned (.tuple #[.slice a' n' c', .int .i64 0]) ∧ w'.ownsRow w.heap.size 5 1 (.slice a' n' c') (sealed 4 (encB xs)).length ((sealed 4 (encB xs)).map bv) ∧ (∀ y ∈ encB xs, y < 256) ∧ Kept No w w' := by
  have hl := hZ.len
  have cA := allGo_any w hZ
  rw [decide_eq_true hgo] at cA
  have CP : Hid (∀ W, Kept No w W → Calls Tryz.prog 21 #[.pointer (some ⟨W.heap.size, 0, none⟩), .slice a n c, .int .i64 149796, .func (.func 22) #[] #[]] (W.alloc (.cells #[.slice none 0 0, .int .i64 0] 78)) fun ex w' => ex = .returned (.tuple #[]) ∧ ∃ F1, (∀ k, F1 k → W.heap.size ≤ k) ∧ WrDid F1 W.heap.size (encB xs) 0 (W.alloc (.cells #[.slice none 0 0, .int .i64 0] 78)) w') := fun W q => by
    obtain ⟨F1, hw1, hF1, hb1⟩ := ws_new W
    have K1 : Kept No W (W.alloc (.cells #[.slice none 0 0, .int .i64 0] 78)) := (Kept.refl No W).alloc _
    have := putList_E F1 (fun k => k < W.heap.size) W.heap.size a n c xs _ hw1 ((hZ.keep q).low.keep K1) hgo hsm (fun k hk => ⟨fun hf => by have := hF1 k hf; omega, Nat.lt_of_lt_of_le hk K1.size⟩)
    refine this.mono (fun ex w' h => ⟨h.1, F1, hF1, ?_⟩)
    unfold encB
    rw [hl]
    exact h.2
  have hlen : (encB xs).length ≤ 150000 := by rw [encB_len]; omega
  clear hZ hgo
  go_enter Tryz.func10, Tryz.ntmps10
  go_upto_region 3 with (go_at_call 19; refine cA.mono ?_; rintro ex w0 ⟨rfl, k0⟩; have K0 := hid k0; clear k0 cA)
  have cN := newWriter_any w0
  go_upto_region 4 with (go_at_call 20; refine cN.mono ?_; rintro ex w1 ⟨rfl, rfl⟩)
  have cP := CP.out w0 K0.out
  have K1 : Hid (Kept No w0 (w0.alloc (.cells #[.slice none 0 0, .int .i64 0] 78))) := (Kept.refl No w0).alloc _
  clear cN CP
  go_upto_region 5 with (go_at_call 21; refine cP.mono ?_; rintro ex w2 ⟨rfl, F1, hF1, hd⟩)
  obtain ⟨F2, hw2, hwe2⟩ := hd
  have K2 : Kept No w0 w2 := K1.out.trans hwe2.1 (fun k hk => .inr (hF1 k hk))
  have cD := done_any F2 w0.heap.size _ _ w2 hw2 (by omega)
  have hF2 : ∀ k, F2 k → w0.heap.size ≤ k := fun k hk => by
    rcases hwe2.2 k hk with h1 | h1
    · exact hF1 k h1
    · have := K1.out.size; omega
  have hlt2 : ∀ y ∈ encB xs, y < 256 := by obtain ⟨v, hv⟩ := hw2; exact hv.lt
  have H2 := hid (And.intro K2 (And.intro hF2 hlt2))
  clear hw2 hwe2 K2 hF2 cP hlt2
  simp only [if_true] at cD
  go_upto_region 6 with (go_at_call 23; refine cD.mono ?_; rintro ex w3 ⟨ba, bn, bc, rfl, _, k3, o3⟩)
  obtain ⟨ba', bc', eb, hbs⟩ := Bs.of_owns o3 H2.out.2.2
  injection eb with eb1 eb2 eb3
  subst eb1 eb2 eb3
  have cS := seal_any _ 4 ba _ bc (encB xs) w3 (by decide) hbs
  rw [show sealE (encB xs) = 0 from by unfold sealE; rw [if_neg (by omega)], show sealX 4 (encB xs) = sealed 4 (encB xs) from by unfold sealX; rw [if_neg (by omega)]] at cS
  have K3 := hid (K0.out.trans (H2.out.1.trans k3 (fun k hk => .inr (H2.out.2.1 k hk))) (fun _ e => e.elim))
  clear cD k3 o3 hbs
  go_wp2_with (go_at_call 24; refine cS.mono ?_; rintro ex w4 ⟨sa, sn, sc, rfl, o4, b4⟩)
  go_ret2
  exact ⟨sa, sn, sc, rfl, owns_base o4 K3.out.size, H2.out.2.2, K3.out.trans (Kept.of_below b4 (F := No)) (fun _ e => e.elim)⟩
end Go.Proofs.YtjhhldgbllbbhaaGreatDoor
