/-
  One call on the program's Reader and on the document's: lists; any call.
-/
import Derived.Test.YtakdfpenpodplaaRead
namespace Go.Proofs.Ytakdfpenpodplaa
open Go.RowKit
set_option linter.unusedVariables false

set_option maxHeartbeats 8000000 in
set_option maxRecDepth 100000 in
theorem read7 (F G : Nat → Prop) (p q : Nat) (xs : List Nat) (e N0 Wd : Int) (Fl : Bool) (ba : Option Addr) (bn bc : Nat) (la : Option Addr) (ln lc : Nat) (M : Int) (w : World) (hR : Rd w F p xs e) (hI : Il w G q xs e) (D : ∀ k, F k → ¬ G k) (hsz : xs.length ≤ 140737488351232) (hGw : ∀ k, G k → k < w.heap.size) :
    Calls Try.prog 39 #[.pointer (some ⟨p, 0, none⟩), .pointer (some ⟨q, 0, none⟩), opV 7 N0 Wd Fl ba bn bc la ln lc M] w fun ex w' => ex = .returned (.bool true) ∧ Both F G p q (glRest xs e M) (glE xs e M) w w' := by
  obtain ⟨i0, hi, hz0, hz1, hz2⟩ := info_parts Try.info3
  have hFw : ∀ k, F k → k < w.heap.size := by obtain ⟨a, n, c, hv⟩ := hR; exact hv.flt
  have c30 := getList74_any F p xs e M (w.alloc (opC 7 N0 Wd Fl ba bn bc la ln lc M)) (hR.alloc _) (by omega)
  have c75 : ∀ w1, RdDid F p (glRest xs e M) (glE xs e M) (w.alloc (opC 7 N0 Wd Fl ba bn bc la ln lc M)) w1 → _ := fun w1 h => inCount_any G q xs e M w1 ((hI.alloc (opC 7 N0 Wd Fl ba bn bc la ln lc M)).rd D h)
  have HXL : Hid (∀ x ∈ xs, x < 256) := hR.lt
  have hpw := hFw p hR.fp
  have hqw := hGw q hI.fp
  have HD : Hid (∀ k, F k → ¬ G k) := D
  have HGW : Hid (∀ k, G k → k < w.heap.size) := hGw
  have HBK : Hid (OpBlk (w.alloc (opC 7 N0 Wd Fl ba bn bc la ln lc M)) w.heap.size 7 N0 Wd Fl ba bn bc la ln lc M) := (show OpBlk (w.alloc (opC 7 N0 Wd Fl ba bn bc la ln lc M)) w.heap.size 7 N0 Wd Fl ba bn bc la ln lc M from heap_alloc_new _ _)
  clear hR hI D hFw hGw
  -- the end: two lists that are one
  have fin : ∀ (w1 w2 : World) (va vb : Value) (zs : List Int), RdDid F p (glRest xs e M) (glE xs e M) (w.alloc (opC 7 N0 Wd Fl ba bn bc la ln lc M)) w1 → w1.ownsRow (w.alloc (opC 7 N0 Wd Fl ba bn bc la ln lc M)).heap.size 3 1 va zs.length (zs.map iv) → IlDid G q (glRest xs e M) (glE xs e M) w1 w2 → w2.ownsRow w1.heap.size 3 1 vb zs.length (zs.map iv) →
      Calls Try.prog 66 #[va, vb] w2 fun ex w' => ex = .returned (.bool true) ∧ Both F G p q (glRest xs e M) (glE xs e M) w w' := by
    intro w1 w2 va vb zs h1 o1 h2 o2
    have hoa := h2.2.1.owns o1 (fun g hg e => by have := (o1.lt g hg).1; simp at this; omega)
    obtain ⟨aa, ca, hva, hZa⟩ := Zs.of_owns hoa
    obtain ⟨ab, cb, hvb, hZb⟩ := Zs.of_owns o2
    subst hva hvb
    refine (sameInts_any _ _ aa ab _ _ ca cb zs zs w2 hZa hZb).mono ?_
    rintro ex w' ⟨rfl, n, rfl⟩
    exact ⟨by simp, (both_of HD.out ((Kept.refl No w).alloc _) h1 h2).drewN n⟩
  have FIN : Hid (∀ (w1 w2 : World) (va vb : Value) (zs : List Int), RdDid F p (glRest xs e M) (glE xs e M) (w.alloc (opC 7 N0 Wd Fl ba bn bc la ln lc M)) w1 → w1.ownsRow (w.alloc (opC 7 N0 Wd Fl ba bn bc la ln lc M)).heap.size 3 1 va zs.length (zs.map iv) → IlDid G q (glRest xs e M) (glE xs e M) w1 w2 → w2.ownsRow w1.heap.size 3 1 vb zs.length (zs.map iv) →
      Calls Try.prog 66 #[va, vb] w2 fun ex w' => ex = .returned (.bool true) ∧ Both F G p q (glRest xs e M) (glE xs e M) w w') := fin
  clear fin
  cases hok : cnOk xs e M with
  | false =>
    have hne := cnE_ne xs e M hok
    have e1 : cnN xs e M = 0 := by unfold cnN; rw [hok]; rfl
    have e2 : cnRest xs e M = xs := by unfold cnRest; rw [hok]; rfl
    have hg : glOk xs e M = false := by unfold glOk; rw [hok]; rfl
    have e3 : glX xs e M = [] := by unfold glX; rw [hg]; rfl
    have e4 : glRest xs e M = xs := by unfold glRest; rw [hg, hok]; rfl
    have e5 : glE xs e M = cnE xs e M := by unfold glE; rw [hok]; rfl
    rw [e1, e2, ← e5] at c75
    rw [e3] at c30
    rw [← e5] at hne
    obtain ⟨E, hE⟩ : ∃ E, E = glE xs e M := ⟨_, rfl⟩
    obtain ⟨R, hRR⟩ : ∃ R, R = glRest xs e M := ⟨_, rfl⟩
    rw [← hRR, ← hE] at c30 c75 FIN
    rw [← hE] at hne
    rw [← hRR, ← hE]
    have hXR : xs = R := by rw [hRR, e4]
    have hne2 : (E == 0) = false := by simpa using hne
    rw [hXR] at c75
    clear e1 e2 e3 e4 e5 hg hok hne hE hRR hXR
    unfold opV
    go_enter Try.func39, Try.ntmps39
    go_wp2_with (first
      | (go_at_call 30; refine c30.mono ?_; rintro ex w1 ⟨va, rfl, own1, hd1⟩; obtain ⟨s0, s1, s2, s3, s4, s5, s6⟩ := (show OpBlk w1 w.heap.size 7 N0 Wd Fl ba bn bc la ln lc M from hd1.2.at' HBK.out (fun h => by omega)).at'; have HD1 : Hid (RdDid F p R E (w.alloc (opC 7 N0 Wd Fl ba bn bc la ln lc M)) w1) := hd1; have HO1 : Hid (w1.ownsRow (w.alloc (opC 7 N0 Wd Fl ba bn bc la ln lc M)).heap.size 3 1 va ([] : List Int).length (([] : List Int).map iv)) := own1; clear own1 hd1)
      | (go_at_call 75; refine (c75 _ HD1.out).mono ?_; rintro ex w2 ⟨rfl, hd2⟩; have d2 := hd2.1.c2; have HD2 : Hid (IlDid G q R E w1 w2) := hd2; clear hd2))
    go_loopw [11, 13] (fun l i wr => i = .int .i64 0 ∧ l = .slice none 0 0 ∧ wr = w2) (fun _ _ _ => 0)
    case atStart => exact ⟨rfl, rfl, rfl⟩
    case round =>
      obtain ⟨rfl, rfl, rfl⟩ := hrel
      have cf := FIN.out w1 wr va (.slice none 0 0) [] HD1.out HO1.out HD2.out (World.ownsRow_nil _ _ _ _)
      go_wp2_with (go_at_call 66; refine cf.mono ?_; rintro ex w7 ⟨rfl, hb7⟩)
      go_ret
      exact ⟨rfl, hb7⟩
  | true =>
    obtain ⟨hE0, he0⟩ := cnE_ok xs e M hok
    subst he0
    have hN := rdN_lt 0 4 HXL.out
    have hN2 : rdN xs 0 4 ≤ (xs.length : Int) - 4 := by unfold cnOk at hok; simp only [Bool.and_eq_true, decide_eq_true_eq] at hok; exact hok.2
    obtain ⟨N, hNN⟩ : ∃ N : Nat, (N : Int) = rdN xs 0 4 := ⟨(rdN xs 0 4).toNat, Int.toNat_of_nonneg hN.1⟩
    have e1 : cnN xs 0 M = (N : Int) := by unfold cnN; rw [hok]; exact hNN.symm
    have e2 : cnRest xs 0 M = xs.drop 4 := by unfold cnRest; rw [hok]; rfl
    rw [e1, e2, hE0] at c75
    have h4 : 4 ≤ xs.length := by omega
    obtain ⟨L, hL⟩ : ∃ L, L = xs.length - 4 := ⟨_, rfl⟩
    obtain ⟨p1, p2, p3⟩ := gl_parts xs M N L hok hNN hL h4
    obtain ⟨gX, hgX⟩ : ∃ gX, gX = glX xs 0 M := ⟨_, rfl⟩
    obtain ⟨gR, hgR⟩ : ∃ gR, gR = glRest xs 0 M := ⟨_, rfl⟩
    obtain ⟨gE, hgE⟩ : ∃ gE, gE = glE xs 0 M := ⟨_, rfl⟩
    rw [← hgX] at p1 c30
    rw [← hgR] at p2 c30 c75 FIN ⊢
    rw [← hgE] at p3 c30 c75 FIN ⊢
    obtain ⟨r, hr⟩ : ∃ r, r = xs.drop 4 := ⟨_, rfl⟩
    rw [← hr] at c75 p1 p2
    have HR : Hid (r.length = L) := (show r.length = L by rw [hr, List.length_drop, hL])
    have HGX : Hid (gX = (if 2 * N ≤ L then glEls r N else [])) := p1
    have HGR : Hid (gR = (if 2 * N ≤ L then r.drop (2 * N) else r.drop (2 * (L / 2)))) := p2
    have HGE : Hid (gE = (if 2 * N ≤ L then 0 else 20)) := p3
    have hLs : L ≤ 140737488351232 := by omega
    have hNS : N ≤ 4294967295 := by have := hN.2; omega
    have hNL : N ≤ L := by omega
    clear hok hE0 hN hN2 hNN e1 e2 h4 hL p1 p2 p3 hgX hgR hgE hr hsz
    unfold opV
    go_enter Try.func39, Try.ntmps39
    go_wp2_with (first
      | (go_at_call 30; refine c30.mono ?_; rintro ex w1 ⟨va, rfl, own1, hd1⟩; obtain ⟨s0, s1, s2, s3, s4, s5, s6⟩ := (show OpBlk w1 w.heap.size 7 N0 Wd Fl ba bn bc la ln lc M from hd1.2.at' HBK.out (fun h => by omega)).at'; have HD1 : Hid (RdDid F p gR gE (w.alloc (opC 7 N0 Wd Fl ba bn bc la ln lc M)) w1) := hd1; have HO1 : Hid (w1.ownsRow (w.alloc (opC 7 N0 Wd Fl ba bn bc la ln lc M)).heap.size 3 1 va gX.length (gX.map iv)) := own1; have HF1 : Hid (∀ k, G k → k < w1.heap.size) := (fun k hk => by have := HGW.out k hk; have h2 := hd1.2.size; simp at h2; omega); clear own1 hd1)
      | (go_at_call 75; refine (c75 _ HD1.out).mono ?_; rintro ex w2 ⟨rfl, hd2⟩; have HD2 : Hid (IlDid G q r 0 w1 w2) := hd2; clear hd2))
    clear c30 c75 s0 s1 s2 s3 s4 s5 s6
    go_loopw [11, 13] (fun l i wr => ∃ k : Nat, k ≤ N ∧ i = .int .i64 k ∧ Come G q r L k l w1 wr) (fun _ i _ => N - (intOf i).toNat)
    case atStart => exact ⟨0, by omega, rfl, .inl ⟨by omega, World.ownsRow_nil _ _ _ _, by simpa using HD2.out⟩⟩
    case round =>
      obtain ⟨k, hk, rfl, hcome⟩ := hrel
      rcases hcome with ⟨h2, hown, hdr⟩ | ⟨h2, ⟨ys, hown⟩, hdr⟩
      · have d2 := hdr.1.c2
        by_cases hlt : k < N
        · obtain ⟨y, cu⟩ := come_more HR.out h2 hown hdr HF1.out
          clear hown hdr
          go_wp2_with (first
            | (go_at_call 69; refine cu.mono ?_; rintro ex w3 ⟨rfl, own3, hs3, more⟩; have HM : Hid (∀ v3 w4, w4.ownsRow w1.heap.size 3 1 v3 (k + 1) ((glEls r k).map iv ++ [iv y]) → w3.heap.size ≤ w4.heap.size → Kept (fun g => u11.ownBlock = some g) w3 w4 → Come G q r L (k + 1) v3 w1 w4) := more; have HO3 : Hid (w3.ownsRow w1.heap.size 3 1 u11 k ((glEls r k).map iv)) := own3; clear more own3)
            | (at_builtin; refine wpList_append_own _ rfl _ _ 41 rfl w1.heap.size 3 i0 (.int .i64 0) 1 8 Try.underlying41 hi hz0 hz1 hz2 rfl (by decide) _ _ _ rfl (HO3.out.alloc _) ⟨w3.heap.size, 0, none⟩ 1 1 [.int .i64 y] rfl rfl (cell_one_new _ _ _) (one_one _ _) (by unfold maxLen; omega) (by omega) (by simp; omega) ?_; intro v4 w4 own4 grow4 _; have hc4 := HM.out v4 w4 own4 (by have := grow4.size; simp at this; omega) (((Kept.refl (fun g => u11.ownBlock = some g) w3).alloc _).grown grow4 (fun g hg => .inl hg)); clear own4 grow4))
          go_roundw
          case rel => exact ⟨k + 1, by omega, by go_num, hc4⟩
          case measure => simp [intOf]; omega
        · have hkN : k = N := by omega
          subst hkN
          have hgx : gX = glEls r k := by rw [HGX.out, if_pos h2]
          have cf := FIN.out w1 wr va u11 gX HD1.out HO1.out (by rw [HGR.out, HGE.out, if_pos h2, if_pos h2]; exact hdr) (by rw [hgx, glEls_length]; exact hown)
          clear hown hdr hgx
          go_wp2_with (go_at_call 66; refine cf.mono ?_; rintro ex w7 ⟨rfl, hb7⟩)
          go_ret
          exact ⟨rfl, hb7⟩
      · have d2 := hdr.1.c2
        have hn2 : ¬ 2 * N ≤ L := by omega
        have hgx : gX = [] := by rw [HGX.out, if_neg hn2]
        have ho1 := HO1.out
        rw [hgx] at ho1
        have cf := FIN.out w1 wr va (.slice none 0 0) [] HD1.out ho1 (by rw [HGR.out, HGE.out, if_neg hn2, if_neg hn2]; exact hdr) (World.ownsRow_nil _ _ _ _)
        clear hown hdr hgx ho1
        by_cases hlt : k < N
        · go_wp2_with (go_at_call 66; refine cf.mono ?_; rintro ex w7 ⟨rfl, hb7⟩)
          go_ret
          exact ⟨rfl, hb7⟩
        · go_wp2_with (go_at_call 66; refine cf.mono ?_; rintro ex w7 ⟨rfl, hb7⟩)
          go_ret
          exact ⟨rfl, hb7⟩

theorem read_any (F G : Nat → Prop) (p q : Nat) (xs : List Nat) (e K N Wd : Int) (Fl : Bool) (ba : Option Addr) (bn bc : Nat) (la : Option Addr) (ln lc : Nat) (M : Int) (w : World) (hR : Rd w F p xs e) (hI : Il w G q xs e) (D : ∀ k, F k → ¬ G k) (hsz : xs.length ≤ 140737488351232) (hGw : ∀ k, G k → k < w.heap.size) :
    Calls Try.prog 39 #[.pointer (some ⟨p, 0, none⟩), .pointer (some ⟨q, 0, none⟩), opV K N Wd Fl ba bn bc la ln lc M] w fun ex w' => ex = .returned (.bool true) ∧ Both F G p q (rO xs e K N M).1 (rO xs e K N M).2 w w' := by
  unfold rO
  by_cases h1 : K = 1
  · subst h1; exact read1 F G p q xs e N Wd Fl ba bn bc la ln lc M w hR hI D
  by_cases h2 : K = 2
  · subst h2; exact read2 F G p q xs e N Wd Fl ba bn bc la ln lc M w hR hI D
  by_cases h3 : K = 3
  · subst h3; exact read3 F G p q xs e N Wd Fl ba bn bc la ln lc M w hR hI D
  by_cases h4 : K = 4
  · subst h4; exact read4 F G p q xs e N Wd Fl ba bn bc la ln lc M w hR hI D
  by_cases h5 : K = 5
  · subst h5; exact read5 F G p q xs e N Wd Fl ba bn bc la ln lc M w hR hI D
  by_cases h6 : K = 6
  · subst h6; exact read6 F G p q xs e N Wd Fl ba bn bc la ln lc M w hR hI D hsz hGw
  by_cases h7 : K = 7
  · subst h7; exact read7 F G p q xs e N Wd Fl ba bn bc la ln lc M w hR hI D hsz hGw
  rw [if_neg h1, if_neg h2, if_neg h3, if_neg h4, if_neg h5, if_neg h6, if_neg h7]
  by_cases h8 : K = 8
  · subst h8; exact read8 F G p q xs e N Wd Fl ba bn bc la ln lc M w hR hI D
  · exact readElse F G p q xs e N Wd Fl ba bn bc la ln lc M w hR hI D K h1 h2 h3 h4 h5 h6 h7 h8

end Go.Proofs.Ytakdfpenpodplaa
