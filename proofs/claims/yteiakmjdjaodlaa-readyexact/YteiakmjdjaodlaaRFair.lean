/-
  'ReadyFair'.
-/
import Derived.Test.YteiakmjdjaodlaaRLawB
namespace Go.Proofs.Yteiakmjdjaodlaa
open Go.Shelf Go.RowKit Go.Lib Go.Sort
set_option linter.unusedVariables false
set_option maxRecDepth 100000

/-- one call of a script -/
structure Op3 where
  k : Int
  i : Int
  p : Int
/-- a slice of calls that is read -/
structure Os3 (w : World) (F : Nat → Prop) (a : Option Addr) (n c : Nat) (os : List Op3) : Prop where
  len : os.length = n
  cap : n ≤ c
  max : c ≤ 9223372036854775807
  i6 : ∀ x, x ∈ os → I6 x.k ∧ I6 x.i ∧ I6 x.p
  at' : ∀ j x, os[j]? = some x → ∃ g o, a = some ⟨g, o, none⟩ ∧ F g ∧ w.cell? ⟨g, o + j * 3, none⟩ = some (.int .i64 x.k) ∧ w.cell? ⟨g, o + j * 3 + 1, none⟩ = some (.int .i64 x.i) ∧ w.cell? ⟨g, o + j * 3 + 2, none⟩ = some (.int .i64 x.p)
theorem Os3.below {w w' : World} {F : Nat → Prop} {a : Option Addr} {n c : Nat} {os : List Op3} (h : Os3 w F a n c os) (k : Below w.heap.size w w') : Os3 w' F a n c os :=
  ⟨h.len, h.cap, h.max, h.i6, fun i x hx => by
    obtain ⟨g, o, e, hg, h1, h2, h3⟩ := h.at' i x hx
    have kk := Kept.of_below (F := No) k
    exact ⟨g, o, e, hg, kk.cell h1 (fun h => h), kk.cell h2 (fun h => h), kk.cell h3 (fun h => h)⟩⟩

theorem fair_no (n : Int) (hn : n < 0 ∨ n > 65535) (p : Option Addr) (sn sc : Nat) (W : World) : Calls Try.prog 3 #[.int .i64 n, .slice p sn sc] W fun ex w' => ex = .returned (.bool true) ∧ Below W.heap.size W w' := by
  have cN := new_no n hn W
  have cW := works_any W
  clear hn
  go_enter Try.func3, Try.ntmps3
  go_wp2_with (first
    | (go_at_call 5; refine cN.mono ?_; rintro ex w1 ⟨rfl, hw1⟩; obtain rfl := hw1.symm)
    | (go_at_call 6; refine cW.mono ?_; rintro ex w2 ⟨rfl, hb2⟩))
  go_ret
  exact ⟨rfl, hb2⟩

set_option maxHeartbeats 8000000 in
theorem fair_yes (n : Nat) (hn : n ≤ 65535) (G : Nat → Prop) (p : Option Addr) (sn sc : Nat) (os : List Op3) (W : World) (hx : Os3 W G p sn sc os) (hG : ∀ k, G k → k < W.heap.size) :
    Calls Try.prog 3 #[.int .i64 n, .slice p sn sc] W fun ex w' => ex = .returned (.bool true) ∧ Below W.heap.size W w' := by
  have HX : Hid (Os3 W G p sn sc os) := hx
  have hcap := hx.cap
  have hmax := hx.max
  have cN := lw_new n hn W
  clear hx hG
  go_enter Try.func3, Try.ntmps3
  go_upto_region 4 with (go_at_call 5; refine cN.mono ?_; rintro ex w1 ⟨b, rfl, hL1⟩)
  have HL1 : Hid (Lw W w1 b n 0 []) := hL1
  clear cN hL1
  go_wp2
  go_loopw [7] (fun d wr => ∃ (j nx : Nat) (S : List En), j ≤ sn ∧ d = .int .i64 j ∧ nx ≤ j ∧ Lw W wr b n nx S) (fun d _ => sn - (intOf d).toNat)
  case atStart => exact ⟨0, 0, [], Nat.zero_le _, rfl, Nat.le_refl _, HL1.out⟩
  case round =>
    clear HL1
    obtain ⟨j, nx, S, hj, rfl, hnx, hL⟩ := hrel
    by_cases hlt : j < sn
    · obtain ⟨x, hx⟩ : ∃ x, os[j]? = some x := ⟨_, List.getElem?_eq_getElem (by rw [HX.out.len]; exact hlt)⟩
      have hx6 := HX.out.i6 x (List.mem_of_getElem? hx)
      obtain ⟨g, o, rfl, _, r0, r1, r2⟩ := (HX.out.below hL.bel).at' j x hx
      obtain ⟨F, hL0, hF, hB⟩ := hL
      obtain ⟨xk, xi, xp⟩ := x
      dsimp only at r0 r1 r2 hx6
      have HX6 : Hid (I6 xk ∧ I6 xi ∧ I6 xp) := hx6
      have HL0 : Hid (Ln (wr.alloc (.cells #[.int .i64 xk, .int .i64 xi, .int .i64 xp] 28)) F b n nx S ∧ (∀ k, F k → W.heap.size ≤ k ∧ k < wr.heap.size) ∧ Below W.heap.size W (wr.alloc (.cells #[.int .i64 xk, .int .i64 xi, .int .i64 xp] 28))) := ⟨hL0.below ((Below.refl _ wr).alloc (Nat.le_refl _) _), hF, hB.alloc hB.size _⟩
      have HQ0 : Hid ((wr.alloc (.cells #[.int .i64 xk, .int .i64 xi, .int .i64 xp] 28)).heap[wr.heap.size]? = some (.cells #[.int .i64 xk, .int .i64 xi, .int .i64 xp] 28)) := heap_last _ _
      have HSZ : Hid (wr.heap.size < (wr.alloc (.cells #[.int .i64 xk, .int .i64 xi, .int .i64 xp] 28)).heap.size) := heap_lt HQ0.out
      have HOK : Hid (Okl n nx S) := hL0.2.1
      have hfew : S.length ≤ 65536 := by have := hL0.2.1.few; omega
      clear hL0 hF hB hx hx6
      go_upto_region 8 with fail
      generalize wr.alloc (.cells #[.int .i64 xk, .int .i64 xi, .int .i64 xp] 28) = w1 at *
      clear r0 r1 r2
      have cL := list_any HL0.out.1
      go_upto_region 9 with (go_at_call 7; refine cL.mono ?_; rintro ex w2 ⟨u, rfl, own2, hb2⟩)
      obtain ⟨bn, hbn⟩ : ∃ bn, S.length = bn := ⟨_, rfl⟩
      rw [hbn] at own2 hfew
      obtain ⟨ba, bc, hu, hbc1, hbc2⟩ : ∃ a c, u = .slice a bn c ∧ bn ≤ c ∧ c ≤ 9223372036854775807 := by
        obtain ⟨_, a, c, e, h1, h2, _⟩ := owns_ints own2
        exact ⟨a, c, e, h1, h2⟩
      subst hu
      have HL2 : Hid (Ln w2 F b n nx S ∧ (∀ k, F k → W.heap.size ≤ k ∧ k < wr.heap.size) ∧ Below W.heap.size W w2) := ⟨HL0.out.1.below hb2, HL0.out.2.1, HL0.out.2.2.trans (hb2.mono HL0.out.2.2.size)⟩
      have HQ2 : Hid (w2.heap[wr.heap.size]? = some (.cells #[.int .i64 xk, .int .i64 xi, .int .i64 xp] 28)) := (Kept.of_below (F := No) hb2).at' HQ0.out (fun h => h)
      have HR2 : Hid (w2.ownsRow wr.heap.size 3 1 (.slice ba bn bc) bn ((idL S).map iv)) := owns_base own2 (Nat.le_of_lt HSZ.out)
      have HBN : Hid (S.length = bn) := hbn
      clear own2 hb2 cL HL0 HQ0 hbn
      have q0 := cell_of_row (k := 0) (v := .int .i64 xk) HQ2.out rfl
      have q1 := cell_of_row (k := 1) (v := .int .i64 xi) HQ2.out rfl
      have q2 := cell_of_row (k := 2) (v := .int .i64 xp) HQ2.out rfl
      go_upto_region 12 with fail
      by_cases hk1 : xk = 1
      · subst hk1
        by_cases hgood : 1 ≤ xi ∧ xi ≤ n
        · have cP := put_yes HL2.out.1 xi xp hgood.1 hgood.2 HX6.out.2.2 (by omega)
          go_upto_region 22 with (go_at_call 8; refine cP.mono ?_; rintro ex w3 ⟨rfl, F3, hF3, hK3, hFF3⟩)
          obtain ⟨S3, hS3⟩ : ∃ S3, S3 = insE ⟨xi, xp, nx⟩ (outE xi S) := ⟨_, rfl⟩
          rw [← hS3] at hF3
          obtain ⟨nx3, hnx3⟩ : ∃ nx3, nx3 = nx + 1 := ⟨_, rfl⟩
          rw [← hnx3] at hF3
          have HFR : Hid (Fair S S3 xi true 1 xp) := (by rw [hS3]; exact fair_put HOK.out xi xp hgood.1 hgood.2 HX6.out.2.2)
          have HQ3 : Hid (w3.heap[wr.heap.size]? = some (.cells #[.int .i64 1, .int .i64 xi, .int .i64 xp] 28)) := hK3.at' HQ2.out (fun e => Nat.lt_irrefl _ (HL2.out.2.1 _ e).2)
          have HR3 : Hid (w3.ownsRow 0 3 1 (.slice ba bn bc) bn ((idL S).map iv)) := hK3.owns (owns_base HR2.out (Nat.zero_le _)) (fun g hg e => by have := (HR2.out.lt g hg).1; have := (HL2.out.2.1 _ e).2; omega)
          have HLW : Hid (Lw W w3 b n nx3 S3) := Lw.turned HL2.out.2.2 (fun k hk => ⟨(HL2.out.2.1 k hk).1, by have := (HL2.out.2.1 k hk).2; have := heap_lt HQ2.out; omega⟩) hF3 hK3 hFF3
          have HL3 : Hid (∃ F3, Ln w3 F3 b n nx3 S3) := (by obtain ⟨F3, h1, _⟩ := HLW.out; exact ⟨F3, h1⟩)
          have hn3 : nx3 ≤ j + 1 := by omega
          clear hF3 hK3 hFF3 hS3 hnx3 cP
          obtain ⟨F3, hF3⟩ := HL3.out
          have cL := list_any hF3
          have HF3 : Hid (Ln w3 F3 b n nx3 S3) := hF3
          have hfew3 : S3.length ≤ 65536 := by have := hF3.2.1.few; omega
          clear hF3 HL3 HQ2 HR2 q0 q1 q2 HL2
          go_upto_region 23 with (go_at_call 7; refine cL.mono ?_; rintro ex w4 ⟨u4, rfl, own4, hb4⟩)
          obtain ⟨an, han⟩ : ∃ an, S3.length = an := ⟨_, rfl⟩
          rw [han] at own4 hfew3
          obtain ⟨aa, ac, hu4, hac1, hac2⟩ : ∃ a c, u4 = .slice a an c ∧ an ≤ c ∧ c ≤ 9223372036854775807 := by
            obtain ⟨_, a, c, e, h1, h2, _⟩ := owns_ints own4
            exact ⟨a, c, e, h1, h2⟩
          subst hu4
          have HAN : Hid (S3.length = an) := han
          have HR4 : Hid (w4.ownsRow 0 3 1 (.slice aa an ac) an ((idL S3).map iv) ∧ w4.ownsRow 0 3 1 (.slice ba bn bc) bn ((idL S).map iv) ∧ Below w3.heap.size w3 w4) := ⟨owns_base own4 (Nat.zero_le _), (Kept.of_below (F := No) hb4).owns HR3.out (fun _ _ h => h), hb4⟩
          have HQ4 : Hid (w4.heap[wr.heap.size]? = some (.cells #[.int .i64 1, .int .i64 xi, .int .i64 xp] 28)) := (Kept.of_below (F := No) hb4).at' HQ3.out (fun h => h)
          have cW := where_any (idL S3) (.slice aa an ac) an w4 HR4.out.1 (xi)
          have cO := ordered_any (HF3.out.below hb4)
          obtain ⟨att, hatt⟩ : ∃ att, att = whereI (idL S3) (xi) := ⟨_, rfl⟩
          rw [← hatt] at cW
          have HATT : Hid (att = whereI (idL S3) (xi)) := hatt
          have HMEM : Hid (decide (att ≥ 0) = decide ((xi) ∈ idL S3)) := (show _ = _ by rw [hatt]; exact whereI_ge _ _)
          clear own4 hb4 cL han hatt HQ3 HR3
          go_upto_region 24 with (go_at_call 12; refine cW.mono ?_; rintro ex w5 ⟨rfl, hw5⟩; obtain rfl := hw5.symm)
          clear cW
          have him : xi ∈ idL S3 := of_decide_eq_true HFR.out.2.1
          obtain ⟨k, hk, hkl⟩ : ∃ k : Nat, att = k ∧ k < an := by
            refine ⟨(idL S3).idxOf xi, ?_, ?_⟩
            · rw [HATT.out]; unfold whereI; rw [if_pos him]
            · have := List.idxOf_lt_length_of_mem him; rw [idL_len, HAN.out] at this; exact this
          have HKI : Hid ((idL S3).idxOf xi = k) := (show _ = _ by have h1 := HATT.out; unfold whereI at h1; rw [if_pos him, hk] at h1; exact (Int.ofNat.inj h1).symm)
          subst hk
          clear HATT HMEM him
          have hk0 : (k : Int) ≥ 0 := by omega
          go_upto_region 26 with (go_at_call 13; refine cO.mono ?_; rintro ex w5 ⟨rfl, hb5⟩)
          have HR5 : Hid (w5.ownsRow 0 3 1 (.slice aa an ac) an ((idL S3).map iv) ∧ w5.ownsRow 0 3 1 (.slice ba bn bc) bn ((idL S).map iv) ∧ Below w3.heap.size w3 w5) := ⟨(Kept.of_below (F := No) hb5).owns HR4.out.1 (fun _ _ h => h), (Kept.of_below (F := No) hb5).owns HR4.out.2.1 (fun _ _ h => h), HR4.out.2.2.trans (hb5.mono HR4.out.2.2.size)⟩
          have HQ5 : Hid (w5.heap[wr.heap.size]? = some (.cells #[.int .i64 1, .int .i64 xi, .int .i64 xp] 28)) := (Kept.of_below (F := No) hb5).at' HQ4.out (fun h => h)
          clear hb5 cO HR4 HQ4
          by_cases hnext : k + 1 < an
          · obtain ⟨y, hy⟩ : ∃ y, S3[k + 1]? = some y := ⟨_, List.getElem?_eq_getElem (by rw [HAN.out]; exact hnext)⟩
            have hyS : y ∈ S3 := List.mem_of_getElem? hy
            obtain ⟨gy, hgy, r3, _⟩ : ∃ g, aa = some ⟨g, 0, none⟩ ∧ w5.cell? ⟨g, k + 1, none⟩ = some (.int .i64 y.id) ∧ w5.frozen? ⟨g, k + 1, none⟩ = false := by
              obtain ⟨_, a', c', e, _, _, h3⟩ := owns_ints HR5.out.1
              injection e with e1 _ _
              subst e1
              exact h3 (k + 1) y.id (idL_at hy)
            subst hgy
            have hlow : prioE y.id S3 < xp := HFR.out.2.2 rfl y.id (by rw [HKI.out]; exact idL_at hy)
            have cQ := priority_any (HF3.out.below HR5.out.2.2) y.id (HF3.out.2.1.ci HF3.out.1 y hyS)
            generalize prioE y.id S3 = py at hlow cQ
            generalize (findE y.id S3).isSome = by' at cQ
            have hnle : ¬ (py ≥ xp) := by omega
            obtain ⟨k1, hk1⟩ : ∃ k1, k1 = k + 1 := ⟨_, rfl⟩
            rw [← hk1] at r3 hnext
            have EK : Hid ((k : Int) + 1 = (k1 : Int)) := (by show _ = _; omega)
            have ek : (k : Int) + 1 = (k1 : Int) := EK.out
            clear hy hyS hlow hk1
            go_upto_region 28 with (go_at_call 14; refine cQ.mono ?_; rintro ex w6 ⟨rfl, hb6⟩)
            have HR6 : Hid (w6.ownsRow 0 3 1 (.slice (some ⟨gy, 0, none⟩) an ac) an ((idL S3).map iv) ∧ w6.ownsRow 0 3 1 (.slice ba bn bc) bn ((idL S).map iv) ∧ Below w3.heap.size w3 w6) := ⟨(Kept.of_below (F := No) hb6).owns HR5.out.1 (fun _ _ h => h), (Kept.of_below (F := No) hb6).owns HR5.out.2.1 (fun _ _ h => h), HR5.out.2.2.trans (hb6.mono HR5.out.2.2.size)⟩
            have HQ6 : Hid (w6.heap[wr.heap.size]? = some (.cells #[.int .i64 1, .int .i64 xi, .int .i64 xp] 28)) := (Kept.of_below (F := No) hb6).at' HQ5.out (fun h => h)
            have z2 := cell_of_row (k := 2) (v := .int .i64 xp) HQ6.out rfl
            clear hb6 cQ r3 HR5 HQ5 ek
            have cK := kept_any (idL S) (idL S3) (.slice ba bn bc) (.slice (some ⟨gy, 0, none⟩) an ac) bn an w6 (xi) HR6.out.2.1 HR6.out.1 (by omega) (by omega) HFR.out.1
            go_wp2_with (go_at_call 15; refine cK.mono ?_; rintro ex w8 ⟨rfl, hb8⟩)
            go_roundw
            case rel => exact ⟨j + 1, nx3, S3, by omega, by go_num, hn3, (HLW.out.below HR6.out.2.2).below hb8⟩
            case measure => simp [intOf]; omega
          · have hnext2 : ¬ ((k : Int) + 1 < (an : Int)) := by omega
            have cK := kept_any (idL S) (idL S3) (.slice ba bn bc) (.slice aa an ac) bn an w5 (xi) HR5.out.2.1 HR5.out.1 (by omega) (by omega) HFR.out.1
            go_wp2_with (go_at_call 15; refine cK.mono ?_; rintro ex w8 ⟨rfl, hb8⟩)
            go_roundw
            case rel => exact ⟨j + 1, nx3, S3, by omega, by go_num, hn3, (HLW.out.below HR5.out.2.2).below hb8⟩
            case measure => simp [intOf]; omega
        · have cP := put_no HL2.out.1 xi xp (by omega)
          go_upto_region 22 with (go_at_call 8; refine cP.mono ?_; rintro ex w3 ⟨rfl, hw3⟩)
          have hK3 : Kept F w2 w3 := by rw [hw3]; exact Kept.refl _ _
          have hF3 : Ln w3 F b n nx S := by rw [hw3]; exact HL2.out.1
          have hFF3 : ∀ k, F k → F k ∨ w2.heap.size ≤ k := fun k hk => .inl hk
          have hw3' : w2 = w3 := hw3.symm
          obtain ⟨S3, hS3⟩ : ∃ S3, S3 = S := ⟨_, rfl⟩
          obtain ⟨nx3, hnx3⟩ : ∃ nx3, nx3 = nx := ⟨_, rfl⟩
          rw [← hS3, ← hnx3] at hF3
          have HFR : Hid (Fair S S3 xi false 1 xp) := (by rw [hS3]; exact fair_same S xi xp)
          have HSS : Hid (S3 = S) := hS3
          have HQ3 : Hid (w3.heap[wr.heap.size]? = some (.cells #[.int .i64 1, .int .i64 xi, .int .i64 xp] 28)) := hK3.at' HQ2.out (fun e => Nat.lt_irrefl _ (HL2.out.2.1 _ e).2)
          have HR3 : Hid (w3.ownsRow 0 3 1 (.slice ba bn bc) bn ((idL S).map iv)) := hK3.owns (owns_base HR2.out (Nat.zero_le _)) (fun g hg e => by have := (HR2.out.lt g hg).1; have := (HL2.out.2.1 _ e).2; omega)
          have HLW : Hid (Lw W w3 b n nx3 S3) := Lw.turned HL2.out.2.2 (fun k hk => ⟨(HL2.out.2.1 k hk).1, by have := (HL2.out.2.1 k hk).2; have := heap_lt HQ2.out; omega⟩) hF3 hK3 hFF3
          have HL3 : Hid (∃ F3, Ln w3 F3 b n nx3 S3) := (by obtain ⟨F3, h1, _⟩ := HLW.out; exact ⟨F3, h1⟩)
          have hn3 : nx3 ≤ j + 1 := by omega
          clear hF3 hK3 hFF3 hS3 hnx3 cP
          subst hw3'
          obtain ⟨F3, hF3⟩ := HL3.out
          have cL := list_any hF3
          have HF3 : Hid (Ln w2 F3 b n nx3 S3) := hF3
          have hfew2 : S3.length ≤ 65536 := by have := hF3.2.1.few; omega
          clear hF3 HL3 HQ2 HR2 q0 q1 q2 HL2
          go_upto_region 23 with (go_at_call 7; refine cL.mono ?_; rintro ex w4 ⟨u4, rfl, own4, hb4⟩)
          obtain ⟨an, han⟩ : ∃ an, S3.length = an := ⟨_, rfl⟩
          rw [han] at own4 hfew2
          obtain ⟨aa, ac, hu4, hac1, hac2⟩ : ∃ a c, u4 = .slice a an c ∧ an ≤ c ∧ c ≤ 9223372036854775807 := by
            obtain ⟨_, a, c, e, h1, h2, _⟩ := owns_ints own4
            exact ⟨a, c, e, h1, h2⟩
          subst hu4
          have HAN : Hid (S3.length = an) := han
          have HR4 : Hid (w4.ownsRow 0 3 1 (.slice aa an ac) an ((idL S3).map iv) ∧ w4.ownsRow 0 3 1 (.slice ba bn bc) bn ((idL S).map iv) ∧ Below w2.heap.size w2 w4) := ⟨owns_base own4 (Nat.zero_le _), (Kept.of_below (F := No) hb4).owns HR3.out (fun _ _ h => h), hb4⟩
          have HQ4 : Hid (w4.heap[wr.heap.size]? = some (.cells #[.int .i64 1, .int .i64 xi, .int .i64 xp] 28)) := (Kept.of_below (F := No) hb4).at' HQ3.out (fun h => h)
          have cW := where_any (idL S3) (.slice aa an ac) an w4 HR4.out.1 (xi)
          have cO := ordered_any (HF3.out.below hb4)
          obtain ⟨att, hatt⟩ : ∃ att, att = whereI (idL S3) (xi) := ⟨_, rfl⟩
          rw [← hatt] at cW
          have HATT : Hid (att = whereI (idL S3) (xi)) := hatt
          have HMEM : Hid (decide (att ≥ 0) = decide ((xi) ∈ idL S3)) := (show _ = _ by rw [hatt]; exact whereI_ge _ _)
          clear own4 hb4 cL han hatt HQ3 HR3
          go_upto_region 24 with (go_at_call 12; refine cW.mono ?_; rintro ex w5 ⟨rfl, hw5⟩; obtain rfl := hw5.symm)
          clear cW
          have o0 := cell_of_row (k := 0) (v := .int .i64 1) HQ4.out rfl
          go_upto_region 26 with (first
            | (go_at_call 13; refine cO.mono ?_; rintro ex w5 ⟨rfl, hb5⟩; have o5 := (Kept.of_below (F := No) hb5).cell o0 (fun h => h); have cB := where_any (idL S) (.slice ba bn bc) bn w5 ((Kept.of_below (F := No) hb5).owns HR4.out.2.1 (fun _ _ h => h)) xi; rw [← HSS.out, ← HATT.out] at cB)
            | (go_at_call 12; refine cB.mono ?_; rintro ex w6 ⟨rfl, hw6⟩; obtain rfl := hw6.symm))
          have HR5 : Hid (w5.ownsRow 0 3 1 (.slice aa an ac) an ((idL S3).map iv) ∧ w5.ownsRow 0 3 1 (.slice ba bn bc) bn ((idL S).map iv) ∧ Below w2.heap.size w2 w5) := ⟨(Kept.of_below (F := No) hb5).owns HR4.out.1 (fun _ _ h => h), (Kept.of_below (F := No) hb5).owns HR4.out.2.1 (fun _ _ h => h), HR4.out.2.2.trans (hb5.mono HR4.out.2.2.size)⟩
          have HQ5 : Hid (w5.heap[wr.heap.size]? = some (.cells #[.int .i64 1, .int .i64 xi, .int .i64 xp] 28)) := (Kept.of_below (F := No) hb5).at' HQ4.out (fun h => h)
          clear hb5 cO HR4 HQ4 cB o0 o5
          have cK := kept_any (idL S) (idL S3) (.slice ba bn bc) (.slice aa an ac) bn an w5 (xi) HR5.out.2.1 HR5.out.1 (by omega) (by omega) HFR.out.1
          go_wp2_with (go_at_call 15; refine cK.mono ?_; rintro ex w8 ⟨rfl, hb8⟩)
          go_roundw
          case rel => exact ⟨j + 1, nx3, S3, by omega, by go_num, hn3, (HLW.out.below HR5.out.2.2).below hb8⟩
          case measure => simp [intOf]; omega
      · by_cases hk2 : xk = 2
        · subst hk2
          have cP := remove_any HL2.out.1 xi HX6.out.2.1
          generalize hasE xi S = rr at cP
          go_upto_region 22 with (go_at_call 9; refine cP.mono ?_; rintro ex w3 ⟨rfl, hF3, hK3⟩)
          have hFF3 : ∀ k, F k → F k ∨ w2.heap.size ≤ k := fun k hk => .inl hk
          obtain ⟨S3, hS3⟩ : ∃ S3, S3 = outE xi S := ⟨_, rfl⟩
          obtain ⟨nx3, hnx3⟩ : ∃ nx3, nx3 = nx := ⟨_, rfl⟩
          rw [← hS3, ← hnx3] at hF3
          have HFR : Hid (Fair S S3 xi false 2 xp) := (by rw [hS3]; exact fair_remove S xi xp)
          have HQ3 : Hid (w3.heap[wr.heap.size]? = some (.cells #[.int .i64 2, .int .i64 xi, .int .i64 xp] 28)) := hK3.at' HQ2.out (fun e => Nat.lt_irrefl _ (HL2.out.2.1 _ e).2)
          have HR3 : Hid (w3.ownsRow 0 3 1 (.slice ba bn bc) bn ((idL S).map iv)) := hK3.owns (owns_base HR2.out (Nat.zero_le _)) (fun g hg e => by have := (HR2.out.lt g hg).1; have := (HL2.out.2.1 _ e).2; omega)
          have HLW : Hid (Lw W w3 b n nx3 S3) := Lw.turned HL2.out.2.2 (fun k hk => ⟨(HL2.out.2.1 k hk).1, by have := (HL2.out.2.1 k hk).2; have := heap_lt HQ2.out; omega⟩) hF3 hK3 hFF3
          have HL3 : Hid (∃ F3, Ln w3 F3 b n nx3 S3) := (by obtain ⟨F3, h1, _⟩ := HLW.out; exact ⟨F3, h1⟩)
          have hn3 : nx3 ≤ j + 1 := by omega
          clear hF3 hK3 hFF3 hS3 hnx3 cP
          obtain ⟨F3, hF3⟩ := HL3.out
          have cL := list_any hF3
          have HF3 : Hid (Ln w3 F3 b n nx3 S3) := hF3
          have hfew3 : S3.length ≤ 65536 := by have := hF3.2.1.few; omega
          clear hF3 HL3 HQ2 HR2 q0 q1 q2 HL2
          go_upto_region 23 with (go_at_call 7; refine cL.mono ?_; rintro ex w4 ⟨u4, rfl, own4, hb4⟩)
          obtain ⟨an, han⟩ : ∃ an, S3.length = an := ⟨_, rfl⟩
          rw [han] at own4 hfew3
          obtain ⟨aa, ac, hu4, hac1, hac2⟩ : ∃ a c, u4 = .slice a an c ∧ an ≤ c ∧ c ≤ 9223372036854775807 := by
            obtain ⟨_, a, c, e, h1, h2, _⟩ := owns_ints own4
            exact ⟨a, c, e, h1, h2⟩
          subst hu4
          have HAN : Hid (S3.length = an) := han
          have HR4 : Hid (w4.ownsRow 0 3 1 (.slice aa an ac) an ((idL S3).map iv) ∧ w4.ownsRow 0 3 1 (.slice ba bn bc) bn ((idL S).map iv) ∧ Below w3.heap.size w3 w4) := ⟨owns_base own4 (Nat.zero_le _), (Kept.of_below (F := No) hb4).owns HR3.out (fun _ _ h => h), hb4⟩
          have HQ4 : Hid (w4.heap[wr.heap.size]? = some (.cells #[.int .i64 2, .int .i64 xi, .int .i64 xp] 28)) := (Kept.of_below (F := No) hb4).at' HQ3.out (fun h => h)
          have cW := where_any (idL S3) (.slice aa an ac) an w4 HR4.out.1 (xi)
          have cO := ordered_any (HF3.out.below hb4)
          obtain ⟨att, hatt⟩ : ∃ att, att = whereI (idL S3) (xi) := ⟨_, rfl⟩
          rw [← hatt] at cW
          have HATT : Hid (att = whereI (idL S3) (xi)) := hatt
          have HMEM : Hid (decide (att ≥ 0) = decide ((xi) ∈ idL S3)) := (show _ = _ by rw [hatt]; exact whereI_ge _ _)
          clear own4 hb4 cL han hatt HQ3 HR3
          go_upto_region 24 with (go_at_call 12; refine cW.mono ?_; rintro ex w5 ⟨rfl, hw5⟩; obtain rfl := hw5.symm)
          clear cW
          have hneg : att = -1 := by
            have h1 := HFR.out.2.1
            rw [HATT.out]
            unfold whereI
            rw [if_neg (of_decide_eq_false h1)]
          subst hneg
          clear HATT HMEM
          have o0 := cell_of_row (k := 0) (v := .int .i64 2) HQ4.out rfl
          go_upto_region 26 with (go_at_call 13; refine cO.mono ?_; rintro ex w5 ⟨rfl, hb5⟩; have o5 := (Kept.of_below (F := No) hb5).cell o0 (fun h => h))
          have HR5 : Hid (w5.ownsRow 0 3 1 (.slice aa an ac) an ((idL S3).map iv) ∧ w5.ownsRow 0 3 1 (.slice ba bn bc) bn ((idL S).map iv) ∧ Below w3.heap.size w3 w5) := ⟨(Kept.of_below (F := No) hb5).owns HR4.out.1 (fun _ _ h => h), (Kept.of_below (F := No) hb5).owns HR4.out.2.1 (fun _ _ h => h), HR4.out.2.2.trans (hb5.mono HR4.out.2.2.size)⟩
          have HQ5 : Hid (w5.heap[wr.heap.size]? = some (.cells #[.int .i64 2, .int .i64 xi, .int .i64 xp] 28)) := (Kept.of_below (F := No) hb5).at' HQ4.out (fun h => h)
          clear hb5 cO HR4 HQ4 o0 o5
          have cK := kept_any (idL S) (idL S3) (.slice ba bn bc) (.slice aa an ac) bn an w5 (xi) HR5.out.2.1 HR5.out.1 (by omega) (by omega) HFR.out.1
          go_wp2_with (go_at_call 15; refine cK.mono ?_; rintro ex w8 ⟨rfl, hb8⟩)
          go_roundw
          case rel => exact ⟨j + 1, nx3, S3, by omega, by go_num, hn3, (HLW.out.below HR5.out.2.2).below hb8⟩
          case measure => simp [intOf]; omega
        · by_cases hk4 : xk = 4
          · subst hk4
            obtain ⟨hI, hhI⟩ : ∃ hI, headI S = hI := ⟨_, rfl⟩
            by_cases hemp : bn = 0
            · have hSn : S = [] := List.eq_nil_of_length_eq_zero (by rw [HBN.out]; exact hemp)
              have hsm : S.head?.isSome = false := by rw [hSn]; rfl
              have hbz : bn = 0 := hemp
              subst hbz
              clear hSn hemp
              have cF := first_any HL2.out.1
              have HHI : Hid (headI S = hI) := hhI
              rw [hhI, hsm] at cF
              go_upto_region 18 with (go_at_call 10; refine cF.mono ?_; rintro ex w9 ⟨rfl, hb9⟩)
              have cT := take_any (HL2.out.1.below hb9)
              rw [hhI, hsm] at cT
              have HB9 : Hid (Below w2.heap.size w2 w9) := hb9
              clear cF hb9
              go_upto_region 19 with (go_at_call 11; refine cT.mono ?_; rintro ex w3 ⟨rfl, hF3, hK9⟩)
              have hK3 : Kept F w2 w3 := (Kept.of_below HB9.out).trans hK9 (fun k hk => .inl hk)
              have hFF3 : ∀ k, F k → F k ∨ w2.heap.size ≤ k := fun k hk => .inl hk
              obtain ⟨S3, hS3⟩ : ∃ S3, S3 = S.tail := ⟨_, rfl⟩
              obtain ⟨nx3, hnx3⟩ : ∃ nx3, nx3 = nx := ⟨_, rfl⟩
              rw [← hS3, ← hnx3] at hF3
              have HFR : Hid (Fair S S3 hI false 4 xp) := (by rw [hS3, ← HHI.out]; exact fair_take HOK.out xp)
              have HQ3 : Hid (w3.heap[wr.heap.size]? = some (.cells #[.int .i64 4, .int .i64 xi, .int .i64 xp] 28)) := hK3.at' HQ2.out (fun e => Nat.lt_irrefl _ (HL2.out.2.1 _ e).2)
              have HR3 : Hid (w3.ownsRow 0 3 1 (.slice ba 0 bc) 0 ((idL S).map iv)) := hK3.owns (owns_base HR2.out (Nat.zero_le _)) (fun g hg e => by have := (HR2.out.lt g hg).1; have := (HL2.out.2.1 _ e).2; omega)
              have HLW : Hid (Lw W w3 b n nx3 S3) := Lw.turned HL2.out.2.2 (fun k hk => ⟨(HL2.out.2.1 k hk).1, by have := (HL2.out.2.1 k hk).2; have := heap_lt HQ2.out; omega⟩) hF3 hK3 hFF3
              have HL3 : Hid (∃ F3, Ln w3 F3 b n nx3 S3) := (by obtain ⟨F3, h1, _⟩ := HLW.out; exact ⟨F3, h1⟩)
              have hn3 : nx3 ≤ j + 1 := by omega
              clear hF3 hK3 hFF3 hS3 hnx3 cT hK9 HB9 hhI hsm
              go_upto_region 22 with fail
              obtain ⟨F3, hF3⟩ := HL3.out
              have cL := list_any hF3
              have HF3 : Hid (Ln w3 F3 b n nx3 S3) := hF3
              have hfew3 : S3.length ≤ 65536 := by have := hF3.2.1.few; omega
              clear hF3 HL3 HQ2 HR2 q0 q1 q2 HL2
              go_upto_region 23 with (go_at_call 7; refine cL.mono ?_; rintro ex w4 ⟨u4, rfl, own4, hb4⟩)
              obtain ⟨an, han⟩ : ∃ an, S3.length = an := ⟨_, rfl⟩
              rw [han] at own4 hfew3
              obtain ⟨aa, ac, hu4, hac1, hac2⟩ : ∃ a c, u4 = .slice a an c ∧ an ≤ c ∧ c ≤ 9223372036854775807 := by
                obtain ⟨_, a, c, e, h1, h2, _⟩ := owns_ints own4
                exact ⟨a, c, e, h1, h2⟩
              subst hu4
              have HAN : Hid (S3.length = an) := han
              have HR4 : Hid (w4.ownsRow 0 3 1 (.slice aa an ac) an ((idL S3).map iv) ∧ w4.ownsRow 0 3 1 (.slice ba 0 bc) 0 ((idL S).map iv) ∧ Below w3.heap.size w3 w4) := ⟨owns_base own4 (Nat.zero_le _), (Kept.of_below (F := No) hb4).owns HR3.out (fun _ _ h => h), hb4⟩
              have HQ4 : Hid (w4.heap[wr.heap.size]? = some (.cells #[.int .i64 4, .int .i64 xi, .int .i64 xp] 28)) := (Kept.of_below (F := No) hb4).at' HQ3.out (fun h => h)
              have cW := where_any (idL S3) (.slice aa an ac) an w4 HR4.out.1 (hI)
              have cO := ordered_any (HF3.out.below hb4)
              obtain ⟨att, hatt⟩ : ∃ att, att = whereI (idL S3) (hI) := ⟨_, rfl⟩
              rw [← hatt] at cW
              have HATT : Hid (att = whereI (idL S3) (hI)) := hatt
              have HMEM : Hid (decide (att ≥ 0) = decide ((hI) ∈ idL S3)) := (show _ = _ by rw [hatt]; exact whereI_ge _ _)
              clear own4 hb4 cL han hatt HQ3 HR3
              go_upto_region 24 with (go_at_call 12; refine cW.mono ?_; rintro ex w5 ⟨rfl, hw5⟩; obtain rfl := hw5.symm)
              clear cW
              have hneg : att = -1 := by
                have h1 := HFR.out.2.1
                rw [HATT.out]
                unfold whereI
                rw [if_neg (of_decide_eq_false h1)]
              subst hneg
              clear HATT HMEM
              have o0 := cell_of_row (k := 0) (v := .int .i64 4) HQ4.out rfl
              go_upto_region 26 with (go_at_call 13; refine cO.mono ?_; rintro ex w5 ⟨rfl, hb5⟩; have o5 := (Kept.of_below (F := No) hb5).cell o0 (fun h => h))
              have HR5 : Hid (w5.ownsRow 0 3 1 (.slice aa an ac) an ((idL S3).map iv) ∧ w5.ownsRow 0 3 1 (.slice ba 0 bc) 0 ((idL S).map iv) ∧ Below w3.heap.size w3 w5) := ⟨(Kept.of_below (F := No) hb5).owns HR4.out.1 (fun _ _ h => h), (Kept.of_below (F := No) hb5).owns HR4.out.2.1 (fun _ _ h => h), HR4.out.2.2.trans (hb5.mono HR4.out.2.2.size)⟩
              have HQ5 : Hid (w5.heap[wr.heap.size]? = some (.cells #[.int .i64 4, .int .i64 xi, .int .i64 xp] 28)) := (Kept.of_below (F := No) hb5).at' HQ4.out (fun h => h)
              clear hb5 cO HR4 HQ4 o0 o5
              have cK := kept_any (idL S) (idL S3) (.slice ba 0 bc) (.slice aa an ac) 0 an w5 (hI) HR5.out.2.1 HR5.out.1 (by omega) (by omega) HFR.out.1
              go_wp2_with (go_at_call 15; refine cK.mono ?_; rintro ex w8 ⟨rfl, hb8⟩)
              go_roundw
              case rel => exact ⟨j + 1, nx3, S3, by omega, by go_num, hn3, (HLW.out.below HR5.out.2.2).below hb8⟩
              case measure => simp [intOf]; omega
            · obtain ⟨y, r, hSc⟩ : ∃ y r, S = y :: r := by
                cases hS : S with
                | nil => exact absurd (by have := HBN.out; rw [hS] at this; exact this.symm) hemp
                | cons y r => exact ⟨y, r, rfl⟩
              have hsm : S.head?.isSome = true := by rw [hSc]; rfl
              have hbp : 0 < bn := by omega
              have hy0 : (idL S)[0]? = some hI := by rw [← hhI, hSc]; rfl
              have HY0 : Hid ((idL S)[0]? = some hI) := hy0
              clear hSc hemp hy0
              have cF := first_any HL2.out.1
              have HHI : Hid (headI S = hI) := hhI
              rw [hhI, hsm] at cF
              go_upto_region 18 with (go_at_call 10; refine cF.mono ?_; rintro ex w9 ⟨rfl, hb9⟩)
              have cT := take_any (HL2.out.1.below hb9)
              rw [hhI, hsm] at cT
              have HB9 : Hid (Below w2.heap.size w2 w9) := hb9
              clear cF hb9
              go_upto_region 19 with (go_at_call 11; refine cT.mono ?_; rintro ex w3 ⟨rfl, hF3, hK9⟩)
              have hK3 : Kept F w2 w3 := (Kept.of_below HB9.out).trans hK9 (fun k hk => .inl hk)
              have hFF3 : ∀ k, F k → F k ∨ w2.heap.size ≤ k := fun k hk => .inl hk
              obtain ⟨S3, hS3⟩ : ∃ S3, S3 = S.tail := ⟨_, rfl⟩
              obtain ⟨nx3, hnx3⟩ : ∃ nx3, nx3 = nx := ⟨_, rfl⟩
              rw [← hS3, ← hnx3] at hF3
              have HFR : Hid (Fair S S3 hI false 4 xp) := (by rw [hS3, ← HHI.out]; exact fair_take HOK.out xp)
              have HQ3 : Hid (w3.heap[wr.heap.size]? = some (.cells #[.int .i64 4, .int .i64 xi, .int .i64 xp] 28)) := hK3.at' HQ2.out (fun e => Nat.lt_irrefl _ (HL2.out.2.1 _ e).2)
              have HR3 : Hid (w3.ownsRow 0 3 1 (.slice ba bn bc) bn ((idL S).map iv)) := hK3.owns (owns_base HR2.out (Nat.zero_le _)) (fun g hg e => by have := (HR2.out.lt g hg).1; have := (HL2.out.2.1 _ e).2; omega)
              have HLW : Hid (Lw W w3 b n nx3 S3) := Lw.turned HL2.out.2.2 (fun k hk => ⟨(HL2.out.2.1 k hk).1, by have := (HL2.out.2.1 k hk).2; have := heap_lt HQ2.out; omega⟩) hF3 hK3 hFF3
              have HL3 : Hid (∃ F3, Ln w3 F3 b n nx3 S3) := (by obtain ⟨F3, h1, _⟩ := HLW.out; exact ⟨F3, h1⟩)
              have hn3 : nx3 ≤ j + 1 := by omega
              clear hF3 hK3 hFF3 hS3 hnx3 cT hK9 HB9 hhI hsm
              obtain ⟨gb, hgb, rb, _⟩ : ∃ g, ba = some ⟨g, 0, none⟩ ∧ w3.cell? ⟨g, 0, none⟩ = some (.int .i64 hI) ∧ w3.frozen? ⟨g, 0, none⟩ = false := by
                obtain ⟨_, a', c', e, _, _, h3⟩ := owns_ints HR3.out
                injection e with e1 _ _
                subst e1
                exact h3 0 hI HY0.out
              subst hgb
              go_upto_region 22 with fail
              clear rb
              obtain ⟨F3, hF3⟩ := HL3.out
              have cL := list_any hF3
              have HF3 : Hid (Ln w3 F3 b n nx3 S3) := hF3
              have hfew3 : S3.length ≤ 65536 := by have := hF3.2.1.few; omega
              clear hF3 HL3 HQ2 HR2 q0 q1 q2 HL2
              go_upto_region 23 with (go_at_call 7; refine cL.mono ?_; rintro ex w4 ⟨u4, rfl, own4, hb4⟩)
              obtain ⟨an, han⟩ : ∃ an, S3.length = an := ⟨_, rfl⟩
              rw [han] at own4 hfew3
              obtain ⟨aa, ac, hu4, hac1, hac2⟩ : ∃ a c, u4 = .slice a an c ∧ an ≤ c ∧ c ≤ 9223372036854775807 := by
                obtain ⟨_, a, c, e, h1, h2, _⟩ := owns_ints own4
                exact ⟨a, c, e, h1, h2⟩
              subst hu4
              have HAN : Hid (S3.length = an) := han
              have HR4 : Hid (w4.ownsRow 0 3 1 (.slice aa an ac) an ((idL S3).map iv) ∧ w4.ownsRow 0 3 1 (.slice (some ⟨gb, 0, none⟩) bn bc) bn ((idL S).map iv) ∧ Below w3.heap.size w3 w4) := ⟨owns_base own4 (Nat.zero_le _), (Kept.of_below (F := No) hb4).owns HR3.out (fun _ _ h => h), hb4⟩
              have HQ4 : Hid (w4.heap[wr.heap.size]? = some (.cells #[.int .i64 4, .int .i64 xi, .int .i64 xp] 28)) := (Kept.of_below (F := No) hb4).at' HQ3.out (fun h => h)
              have cW := where_any (idL S3) (.slice aa an ac) an w4 HR4.out.1 (hI)
              have cO := ordered_any (HF3.out.below hb4)
              obtain ⟨att, hatt⟩ : ∃ att, att = whereI (idL S3) (hI) := ⟨_, rfl⟩
              rw [← hatt] at cW
              have HATT : Hid (att = whereI (idL S3) (hI)) := hatt
              have HMEM : Hid (decide (att ≥ 0) = decide ((hI) ∈ idL S3)) := (show _ = _ by rw [hatt]; exact whereI_ge _ _)
              clear own4 hb4 cL han hatt HQ3 HR3
              go_upto_region 24 with (go_at_call 12; refine cW.mono ?_; rintro ex w5 ⟨rfl, hw5⟩; obtain rfl := hw5.symm)
              clear cW
              have hneg : att = -1 := by
                have h1 := HFR.out.2.1
                rw [HATT.out]
                unfold whereI
                rw [if_neg (of_decide_eq_false h1)]
              subst hneg
              clear HATT HMEM
              have o0 := cell_of_row (k := 0) (v := .int .i64 4) HQ4.out rfl
              go_upto_region 26 with (go_at_call 13; refine cO.mono ?_; rintro ex w5 ⟨rfl, hb5⟩; have o5 := (Kept.of_below (F := No) hb5).cell o0 (fun h => h))
              have HR5 : Hid (w5.ownsRow 0 3 1 (.slice aa an ac) an ((idL S3).map iv) ∧ w5.ownsRow 0 3 1 (.slice (some ⟨gb, 0, none⟩) bn bc) bn ((idL S).map iv) ∧ Below w3.heap.size w3 w5) := ⟨(Kept.of_below (F := No) hb5).owns HR4.out.1 (fun _ _ h => h), (Kept.of_below (F := No) hb5).owns HR4.out.2.1 (fun _ _ h => h), HR4.out.2.2.trans (hb5.mono HR4.out.2.2.size)⟩
              have HQ5 : Hid (w5.heap[wr.heap.size]? = some (.cells #[.int .i64 4, .int .i64 xi, .int .i64 xp] 28)) := (Kept.of_below (F := No) hb5).at' HQ4.out (fun h => h)
              clear hb5 cO HR4 HQ4 o0 o5
              have cK := kept_any (idL S) (idL S3) (.slice (some ⟨gb, 0, none⟩) bn bc) (.slice aa an ac) bn an w5 (hI) HR5.out.2.1 HR5.out.1 (by omega) (by omega) HFR.out.1
              go_wp2_with (go_at_call 15; refine cK.mono ?_; rintro ex w8 ⟨rfl, hb8⟩)
              go_roundw
              case rel => exact ⟨j + 1, nx3, S3, by omega, by go_num, hn3, (HLW.out.below HR5.out.2.2).below hb8⟩
              case measure => simp [intOf]; omega
          · go_wp2
            go_roundw
            case rel => exact ⟨j + 1, nx, S, by omega, by go_num, by omega, F, HL2.out.1, fun k hk => ⟨(HL2.out.2.1 k hk).1, by have := (HL2.out.2.1 k hk).2; have := heap_lt HQ2.out; omega⟩, HL2.out.2.2⟩
            case measure => simp [intOf]; omega
    · have cW := works_any wr
      have HB : Hid (Below W.heap.size W wr) := hL.bel
      clear hL
      go_wp2_with (go_at_call 6; refine cW.mono ?_; rintro ex w2 ⟨rfl, hb2⟩)
      go_ret
      exact ⟨rfl, HB.out.trans (hb2.mono HB.out.size)⟩
theorem fair_walk (n : Int) (p : Option Addr) (sn sc : Nat) (os : List Op3) (W : World) (hx : Os3 W (fun k => k < W.heap.size) p sn sc os) : Calls Try.prog 3 #[.int .i64 n, .slice p sn sc] W fun ex w' => ex = .returned (.bool true) ∧ Below W.heap.size W w' := by
  by_cases h : n < 0 ∨ n > 65535
  · exact fair_no n h p sn sc W
  · obtain ⟨k, rfl⟩ : ∃ k : Nat, n = k := ⟨n.toNat, by omega⟩
    exact fair_yes k (by omega) _ p sn sc os W hx (fun k hk => hk)
end Go.Proofs.Yteiakmjdjaodlaa
