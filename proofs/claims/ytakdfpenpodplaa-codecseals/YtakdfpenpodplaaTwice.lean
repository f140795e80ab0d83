/-
  'twice': Seal and Unseal asked twice, nothing written into any answer till the end.
-/
import Derived.Test.YtakdfpenpodplaaStands
import Derived.Test.YtakdfpenpodplaaPlaced
namespace Go.Proofs.Ytakdfpenpodplaa
open Go.RowKit
set_option linter.unusedVariables false

theorem own_bs {w : World} {B : Nat} {a : Option Addr} {n c : Nat} {ys : List Nat} (h : w.ownsRow B 5 1 (.slice a n c) ys.length (ys.map bv)) (hlt : ∀ x ∈ ys, x < 256) : n = ys.length ∧ Bs w (fun j => (Value.slice a n c).ownBlock = some j) a n c ys := by
  obtain ⟨sa, sc, hv, hB⟩ := Bs.of_owns h hlt
  injection hv with e1 e2 e3
  subst e1 e3
  have hB' : Bs w (fun j => (Value.slice a n c).ownBlock = some j) a ys.length c ys := hB
  refine ⟨e2, ?_⟩
  rw [← e2] at hB'
  exact hB'

/-- the shelf at S, and beside it the slice tv -/
structure Tw (w0 : World) (S : Nat) (tv : Value) (ts : List Nat) (F : Nat → Prop) (es : List En) (w : World) : Prop where
  sh : Shf w F S es
  fit : ∀ e ∈ es, e.xs.length ≤ 1000000000
  fge : ∀ k, F k → w0.heap.size ≤ k
  bel : Below w0.heap.size w0 w
  own : w.ownsRow w0.heap.size 5 1 tv ts.length (ts.map bv)
  off : ∀ k, tv.ownBlock = some k → ¬ F k

theorem Tw.flt {w0 w : World} {S : Nat} {tv : Value} {ts : List Nat} {F : Nat → Prop} {es : List En} (h : Tw w0 S tv ts F es w) : ∀ k, F k → k < w.heap.size := by
  obtain ⟨_, _, h⟩ := h.sh; exact h.flt
theorem Tw.below {w0 w w' : World} {S : Nat} {tv : Value} {ts : List Nat} {F : Nat → Prop} {es : List En} (h : Tw w0 S tv ts F es w) (b : Below w.heap.size w w') : Tw w0 S tv ts F es w' := by
  obtain ⟨x, y, hs⟩ := h.sh
  exact ⟨⟨x, y, hs.kept (Kept.of_below (F := No) b) (fun _ _ h => h)⟩, h.fit, h.fge, h.bel.trans (b.mono h.bel.size), (Kept.of_below (F := No) b).owns h.own (fun _ _ h => h), h.off⟩

/-- keep, of two answers that came one behind the other -/
theorem Tw.keep {w0 w1 w2 w : World} {S : Nat} {tv : Value} {ts : List Nat} {F : Nat → Prop} {es : List En} (h : Tw w0 S tv ts F es w1) {la wa : Option Addr} {ln lc wn wc' : Nat} {xs : List Nat}
    (own1 : w2.ownsRow w1.heap.size 5 1 (.slice la ln lc) xs.length (xs.map bv)) (bel1 : Below w1.heap.size w1 w2) (own2 : w.ownsRow w2.heap.size 5 1 (.slice wa wn wc') xs.length (xs.map bv)) (bel2 : Below w2.heap.size w2 w)
    (hx : ∀ x ∈ xs, x < 256) (hes : es.length < 400) (hsz : xs.length ≤ 1000000000) :
    Calls Try.prog 56 #[.pointer (some ⟨S, 0, none⟩), .slice la ln lc, .slice wa wn wc'] w fun ex w' => ex = .returned (.tuple #[]) ∧ ∃ F' es', es'.length = es.length + 1 ∧ Tw w0 S tv ts F' es' w' := by
  have h2 := h.below (bel1.trans (bel2.mono bel1.size))
  obtain ⟨hn, hB⟩ := own_bs own2 hx
  have ol : w.ownsRow w1.heap.size 5 1 (.slice la ln lc) xs.length (xs.map bv) := (Kept.of_below (F := No) bel2).owns own1 (fun _ _ h => h)
  have hlF : ∀ k, (Value.slice la ln lc).ownBlock = some k → ¬ F k := fun k e hF => by have := (own1.lt k e).1; have := h.flt k hF; omega
  refine (keep_any F _ S es la wa ln lc wn wc' xs w h2.sh hes (owns_base ol (Nat.zero_le _)) hB hx hlF (by omega)).mono ?_
  rintro ex w' ⟨rfl, F', g, hsh, hk, hF'⟩
  refine ⟨rfl, F', _, by simp, hsh, ?_, ?_, h2.bel.trans (hk.below h2.fge h2.bel.size), hk.owns h2.own h2.off, ?_⟩
  · intro e he
    rcases List.mem_append.1 he with he | he
    · exact h.fit e he
    · rw [List.mem_singleton] at he; subst he; exact hsz
  · intro k hk'
    rcases hF' k hk' with h1 | h1 | h1
    · exact h.fge k h1
    · have := (own1.lt k h1).1; have := h.bel.size; omega
    · have := h2.bel.size; omega
  · intro k hk' hF
    have hlt := (h.own.lt k hk').2
    rcases hF' k hF with h1 | h1 | h1
    · exact h.off k hk' h1
    · have := (own1.lt k h1).1; omega
    · have := bel1.size; have := bel2.size; omega

theorem sealX_le (kind : Nat) (xs : List Nat) : (sealX kind xs).length ≤ 1000000000 := by
  unfold sealX; split
  · simp
  · rw [sealed_length]; omega
theorem unsX_le (kind : Nat) (xs : List Nat) : (unsX kind xs).length ≤ 1000000000 := by
  unfold unsX; split
  · rename_i h
    unfold unsOk at h
    simp only [Bool.and_eq_true, decide_eq_true_eq] at h
    unfold inner; rw [List.length_take, List.length_drop]; omega
  · simp

set_option maxHeartbeats 4000000 in
set_option maxRecDepth 100000 in
theorem twice_any (G G2 : Nat → Prop) (kind : Nat) (a a2 : Option Addr) (n c n2 k2 : Nat) (xs ss : List Nat) (w : World) (hk : kind < 256) (hb : Bs w G a n c xs) (hs : Bs w G2 a2 n2 k2 ss) (hn : n ≤ 140737488351232) (hn2 : n2 ≤ 140737488351232) :
    Calls Try.prog 21 #[.int .u8 kind, .slice a n c, .slice a2 n2 k2] w fun ex w' => ex = .returned (.bool true) ∧ Below w.heap.size w w' := by
  have HL : Hid (xs.length = n) := hb.len
  have HXL : Hid (∀ x ∈ xs, x < 256) := hb.lt
  have HSL : Hid (∀ x ∈ ss, x < 256) := hs.lt
  have HSX : Hid ((sealX kind xs).length ≤ 1000000000) := sealX_le kind xs
  have HSXT : Hid ((sealX kind (trn xs)).length ≤ 1000000000) := sealX_le kind (trn xs)
  have HUX : Hid ((unsX kind ss).length ≤ 1000000000) := unsX_le kind ss
  have HB : Hid (Bs w G a n c xs) := hb
  have HS : Hid (Bs w G2 a2 n2 k2 ss) := hs
  have c54 := turned_any _ a n c xs (w.alloc (.cells #[.slice none 0 0, .slice none 0 0, .slice none 0 0, .slice none 0 0] 78)) (hb.kept ((Kept.refl No w).alloc _) (fun _ _ h => h)) (by omega)
  clear hb hs
  go_enter Try.func21, Try.ntmps21
  go_upto_region 3 with (go_at_call 54; refine c54.mono ?_; rintro ex w1 ⟨v1, rfl, own1, bel1⟩)
  obtain ⟨ta, tc, rfl⟩ := owns_shape own1
  have HT0 : Hid (Tw w w.heap.size (.slice ta n tc) (trn xs) (fun k => k = w.heap.size) [] w1) := by
    have hsz : w.heap.size ≤ (w.alloc (.cells #[.slice none 0 0, .slice none 0 0, .slice none 0 0, .slice none 0 0] 78)).heap.size := by simp
    refine ⟨⟨_, _, (sh_new w).kept (Kept.of_below (F := No) bel1) (fun _ _ h => h)⟩, (fun e he => by cases he), (fun k hk => Nat.le_of_eq hk.symm), ((Below.refl w.heap.size w).alloc (Nat.le_refl _) _).trans (bel1.mono hsz), ?_, ?_⟩
    · rw [trn_len, HL.out]; exact owns_base own1 hsz
    · intro k e e2
      have := (own1.lt k e).1
      simp at this
      omega
  clear own1 bel1 c54
  go_wp2
  go_loopw [9] (fun i wr => ∃ j : Nat, j ≤ 2 ∧ i = .int .i64 j ∧ ∃ F es, es.length = 3 * j ∧ Tw w w.heap.size (.slice ta n tc) (trn xs) F es wr) (fun i _ => 2 - (intOf i).toNat)
  case atStart => exact ⟨0, by omega, rfl, _, [], rfl, HT0.out⟩
  case round =>
    obtain ⟨j, hj, rfl, F1, es1, hc1, ht1⟩ := hrel
    have HT : Hid (Tw w w.heap.size (.slice ta n tc) (trn xs) F1 es1 wr) := ht1
    have HC : Hid (es1.length = 3 * j) := hc1
    clear hc1 ht1 HT0
    by_cases hlt : j < 2
    · go_upto_region 6 with fail
      have c9 := seal_any _ kind a n c xs wr hk (HB.out.below HT.out.bel)
      go_upto_region 7 with (go_at_call 9; refine c9.mono ?_; rintro ex wA1 ⟨aA1, nA1, kA1, rfl, oA1, bA1⟩; clear c9)
      have OA1 : Hid (wA1.ownsRow wr.heap.size 5 1 (.slice aA1 nA1 kA1) (sealX kind xs).length ((sealX kind xs).map bv)) := oA1
      have BA1 : Hid (Below wr.heap.size wr wA1) := bA1
      have TA1 : Hid (Tw w w.heap.size (.slice ta n tc) (trn xs) F1 es1 wA1) := HT.out.below bA1
      clear oA1 bA1
      have c16 := refSeal_any _ kind a n c xs wA1 hk (HB.out.below TA1.out.bel)
      go_upto_region 8 with (go_at_call 16; refine c16.mono ?_; rintro ex wB1 ⟨aB1, nB1, kB1, rfl, oB1, bB1⟩; clear c16)
      have c56 := HT.out.keep OA1.out BA1.out oB1 bB1 (sealX_lt hk HXL.out) (by have := HC.out; omega) (HSX.out)
      clear oB1 bB1
      go_upto_region 9 with (go_at_call 56; refine c56.mono ?_; rintro ex w3 ⟨rfl, F3, es3, hl3, ht3⟩; clear c56)
      have HT3 : Hid (Tw w w.heap.size (.slice ta n tc) (trn xs) F3 es3 w3) := ht3
      have HC3 : Hid (es3.length = 3 * j + 1) := by rw [hl3, HC.out]; rfl
      clear hl3 ht3
      have c9 := seal_any _ kind ta n tc (trn xs) w3 hk ((own_bs HT3.out.own (trn_lt xs)).2)
      go_upto_region 10 with (go_at_call 9; refine c9.mono ?_; rintro ex wA2 ⟨aA2, nA2, kA2, rfl, oA2, bA2⟩; clear c9)
      have OA2 : Hid (wA2.ownsRow w3.heap.size 5 1 (.slice aA2 nA2 kA2) (sealX kind (trn xs)).length ((sealX kind (trn xs)).map bv)) := oA2
      have BA2 : Hid (Below w3.heap.size w3 wA2) := bA2
      have TA2 : Hid (Tw w w.heap.size (.slice ta n tc) (trn xs) F3 es3 wA2) := HT3.out.below bA2
      clear oA2 bA2
      have c16 := refSeal_any _ kind ta n tc (trn xs) wA2 hk ((own_bs TA2.out.own (trn_lt xs)).2)
      go_upto_region 11 with (go_at_call 16; refine c16.mono ?_; rintro ex wB2 ⟨aB2, nB2, kB2, rfl, oB2, bB2⟩; clear c16)
      have c56 := HT3.out.keep OA2.out BA2.out oB2 bB2 (sealX_lt hk (trn_lt xs)) (by have := HC3.out; omega) (HSXT.out)
      clear oB2 bB2
      go_upto_region 12 with (go_at_call 56; refine c56.mono ?_; rintro ex w6 ⟨rfl, F6, es6, hl6, ht6⟩; clear c56)
      have HT6 : Hid (Tw w w.heap.size (.slice ta n tc) (trn xs) F6 es6 w6) := ht6
      have HC6 : Hid (es6.length = 3 * j + 2) := by rw [hl6, HC3.out]; rfl
      clear hl6 ht6
      have c11 := unseal_any _ kind a2 n2 k2 ss w6 hk (HS.out.below HT6.out.bel)
      go_upto_region 13 with (go_at_call 11; refine c11.mono ?_; rintro ex wA3 ⟨aA3, nA3, kA3, rfl, oA3, bA3⟩; clear c11)
      have OA3 : Hid (wA3.ownsRow w6.heap.size 5 1 (.slice aA3 nA3 kA3) (unsX kind ss).length ((unsX kind ss).map bv)) := oA3
      have BA3 : Hid (Below w6.heap.size w6 wA3) := bA3
      have TA3 : Hid (Tw w w.heap.size (.slice ta n tc) (trn xs) F6 es6 wA3) := HT6.out.below bA3
      clear oA3 bA3
      have c19 := refUnseal_any _ kind a2 n2 k2 ss wA3 hk (HS.out.below TA3.out.bel)
      go_upto_region 14 with (go_at_call 19; refine c19.mono ?_; rintro ex wB3 ⟨aB3, nB3, kB3, rfl, oB3, bB3⟩; clear c19)
      have c56 := HT6.out.keep OA3.out BA3.out oB3 bB3 (unsX_lt HSL.out) (by have := HC6.out; omega) (HUX.out)
      clear oB3 bB3
      go_wp2_with (go_at_call 56; refine c56.mono ?_; rintro ex w9 ⟨rfl, F9, es9, hl9, ht9⟩; clear c56)
      have HT9 : Hid (Tw w w.heap.size (.slice ta n tc) (trn xs) F9 es9 w9) := ht9
      have HC9 : Hid (es9.length = 3 * (j + 1)) := (show es9.length = 3 * (j + 1) by have := HC6.out; omega)
      clear hl9 ht9
      go_roundw
      case rel => exact ⟨j + 1, by omega, by go_num, F9, es9, HC9.out, HT9.out⟩
      case measure => simp [intOf]; omega
    · have c57 := stands_any F1 w.heap.size es1 wr HT.out.sh (by have := HC.out; omega) HT.out.fit
      go_wp2_with (go_at_call 57; refine c57.mono ?_; rintro ex w9 ⟨rfl, kp9⟩; clear c57)
      go_ret
      exact ⟨rfl, HT.out.bel.trans (kp9.below HT.out.fge HT.out.bel.size)⟩

end Go.Proofs.Ytakdfpenpodplaa
