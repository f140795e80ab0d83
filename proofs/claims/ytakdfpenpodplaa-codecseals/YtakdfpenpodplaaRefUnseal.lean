/-
  The document's Unseal.
-/
import Derived.Test.YtakdfpenpodplaaRefSeal
namespace Go.Proofs.Ytakdfpenpodplaa
open Go.RowKit
set_option linter.unusedVariables false

set_option maxHeartbeats 4000000 in
theorem refUnseal_any (G : Nat → Prop) (kind : Nat) (a : Option Addr) (n c : Nat) (xs : List Nat) (w : World) (hk : kind < 256) (h : Bs w G a n c xs) :
    Calls Try.prog 19 #[.int .u8 kind, .slice a n c] w fun ex w' => ∃ a' n' c', ex = .returned (.tuple #[.slice a' n' c', .int .i64 (unsE kind xs)]) ∧ w'.ownsRow w.heap.size 5 1 (.slice a' n' c') (unsX kind xs).length ((unsX kind xs).map bv) ∧ Below w.heap.size w w' := by
  obtain ⟨i0, hi, hz0, hz1, hz2⟩ := info_parts Try.info5
  have hl := h.len
  have hcap := h.cap
  have hmx := h.max
  have HB : Hid (Bs w G a n c xs) := h
  have HL : Hid (xs.length = n) := hl
  clear h
  by_cases hn : 4194316 < n
  · have k1 : unsOk kind xs = false := by unfold unsOk; rw [decide_eq_false (show ¬ xs.length ≤ 4194316 by omega)]; simp
    rw [show unsX kind xs = [] from by simp [unsX, k1], show unsE kind xs = 1 from if_pos (by omega)]
    clear k1
    go_enter Try.func19, Try.ntmps19
    go_wp2
    go_ret2
    exact ⟨none, 0, 0, rfl, World.ownsRow_nil _ _ _ _, Below.refl _ _⟩
  · by_cases hn2 : n < 12
    · have k1 : unsOk kind xs = false := by unfold unsOk; rw [decide_eq_false (show ¬ 12 ≤ xs.length by omega)]; simp
      rw [show unsX kind xs = [] from by simp [unsX, k1], show unsE kind xs = 20 from by unfold unsE; rw [if_neg (by omega), k1]; rfl]
      clear k1
      go_enter Try.func19, Try.ntmps19
      go_wp2
      go_ret2
      exact ⟨none, 0, 0, rfl, World.ownsRow_nil _ _ _ _, Below.refl _ _⟩
    · obtain ⟨bk, o, rfl, hGb, _⟩ := HB.out.at' 0 (by omega)
      have hBi : Bs w G (some ⟨bk, o + 8, none⟩) (n - 4 - 8) (c - 8) (inner xs) := by
        have h1 := (HB.out.drop 8 (by omega) ⟨bk, o + 8, none⟩ (fun _ => by rw [add_none])).take (n - 4 - 8) (by omega)
        unfold inner; rw [hl, show n - 12 = n - 4 - 8 from by omega]; exact h1
      have hil : (inner xs).length = n - 4 - 8 := hBi.len
      have hxlt : ∀ x ∈ inner xs, x < 256 := hBi.lt
      have HBI : Hid (Bs w G (some ⟨bk, o + 8, none⟩) (n - 4 - 8) (c - 8) (inner xs)) := hBi
      have HIL : Hid ((inner xs).length = n - 4 - 8) := hil
      have HSL : Hid ((sealed kind (inner xs)).length = n) := by
        have h0 : (sealed kind (inner xs)).length = n := by rw [sealed_length, hil]; omega
        exact h0
      have HXE : Hid (unsE kind xs = (if sealed kind (inner xs) = xs then 0 else 20) ∧ unsX kind xs = (if sealed kind (inner xs) = xs then inner xs else [])) := by
        constructor
        · unfold unsE unsOk; rw [if_neg (by omega), decide_eq_true (show 12 ≤ xs.length by omega), decide_eq_true (show xs.length ≤ 4194316 by omega)]; simp
        · unfold unsX unsOk; rw [decide_eq_true (show 12 ≤ xs.length by omega), decide_eq_true (show xs.length ≤ 4194316 by omega)]; simp
      obtain ⟨uX, huX⟩ : ∃ uX, uX = unsX kind xs := ⟨_, rfl⟩
      obtain ⟨uE, huE⟩ : ∃ uE, uE = unsE kind xs := ⟨_, rfl⟩
      rw [← huX, ← huE] at HXE ⊢
      have hne : ¬ (c = 8) := by omega
      clear hBi hil hxlt huX huE hl
      go_enter Try.func19, Try.ntmps19
      go_upto_region 7 with (at_builtin; refine wpList_append_own _ rfl _ _ 22 rfl w.heap.size 5 i0 (.int .u8 0) 1 1 Try.underlying22 hi hz0 hz1 hz2 rfl (by decide) _ 0 [] rfl (World.ownsRow_nil _ _ _ _) ⟨bk, o + 8, none⟩ (n - 4 - 8) (c - 8) ((inner xs).map bv) rfl (by rw [List.length_map, HIL.out]; omega) HBI.out.news (bv_one _) (by unfold maxLen; omega) (by omega) (Nat.le_refl _) ?_; intro v1 w1 own1 grow1 _)
      have bel1 : Below w.heap.size w w1 := (Below.refl _ _).grown grow1 (Nat.le_refl _) (fun k hk => by cases hk)
      rw [Nat.zero_add, List.nil_append, ← HIL.out] at own1
      obtain ⟨ga, gc, rfl, hB1⟩ := Bs.of_owns own1 HBI.out.lt
      rw [HIL.out] at hB1 own1 ⊢
      have c16 := refSeal_any _ kind ga (n - 4 - 8) gc (inner xs) w1 hk hB1
      rw [show sealX kind (inner xs) = sealed kind (inner xs) from if_neg (by rw [HIL.out]; omega), show sealE (inner xs) = 0 from if_neg (by rw [HIL.out]; omega)] at c16
      have OWN1 : Hid (w1.ownsRow w.heap.size 5 1 (.slice ga (n - 4 - 8) gc) (n - 4 - 8) ((inner xs).map bv)) := own1
      have BEL1 : Hid (Below w.heap.size w w1) := bel1
      clear grow1 own1 hB1 bel1
      go_upto_region 8 with (go_at_call 16; refine c16.mono ?_; rintro ex w2 ⟨a2, n2, k2, rfl, own2, bel2⟩)
      have hslt : ∀ x ∈ sealed kind (inner xs), x < 256 := sealed_lt hk HBI.out.lt
      obtain ⟨g2, c2, hv2, hB2⟩ := Bs.of_owns own2 hslt
      obtain ⟨rfl, rfl, rfl⟩ : a2 = g2 ∧ n2 = (sealed kind (inner xs)).length ∧ k2 = c2 := by injection hv2 with h1 h2 h3; exact ⟨h1, h2, h3⟩
      rw [HSL.out] at hB2 ⊢
      have HB2 : Hid (Bs w2 (fun g => (Value.slice a2 n k2).ownBlock = some g) a2 n k2 (sealed kind (inner xs))) := hB2
      have bel3 : Below w.heap.size w w2 := BEL1.out.trans (bel2.mono BEL1.out.size)
      have HBx : Hid (Bs w2 G (some ⟨bk, o, none⟩) n c xs) := HB.out.below bel3
      have BEL2 : Hid (Below w.heap.size w w2) := bel3
      have OWN2 : Hid (w2.ownsRow w.heap.size 5 1 (.slice ga (n - 4 - 8) gc) (n - 4 - 8) ((inner xs).map bv)) := (Kept.of_below (F := No) bel2).owns OWN1.out (fun _ _ h => h)
      have hc2 := hB2.cap
      have hm2 := hB2.max
      clear own2 hv2 hB2 bel2 bel3 hslt c16
      go_wp2
      go_loopw [9] (fun i wr => ∃ k : Nat, k ≤ n ∧ i = .int .i64 k ∧ (∀ j, j < k → (sealed kind (inner xs)).getD j 0 = xs.getD j 0) ∧ ∃ q, wr = w2.drewN q) (fun i _ => n - (intOf i).toNat)
      case atStart => exact ⟨0, by omega, rfl, fun j hj => by omega, 0, rfl⟩
      case round =>
        obtain ⟨k, hk, rfl, heq, q, rfl⟩ := hrel
        by_cases hlt : k < n
        · obtain ⟨b', o', rfl, _, hc1⟩ := HB2.out.at' k hlt
          obtain ⟨b3, o3, hb3, _, hc3⟩ := HBx.out.at' k hlt
          simp only [Option.some.injEq, Addr.mk.injEq] at hb3
          obtain ⟨rfl, rfl, _⟩ := hb3
          obtain ⟨x, hxx⟩ : ∃ x, x = (sealed kind (inner xs)).getD k 0 := ⟨_, rfl⟩
          obtain ⟨y, hyy⟩ : ∃ y, y = xs.getD k 0 := ⟨_, rfl⟩
          have d1 : w2.cell? ⟨b', o' + k, none⟩ = some (.int .u8 (x : Nat)) := by rw [hxx]; exact hc1
          have d2 : w2.cell? ⟨bk, o + k, none⟩ = some (.int .u8 (y : Nat)) := by rw [hyy]; exact hc3
          have HE : Hid (∀ j, j < k → (sealed kind (inner xs)).getD j 0 = xs.getD j 0) := heq
          have HXY : Hid (x = (sealed kind (inner xs)).getD k 0 ∧ y = xs.getD k 0) := ⟨hxx, hyy⟩
          clear hc1 hc3 heq hxx hyy
          by_cases hxy : x = y
          · subst hxy
            go_wp2
            go_quiet (fail)
            go_wp2
            go_roundw
            case rel =>
              refine ⟨k + 1, by omega, by go_num, ?_, _, rfl⟩
              intro j hj
              by_cases hjk : j = k
              · subst hjk; rw [← HXY.out.1, ← HXY.out.2]
              · exact HE.out j (by omega)
            case measure => simp [intOf]; omega
          · have hne2 : ((x : Int) == (y : Int)) = false := by simp; omega
            have hnq : ¬ sealed kind (inner xs) = xs := by
              intro h0
              apply hxy
              rw [HXY.out.1, HXY.out.2, h0]
            have X : Hid (uE = 20 ∧ uX = []) := ⟨HXE.out.1.trans (if_neg hnq), HXE.out.2.trans (if_neg hnq)⟩
            clear hnq
            go_wp2
            go_quiet (fail)
            go_wp2
            go_ret2
            obtain ⟨x1, x2⟩ := X.out
            rw [x1, x2]
            exact ⟨none, 0, 0, rfl, World.ownsRow_nil _ _ _ _, below_drewN (below_drewN BEL2.out _) _⟩
        · have hkn : k = n := by omega
          subst hkn
          have hyes : sealed kind (inner xs) = xs := by
            have hsl := HSL.out
            have hxl := HL.out
            apply List.ext_getElem (by omega)
            intro i h1 h2
            have := heq i (by omega)
            simpa [List.getD, h1, h2] using this
          have X : Hid (uE = 0 ∧ uX = inner xs) := ⟨HXE.out.1.trans (if_pos hyes), HXE.out.2.trans (if_pos hyes)⟩
          clear hyes heq
          go_wp2
          go_ret2
          obtain ⟨x1, x2⟩ := X.out
          rw [x1, x2]
          exact ⟨ga, _, gc, rfl, by rw [HIL.out]; exact OWN2.out, below_drewN BEL2.out _⟩

end Go.Proofs.Ytakdfpenpodplaa
