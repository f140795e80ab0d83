/-
  One text: QCnt.
-/
import Derived.Test.YtibmgpinfdcaoaaGreatDoorHQPlay
import Derived.BigQuiet
import Derived.Deep.QuietTactic
namespace Go.Proofs.YtibmgpinfdcaoaaGreatDoor
open Go.RowKit Plain
set_option linter.unusedVariables false
set_option maxRecDepth 100000

/-- a list of m occupants that is read -/
structure Ol (w : World) (G : Nat → Prop) (a : Option Addr) (m c : Nat) (f : Nat → Nat) : Prop where
  cap : m ≤ c
  max : c ≤ 9223372036854775807
  at' : ∀ i, i < m → ∃ b, a = some ⟨b, 0, none⟩ ∧ G b ∧ w.cell? ⟨b, i, none⟩ = some (.int .i64 (f i : Nat))
theorem Ol.kept {w w' : World} {G H : Nat → Prop} {a : Option Addr} {m c : Nat} {f : Nat → Nat} (h : Ol w G a m c f) (k : Kept H w w') (hd : ∀ b, G b → ¬ H b) : Ol w' G a m c f :=
  ⟨h.cap, h.max, fun i hi => by obtain ⟨b, e, hg, hc⟩ := h.at' i hi; exact ⟨b, e, hg, k.cell hc (hd b hg)⟩⟩
theorem Ol.of {w : World} {base : Nat} {v : Value} {f : Nat → Nat} {m : Nat} (h : Oi w base v f m) : ∃ a c, v = .slice a m c ∧ Ol w (fun k => base ≤ k ∧ k < w.heap.size) a m c f := by
  rcases owns_cells h with ⟨rfl, h2⟩ | ⟨g, cap, rfl, h2, h3, h4, h5, h6, h7⟩
  · subst h2
    exact ⟨none, 0, rfl, Nat.le_refl _, by omega, fun i hi => by omega⟩
  · refine ⟨_, cap, rfl, h4, by unfold maxLen at h5; omega, fun i hi => ⟨g, rfl, ⟨h2, h3⟩, h6 i _ (ocL_get f hi)⟩⟩

set_option maxHeartbeats 2000000 in
theorem counted_any {G : Nat → Prop} {a : Option Addr} {m c : Nat} {f : Nat → Nat} (p fr be : Nat) (w : World) (h : Ol w G a m c f) (h1 : fr ≤ be) (h2 : be ≤ m) (hm : m ≤ 2097153) :
    Calls Tryz.prog 49 #[.slice a m c, .int .i64 p, .int .i64 fr, .int .i64 be] w fun e w' => e = .returned (.int .i64 ((Rule.cnt f p be : Nat) - (Rule.cnt f p fr : Nat))) ∧ w' = w := by
  have HO : Hid (Ol w G a m c f) := h
  have hcap := h.cap
  have hmax := h.max
  clear h
  go_enter Tryz.func49, Tryz.ntmps49
  go_wp2
  go_loopw [9, 10] (fun x y wr => ∃ t : Nat, fr ≤ t ∧ t ≤ be ∧ y = .int .i64 t ∧ x = .int .i64 ((Rule.cnt f p t : Nat) - (Rule.cnt f p fr : Nat)) ∧ wr = w) (fun _ y _ => be - (intOf y).toNat)
  case atStart => exact ⟨fr, Nat.le_refl _, h1, rfl, by rw [Int.sub_self], rfl⟩
  case round =>
    obtain ⟨t, ht1, ht2, rfl, rfl, hw⟩ := hrel
    subst hw
    have hmn := Rule.cnt_mono f p ht1
    have hle := Rule.cnt_le f p t
    by_cases hlt : t < be
    · have hltz : (t : Int) < (be : Int) := by omega
      obtain ⟨b, rfl, _, hc⟩ := HO.out.at' t (by omega)
      have htm : t < m := by omega
      have HC : Hid (Rule.cnt f p (t + 1) = Rule.cnt f p t + if f t = p then 1 else 0) := rfl
      by_cases he : f t = p
      · have q : (((f t : Nat) : Int) == (p : Int)) = true := by rw [he]; simp
        have HC2 : Hid (Rule.cnt f p (t + 1) = Rule.cnt f p t + 1) := by show _ = _; rw [HC.out, if_pos he]
        clear he HC
        generalize ((f t : Nat) : Int) = ft at *
        generalize Rule.cnt f p t = A at *
        generalize Rule.cnt f p fr = B at *
        go_wp2
        go_roundw
        case rel => exact ⟨t + 1, by omega, by omega, by go_num, by rw [HC2.out]; congr 1; omega, trivial⟩
        case measure => simp [intOf]; omega
      · have q : (((f t : Nat) : Int) == (p : Int)) = false := beq_eq_false_iff_ne.2 (by omega)
        have HC2 : Hid (Rule.cnt f p (t + 1) = Rule.cnt f p t) := by show _ = _; rw [HC.out, if_neg he, Nat.add_zero]
        clear he HC
        generalize ((f t : Nat) : Int) = ft at *
        generalize Rule.cnt f p t = A at *
        generalize Rule.cnt f p fr = B at *
        go_wp2
        go_roundw
        case rel => exact ⟨t + 1, by omega, by omega, by go_num, by rw [HC2.out], trivial⟩
        case measure => simp [intOf]; omega
    · obtain rfl : t = be := by omega
      have hltz : ¬ ((t : Nat) : Int) < (t : Int) := by omega
      clear ht2
      go_wp2
      go_ret
      exact ⟨rfl, rfl⟩

theorem cnt_up {f : Nat → Nat} {H : Nat} (hH : 1 ≤ H) (hf : ∀ t, H ≤ t → f (t + H) = f t) (p t : Nat) (ht : H ≤ t) :
    ((Rule.cnt f p t : Nat) : Int) = (Rule.cnt f p H : Nat) + (((t - H) / H : Nat) : Int) * ((Rule.cnt f p (2 * H) : Nat) - (Rule.cnt f p H : Nat)) + ((Rule.cnt f p (H + (t - H) % H) : Nat) - (Rule.cnt f p H : Nat)) := by
  have h := Rule.cnt_turns hf p ((t - H) % H) ((t - H) / H)
  have e : H + (t - H) % H + (t - H) / H * H = t := by
    have := Nat.mod_add_div (t - H) H
    rw [Nat.mul_comm] at this
    omega
  rw [e, ← Nat.two_mul] at h
  have h2 : ((Rule.cnt f p t : Nat) : Int) + (((t - H) / H : Nat) : Int) * (Rule.cnt f p H : Nat) = (Rule.cnt f p (H + (t - H) % H) : Nat) + (((t - H) / H : Nat) : Int) * (Rule.cnt f p (2 * H) : Nat) := by exact_mod_cast h
  rw [Int.mul_sub]
  omega

set_option maxHeartbeats 4000000 in
theorem upTo_any {G : Nat → Prop} {a : Option Addr} {c H : Nat} {f : Nat → Nat} (p t : Nat) (w : World) (h : Ol w G a (2 * H) c f) (h1 : 1 ≤ H) (h2 : H ≤ 1048576) (hf : ∀ t, H ≤ t → f (t + H) = f t) (ht : t ≤ 1099511627776) :
    Calls Tryz.prog 35 #[.slice a (2 * H : Nat) c, .int .i64 H, .int .i64 p, .int .i64 t] w fun e w' => e = .returned (.int .i64 (Rule.cnt f p t : Nat)) ∧ ∃ n, w' = w.drewN n := by
  have HC : Hid (∀ (fr be : Nat) n, fr ≤ be → be ≤ 2 * H → Calls Tryz.prog 49 #[.slice a (2 * H : Nat) c, .int .i64 p, .int .i64 fr, .int .i64 be] (w.drewN n) fun e w' => e = .returned (.int .i64 ((Rule.cnt f p be : Nat) - (Rule.cnt f p fr : Nat))) ∧ w' = w.drewN n) := fun fr be n q1 q2 => counted_any p fr be (w.drewN n) (h.kept ((Kept.refl No w).drewN n) (fun _ _ h => h)) q1 q2 (by omega)
  by_cases hlt : t ≤ 2 * H
  · have hz : (t : Int) ≤ 2 * (H : Int) := by omega
    have cc := HC.out 0 t 0 (Nat.zero_le _) hlt
    rw [show Rule.cnt f p 0 = 0 from rfl] at cc
    have e0 : (((Rule.cnt f p t : Nat) : Int) - ((0 : Nat) : Int)) = (Rule.cnt f p t : Nat) := by omega
    rw [e0] at cc
    clear h HC e0
    generalize ((Rule.cnt f p t : Nat) : Int) = X at *
    generalize (2 * H : Nat) = M at *
    go_enter Tryz.func35, Tryz.ntmps35
    go_wp2_with (go_at_call 49; refine cc.mono ?_; rintro e w1 ⟨rfl, hw⟩; subst hw; clear cc)
    go_ret
    exact ⟨rfl, 0, rfl⟩
  · have hz : ¬ (t : Int) ≤ 2 * (H : Int) := by omega
    have hup := cnt_up h1 hf p t (by omega)
    have c0 := HC.out 0 H 0 (Nat.zero_le _) (by omega)
    rw [show Rule.cnt f p 0 = 0 from rfl] at c0
    have e0 : (((Rule.cnt f p H : Nat) : Int) - ((0 : Nat) : Int)) = (Rule.cnt f p H : Nat) := by omega
    rw [e0] at c0
    have hmod : (t - H) % H < H := Nat.mod_lt _ (by omega)
    have c1 : Hid (∀ n, Calls Tryz.prog 49 #[.slice a (2 * H : Nat) c, .int .i64 p, .int .i64 H, .int .i64 (2 * H : Nat)] (w.drewN n) fun e w' => e = .returned (.int .i64 ((Rule.cnt f p (2 * H) : Nat) - (Rule.cnt f p H : Nat))) ∧ w' = w.drewN n) := fun n => HC.out H (2 * H) n (by omega) (Nat.le_refl _)
    have c2 : Hid (∀ n, Calls Tryz.prog 49 #[.slice a (2 * H : Nat) c, .int .i64 p, .int .i64 H, .int .i64 (H + (t - H) % H : Nat)] (w.drewN n) fun e w' => e = .returned (.int .i64 ((Rule.cnt f p (H + (t - H) % H) : Nat) - (Rule.cnt f p H : Nat))) ∧ w' = w.drewN n) := fun n => HC.out H (H + (t - H) % H) n (by omega) (by omega)
    have m1 := Rule.cnt_mono f p (show H ≤ 2 * H by omega)
    have m2 := Rule.cnt_mono f p (show H ≤ H + (t - H) % H by omega)
    have d1 := Rule.cnt_diff f p (show H ≤ 2 * H by omega)
    have d2 := Rule.cnt_diff f p (show H ≤ H + (t - H) % H by omega)
    have d3 := Rule.cnt_le f p H
    have hq1 : (t - H) / H ≤ t := Nat.le_trans (Nat.div_le_self _ _) (by omega)
    have hqm : (t - H) / H * H ≤ t - H := Nat.div_mul_le_self _ _
    have ed : ((t : Int) - (H : Int)).tdiv (H : Int) = (((t - H) / H : Nat) : Int) := by
      rw [Int.tdiv_eq_ediv_of_nonneg (by omega), Int.natCast_ediv, Int.natCast_sub (by omega)]
    have ed2 : ((t : Int) - (H : Int)) / (H : Int) = (((t - H) / H : Nat) : Int) := by
      rw [Int.natCast_ediv, Int.natCast_sub (by omega)]
    have em : Int.tmod ((t : Int) - (H : Int)) (H : Int) = (((t - H) % H : Nat) : Int) := by
      rw [Int.tmod_eq_emod_of_nonneg (by omega), Int.natCast_emod, Int.natCast_sub (by omega)]
    have em2 : ((t : Int) - (H : Int)) % (H : Int) = (((t - H) % H : Nat) : Int) := by
      rw [Int.natCast_emod, Int.natCast_sub (by omega)]
    have hHz : ¬ (H : Int) = 0 := by omega
    have e2H : ((2 * H : Nat) : Int) = 2 * (H : Int) := by omega
    have ehm : ((H + (t - H) % H : Nat) : Int) = (H : Int) + (((t - H) % H : Nat) : Int) := by omega
    have hprod : (((t - H) / H : Nat) : Int) * ((Rule.cnt f p (2 * H) : Nat) - (Rule.cnt f p H : Nat)) ≤ 1099511627776 ∧ 0 ≤ (((t - H) / H : Nat) : Int) * ((Rule.cnt f p (2 * H) : Nat) - (Rule.cnt f p H : Nat)) := by
      constructor
      · have q : ((Rule.cnt f p (2 * H) : Nat) : Int) - (Rule.cnt f p H : Nat) ≤ (H : Int) := by omega
        have q2 := Int.mul_le_mul_of_nonneg_left q (Int.natCast_nonneg ((t - H) / H))
        have q3 : (((t - H) / H : Nat) : Int) * (H : Int) = (((t - H) / H * H : Nat) : Int) := by rw [Int.natCast_mul]
        omega
      · exact Int.mul_nonneg (Int.natCast_nonneg _) (by omega)
    have hr0 : (0 : Int) ≤ (((t - H) % H : Nat) : Int) := Int.natCast_nonneg _
    have hr1 : (((t - H) % H : Nat) : Int) ≤ 1048576 := by omega
    have hk0 : (0 : Int) ≤ (((t - H) / H : Nat) : Int) := Int.natCast_nonneg _
    have hk1 : (((t - H) / H : Nat) : Int) ≤ 1099511627776 := Int.le_trans (Int.ofNat_le.2 hq1) (by omega)
    have em3 : (t : Int) % (H : Int) = (((t - H) % H : Nat) : Int) := by rw [← em2, Int.sub_emod_right]
    rw [hup]
    rw [ehm] at c2
    rw [e2H] at c1
    clear h HC e0 hup hlt hq1 hqm e2H ehm
    generalize (((t - H) / H : Nat) : Int) = Kq at *
    generalize (((t - H) % H : Nat) : Int) = Rm at *
    generalize hA : ((Rule.cnt f p H : Nat) : Int) = A at *
    generalize hB : ((Rule.cnt f p (2 * H) : Nat) : Int) - A = B at *
    generalize hD : ((Rule.cnt f p (H + (t - H) % H) : Nat) : Int) - A = D at *
    generalize hE : Kq * B = E at *
    have z1 : 0 ≤ A ∧ A ≤ 1048576 := by omega
    have z2 : 0 ≤ D ∧ D ≤ 1048576 := by omega
    have z3 : 0 ≤ Rm ∧ Rm ≤ 1048576 := by omega
    have z4 : 0 ≤ B ∧ B ≤ 1048576 := by omega
    obtain ⟨z11, z12⟩ := z1
    obtain ⟨z21, z22⟩ := z2
    obtain ⟨z31, z32⟩ := z3
    obtain ⟨hp1, hp2⟩ := hprod
    have hEw : IntKind.i64.wrap (Kq * B) = E := by rw [hE, IntKind.wrap_i64]; omega
    have hwK : wrap64 Kq = Kq := by unfold wrap64; omega
    have hwE : wrap64 (Kq * B) = E := by rw [hE]; unfold wrap64; omega
    have hwA : wrap64 (A + E) = A + E := by unfold wrap64; omega
    have hwD : wrap64 (A + E + D) = A + E + D := by unfold wrap64; omega
    clear hA hB hD m1 m2 d1 d2 d3 hmod hk0 hk1
    generalize (2 * H : Nat) = M at *
    go_enter Tryz.func35, Tryz.ntmps35
    go_upto_region 4 with (go_at_call 49; refine c0.mono ?_; rintro e w1 ⟨rfl, hw⟩; subst hw; clear c0)
    go_quiet ((go_at_call 49; exact Calls.quiet_of_same (c1.out _)))
    go_wp2_with (go_at_call 49; refine (c2.out _).mono ?_; rintro e w1 ⟨rfl, hw⟩; subst hw)
    go_ret
    first | exact ⟨rfl, _, rfl⟩ | exact ⟨by show Ending.returned (.int .i64 (wrap64 (wrap64 (A + wrap64 (wrap64 Kq * B)) + D))) = _; rw [hwK, hwE, hwA, hwD], _, rfl⟩
end Go.Proofs.YtibmgpinfdcaoaaGreatDoor
