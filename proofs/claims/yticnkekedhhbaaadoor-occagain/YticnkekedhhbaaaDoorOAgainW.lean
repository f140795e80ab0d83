/-
  The walk of OccAgain.
-/
import Derived.Test.YticnkekedhhbaaaDoorOWorks
namespace Go.Proofs.YticnkekedhhbaaaDoor
open Go.RowKit Go.Shelf Plain
set_option linter.unusedVariables false
set_option maxRecDepth 100000

theorem eachF_ne {r : Nat → Int} {first : Int} : ∀ {n : Nat} {p : Int × Int}, eachF r first n = some p → p.1 ≠ 0
  | 0, p, h => by cases h
  | n + 1, p, h => by
    rw [eachF] at h
    cases he : eachF r first n with
    | some q => rw [he] at h; injection h with h; subst h; exact eachF_ne he
    | none =>
      rw [he] at h
      simp only at h
      by_cases h0 : r n = 0
      · rw [if_pos h0] at h; cases h
      · rw [if_neg h0] at h; injection h with h; subst h; exact h0
theorem tim_ne {xs : List Srv} {n : Nat} {p : Int × Int} (h : timF xs n = some p) : p.1 ≠ 0 := by
  unfold timF at h
  cases hf : findF xs n with
  | some q =>
    rw [hf] at h
    injection h with h
    subst h
    unfold findF at hf
    by_cases h32 : n ≤ 32
    · rw [if_pos h32] at hf; exact eachF_ne hf
    · rw [if_neg h32] at hf; injection hf with hf; subst hf; decide
  | none =>
    rw [hf] at h
    unfold togF at h
    by_cases hb : lcmB (zP xs) n 1048576 = true
    · rw [if_pos hb] at h
      by_cases hr : relF (lcmV (zP xs) n 1048576) xs n ≤ 65536
      · rw [if_pos hr] at h; cases h
      · rw [if_neg hr] at h; injection h with h; subst h; decide
    · rw [if_neg hb] at h; injection h with h; subst h; decide

set_option maxHeartbeats 2000000 in
theorem again_law {F : Nat → Prop} {a : Option Addr} {c : Nat} {xs : List Srv} (t : Int) (w : World) (hg : Gl w) (h : Sv w F a xs.length c xs) (hF : ∀ k, F k → k < w.heap.size) (ht6 : I6 t) :
    Calls Tryd.prog 3 #[.slice a xs.length c, .int .i64 t] w fun e w' => e = .returned (.bool true) ∧ Below w.heap.size w w' := by
  have hc := hyper_any F a xs.length c xs w hg h
  have HWK : Hid (∀ W, Kept No w W → Calls Tryd.prog 5 #[] W fun e w' => e = .returned (.bool true) ∧ Kept No W w') := fun W hk => works_any W (hg.kept hk)
  unfold I6 at ht6
  cases htm : timF xs xs.length with
  | some p =>
    have hp := tim_ne htm
    rw [(tim_no htm).1, (tim_no htm).2] at hc
    generalize p.1 = pe at *
    clear htm h hF hg
    go_enter Tryd.func3, Tryd.ntmps3
    go_wp2_with (first
      | (go_at_call 4; refine hc.mono ?_; rintro e w1 ⟨rfl, hk1⟩; have HK1 : Hid (Kept No w w1) := hk1; have hwk := HWK.out w1 hk1; clear hk1 hc)
      | (go_at_call 5; refine hwk.mono ?_; rintro e w2 ⟨rfl, hk2⟩; have HK2 : Hid (Kept No w w2) := HK1.out.trans hk2 (fun _ h => h.elim); clear hk2 hwk))
    go_ret
    exact ⟨rfl, HK2.out.below0⟩
  | none =>
    have hv := vd_of htm
    have hH1 := hv.hyp1
    have hH2 := hv.hyp2
    have HAG := fun u hu => Rule.again hv.bd.ok (H := hyp xs) (fun i hi => hv.dvd i hi) u hu
    have HAT : Hid (∀ (u : Nat) W, u < 1099511627776 → Kept No w W → Calls Tryd.prog 6 #[.slice a xs.length c, .int .i64 u] W fun e w' => e = .returned (.tuple #[.int .i64 (Rule.occ (sys xs) u), .int .i64 0]) ∧ Kept No W w') := fun u W hu hk => at_yes u W (hg.kept hk) (h.keep hk) (fun k hk' => by have := hF k hk'; have := hk.size; omega) htm hu
    rw [(tim_yes htm).1, (tim_yes htm).2] at hc
    clear h hF hg htm hv
    generalize hyp xs = H at *
    by_cases hout : t < H ∨ 1099511627776 - (H : Int) ≤ t
    · by_cases hl : t < H
      · clear hout HAT HAG
        go_enter Tryd.func3, Tryd.ntmps3
        go_wp2_with (first
          | (go_at_call 4; refine hc.mono ?_; rintro e w1 ⟨rfl, hk1⟩; have HK1 : Hid (Kept No w w1) := hk1; have hwk := HWK.out w1 hk1; clear hk1 hc)
          | (go_at_call 5; refine hwk.mono ?_; rintro e w2 ⟨rfl, hk2⟩; have HK2 : Hid (Kept No w w2) := HK1.out.trans hk2 (fun _ h => h.elim); clear hk2 hwk))
        go_ret
        exact ⟨rfl, HK2.out.below0⟩
      · have hl2 : 1099511627776 - (H : Int) ≤ t := by omega
        clear hout HAT HAG
        go_enter Tryd.func3, Tryd.ntmps3
        go_wp2_with (first
          | (go_at_call 4; refine hc.mono ?_; rintro e w1 ⟨rfl, hk1⟩; have HK1 : Hid (Kept No w w1) := hk1; have hwk := HWK.out w1 hk1; clear hk1 hc)
          | (go_at_call 5; refine hwk.mono ?_; rintro e w2 ⟨rfl, hk2⟩; have HK2 : Hid (Kept No w w2) := HK1.out.trans hk2 (fun _ h => h.elim); clear hk2 hwk))
        go_ret
        exact ⟨rfl, HK2.out.below0⟩
    · have hl : ¬ t < (H : Int) := by omega
      have hl2 : ¬ 1099511627776 - (H : Int) ≤ t := by omega
      obtain ⟨u, rfl⟩ : ∃ u : Nat, t = (u : Int) := ⟨t.toNat, by omega⟩
      have e1 := HAG u (by omega)
      have C1 : Hid (∀ W, Kept No w W → Calls Tryd.prog 6 #[.slice a xs.length c, .int .i64 u] W fun e w' => e = .returned (.tuple #[.int .i64 (Rule.occ (sys xs) u), .int .i64 0]) ∧ Kept No W w') := fun W hk => HAT.out u W (by omega) hk
      have C2 : Hid (∀ W, Kept No w W → Calls Tryd.prog 6 #[.slice a xs.length c, .int .i64 ((u : Int) + H)] W fun e w' => e = .returned (.tuple #[.int .i64 (Rule.occ (sys xs) u), .int .i64 0]) ∧ Kept No W w') := fun W hk => by
        have := HAT.out (u + H) W (by omega) hk
        rw [e1] at this
        exact this
      clear HAT HAG e1 hout
      generalize Rule.occ (sys xs) u = oc at *
      go_enter Tryd.func3, Tryd.ntmps3
      go_upto_region 4 with (go_at_call 4; refine hc.mono ?_; rintro e w1 ⟨rfl, hk1⟩; have HK1 : Hid (Kept No w w1) := hk1; clear hk1 hc)
      have c1 := C1.out w1 HK1.out
      go_upto_region 5 with (go_at_call 6; refine c1.mono ?_; rintro e w2 ⟨rfl, hk2⟩; have HK2 : Hid (Kept No w w2) := HK1.out.trans hk2 (fun _ h => h.elim); clear hk2 c1)
      have c2 := C2.out w2 HK2.out
      go_upto_region 6 with (go_at_call 6; refine c2.mono ?_; rintro e w3 ⟨rfl, hk3⟩; have HK3 : Hid (Kept No w w3) := HK2.out.trans hk3 (fun _ h => h.elim); clear hk3 c2)
      have hwk := HWK.out w3 HK3.out
      go_wp2_with (go_at_call 5; refine hwk.mono ?_; rintro e w4 ⟨rfl, hk4⟩; have HK4 : Hid (Kept No w w4) := HK3.out.trans hk4 (fun _ h => h.elim); clear hk4 hwk)
      go_ret
      exact ⟨rfl, HK4.out.below0⟩
end Go.Proofs.YticnkekedhhbaaaDoor
