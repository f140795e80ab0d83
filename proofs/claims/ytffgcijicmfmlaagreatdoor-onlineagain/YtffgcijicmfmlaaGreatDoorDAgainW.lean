/-
  The walk of OnlineAgain.
-/
import Derived.Test.YtffgcijicmfmlaaGreatDoorDLaws
namespace Go.Proofs.YtffgcijicmfmlaaGreatDoor
open Go.RowKit Plain
set_option linter.unusedVariables false
set_option maxRecDepth 100000

set_option maxHeartbeats 4000000 in
theorem oagain_no {F : Nat → Prop} {a : Option Addr} {c : Nat} {xs : List Srv} {p : Int × Int} (t : Int) (w : World) (hg : Gl w) (h : Sv w F a xs.length c xs) (ht : timF xs xs.length = some p) :
    Calls Tryz.prog 4 #[.slice a xs.length c, .int .i64 t] w fun e w' => e = .returned (.bool true) ∧ Below w.heap.size w w' := by
  have HA : Hid (∀ W, Kept No w W → Calls Tryz.prog 9 #[.slice a xs.length c] W fun e w' => e = .returned (.tuple #[.pointer none, .int .i64 0, .bool true]) ∧ Kept No W w') := fun W hk => able_no W (hg.kept hk) (h.keep hk) ht
  have HKN : Hid (∀ W, Kept No w W → Calls Tryz.prog 10 #[] W fun e w' => e = .returned (.bool true) ∧ Kept No W w') := fun W hk => known_any W (hg.kept hk)
  have q2 : ∀ (w : World), (binOp .eql 24 (.pointer none) (.pointer none)).run Tryz.prog w = .ok (.bool true) w := fun w => by rfl
  clear h hg ht
  have a1 := HA.out w (Kept.refl No w)
  go_enter Tryz.func4, Tryz.ntmps4
  go_upto_region 2 with (go_at_call 9; refine a1.mono ?_; rintro e w1 ⟨rfl, hk1⟩; have HK1 : Hid (Kept No w w1) := hk1; clear hk1 a1)
  have a2 := HA.out w1 HK1.out
  go_wp2_with (first
    | (go_at_call 9; refine a2.mono ?_; rintro e w2 ⟨rfl, hk2⟩; have HK2 : Hid (Kept No w w2) := HK1.out.trans hk2 (fun _ h => h.elim); have kn := HKN.out w2 HK2.out; clear hk2 a2)
    | (go_at_call 10; refine kn.mono ?_; rintro e w3 ⟨rfl, hk3⟩; have HK3 : Hid (Kept No w w3) := HK2.out.trans hk3 (fun _ h => h.elim); clear hk3 kn))
  go_ret
  exact ⟨rfl, HK3.out.below0⟩

set_option maxHeartbeats 8000000 in
theorem oagain_yes {F : Nat → Prop} {a : Option Addr} {c : Nat} {xs : List Srv} (t : Int) (w : World) (hg : Gl w) (h : Sv w F a xs.length c xs) (ht : timF xs xs.length = none) (ht6 : I6 t) :
    Calls Tryz.prog 4 #[.slice a xs.length c, .int .i64 t] w fun e w' => e = .returned (.bool true) ∧ Below w.heap.size w w' := by
  have HV : Hid (Vd xs) := vd_of ht
  have hH1 := HV.out.hyp1
  have hH2 := HV.out.hyp2
  have hn := HV.out.num
  unfold I6 at ht6
  have HA : Hid (∀ W, Kept No w W → Calls Tryz.prog 9 #[.slice a xs.length c] W fun e w' => ∃ d, e = .returned (.tuple #[.pointer (some ⟨d, 0, none⟩), .int .i64 (hyp xs), .bool true]) ∧ Dn w' d (fun k => W.heap.size ≤ k ∧ k < w'.heap.size) xs 0 ∧ Kept No W w') := fun W hk => (able_yes W (hg.kept hk) (h.keep hk) ht).mono (by
    rintro e w' ⟨d, rfl, h1, h2⟩
    exact ⟨d, rfl, h1.dn, h2⟩)
  have HKN : Hid (∀ W, Kept No w W → Calls Tryz.prog 10 #[] W fun e w' => e = .returned (.bool true) ∧ Kept No W w') := fun W hk => known_any W (hg.kept hk)
  have q2 : ∀ (w : World) (d : Nat), (binOp .eql 24 (.pointer (some ⟨d, 0, none⟩)) (.pointer none)).run Tryz.prog w = .ok (.bool false) w := fun w d => by rfl
  obtain ⟨H, hH⟩ : ∃ H, hyp xs = H := ⟨_, rfl⟩
  have HH : Hid (hyp xs = H) := hH
  rw [hH] at HA hH1 hH2
  clear h hg ht hH
  have a1 := HA.out w (Kept.refl No w)
  go_enter Tryz.func4, Tryz.ntmps4
  go_upto_region 2 with (go_at_call 9; refine a1.mono ?_; rintro e w1 ⟨d1, rfl, hd1, hk1⟩; have H1 : Hid (Dn w1 d1 (fun k => w.heap.size ≤ k ∧ k < w1.heap.size) xs 0 ∧ Kept No w w1) := ⟨hd1, hk1⟩; clear hd1 hk1 a1)
  have a2 := HA.out w1 H1.out.2
  go_upto_region 5 with (first
    | (go_at_call 9; refine a2.mono ?_; rintro e w2 ⟨d2, rfl, hd2, hk2⟩; have H2 : Hid (Dn w2 d1 (fun k => w.heap.size ≤ k ∧ k < w1.heap.size) xs 0 ∧ Dn w2 d2 (fun k => w1.heap.size ≤ k ∧ k < w2.heap.size) xs 0 ∧ Kept No w w2) := ⟨H1.out.1.keep hk2, hd2, H1.out.2.trans hk2 (fun _ h => h.elim)⟩; have kn := HKN.out w2 H2.out.2.2; clear hd2 hk2 a2)
    | (go_at_call 10; refine kn.mono ?_; rintro e w3 ⟨rfl, hk3⟩; have H3 : Hid (Dn w3 d1 (fun k => w.heap.size ≤ k ∧ k < w1.heap.size) xs 0 ∧ Dn w3 d2 (fun k => w1.heap.size ≤ k ∧ k < w2.heap.size) xs 0 ∧ Kept No w w3 ∧ w.heap.size ≤ w1.heap.size ∧ w2.heap.size ≤ w3.heap.size) := ⟨H2.out.1.keep hk3, H2.out.2.1.keep hk3, H2.out.2.2.trans hk3 (fun _ h => h.elim), H1.out.2.size, hk3.size⟩; clear hk3 kn))
  by_cases hl : t < H
  · have e44 : wrap64 (1099511627776 - (H : Int)) = 1099511627776 - (H : Int) := by unfold wrap64; omega
    go_wp2
    go_ret
    exact ⟨rfl, H3.out.2.2.1.below0⟩
  · by_cases hr : 1099511627776 - (H : Int) ≤ t
    · go_wp2
      go_ret
      exact ⟨rfl, H3.out.2.2.1.below0⟩
    · obtain ⟨u, rfl⟩ : ∃ u : Nat, t = (u : Int) := ⟨t.toNat, by omega⟩
      have g1 := good_dn HV.out H3.out.1 u (by omega) (by omega)
      have HAG : Hid (Rule.occ (sys xs) (u + H) = Rule.occ (sys xs) u) := by
        have := Rule.again HV.out.bd.ok (H := hyp xs) (fun i hi => HV.out.dvd i hi) u (by rw [HH.out]; omega)
        rw [HH.out] at this
        exact this
      have HRA : Hid (2 * H ≤ u → ∀ i, i < xs.length → (Rule.rest (sys xs) (u + H) i : Int) = (Rule.rest (sys xs) u i : Int)) := fun h2 i hi => by
        have := Rule.rest_again HV.out.bd.ok (H := hyp xs) HV.out.hyp1 (fun i hi => HV.out.dvd i hi) u (by rw [HH.out]; exact h2) hi
        rw [HH.out] at this
        rw [this]
      have hol : Rule.occ (sys xs) u ≤ xs.length := Rule.occ_le (sys xs) u
      have HOL : Hid (Rule.occ (sys xs) u ≤ xs.length) := hol
      go_upto_region 9 with (first
        | (go_at_call 11; refine g1.mono ?_; rintro e w4 ⟨rfl, hd4, hk4⟩; have H4 : Hid (Dn w4 d1 (fun k => (w.heap.size ≤ k ∧ k < w1.heap.size) ∨ w3.heap.size ≤ k) xs u ∧ Dn w4 d2 (fun k => w1.heap.size ≤ k ∧ k < w2.heap.size) xs 0 ∧ Kept No w w4) := ⟨hd4, H3.out.2.1.kept hk4 (fun k h1 h2 => by omega), H3.out.2.2.1.trans hk4 (fun k hk => .inr hk.1)⟩; have g2 := good_dn HV.out H4.out.2.1 (u + H) (by omega) (by omega); rw [show ((u + H : Nat) : Int) = (u : Int) + H by omega] at g2; clear hd4 hk4 g1)
        | (go_at_call 11; refine g2.mono ?_; rintro e w5 ⟨rfl, hd5, hk5⟩; have H5 : Hid (Dn w5 d1 (fun k => (w.heap.size ≤ k ∧ k < w1.heap.size) ∨ w3.heap.size ≤ k) xs u ∧ Dn w5 d2 (fun k => (w1.heap.size ≤ k ∧ k < w2.heap.size) ∨ w4.heap.size ≤ k) xs (u + H) ∧ Kept No w w5) := ⟨H4.out.1.kept hk5 (fun k h1 h2 => by have := H3.out.2.2.2.2; omega), hd5, H4.out.2.2.trans hk5 (fun k hk => .inr (by have := H3.out.2.2.2.1; omega))⟩; have o1 := occ_dn HV.out H5.out.1; clear hd5 hk5 g2)
        | (go_at_call 15; refine o1.mono ?_; rintro e w6 ⟨rfl, hk6⟩; have H6 : Hid (Dn w6 d1 (fun k => (w.heap.size ≤ k ∧ k < w1.heap.size) ∨ w3.heap.size ≤ k) xs u ∧ Dn w6 d2 (fun k => (w1.heap.size ≤ k ∧ k < w2.heap.size) ∨ w4.heap.size ≤ k) xs (u + H) ∧ Kept No w w6) := ⟨H5.out.1.keep hk6, H5.out.2.1.keep hk6, H5.out.2.2.trans hk6 (fun _ h => h.elim)⟩; have o2 := occ_dn HV.out H6.out.2.1; rw [HAG.out] at o2; clear hk6 o1)
        | (go_at_call 15; refine o2.mono ?_; rintro e w7 ⟨rfl, hk7⟩; have H7 : Hid (Dn w7 d1 (fun k => (w.heap.size ≤ k ∧ k < w1.heap.size) ∨ w3.heap.size ≤ k) xs u ∧ Dn w7 d2 (fun k => (w1.heap.size ≤ k ∧ k < w2.heap.size) ∨ w4.heap.size ≤ k) xs (u + H) ∧ Kept No w w7) := ⟨H6.out.1.keep hk7, H6.out.2.1.keep hk7, H6.out.2.2.trans hk7 (fun _ h => h.elim)⟩; clear hk7 o2))
      by_cases h2 : u < 2 * H
      · have h2' : (u : Int) < 2 * (H : Int) := by omega
        go_wp2
        go_ret
        exact ⟨rfl, H7.out.2.2.below0⟩
      · have h2' : ¬ (u : Int) < 2 * (H : Int) := by omega
        have h2d : decide ((u : Int) < 2 * (H : Int)) = false := decide_eq_false h2'
        have r1 := rests_dn HV.out H7.out.1
        have HRB : Hid (∀ i, i < xs.length → (Rule.rest (sys xs) (u + H) i : Int) = (Rule.rest (sys xs) u i : Int)) := HRA.out (by omega)
        go_wp2_with (first
          | (go_at_call 14; refine r1.mono ?_; rintro e w8 ⟨g, cg, rfl, _, _, _, ct1, hk8⟩; have H8 : Hid (Ct w8 g xs.length (fun i => (Rule.rest (sys xs) u i : Int)) ∧ Dn w8 d2 (fun k => (w1.heap.size ≤ k ∧ k < w2.heap.size) ∨ w4.heap.size ≤ k) xs (u + H) ∧ Kept No w w8) := ⟨ct1, H7.out.2.1.keep hk8, H7.out.2.2.trans hk8 (fun _ h => h.elim)⟩; have r2 := rests_dn HV.out H8.out.2.1; clear ct1 hk8 r1)
          | (go_at_call 14; refine r2.mono ?_; rintro e w9 ⟨g', cg', rfl, _, _, _, ct2, hk9⟩; have H9 : Hid (Kept No w w9) := H8.out.2.2.trans hk9 (fun _ h => h.elim); have sm := sameInts_yes (c := cg) (c' := cg') w9 (H8.out.1.keep hk9) (ct2.like HRB.out) hn; clear ct2 hk9 r2)
          | (go_at_call 13; refine sm.mono ?_; rintro e w10 ⟨rfl, hk10⟩; have H10 : Hid (Kept No w w10) := H9.out.trans hk10 (fun _ h => h.elim); clear hk10 sm))
        go_ret
        exact ⟨rfl, H10.out.below0⟩
theorem oagain_law {F : Nat → Prop} {a : Option Addr} {c : Nat} {xs : List Srv} (t : Int) (w : World) (hg : Gl w) (h : Sv w F a xs.length c xs) (ht6 : I6 t) :
    Calls Tryz.prog 4 #[.slice a xs.length c, .int .i64 t] w fun e w' => e = .returned (.bool true) ∧ Below w.heap.size w w' := by
  cases htm : timF xs xs.length with
  | some p => exact oagain_no t w hg h htm
  | none => exact oagain_yes t w hg h htm ht6
end Go.Proofs.YtffgcijicmfmlaaGreatDoor
