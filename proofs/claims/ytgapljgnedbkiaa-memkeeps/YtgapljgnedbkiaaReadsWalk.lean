/-
  'MemReads'.
-/
import Derived.Test.YtgapljgnedbkiaaWorks
namespace Go.Proofs.Ytgapljgnedbkiaa
open Go.RowKit
set_option linter.unusedVariables false

theorem Zs.of_row {w : World} {B : Nat} {v : Value} {xs : List Int} (h : w.ownsRow B 2 1 v xs.length (xs.map iv)) : ∃ a c, v = .slice a xs.length c ∧ Zs w (fun g => v.ownBlock = some g) a xs.length c xs := Zs.of_owns h
theorem rdX_get {xs : List Int} {d M j : Nat} (h : j < M) : (rdX xs d M).getD j 0 = xs.getD (d + j) 0 := by
  simp [rdX, List.getD, h, List.getElem?_drop]
theorem rdX_length {xs : List Int} {d M : Nat} (h : d + M ≤ xs.length) : (rdX xs d M).length = M := by
  simp [rdX]; omega
theorem wb0 (N A n : Int) : wb N 0 A n = wi N A n := by
  unfold wb
  by_cases h : wi N A n = true
  · rw [h, Bool.true_and]; have := wi_iff.1 h; simp; omega
  · rw [Bool.not_eq_true] at h; rw [h, Bool.false_and]

set_option maxHeartbeats 2000000 in
theorem memReads_walk (F : Nat → Prop) (N A M : Int) (a : Option Addr) (n c : Nat) (xs : List Int) (w : World) (hz : Zs w F a n c xs) :
    Calls Try.prog 3 #[.int .i64 N, .slice a n c, .int .i64 A, .int .i64 M] w fun ex w' => ex = .returned (.bool true) ∧ Below w.heap.size w w' := by
  cases hok : nwOk N xs.length with
  | false =>
    have hl := hz.len
    rw [hl] at hok
    have c6 := new_no N a n c w hok
    have c7 := works_any w
    clear hz hl hok
    go_enter Try.func3, Try.ntmps3
    go_wp2_with (first
      | (go_at_call 6; refine c6.mono ?_; rintro ex w1 ⟨rfl, hw⟩; obtain rfl := hw.symm)
      | (go_at_call 7; refine c7.mono ?_; rintro ex w1 ⟨rfl, kp⟩))
    go_ret
    exact ⟨rfl, kp.below0⟩
  | true =>
    have c6 := new_yes F N a n c xs w hz hok
    obtain ⟨hX, hX2⟩ := nwX_length hok
    obtain ⟨X, hXX⟩ : ∃ X, X = nwX N xs := ⟨_, rfl⟩
    rw [← hXX] at c6 hX hX2
    clear hok hXX hz
    obtain ⟨N, rfl⟩ : ∃ K : Nat, N = K := ⟨N.toNat, by omega⟩
    have hXn : X.length = N := by omega
    have HX : Hid (X.length = N) := hXn
    have hN : N ≤ 4096 := by omega
    clear hX hX2 hXn
    cases hk : wi N A M with
    | false =>
      have HK : Hid (wb N 0 A M = false) := by show _ = _; rw [wb0]; exact hk
      have c8 := fun a1 c1 (w1 : World) => read_no A M a1 N c1 w1 (by omega) hk
      clear hk
      go_enter Try.func3, Try.ntmps3
      go_wp2_with (first
        | (go_at_call 6; refine c6.mono ?_; rintro ex w1 ⟨v, rfl, own, kp⟩; obtain ⟨a1, c1, hv, hz1⟩ := Zs.of_row own; rw [HX.out] at hv; obtain rfl := hv; have KP : Hid (Kept No w w1) := kp; have c7 := works_any w1; have c9 := writable_any N 0 A M w1 (by omega); rw [HK.out] at c9; have c88 := c8 a1 c1 w1; clear own hz1 kp c8)
        | (go_at_call 8; refine c88.mono ?_; rintro ex w2 ⟨rfl, hw⟩; obtain rfl := hw.symm)
        | (go_at_call 9; refine c9.mono ?_; rintro ex w2 ⟨rfl, hw⟩; obtain rfl := hw.symm)
        | (go_at_call 7; refine c7.mono ?_; rintro ex w2 ⟨rfl, kp2⟩))
      go_loop [13] (fun i => i = .int .i64 0) (fun _ => 0)
      case atStart => rfl
      case round =>
        obtain rfl := hrel
        go_wp2_with (go_at_call 7; refine c7.mono ?_; rintro ex w2 ⟨rfl, kp2⟩)
        go_ret
        exact ⟨rfl, (KP.out.trans kp2 (fun k h => h.elim)).below0⟩
    | true =>
      have hk2 := wi_iff.1 hk
      obtain ⟨d, rfl⟩ : ∃ d : Nat, A = d := ⟨A.toNat, by omega⟩
      obtain ⟨M, rfl⟩ : ∃ K : Nat, M = K := ⟨M.toNat, by omega⟩
      have hdM : d + M ≤ N := by omega
      have HK : Hid (wb N 0 d M = true) := by show _ = _; rw [wb0]; exact hk
      have HWI : Hid (wi N d M = true) := hk
      clear hk hk2
      go_enter Try.func3, Try.ntmps3
      go_wp2_with (first
        | (go_at_call 6; refine c6.mono ?_; rintro ex w1 ⟨v, rfl, own, kp⟩; obtain ⟨a1, c1, hv, hz1⟩ := Zs.of_row own; rw [HX.out] at hv hz1; have HV : Hid (∀ k, v.ownBlock = some k → w.heap.size ≤ k) := (fun k e => (own.lt k e).1); obtain rfl := hv; have KP : Hid (Kept No w w1) := kp; have HZ : Hid (Zs w1 (fun g => (Value.slice a1 N c1).ownBlock = some g) a1 N c1 X) := hz1; have c8 := read_yes _ (d : Int) (M : Int) a1 N c1 X w1 hz1 hN HWI.out; clear own hz1 kp)
        | (go_at_call 8; refine c8.mono ?_; rintro ex w2 ⟨v2, rfl, own2, kp2⟩; obtain ⟨a2, c2, hv2, hz2⟩ := Zs.of_row own2; rw [rdX_length (by rw [HX.out]; exact hdM)] at hv2 hz2; obtain rfl := hv2; have hcap2 := hz2.cap; have hmax2 := hz2.max; have HZ2 : Hid (Zs w2 (fun g => (Value.slice a2 M c2).ownBlock = some g) a2 M c2 (rdX X d M)) := hz2; have HZ1 : Hid (Zs w2 (fun g => (Value.slice a1 N c1).ownBlock = some g) a1 N c1 X) := HZ.out.kept kp2 (fun _ _ h => h); have KP2 : Hid (Kept No w w2) := KP.out.trans kp2 (fun k h => h.elim); have c7 := works_any w2; have c9 := writable_any N 0 d M w2 (by omega); rw [HK.out] at c9; clear own2 hz2 kp2 c8)
        | (go_at_call 9; refine c9.mono ?_; rintro ex w3 ⟨rfl, hw⟩; obtain rfl := hw.symm))
      go_loop [13] (fun i => ∃ j : Nat, j ≤ M ∧ i = .int .i64 j) (fun i => M - (intOf i).toNat)
      case atStart => exact ⟨0, by omega, rfl⟩
      case round =>
        obtain ⟨j, hj, rfl⟩ := hrel
        by_cases hlt : j < M
        · have e1 : wrap64 ((d : Int) + (j : Int)) = (d : Int) + (j : Int) := by unfold wrap64; omega
          have c10 := load_any _ ((d : Int) + (j : Int)) a1 N c1 X w2 HZ1.out
          have e2 : wi (X.length) ((d : Int) + (j : Int)) 1 = true := wi_iff.2 (by rw [HX.out]; omega)
          obtain ⟨x, hx⟩ : ∃ x, x = X.getD (d + j) 0 := ⟨_, rfl⟩
          have e3 : mmVal X ((d : Int) + (j : Int)) = x := by
            unfold mmVal; rw [e2, if_pos rfl, hx, show ((d : Int) + (j : Int)).toNat = d + j by omega]
          rw [e2, e3] at c10
          obtain ⟨b, o, rfl, _, hc⟩ := HZ2.out.at' j hlt
          have hc2 : w2.cell? ⟨b, o + j, none⟩ = some (.int .i64 x) := by rw [hc, rdX_get hlt, hx]; rfl
          clear hc hx e2 e3
          go_wp2_with (go_at_call 10; refine c10.mono ?_; rintro ex w3 ⟨rfl, hw⟩; obtain rfl := hw.symm)
          go_round
          case rel => exact ⟨j + 1, by omega, by go_num⟩
          case measure => simp [intOf]; omega
        · have hjM : j = M := by omega
          subst hjM
          go_wp2_with (go_at_call 7; refine c7.mono ?_; rintro ex w3 ⟨rfl, kp3⟩)
          go_ret
          exact ⟨rfl, (KP2.out.trans kp3 (fun k h => h.elim)).below0⟩

end Go.Proofs.Ytgapljgnedbkiaa
