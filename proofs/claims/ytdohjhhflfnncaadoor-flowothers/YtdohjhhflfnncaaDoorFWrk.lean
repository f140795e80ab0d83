/-
  works.
-/
import Derived.Test.YtdohjhhflfnncaaDoorFChn
import Derived.Test.YtdohjhhflfnncaaDoorCSame
import Derived.Test.YtdohjhhflfnncaaDoorFSrc
import Derived.Test.YtdohjhhflfnncaaDoorFTxt
namespace Go.Proofs.YtdohjhhflfnncaaDoor
open Go.RowKit
set_option linter.unusedVariables false
set_option maxRecDepth 100000

theorem src_3 : srcL (edg 3 PS LS) 3 2 = [1, 2, 3] := by rw [edg_chain]; decide
theorem src_1 : srcL (edg 3 PS LS) 3 0 = [1] := by rw [edg_chain]; decide
def TXC : ByteArray := ⟨#[49, 32, 61, 100, 114, 10, 50, 32, 46, 61, 100, 10, 51, 32, 46, 46, 61, 10]⟩
theorem txt_c : (⟨(txt (onw (edg 3 PS LS) 3) 3).toArray⟩ : ByteArray) = TXC := by
  rw [edg_chain]
  decide +kernel
theorem TXC_eq : (TXC.toList == [49, 32, 61, 100, 114, 10, 50, 32, 46, 61, 100, 10, 51, 32, 46, 46, 61, 10]) = true := by
  decide +kernel
theorem zs_lit1 (w : World) : Zs (w.alloc (.cells #[.int .i64 1] 3)) (fun k => k = w.heap.size) (some ⟨w.heap.size, 0, none⟩) 1 1 [1] := by
  refine ⟨rfl, Nat.le_refl _, by omega, (fun e => (by cases e)), fun i hi => ⟨w.heap.size, 0, rfl, rfl, ?_⟩⟩
  have : i = 0 := by omega
  subst this
  rw [cell_blk (alloc_new w _)]; rfl
theorem zs_lit3 (w : World) : Zs (w.alloc (.cells #[.int .i64 1, .int .i64 2, .int .i64 3] 3)) (fun k => k = w.heap.size) (some ⟨w.heap.size, 0, none⟩) 3 3 [1, 2, 3] := by
  refine ⟨rfl, Nat.le_refl _, by omega, (fun e => (by cases e)), fun i hi => ⟨w.heap.size, 0, rfl, rfl, ?_⟩⟩
  rw [cell_blk (alloc_new w _)]
  rcases (show i = 0 ∨ i = 1 ∨ i = 2 by omega) with rfl | rfl | rfl <;> rfl

set_option maxHeartbeats 8000000 in
theorem works_any (w : World) (en : En w) : Calls Tryd.prog 5 #[] w fun e w' => e = .returned (.bool true) ∧ Kept No w w' := by
  have HE := hid en
  clear en
  go_enter Tryd.func5, Tryd.ntmps5
  go_upto_region 2 with (first
    | (go_at_call 8; refine (chain_any w).mono ?_; rintro e w1 ⟨p0, p1, p2, rfl, hr, k1⟩; have cS := sources_yes (a0 := p0) (c0 := 3) (i := 2) w1 hr (by omega); rw [src_3, show (((2 : Nat) : Int) + 1) = 3 from rfl] at cS; have HK1 := hid k1; clear hr k1)
    | (go_at_call 6; refine cS.mono ?_; rintro e w2 ⟨va, vc, rfl, ho, k2⟩; have HO2 : Hid (w2.ownsRow w1.heap.size 3 1 (.slice va 3 vc) 3 (([1, 2, 3] : List Int).map iv) ∧ Kept No w w2) := ⟨ho, HK1.out.trans k2 (fun _ h => .inl h)⟩; clear ho k2 cS))
  go_upto_region 3 with (first
    | (go_at_call 8; refine (chain_any w2).mono ?_; rintro e w3 ⟨r0, r1, r2, rfl, hr, k3⟩; have cS := sources_yes (a0 := r0) (c0 := 3) (i := 0) w3 hr (by omega); rw [src_1, show (((0 : Nat) : Int) + 1) = 1 from rfl] at cS; have HK3 := hid k3; clear hr k3)
    | (go_at_call 6; refine cS.mono ?_; rintro e w4 ⟨ua, uc, rfl, ho, k4⟩; have HO4 : Hid (w4.ownsRow w3.heap.size 3 1 (.slice ua 1 uc) 1 (([1] : List Int).map iv) ∧ Kept No w2 w4) := ⟨ho, HK3.out.trans k4 (fun _ h => .inl h)⟩; clear ho k4 cS))
  have kA : Kept No w4 (w4.alloc (.cells #[.int .i64 1, .int .i64 2, .int .i64 3] 3)) := (Kept.refl No w4).alloc _
  obtain ⟨va', vc', hv', hz3⟩ := Zs.of_owns (xs := [1, 2, 3]) ((HO4.out.2.trans kA (fun _ h => .inl h)).owns HO2.out.1 (fun _ _ h => h))
  injection hv' with e1 e2 e3
  subst e1 e3
  clear e2
  have cS1 := sameI_any _ hz3 (zs_lit3 w4)
  rw [show decide (([1, 2, 3] : List Int) = [1, 2, 3]) = true by decide, show ([1, 2, 3] : List Int).length = 3 from rfl] at cS1
  clear hz3
  have HKA := hid kA
  clear kA
  go_wp2_with (first
    | (go_at_call 9; refine cS1.mono ?_; rintro e w5 ⟨rfl, k5⟩; have kB : Kept No w4 (w5.alloc (.cells #[.int .i64 1] 3)) := (HKA.out.trans k5 (fun _ h => .inl h)).alloc _; obtain ⟨ua', uc', hu', hz1⟩ := Zs.of_owns (xs := [1]) (kB.owns HO4.out.1 (fun _ _ h => h)); injection hu' with e1 e2 e3; subst e1 e3; clear e2; have cS2 := sameI_any _ hz1 (zs_lit1 w5); rw [show decide (([1] : List Int) = [1]) = true by decide, show ([1] : List Int).length = 1 from rfl] at cS2; have HKB := hid kB; clear kB hz1 k5 cS1)
    | (go_at_call 9; refine cS2.mono ?_; rintro e w6 ⟨rfl, k6⟩; have HK6 := hid (HKB.out.trans k6 (fun _ h => .inl h)); clear k6 cS2)
    | (go_at_call 8; refine (chain_any w6).mono ?_; rintro e w7 ⟨t0, t1, t2, rfl, hr, k7⟩; have kw7 : Kept No w w7 := ((HO2.out.2.trans HO4.out.2 (fun _ h => .inl h)).trans HK6.out (fun _ h => .inl h)).trans k7 (fun _ h => .inl h); have cT := text_any (a0 := t0) (c0 := 3) w7 hr (HE.out.keep kw7); rw [txt_c] at cT; have HK7 := hid kw7; clear kw7 k7 hr)
    | (go_at_call 10; refine cT.mono ?_; rintro e w8 ⟨rfl, k8⟩; have HK8 := hid (HK7.out.trans k8 (fun _ h => .inl h)); clear k8 cT))
  rw [TXC_eq]
  go_ret
  exact ⟨rfl, HK8.out⟩
end Go.Proofs.YtdohjhhflfnncaaDoor
