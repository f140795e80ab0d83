/-
  Sources.
-/
import Derived.Test.YtdohjhhflfnncaaDoorFRd
import Derived.Test.YtdohjhhflfnncaaDoorFBkw
namespace Go.Proofs.YtdohjhhflfnncaaDoor
open Go.RowKit
set_option linter.unusedVariables false
set_option maxRecDepth 100000

/-- the numbers of those that are so, below j -/
def srcJ (s : List Bool) (j : Nat) : List Int := ((List.range j).filter (isT s)).map fun (k : Nat) => (k : Int) + 1
theorem srcJ_succ (s : List Bool) (j : Nat) : srcJ s (j + 1) = srcJ s j ++ (if isT s j then [(j : Int) + 1] else []) := by
  unfold srcJ
  rw [List.range_succ, List.filter_append, List.map_append]
  congr 1
  by_cases h : isT s j = true <;> simp [h]
theorem srcJ_len (s : List Bool) (j : Nat) : (srcJ s j).length ≤ j := by
  unfold srcJ
  rw [List.length_map]
  have := List.length_filter_le (isT s) (List.range j)
  simpa using this
def srcL (E : List (Nat × Nat)) (n i : Nat) : List Int := srcJ (rch (bkw E n) i) n

theorem sources_no {a0 a1 a2 : Option Addr} {n0 c0 n1 c1 n c : Nat} (p : Int) (w : World) (h : isP n0 p = false) :
    Calls Tryd.prog 6 #[.agg #[.slice a0 n0 c0, .slice a1 n1 c1, .slice a2 n c], .int .i64 p] w fun e w' => e = .returned (.tuple #[.slice none 0 0, .int .i64 220]) ∧ Kept No w w' := by
  have k1 : Kept No w (w.alloc (.cells #[.slice a0 n0 c0, .slice a1 n1 c1, .slice a2 n c] 26)) := (Kept.refl No w).alloc _
  have cI := isPart_any a0 a1 a2 n0 c0 n1 c1 n c p (w.alloc (.cells #[.slice a0 n0 c0, .slice a1 n1 c1, .slice a2 n c] 26))
  rw [h] at cI
  go_enter Tryd.func6, Tryd.ntmps6
  go_wp2_with (go_at_call 11; refine cI.mono ?_; rintro e w1 ⟨rfl, k2⟩)
  go_ret2
  exact ⟨rfl, k1.trans k2 (fun _ h => .inl h)⟩

set_option maxHeartbeats 8000000 in
theorem sources_yes {F : Nat → Prop} {a0 a1 a2 : Option Addr} {n0 c0 n1 c1 n c : Nat} {ps : List Po} {L : List Ch} {i : Nat} (w : World) (h : Rd w F a1 n1 c1 a2 n c n0 ps L) (hi : i < n0) :
    Calls Tryd.prog 6 #[.agg #[.slice a0 n0 c0, .slice a1 n1 c1, .slice a2 n c], .int .i64 ((i : Int) + 1)] w fun e w' => ∃ va vc, e = .returned (.tuple #[.slice va (srcL (edg n0 ps L) n0 i).length vc, .int .i64 0]) ∧ w'.ownsRow w.heap.size 3 1 (.slice va (srcL (edg n0 ps L) n0 i).length vc) (srcL (edg n0 ps L) n0 i).length ((srcL (edg n0 ps L) n0 i).map iv) ∧ Kept No w w' := by
  have k1 : Kept No w (w.alloc (.cells #[.slice a0 n0 c0, .slice a1 n1 c1, .slice a2 n c] 26)) := (Kept.refl No w).alloc _
  have hn0 := h.nn
  have cI := isPart_any a0 a1 a2 n0 c0 n1 c1 n c ((i : Int) + 1) (w.alloc (.cells #[.slice a0 n0 c0, .slice a1 n1 c1, .slice a2 n c] 26))
  rw [show isP n0 ((i : Int) + 1) = true from isP_iff.2 ⟨by omega, by omega⟩] at cI
  have hb := alloc_new w (.cells #[.slice a0 n0 c0, .slice a1 n1 c1, .slice a2 n c] 26)
  have HH : Hid (Rd w F a1 n1 c1 a2 n c n0 ps L ∧ Kept No w (w.alloc (.cells #[.slice a0 n0 c0, .slice a1 n1 c1, .slice a2 n c] 26)) ∧ Eok (edg n0 ps L) n0) := ⟨h, k1, edg_ok _ _ _⟩
  obtain ⟨R, hR⟩ : ∃ R, R = rch (bkw (edg n0 ps L) n0) i := ⟨_, rfl⟩
  have hsl : srcL (edg n0 ps L) n0 i = srcJ R n0 := by rw [hR]; rfl
  have HRR : Hid (R.length = n0 ∧ R = rch (bkw (edg n0 ps L) n0) i) := ⟨by rw [hR, rch_len, bkw_len], hR⟩
  rw [hsl]
  clear h hR hsl
  go_enter Tryd.func6, Tryd.ntmps6
  go_upto_region 4 with (go_at_call 11; refine cI.mono ?_; rintro e w1 ⟨rfl, k2⟩)
  have k12 := k1.trans k2 (fun _ h => .inl h)
  have h1 := HH.out.1.kept k12 (fun _ _ h => h)
  have cO := backwards_any (a0 := a0) (n0 := n0) (c0 := c0) _ h1.qs h1.cs h1.ds h1.nn h1.ed
  have hE := HH.out.2.2
  generalize edg n0 ps L = E at *
  obtain ⟨x0, x1, x2⟩ := three (k2.at' hb (fun h => h))
  have HK := hid k12
  clear k1 k2 k12 h1 hb cI HH
  have hiz : wrap64 (i : Int) = i := by unfold wrap64; omega
  have HE := hid hE
  clear hE
  go_wp2_with (first
    | (go_at_call 13; refine cO.mono ?_; rintro e w2 ⟨gw, G, rfl, hls, hG, k3⟩; have cR := reached_any (i := i) w2 hls (bkw_ok HE.out) hn0 hi; have HK2 := hid (HK.out.trans k3 (fun _ h => .inl h)); clear hls hG k3 cO)
    | (go_at_call 12; refine cR.mono ?_; rintro e w3 ⟨q, rfl, hq1, hq2, k4⟩; have HQ : Hid (Br w3 q (rch (bkw E n0) i) ∧ Kept No w w3 ∧ w.heap.size ≤ q) := ⟨hq2, HK2.out.trans k4 (fun _ h => .inl h), by have := HK2.out.size; omega⟩; clear hq1 hq2 k4 cR))
  have HQ2 : Hid (Br w3 q R ∧ Kept No w w3 ∧ w.heap.size ≤ q ∧ w.heap.size ≤ w3.heap.size) := ⟨by rw [HRR.out.2]; exact HQ.out.1, HQ.out.2.1, HQ.out.2.2, HQ.out.2.1.size⟩
  have hrl : Hid (R.length = n0) := HRR.out.1
  clear HQ x0 x1 x2
  go_loopw [6, 19] (fun v y wr => ∃ (j : Nat) (va : Option Addr) (vc : Nat), y = .int .i64 j ∧ j ≤ n0 ∧ v = .slice va (srcJ R j).length vc ∧ wr.ownsRow w3.heap.size 3 1 (.slice va (srcJ R j).length vc) (srcJ R j).length ((srcJ R j).map iv) ∧ Kept No w3 wr) (fun _ y _ => n0 - (intOf y).toNat)
  case atStart => exact ⟨0, none, 0, rfl, Nat.zero_le _, rfl, World.ownsRow_nil _ _ _ _, Kept.refl _ _⟩
  case round =>
    obtain ⟨j, va, vc, rfl, hj, rfl, own, hk⟩ := hrel
    by_cases hlt : j < n0
    · have hcl := (HQ2.out.1.kept hk (fun h => h)).cell (j := j) (by rw [hrl.out]; exact hlt)
      have hsu := srcJ_succ R j
      have hlen := srcJ_len R j
      have hjz : (j : Int) < (n0 : Int) := by omega
      cases hb : isT R j with
      | false =>
        rw [hb] at hcl hsu
        have HO : Hid (wr.ownsRow w3.heap.size 3 1 (.slice va (srcJ R j).length vc) (srcJ R j).length ((srcJ R j).map iv) ∧ Kept No w3 wr ∧ srcJ R (j + 1) = srcJ R j) := ⟨own, hk, by rw [hsu]; simp⟩
        clear own hk hsu hb
        go_wp2
        go_roundw
        case rel => exact ⟨j + 1, va, vc, by go_num, by omega, by rw [HO.out.2.2], by rw [HO.out.2.2]; exact HO.out.1, HO.out.2.1⟩
        case measure => simp [intOf]; omega
      | true =>
        rw [hb] at hcl hsu
        have ka : Kept No wr (wr.alloc (.cells #[.int .i64 ((j : Int) + 1)] 3)) := (Kept.refl No wr).alloc _
        have HO : Hid ((wr.alloc (.cells #[.int .i64 ((j : Int) + 1)] 3)).ownsRow w3.heap.size 3 1 (.slice va (srcJ R j).length vc) (srcJ R j).length ((srcJ R j).map iv) ∧ Kept No w3 (wr.alloc (.cells #[.int .i64 ((j : Int) + 1)] 3)) ∧ srcJ R (j + 1) = srcJ R j ++ [(j : Int) + 1] ∧ w3.heap.size ≤ (wr.alloc (.cells #[.int .i64 ((j : Int) + 1)] 3)).heap.size ∧ (wr.alloc (.cells #[.int .i64 ((j : Int) + 1)] 3)).cell? ⟨wr.heap.size, 0, none⟩ = some (.int .i64 ((j : Int) + 1))) := ⟨own.alloc _, hk.alloc _, by rw [hsu]; simp, (hk.alloc _).size, one (alloc_new _ _)⟩
        clear own hk hsu hb ka
        go_wp2_with (at_builtin; refine wpList_app1 rfl _ _ 40 3 rfl _ 8 Tryd.underlying40 Tryd.infoI rfl w3.heap.size (.slice va (srcJ R j).length vc) (srcJ R j).length _ rfl HO.out.1 HO.out.2.2.2.1 ⟨wr.heap.size, 0, none⟩ 1 (.int .i64 ((j : Int) + 1)) rfl HO.out.2.2.2.2 rfl (by omega) (by unfold maxLen; omega) ?_; intro ya yc wa own1 gr1 lo1)
        go_roundw
        case rel =>
          refine ⟨j + 1, ya, yc, by go_num, by omega, ?_, ?_, ?_⟩
          · rw [HO.out.2.2.1, List.length_append]; rfl
          · rw [HO.out.2.2.1, List.length_append, List.map_append]; exact own1.out
          · exact HO.out.2.1.grown gr1.out (fun k e => .inr (owns_at HO.out.1 e).1)
        case measure => simp [intOf]; omega
    · have hje : j = n0 := by omega
      subst hje
      have HO : Hid (wr.ownsRow w3.heap.size 3 1 (.slice va (srcJ R j).length vc) (srcJ R j).length ((srcJ R j).map iv) ∧ Kept No w wr) := ⟨own, HQ2.out.2.1.trans hk (fun _ h => .inl h)⟩
      have hjz : ¬ (j : Int) < (j : Int) := by omega
      clear own hk
      go_wp2
      go_ret2
      exact ⟨va, vc, rfl, owns_base HO.out.1 HQ2.out.2.2.2, HO.out.2⟩
end Go.Proofs.YtdohjhhflfnncaaDoor
