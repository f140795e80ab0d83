/-
  Alike.
-/
import Derived.Test.YtdohjhhflfnncaaDoorFPs
namespace Go.Proofs.YtdohjhhflfnncaaDoor
open Go.RowKit
set_option linter.unusedVariables false
set_option maxRecDepth 100000

theorem srcL_in {E : List (Nat × Nat)} {n i : Nat} : ∀ z ∈ srcL E n i, ∃ k : Nat, k < n ∧ z = (k : Int) + 1 := by
  intro z hz
  unfold srcL srcJ at hz
  obtain ⟨k, hk, rfl⟩ := List.mem_map.1 hz
  exact ⟨k, List.mem_range.1 (List.mem_filter.1 hk).1, rfl⟩

set_option maxHeartbeats 8000000 in
theorem alike_any {F G H : Nat → Prop} {a b a1 a2 : Option Addr} {c d n n1 c1 n2 c2 : Nat} {AS BS : List (Array Value)} {ps : List Po} {L : List Ch} {I : Nat} (w : World) (h : Pp w F G a c b d n AS BS) (hr : Rd w H a1 n1 c1 a2 n2 c2 n ps L) (hi : I < n) (sm : Nat → Bool)
    (hsm : ∀ (i : Nat) (A B : Array Value), AS[i]? = some A → BS[i]? = some B → (i : Int) + 1 ∈ srcL (edg n ps L) n I → ∀ W, Kept No w W → Calls Tryd.prog 28 #[.agg A, .agg B] W fun e W' => e = .returned (.bool (sm i)) ∧ Kept No W W') :
    Calls Tryd.prog 7 #[.agg #[.slice a n c, .slice a1 n1 c1, .slice a2 n2 c2], .agg #[.slice b n d, .slice a1 n1 c1, .slice a2 n2 c2], .int .i64 ((I : Int) + 1)] w fun e w' => e = .returned (.tuple #[.bool ((srcL (edg n ps L) n I).all (fun z => sm (z - 1).toNat)), .int .i64 0]) ∧ Kept No w w' := by
  have k1 : Kept No w ((w.alloc (.cells #[.slice a n c, .slice a1 n1 c1, .slice a2 n2 c2] 26)).alloc (.cells #[.slice b n d, .slice a1 n1 c1, .slice a2 n2 c2] 26)) := ((Kept.refl No w).alloc _).alloc _
  have b0 : ((w.alloc (.cells #[.slice a n c, .slice a1 n1 c1, .slice a2 n2 c2] 26)).alloc (.cells #[.slice b n d, .slice a1 n1 c1, .slice a2 n2 c2] 26)).heap[w.heap.size]? = some (.cells #[.slice a n c, .slice a1 n1 c1, .slice a2 n2 c2] 26) := ((Kept.refl No _).alloc _).at' (alloc_new w _) (fun h => h)
  have b1 : ((w.alloc (.cells #[.slice a n c, .slice a1 n1 c1, .slice a2 n2 c2] 26)).alloc (.cells #[.slice b n d, .slice a1 n1 c1, .slice a2 n2 c2] 26)).heap[w.heap.size + 1]? = some (.cells #[.slice b n d, .slice a1 n1 c1, .slice a2 n2 c2] 26) := by
    have := alloc_new (w.alloc (.cells #[.slice a n c, .slice a1 n1 c1, .slice a2 n2 c2] 26)) (.cells #[.slice b n d, .slice a1 n1 c1, .slice a2 n2 c2] 26)
    rw [World.size_alloc] at this
    exact this
  have cS := sources_yes (a0 := a) (c0 := c) (i := I) _ (hr.kept k1 (fun _ _ h => h)) hi
  have hin := srcL_in (E := edg n ps L) (n := n) (i := I)
  generalize srcL (edg n ps L) n I = zs at *
  have HH : Hid (Pp w F G a c b d n AS BS ∧ Rd w H a1 n1 c1 a2 n2 c2 n ps L ∧ (∀ z ∈ zs, ∃ k : Nat, k < n ∧ z = (k : Int) + 1) ∧ (∀ (i : Nat) (A B : Array Value), AS[i]? = some A → BS[i]? = some B → (i : Int) + 1 ∈ zs → ∀ W, Kept No w W → Calls Tryd.prog 28 #[.agg A, .agg B] W fun e W' => e = .returned (.bool (sm i)) ∧ Kept No W W')) := ⟨h, hr, hin, hsm⟩
  have hn := hr.nn
  clear h hr hin hsm
  go_enter Tryd.func7, Tryd.ntmps7
  go_upto_region 1 with fail
  generalize (w.alloc (.cells #[.slice a n c, .slice a1 n1 c1, .slice a2 n2 c2] 26)).alloc (.cells #[.slice b n d, .slice a1 n1 c1, .slice a2 n2 c2] 26) = w0 at *
  obtain ⟨q0, hq0⟩ : ∃ q0, w.heap.size = q0 := ⟨_, rfl⟩
  obtain ⟨q1, hq1⟩ : ∃ q1, q0 + 1 = q1 := ⟨_, rfl⟩
  rw [hq0] at b0 b1 ⊢
  rw [hq1] at b1 ⊢
  clear hq0 hq1
  have HB : Hid (w0.heap[q0]? = some (.cells #[.slice a n c, .slice a1 n1 c1, .slice a2 n2 c2] 26) ∧ w0.heap[q1]? = some (.cells #[.slice b n d, .slice a1 n1 c1, .slice a2 n2 c2] 26) ∧ Kept No w w0) := ⟨b0, b1, k1⟩
  clear b0 b1 k1
  obtain ⟨x0, x1, x2⟩ := three HB.out.1
  go_upto_region 4 with (go_at_call 6; refine cS.mono ?_; rintro e w1 ⟨va, vc, rfl, ho, k2⟩; have H1 : Hid (w1.heap[q0]? = some (.cells #[.slice a n c, .slice a1 n1 c1, .slice a2 n2 c2] 26) ∧ w1.heap[q1]? = some (.cells #[.slice b n d, .slice a1 n1 c1, .slice a2 n2 c2] 26) ∧ Kept No w w1 ∧ w1.ownsRow w0.heap.size 3 1 (.slice va zs.length vc) zs.length (zs.map iv)) := ⟨k2.at' HB.out.1 (fun h => h), k2.at' HB.out.2.1 (fun h => h), HB.out.2.2.trans k2 (fun _ h => .inl h), ho⟩; clear ho k2 cS x0 x1 x2)
  obtain ⟨x0, x1, x2⟩ := three H1.out.1
  obtain ⟨y0, y1, y2⟩ := three H1.out.2.1
  have rd1 := HH.out.2.1.kept H1.out.2.2.1 (fun _ _ h => h)
  have cF := frame_yes w1 (HH.out.1.kept H1.out.2.2.1) hn rd1.qs rd1.cs
  clear rd1
  obtain ⟨V, hV⟩ : ∃ V, zs.all (fun z => sm (z - 1).toNat) = V := ⟨_, rfl⟩
  go_wp2_with (first
    | (go_at_call 14; refine cF.mono ?_; rintro e w2 ⟨rfl, k3⟩; have kw2 := H1.out.2.2.1.trans k3 (fun _ h => .inl h); obtain ⟨va', vc', hv', hzs⟩ := Zs.of_owns (k3.owns H1.out.2.2.2 (fun _ _ h => h)); injection hv' with e1 e2 e3; subst e1 e3; clear e2; have cP := sameParts_any (a1 := a1) (n1 := n1) (c1 := c1) (a2 := a2) (n2 := n2) (c2 := c2) w2 (HH.out.1.kept kw2) hn hzs HH.out.2.2.1 sm (fun i A B hA hB hm W K => HH.out.2.2.2 i A B hA hB hm W (kw2.trans K (fun _ h => .inl h))); rw [hV] at cP; replace x0 := k3.cell x0 (fun h => h); replace x1 := k3.cell x1 (fun h => h); replace x2 := k3.cell x2 (fun h => h); replace y0 := k3.cell y0 (fun h => h); replace y1 := k3.cell y1 (fun h => h); replace y2 := k3.cell y2 (fun h => h); have HK2 := hid kw2; clear k3 kw2 cF hzs)
    | (go_at_call 15; refine cP.mono ?_; rintro e w3 ⟨rfl, k4⟩; have HK3 := hid (HK2.out.trans k4 (fun _ h => .inl h)); clear k4 cP))
  go_ret2
  exact ⟨by rw [hV]; rfl, HK3.out⟩
end Go.Proofs.YtdohjhhflfnncaaDoor
