/-
  DueAt, Outlet, Inlet.
-/
import Derived.Test.YtfjaajjljmbmbaaGreatDoorCAll
namespace Go.Proofs.YtfjaajjljmbmbaaGreatDoor
open Go.RowKit Go.Shelf Plain
set_option linter.unusedVariables false
set_option maxRecDepth 100000

theorem nm_le (p : Ch → Bool) (L : List Ch) (k : Nat) : (nm p L k).length ≤ k := by
  unfold nm
  have := List.length_filter_le (isN p L) (List.range k)
  simpa using this
/-- the numbers, from 1 on, of those that are such -/
def numsV (p : Ch → Bool) (L : List Ch) (i : Nat) : Int := ((nm p L L.length).getD i 0 : Int) + 1
abbrev numsN (p : Ch → Bool) (L : List Ch) : Nat := (nm p L L.length).length

def ownB (ps : List Po) (m x : Int) : Bool := decide (1 ≤ m) && partV ps x == m
theorem owned_new {a0 a1 a2 : Option Addr} {n0 c0 n1 c1 n c : Nat} (m : Int) (w : World) :
    Calls Tryz.prog 19 #[.agg #[.slice a0 n0 c0, .slice a1 n1 c1, .slice a2 n c], .int .i64 m] w fun e w' => e = .returned (.func (.func 32) #[] #[.pointer (some ⟨w.heap.size + 1, 0, none⟩), .pointer (some ⟨w.heap.size, 0, none⟩)]) ∧ w' = (w.alloc (.cells #[.slice a0 n0 c0, .slice a1 n1 c1, .slice a2 n c] 26)).alloc (.cells #[.int .i64 m] 3) := by
  go_enter Tryz.func19, Tryz.ntmps19
  go_wp2
  go_ret
  exact ⟨rfl, rfl⟩
theorem enters_partOf : ∀ args w, (callFunc 22 args).run Tryz.prog w = .ok (.enter 22 args) w := enters_of Tryz.func22 (by kernel_rfl) rfl
theorem er_ldI {w : World} {a : Act} {o : Oper} (x : Operand) (ho : o.op = .load 3 x) (g : Nat) (v : Int) (hx : a.eval x = .pointer (some ⟨g, 0, none⟩)) (hg : w.cell? ⟨g, 0, none⟩ = some (.int .i64 v)) : (execOp a.eval o).run Tryz.prog w = .ok (.value (.int .i64 v)) w := by
  simp only [execOp, ho, hx]; simp [go_sem, hg]

set_option maxHeartbeats 2000000 in
theorem owned_prd {F : Nat → Prop} {a0 a1 a2 : Option Addr} {n0 c0 n1 c1 n c : Nat} {ps : List Po} (m : Int) {w : World} (hq : Ls 6 elPo w F a1 n1 c1 ps) {B1 B2 : Nat} (h1 : w.heap[B1]? = some (.cells #[.int .i64 m] 3)) (h2 : w.heap[B2]? = some (.cells #[.slice a0 n0 c0, .slice a1 n1 c1, .slice a2 n c] 26)) :
    Prd 32 #[.pointer (some ⟨B1, 0, none⟩), .pointer (some ⟨B2, 0, none⟩)] (ownB ps m) w := by
  intro W x hx K
  have g1 := K.at' h1 (fun h => h)
  have g2 := K.at' h2 (fun h => h)
  have cP := fun W' (k : Kept No W W') => partOf_any (a0 := a0) (n0 := n0) (c0 := c0) (a2 := a2) (n2 := n) (c2 := c) x hx W' (hq.kept (K.trans k (fun _ h => .inl h)) (fun _ _ h => h) (elPo_kept (K.trans k (fun _ h => .inl h)) (fun _ _ h => h)))
  obtain ⟨V, hV⟩ : ∃ V, V = ownB ps m x := ⟨_, rfl⟩
  rw [← hV]
  have HV := hid hV
  unfold ownB at HV
  clear hq h1 h2 K hV
  go_enter Tryz.func32, Tryz.ntmps32
  go_upto_region 1 with fail
  refine wp_region_held_drew (S := fun V => Kept No W V) (by kernel_rfl) (Kept.refl No W).drew (fun hS => ?_)
  refine d_take 0 5 rfl rfl (by kernel_rfl) (by kernel_rfl) (by kernel_rfl) (fun _ _ _ h => h) rfl (fun w' hw' => er_ldI _ rfl B1 m rfl (one (hw'.at' g1 (fun h => h)))) hS ?_
  simp only [Act.put, List.setIfInBounds_toArray, List.set_cons_zero, List.set_cons_succ]
  by_cases hm : 1 ≤ m
  · refine d_take 1 6 rfl rfl (by kernel_rfl) (by kernel_rfl) (by kernel_rfl) (fun _ _ _ h => h) rfl (fun w' hw' => er_geq _ _ rfl m 1 true rfl rfl (decide_eq_true hm)) hS ?_
    simp only [Act.put, List.setIfInBounds_toArray, List.set_cons_zero, List.set_cons_succ]
    refine d_take 2 7 rfl rfl (by kernel_rfl) (by kernel_rfl) (by kernel_rfl) (fun _ _ _ h => h) rfl (fun w' hw' => er_mv _ rfl (.bool true) rfl) hS ?_
    simp only [Act.put, List.setIfInBounds_toArray, List.set_cons_zero, List.set_cons_succ]
    refine d_take 3 8 rfl rfl (by kernel_rfl) (by kernel_rfl) (by kernel_rfl) (fun _ _ _ h => h) rfl (fun w' hw' => er_ldIm _ rfl B2 #[.slice a0 n0 c0, .slice a1 n1 c1, .slice a2 n c] rfl (hw'.at' g2 (fun h => h)) rfl) hS ?_
    simp only [Act.put, List.setIfInBounds_toArray, List.set_cons_zero, List.set_cons_succ]
    refine d_take 4 9 rfl rfl (by kernel_rfl) (by kernel_rfl) (by kernel_rfl) (fun _ _ _ h => h) rfl (fun w' hw' => er_mv _ rfl (.int .i64 x) rfl) hS ?_
    simp only [Act.put, List.setIfInBounds_toArray, List.set_cons_zero, List.set_cons_succ]
    refine d_take 6 11 rfl rfl (by kernel_rfl) (by kernel_rfl) (by kernel_rfl) (fun _ _ _ h => h) rfl (fun w' hw' => er_ldI _ rfl B1 m rfl (one (hw'.at' g1 (fun h => h)))) hS ?_
    simp only [Act.put, List.setIfInBounds_toArray, List.set_cons_zero, List.set_cons_succ]
    refine d_call (v := .int .i64 (partV ps x)) 5 10 (by kernel_rfl) rfl rfl rfl (ec_2 enters_partOf _ _ _ _ rfl (.agg #[.slice a0 n0 c0, .slice a1 n1 c1, .slice a2 n c]) (.int .i64 x) rfl rfl) ((cP _ hS).mono ?_) (fun w2 hS2 => ?_)
    · rintro e w' ⟨rfl, hk⟩
      exact ⟨rfl, hS.trans hk (fun _ h => .inl h)⟩
    simp only [Act.put, List.setIfInBounds_toArray, List.set_cons_zero, List.set_cons_succ]
    refine d_take 7 12 rfl rfl (by kernel_rfl) (by kernel_rfl) (by kernel_rfl) (fun _ _ _ h => h) rfl (fun w' hw' => er_eqI _ _ rfl (partV ps x) m (partV ps x == m) rfl rfl rfl) hS2 ?_
    simp only [Act.put, List.setIfInBounds_toArray, List.set_cons_zero, List.set_cons_succ]
    refine d_take 8 13 rfl rfl (by kernel_rfl) (by kernel_rfl) (by kernel_rfl) (fun _ _ _ h => h) rfl (fun w' hw' => er_pk _ _ _ rfl true (.bool (partV ps x == m)) rfl rfl) hS2 ?_
    simp only [Act.put, List.setIfInBounds_toArray, List.set_cons_zero, List.set_cons_succ]
    refine d_take 9 4 rfl rfl (by kernel_rfl) (by kernel_rfl) (by kernel_rfl) (fun _ _ _ h => h) rfl (fun w' hw' => er_as _ rfl (.bool (partV ps x == m)) rfl) hS2 ?_
    simp only [Act.put, List.setIfInBounds_toArray, List.set_cons_zero, List.set_cons_succ]
    refine wpAnyH_done (by kernel_rfl) ?_ _
    have HF := hid hS2
    clear hS hS2
    go_wp2
    go_ret
    exact ⟨by rw [HV.out, decide_eq_true hm, Bool.true_and]; rfl, HF.out⟩
  · refine d_take 1 6 rfl rfl (by kernel_rfl) (by kernel_rfl) (by kernel_rfl) (fun _ _ _ h => h) rfl (fun w' hw' => er_geq _ _ rfl m 1 false rfl rfl (decide_eq_false hm)) hS ?_
    simp only [Act.put, List.setIfInBounds_toArray, List.set_cons_zero, List.set_cons_succ]
    refine d_take 2 7 rfl rfl (by kernel_rfl) (by kernel_rfl) (by kernel_rfl) (fun _ _ _ h => h) rfl (fun w' hw' => er_mv _ rfl (.bool false) rfl) hS ?_
    simp only [Act.put, List.setIfInBounds_toArray, List.set_cons_zero, List.set_cons_succ]
    refine d_skip 3 8 rfl rfl (by kernel_rfl) (by kernel_rfl) (by kernel_rfl) (fun _ _ _ h => h) rfl hS ?_
    simp only [Act.put, List.setIfInBounds_toArray, List.set_cons_zero, List.set_cons_succ]
    refine d_skip 4 9 rfl rfl (by kernel_rfl) (by kernel_rfl) (by kernel_rfl) (fun _ _ _ h => h) rfl hS ?_
    simp only [Act.put, List.setIfInBounds_toArray, List.set_cons_zero, List.set_cons_succ]
    refine d_skip 5 10 rfl rfl (by kernel_rfl) (by kernel_rfl) (by kernel_rfl) (fun _ _ _ h => h) rfl hS ?_
    simp only [Act.put, List.setIfInBounds_toArray, List.set_cons_zero, List.set_cons_succ]
    refine d_skip 6 11 rfl rfl (by kernel_rfl) (by kernel_rfl) (by kernel_rfl) (fun _ _ _ h => h) rfl hS ?_
    simp only [Act.put, List.setIfInBounds_toArray, List.set_cons_zero, List.set_cons_succ]
    refine d_skip 7 12 rfl rfl (by kernel_rfl) (by kernel_rfl) (by kernel_rfl) (fun _ _ _ h => h) rfl hS ?_
    simp only [Act.put, List.setIfInBounds_toArray, List.set_cons_zero, List.set_cons_succ]
    refine d_take 8 13 rfl rfl (by kernel_rfl) (by kernel_rfl) (by kernel_rfl) (fun _ _ _ h => h) rfl (fun w' hw' => er_pk _ _ _ rfl false (.bool false) rfl rfl) hS ?_
    simp only [Act.put, List.setIfInBounds_toArray, List.set_cons_zero, List.set_cons_succ]
    refine d_take 9 4 rfl rfl (by kernel_rfl) (by kernel_rfl) (by kernel_rfl) (fun _ _ _ h => h) rfl (fun w' hw' => er_as _ rfl (.bool false) rfl) hS ?_
    simp only [Act.put, List.setIfInBounds_toArray, List.set_cons_zero, List.set_cons_succ]
    refine wpAnyH_done (by kernel_rfl) ?_ _
    have HF := hid hS
    clear hS
    go_wp2
    go_ret
    exact ⟨by rw [HV.out, decide_eq_false (show ¬ 1 ≤ m by omega), Bool.false_and]; rfl, HF.out⟩

set_option maxHeartbeats 2000000 in
theorem outlet_any {F : Nat → Prop} {a0 a1 a2 : Option Addr} {n0 c0 n1 c1 n c : Nat} {L : List Ch} {ps : List Po} (m : Int) {w : World} (hq : Ls 6 elPo w F a1 n1 c1 ps) (h : Ls 5 elCh w F a2 n c L) (hL : L.length ≤ 17592186043904) :
    Calls Tryz.prog 5 #[.agg #[.slice a0 n0 c0, .slice a1 n1 c1, .slice a2 n c], .int .i64 m] w fun e w' => ∃ va vc, e = .returned (.slice va (numsN (fun c => ownB ps m c.fr) L) vc) ∧ w'.ownsRow w.heap.size 3 1 (.slice va (numsN (fun c => ownB ps m c.fr) L) vc) (numsN (fun c => ownB ps m c.fr) L) ((List.range (numsN (fun c => ownB ps m c.fr) L)).map (fun i => iv (numsV (fun c => ownB ps m c.fr) L i))) ∧ Kept No w w' := by
  have hb0 := alloc_new w (.cells #[.slice a0 n0 c0, .slice a1 n1 c1, .slice a2 n c] 26)
  have K0 : Kept No w (w.alloc (.cells #[.slice a0 n0 c0, .slice a1 n1 c1, .slice a2 n c] 26)) := (Kept.refl No w).alloc _
  have H : Hid (Ls 5 elCh w F a2 n c L ∧ Ls 6 elPo w F a1 n1 c1 ps) := ⟨h, hq⟩
  have hb := nm_le (fun c => ownB ps m c.fr) L L.length
  clear h hq
  go_enter Tryz.func5, Tryz.ntmps5
  go_upto_region 1 with fail
  generalize w.alloc (.cells #[.slice a0 n0 c0, .slice a1 n1 c1, .slice a2 n c] 26) = w1 at *
  obtain ⟨b, hbb⟩ : ∃ b, w.heap.size = b := ⟨_, rfl⟩
  rw [hbb] at hb0 ⊢
  refine wp_region_held_drew (S := fun W => Kept No w W ∧ W.heap[b]? = some (.cells #[.slice a0 n0 c0, .slice a1 n1 c1, .slice a2 n c] 26)) (by kernel_rfl) ⟨K0.drew, hb0⟩ (fun hS => ?_)
  refine d_take 0 5 rfl rfl (by kernel_rfl) (by kernel_rfl) (by kernel_rfl) (fun _ _ _ h => h) rfl (fun w' hw' => er_ldIm _ rfl b #[.slice a0 n0 c0, .slice a1 n1 c1, .slice a2 n c] rfl hw'.2 rfl) hS ?_
  simp only [Act.put, List.setIfInBounds_toArray, List.set_cons_zero, List.set_cons_succ]
  refine d_take 1 6 rfl rfl (by kernel_rfl) (by kernel_rfl) (by kernel_rfl) (fun _ _ _ h => h) rfl (fun w' hw' => er_ldIm _ rfl b #[.slice a0 n0 c0, .slice a1 n1 c1, .slice a2 n c] rfl hw'.2 rfl) hS ?_
  simp only [Act.put, List.setIfInBounds_toArray, List.set_cons_zero, List.set_cons_succ]
  refine d_take 2 7 rfl rfl (by kernel_rfl) (by kernel_rfl) (by kernel_rfl) (fun _ _ _ h => h) rfl (fun w' hw' => er_mv _ rfl (.int .i64 m) rfl) hS ?_
  simp only [Act.put, List.setIfInBounds_toArray, List.set_cons_zero, List.set_cons_succ]
  refine d_callN (fun v W => ∃ lb, v = .func (.func 32) #[] lb ∧ Prd 32 lb (ownB ps m) W) 3 8 (by kernel_rfl) rfl rfl rfl (ec_2 (enters_of Tryz.func19 (by kernel_rfl) rfl) _ _ _ _ rfl (.agg #[.slice a0 n0 c0, .slice a1 n1 c1, .slice a2 n c]) (.int .i64 m) rfl rfl) ((owned_new m _).mono ?_) ?_
  · rintro e w' ⟨rfl, rfl⟩
    have ka : Kept No w1.drew (w1.drew.alloc (.cells #[.slice a0 n0 c0, .slice a1 n1 c1, .slice a2 n c] 26)) := (Kept.refl No _).alloc _
    have kb : Kept No (w1.drew.alloc (.cells #[.slice a0 n0 c0, .slice a1 n1 c1, .slice a2 n c] 26)) ((w1.drew.alloc (.cells #[.slice a0 n0 c0, .slice a1 n1 c1, .slice a2 n c] 26)).alloc (.cells #[.int .i64 m] 3)) := (Kept.refl No _).alloc _
    have kk := ka.trans kb (fun _ h => .inl h)
    have e2 := alloc_new (w1.drew.alloc (.cells #[.slice a0 n0 c0, .slice a1 n1 c1, .slice a2 n c] 26)) (.cells #[.int .i64 m] 3)
    rw [World.size_alloc] at e2
    have kw := hS.1.trans kk (fun _ h => .inl h)
    exact ⟨_, rfl, ⟨kw, kk.at' hS.2 (fun h => h)⟩, _, rfl, owned_prd m (H.out.2.kept kw (fun _ _ h => h) (elPo_kept kw (fun _ _ h => h))) e2 (kb.at' (alloc_new _ _) (fun h => h))⟩
  rintro v2 w2 hS2 ⟨lb, rfl, hp⟩
  simp only [Act.put, List.setIfInBounds_toArray, List.set_cons_zero, List.set_cons_succ]
  refine d_callN (fun v W => ∃ l2, v = .func (.func 57) #[] l2 ∧ GivesN Tryz.prog 57 l2 (el (fun c => ownB ps m c.fr) L) (nm (fun c => ownB ps m c.fr) L L.length).length W) 4 9 (by kernel_rfl) rfl rfl rfl (ec_2 (enters_of Tryz.func18 (by kernel_rfl) rfl) _ _ _ _ rfl (.agg #[.slice a0 n0 c0, .slice a1 n1 c1, .slice a2 n c]) (.func (.func 32) #[] lb) rfl rfl) ((coming_any (enters_of Tryz.func32 (by kernel_rfl) rfl) (H.out.1.kept hS2.1 (fun _ _ h => h) (elCh_kept hS2.1 (fun _ _ h => h))) hp).mono ?_) ?_
  · rintro e w' ⟨l2, rfl, k2, hg⟩
    exact ⟨_, rfl, ⟨hS2.1.trans k2 (fun _ h => .inl h), k2.at' hS2.2 (fun h => h)⟩, l2, rfl, hg⟩
  rintro v3 w3 hS3 ⟨l2, rfl, hg⟩
  simp only [Act.put, List.setIfInBounds_toArray, List.set_cons_zero, List.set_cons_succ]
  refine d_callN (fun v W => ∃ va vc, v = .slice va (numsN (fun c => ownB ps m c.fr) L) vc ∧ W.ownsRow w.heap.size 3 1 (.slice va (numsN (fun c => ownB ps m c.fr) L) vc) (numsN (fun c => ownB ps m c.fr) L) ((List.range (numsN (fun c => ownB ps m c.fr) L)).map (fun i => iv (numsV (fun c => ownB ps m c.fr) L i)))) 5 10 (by kernel_rfl) rfl rfl rfl (ec_1 (enters_of Tryz.func17 (by kernel_rfl) rfl) _ _ rfl (.func (.func 57) #[] l2) rfl) ((all_any enters_those w3 hg (by omega)).mono ?_) ?_
  · rintro e w' ⟨va, vc, rfl, own, k4⟩
    exact ⟨_, rfl, ⟨hS3.1.trans k4 (fun _ h => .inl h), k4.at' hS3.2 (fun h => h)⟩, va, vc, rfl, owns_base own hS3.1.size⟩
  rintro v4 w4 hS4 ⟨va, vc, rfl, own⟩
  simp only [Act.put, List.setIfInBounds_toArray, List.set_cons_zero, List.set_cons_succ]
  refine d_take 6 4 rfl rfl (by kernel_rfl) (by kernel_rfl) (by kernel_rfl) (fun _ _ _ h => h) rfl (fun w' hw' => er_as _ rfl (.slice va (numsN (fun c => ownB ps m c.fr) L) vc) rfl) hS4 ?_
  simp only [Act.put, List.setIfInBounds_toArray, List.set_cons_zero, List.set_cons_succ]
  refine wpAnyH_done (by kernel_rfl) ?_ _
  have HF := hid (show Kept No w w4 from hS4.1)
  have HO := hid own
  clear hS hS2 hS3 hS4 hg hp own
  go_wp2
  go_ret
  exact ⟨va, vc, rfl, HO.out, HF.out⟩

set_option maxHeartbeats 2000000 in
theorem inlet_any {F : Nat → Prop} {a0 a1 a2 : Option Addr} {n0 c0 n1 c1 n c : Nat} {L : List Ch} {ps : List Po} (m : Int) {w : World} (hq : Ls 6 elPo w F a1 n1 c1 ps) (h : Ls 5 elCh w F a2 n c L) (hL : L.length ≤ 17592186043904) :
    Calls Tryz.prog 6 #[.agg #[.slice a0 n0 c0, .slice a1 n1 c1, .slice a2 n c], .int .i64 m] w fun e w' => ∃ va vc, e = .returned (.slice va (numsN (fun c => c.dst.any (ownB ps m)) L) vc) ∧ w'.ownsRow w.heap.size 3 1 (.slice va (numsN (fun c => c.dst.any (ownB ps m)) L) vc) (numsN (fun c => c.dst.any (ownB ps m)) L) ((List.range (numsN (fun c => c.dst.any (ownB ps m)) L)).map (fun i => iv (numsV (fun c => c.dst.any (ownB ps m)) L i))) ∧ Kept No w w' := by
  have hb0 := alloc_new w (.cells #[.slice a0 n0 c0, .slice a1 n1 c1, .slice a2 n c] 26)
  have K0 : Kept No w (w.alloc (.cells #[.slice a0 n0 c0, .slice a1 n1 c1, .slice a2 n c] 26)) := (Kept.refl No w).alloc _
  have H : Hid (Ls 5 elCh w F a2 n c L ∧ Ls 6 elPo w F a1 n1 c1 ps) := ⟨h, hq⟩
  have hb := nm_le (fun c => c.dst.any (ownB ps m)) L L.length
  clear h hq
  go_enter Tryz.func6, Tryz.ntmps6
  go_upto_region 1 with fail
  generalize w.alloc (.cells #[.slice a0 n0 c0, .slice a1 n1 c1, .slice a2 n c] 26) = w1 at *
  obtain ⟨b, hbb⟩ : ∃ b, w.heap.size = b := ⟨_, rfl⟩
  rw [hbb] at hb0 ⊢
  refine wp_region_held_drew (S := fun W => Kept No w W ∧ W.heap[b]? = some (.cells #[.slice a0 n0 c0, .slice a1 n1 c1, .slice a2 n c] 26)) (by kernel_rfl) ⟨K0.drew, hb0⟩ (fun hS => ?_)
  refine d_take 0 5 rfl rfl (by kernel_rfl) (by kernel_rfl) (by kernel_rfl) (fun _ _ _ h => h) rfl (fun w' hw' => er_ldIm _ rfl b #[.slice a0 n0 c0, .slice a1 n1 c1, .slice a2 n c] rfl hw'.2 rfl) hS ?_
  simp only [Act.put, List.setIfInBounds_toArray, List.set_cons_zero, List.set_cons_succ]
  refine d_take 1 6 rfl rfl (by kernel_rfl) (by kernel_rfl) (by kernel_rfl) (fun _ _ _ h => h) rfl (fun w' hw' => er_ldIm _ rfl b #[.slice a0 n0 c0, .slice a1 n1 c1, .slice a2 n c] rfl hw'.2 rfl) hS ?_
  simp only [Act.put, List.setIfInBounds_toArray, List.set_cons_zero, List.set_cons_succ]
  refine d_take 2 7 rfl rfl (by kernel_rfl) (by kernel_rfl) (by kernel_rfl) (fun _ _ _ h => h) rfl (fun w' hw' => er_mv _ rfl (.int .i64 m) rfl) hS ?_
  simp only [Act.put, List.setIfInBounds_toArray, List.set_cons_zero, List.set_cons_succ]
  refine d_callN (fun v W => ∃ lb, v = .func (.func 32) #[] lb ∧ Prd 32 lb (ownB ps m) W) 3 8 (by kernel_rfl) rfl rfl rfl (ec_2 (enters_of Tryz.func19 (by kernel_rfl) rfl) _ _ _ _ rfl (.agg #[.slice a0 n0 c0, .slice a1 n1 c1, .slice a2 n c]) (.int .i64 m) rfl rfl) ((owned_new m _).mono ?_) ?_
  · rintro e w' ⟨rfl, rfl⟩
    have ka : Kept No w1.drew (w1.drew.alloc (.cells #[.slice a0 n0 c0, .slice a1 n1 c1, .slice a2 n c] 26)) := (Kept.refl No _).alloc _
    have kb : Kept No (w1.drew.alloc (.cells #[.slice a0 n0 c0, .slice a1 n1 c1, .slice a2 n c] 26)) ((w1.drew.alloc (.cells #[.slice a0 n0 c0, .slice a1 n1 c1, .slice a2 n c] 26)).alloc (.cells #[.int .i64 m] 3)) := (Kept.refl No _).alloc _
    have kk := ka.trans kb (fun _ h => .inl h)
    have e2 := alloc_new (w1.drew.alloc (.cells #[.slice a0 n0 c0, .slice a1 n1 c1, .slice a2 n c] 26)) (.cells #[.int .i64 m] 3)
    rw [World.size_alloc] at e2
    have kw := hS.1.trans kk (fun _ h => .inl h)
    exact ⟨_, rfl, ⟨kw, kk.at' hS.2 (fun h => h)⟩, _, rfl, owned_prd m (H.out.2.kept kw (fun _ _ h => h) (elPo_kept kw (fun _ _ h => h))) e2 (kb.at' (alloc_new _ _) (fun h => h))⟩
  rintro v2 w2 hS2 ⟨lb, rfl, hp⟩
  simp only [Act.put, List.setIfInBounds_toArray, List.set_cons_zero, List.set_cons_succ]
  refine d_callN (fun v W => ∃ l2, v = .func (.func 57) #[] l2 ∧ GivesN Tryz.prog 57 l2 (el (fun c => c.dst.any (ownB ps m)) L) (nm (fun c => c.dst.any (ownB ps m)) L L.length).length W) 4 9 (by kernel_rfl) rfl rfl rfl (ec_2 (enters_of Tryz.func20 (by kernel_rfl) rfl) _ _ _ _ rfl (.agg #[.slice a0 n0 c0, .slice a1 n1 c1, .slice a2 n c]) (.func (.func 32) #[] lb) rfl rfl) ((going_any (enters_of Tryz.func32 (by kernel_rfl) rfl) (H.out.1.kept hS2.1 (fun _ _ h => h) (elCh_kept hS2.1 (fun _ _ h => h))) hp).mono ?_) ?_
  · rintro e w' ⟨l2, rfl, k2, hg⟩
    exact ⟨_, rfl, ⟨hS2.1.trans k2 (fun _ h => .inl h), k2.at' hS2.2 (fun h => h)⟩, l2, rfl, hg⟩
  rintro v3 w3 hS3 ⟨l2, rfl, hg⟩
  simp only [Act.put, List.setIfInBounds_toArray, List.set_cons_zero, List.set_cons_succ]
  refine d_callN (fun v W => ∃ va vc, v = .slice va (numsN (fun c => c.dst.any (ownB ps m)) L) vc ∧ W.ownsRow w.heap.size 3 1 (.slice va (numsN (fun c => c.dst.any (ownB ps m)) L) vc) (numsN (fun c => c.dst.any (ownB ps m)) L) ((List.range (numsN (fun c => c.dst.any (ownB ps m)) L)).map (fun i => iv (numsV (fun c => c.dst.any (ownB ps m)) L i)))) 5 10 (by kernel_rfl) rfl rfl rfl (ec_1 (enters_of Tryz.func17 (by kernel_rfl) rfl) _ _ rfl (.func (.func 57) #[] l2) rfl) ((all_any enters_those w3 hg (by omega)).mono ?_) ?_
  · rintro e w' ⟨va, vc, rfl, own, k4⟩
    exact ⟨_, rfl, ⟨hS3.1.trans k4 (fun _ h => .inl h), k4.at' hS3.2 (fun h => h)⟩, va, vc, rfl, owns_base own hS3.1.size⟩
  rintro v4 w4 hS4 ⟨va, vc, rfl, own⟩
  simp only [Act.put, List.setIfInBounds_toArray, List.set_cons_zero, List.set_cons_succ]
  refine d_take 6 4 rfl rfl (by kernel_rfl) (by kernel_rfl) (by kernel_rfl) (fun _ _ _ h => h) rfl (fun w' hw' => er_as _ rfl (.slice va (numsN (fun c => c.dst.any (ownB ps m)) L) vc) rfl) hS4 ?_
  simp only [Act.put, List.setIfInBounds_toArray, List.set_cons_zero, List.set_cons_succ]
  refine wpAnyH_done (by kernel_rfl) ?_ _
  have HF := hid (show Kept No w w4 from hS4.1)
  have HO := hid own
  clear hS hS2 hS3 hS4 hg hp own
  go_wp2
  go_ret
  exact ⟨va, vc, rfl, HO.out, HF.out⟩
end Go.Proofs.YtfjaajjljmbmbaaGreatDoor
