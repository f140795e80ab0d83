/-
  The document's Differ and SameAll: of any two lists of events.
-/
import Derived.Test.YtjhhldgbllbbhaaGreatDoorVSm
namespace Go.Proofs.YtjhhldgbllbbhaaGreatDoor
open Go.RowKit
set_option linter.unusedVariables false
set_option linter.unusedSimpArgs false
set_option maxRecDepth 100000

section
variable {w : World} {a : Act} {o : Oper}
theorem er_cSame (x y : Operand) (t s : TypeId) (ho : o.op = .call { callee := .value (.func 9), args := #[x, y], argTypes := #[t, s] }) (u v : Value) (hx : a.eval x = u) (hy : a.eval y = v) : (execOp a.eval o).run Tryz.prog w = .ok (.enter 9 #[u, v]) w := by
  subst hx hy
  simp [execOp, ho, go_sem, Act.eval]
end

set_option maxHeartbeats 4000000 in
theorem rdiffer_any {F G : Nat → Prop} {a b : Option Addr} {n m c d : Nat} {xs ys : List Ev} (w : World) (hl : Il w F a n c xs) (hm : Il w G b m d ys) :
    Calls Tryz.prog 30 #[.slice a n c, .slice b m d] w fun r w' => r = .returned (.int .i64 (difV xs ys)) ∧ Kept No w w' := by
  have hlc := hl.cap
  have hlm := hl.max
  have hmc := hm.cap
  have hmm := hm.max
  have hlen := hl.len
  have hlem := hm.len
  have HH := hid (And.intro hl hm)
  clear hl hm
  go_enter Tryz.func30, Tryz.ntmps30
  go_wp2
  go_loopw [5] (fun u5 wr => ∃ (k : Nat), k ≤ n ∧ k ≤ m ∧ u5 = .int .i64 k ∧ (∀ i, i < k → xs[i]? = ys[i]?) ∧ Kept No w wr) (fun u5 _ => n - (intOf u5).toNat)
  case atStart => exact ⟨0, by omega, by omega, rfl, fun i hi => by omega, Kept.refl _ _⟩
  case round =>
    obtain ⟨k, hk, hk2, rfl, hs, kr⟩ := hrel
    have HS := hid hs
    clear hs
    by_cases hlt : k < n ∧ k < m
    · obtain ⟨hl1, hl2⟩ := hlt
      have hltz : (k : Int) < (n : Int) := by omega
      have hltm : (k : Int) < (m : Int) := by omega
      obtain ⟨x, hx⟩ : ∃ x, xs[k]? = some x := ⟨_, List.getElem?_eq_getElem (by omega)⟩
      obtain ⟨y, hy⟩ : ∃ y, ys[k]? = some y := ⟨_, List.getElem?_eq_getElem (by omega)⟩
      obtain ⟨b1, o1, da, dc, rfl, _, c1, ir1⟩ := HH.out.1.at' k x hx
      obtain ⟨b2, o2, ea, ec, rfl, _, c2, ir2⟩ := HH.out.2.at' k y hy
      have LX : Hid (∀ W, Kept No w W → (Instr.loadAt 25 (.pointer (some ⟨b1, o1 + k * 7, none⟩))).run Tryz.prog W = .ok (.agg (x.val da dc)) W) := fun W q => ldI (fun j v hv => q.cell (c1 j v hv) (fun e => e))
      have LY : Hid (∀ W, Kept No w W → (Instr.loadAt 25 (.pointer (some ⟨b2, o2 + k * 7, none⟩))).run Tryz.prog W = .ok (.agg (y.val ea ec)) W) := fun W q => ldI (fun j v hv => q.cell (c2 j v hv) (fun e => e))
      have CS : Hid (∀ W, Kept No w W → Calls Tryz.prog 9 #[.agg (x.val da dc), .agg (y.val ea ec)] W fun e w'' => e = .returned (.bool (decide (x = y))) ∧ Kept No w w'') := fun W q => (sameE_any W (ir1.keep q) (ir2.keep q)).mono (fun r w'' h => ⟨h.1, q.trans h.2 (fun _ e => e.elim)⟩)
      have KR := hid kr
      have HXY := hid (And.intro hx hy)
      clear kr c1 c2 ir1 ir2 hx hy
      go_upto_region 4 with fail
      refine wp_region_held_drew (S := fun W => Kept No w W) (by kernel_rfl) (KR.out.drew) (fun hS => ?_)
      refine d_take 0 18 rfl rfl (by kernel_rfl) (by kernel_rfl) (by kernel_rfl) (fun _ _ _ h => h) rfl (fun w' hw' => er_mv _ rfl (.slice (some ⟨b1, o1, none⟩) n c) rfl) hS ?_
      simp only [Act.put, List.setIfInBounds_toArray, List.set_cons_zero, List.set_cons_succ]
      refine d_take 1 19 rfl rfl (by kernel_rfl) (by kernel_rfl) (by kernel_rfl) (fun _ _ _ h => h) rfl (fun w' hw' => er_mv _ rfl (.int .i64 (k : Int)) rfl) hS ?_
      simp only [Act.put, List.setIfInBounds_toArray, List.set_cons_zero, List.set_cons_succ]
      refine d_take 2 20 rfl rfl (by kernel_rfl) (by kernel_rfl) (by kernel_rfl) (fun _ _ _ h => h) rfl (fun w' hw' => er_ixN _ _ rfl b1 o1 k n c rfl rfl (by omega)) hS ?_
      simp only [Act.put, List.setIfInBounds_toArray, List.set_cons_zero, List.set_cons_succ]
      refine d_take 3 21 rfl rfl (by kernel_rfl) (by kernel_rfl) (by kernel_rfl) (fun _ _ _ h => h) rfl (fun w' hw' => er_ldX 25 _ rfl (.pointer (some ⟨b1, o1 + k * 7, none⟩)) (.agg (x.val da dc)) rfl (LX.out w' hw')) hS ?_
      simp only [Act.put, List.setIfInBounds_toArray, List.set_cons_zero, List.set_cons_succ]
      refine d_take 4 22 rfl rfl (by kernel_rfl) (by kernel_rfl) (by kernel_rfl) (fun _ _ _ h => h) rfl (fun w' hw' => er_mv _ rfl (.slice (some ⟨b2, o2, none⟩) m d) rfl) hS ?_
      simp only [Act.put, List.setIfInBounds_toArray, List.set_cons_zero, List.set_cons_succ]
      refine d_take 5 23 rfl rfl (by kernel_rfl) (by kernel_rfl) (by kernel_rfl) (fun _ _ _ h => h) rfl (fun w' hw' => er_mv _ rfl (.int .i64 (k : Int)) rfl) hS ?_
      simp only [Act.put, List.setIfInBounds_toArray, List.set_cons_zero, List.set_cons_succ]
      refine d_take 6 24 rfl rfl (by kernel_rfl) (by kernel_rfl) (by kernel_rfl) (fun _ _ _ h => h) rfl (fun w' hw' => er_ixN _ _ rfl b2 o2 k m d rfl rfl (by omega)) hS ?_
      simp only [Act.put, List.setIfInBounds_toArray, List.set_cons_zero, List.set_cons_succ]
      refine d_take 7 25 rfl rfl (by kernel_rfl) (by kernel_rfl) (by kernel_rfl) (fun _ _ _ h => h) rfl (fun w' hw' => er_ldX 25 _ rfl (.pointer (some ⟨b2, o2 + k * 7, none⟩)) (.agg (y.val ea ec)) rfl (LY.out w' hw')) hS ?_
      simp only [Act.put, List.setIfInBounds_toArray, List.set_cons_zero, List.set_cons_succ]
      refine d_call 8 26 (by kernel_rfl) rfl rfl rfl (er_cSame _ _ _ _ rfl (.agg (x.val da dc)) (.agg (y.val ea ec)) rfl rfl) (CS.out _ hS) (fun w' hS => ?_)
      simp only [Act.put, List.setIfInBounds_toArray, List.set_cons_zero, List.set_cons_succ]
      refine d_take 9 27 rfl rfl (by kernel_rfl) (by kernel_rfl) (by kernel_rfl) (fun _ _ _ h => h) rfl (fun w' hw' => er_not _ rfl (decide (x = y)) rfl) hS ?_
      simp only [Act.put, List.setIfInBounds_toArray, List.set_cons_zero, List.set_cons_succ]
      refine wpAnyH_done (by kernel_rfl) ?_ _
      have KD := hid hS
      clear hS
      by_cases he : x = y
      · rw [decide_eq_true he]
        go_wp2
        refine ⟨⟨k + 1, by omega, by omega, by go_num, fun i hi => ?_, KD.out⟩, ?_⟩
        · by_cases e : i = k
          · subst e; rw [HXY.out.1, HXY.out.2, he]
          · exact HS.out i (by omega)
        · simp [intOf]; omega
      · rw [decide_eq_false he]
        have hv : difV xs ys = (k : Int) := by unfold difV; rw [(dif_at HS.out (by omega) (by omega)).1 x y HXY.out.1 HXY.out.2 he]
        go_wp2
        go_ret
        exact ⟨by first | (rw [hv]; rfl) | rfl | (rw [hv]) | simp [hv], KD.out⟩
    · have KR := hid kr
      clear kr
      by_cases h1 : k < n
      · have hkm : k = m := by omega
        subst hkm
        have hltz : (k : Int) < (n : Int) := by omega
        have hltm : ¬ (k : Int) < (k : Int) := by omega
        have hnk : ¬ (n : Int) < (k : Int) := by omega
        have hv : difV xs ys = (k : Int) := by unfold difV; rw [(dif_at HS.out (by omega) (by omega)).2.2.1 (by omega) (by omega)]
        clear hlt
        go_wp2
        go_ret
        exact ⟨by first | (rw [hv]; rfl) | rfl | (rw [hv]) | simp [hv], KR.out⟩
      · have hkn : k = n := by omega
        subst hkn
        have hltz : ¬ (k : Int) < (k : Int) := by omega
        by_cases h2 : k < m
        · have hltm : (k : Int) < (m : Int) := by omega
          have hv : difV xs ys = (k : Int) := by unfold difV; rw [(dif_at HS.out (by omega) (by omega)).2.1 (by omega) (by omega)]
          clear hlt
          go_wp2
          go_ret
          exact ⟨by first | (rw [hv]; rfl) | rfl | (rw [hv]) | simp [hv], KR.out⟩
        · have hkm : k = m := by omega
          subst hkm
          have hv : difV xs ys = -1 := by unfold difV; rw [(dif_at HS.out (by omega) (by omega)).2.2.2 (by omega) (by omega)]
          clear hlt
          go_wp2
          go_ret
          exact ⟨by first | (rw [hv]; rfl) | rfl | (rw [hv]) | simp [hv], KR.out⟩

set_option maxHeartbeats 4000000 in
theorem sameAll_any {F G : Nat → Prop} {a b : Option Addr} {n m c d : Nat} {xs ys : List Ev} (w : World) (hl : Il w F a n c xs) (hm : Il w G b m d ys) :
    Calls Tryz.prog 12 #[.slice a n c, .slice b m d] w fun r w' => r = .returned (.bool (decide (xs = ys))) ∧ Kept No w w' := by
  have CD := rdiffer_any w hl hm
  clear hl hm
  have hd : (difV xs ys == -1) = decide (xs = ys) := by
    by_cases e : xs = ys
    · rw [decide_eq_true e, difV_none.2 e]; rfl
    · rw [decide_eq_false e]
      have : ¬ difV xs ys = -1 := fun h => e (difV_none.1 h)
      simp [this]
  rw [← hd]
  clear hd
  generalize difV xs ys = v at CD ⊢
  go_enter Tryz.func12, Tryz.ntmps12
  go_wp2_with (go_at_call 30; refine CD.mono ?_; rintro ex w1 ⟨rfl, k1⟩; have K1 := hid k1; clear k1 CD)
  go_ret
  exact ⟨rfl, K1.out⟩
end Go.Proofs.YtjhhldgbllbbhaaGreatDoor
