/-
  One text: RJobs, CFSm, CFBf.
-/
import Derived.Test.YtknobeiggmghoaaGreatDoorG13
import Derived.Test.YtknobeiggmghoaaGreatDoorG15
import Derived.Test.YtknobeiggmghoaaGreatDoorCFind
namespace Go.Proofs.YtknobeiggmghoaaGreatDoor
open Go.RowKit
set_option linter.unusedVariables false
set_option linter.unusedSimpArgs false
set_option maxRecDepth 100000

def job1 (x : Prc) : Bool := x.auto && (x.pe != 0 && (x.li != 0 && x.ca != 0))
def hjB (xs : List Prc) : Nat → Bool
  | 0 => true
  | n + 1 => hjB xs n && (job1 (xs.getD n dPrc) && !((xs.take n).any (fun o => o.pr == (xs.getD n dPrc).pr)))
theorem hjB_less {xs : List Prc} {k : Nat} (h : hjB xs (k + 1) = false) : ∀ m, hjB xs (k + 1 + m) = false
  | 0 => h
  | m + 1 => by show (hjB xs (k + 1 + m) && _) = false; rw [hjB_less h m]; rfl
theorem hjB_no {xs : List Prc} {k n : Nat} (hk : k < n) (h : hjB xs (k + 1) = false) : hjB xs n = false := by
  have := hjB_less h (n - (k + 1))
  rw [show k + 1 + (n - (k + 1)) = n by omega] at this
  exact this
theorem lsPrc_take {w : World} {F : Nat → Prop} {a : Option Addr} {n c : Nat} {xs : List Prc} (h : Ls 6 elPrc w F a n c xs) (k : Nat) (hk : k ≤ n) : Ls 6 elPrc w F a k c (xs.take k) :=
  ⟨by rw [List.length_take, h.len]; omega, by have := h.cap; omega, h.max, h.nil, fun i x hx => h.at' i x (by
    rw [List.getElem?_take] at hx; split at hx; exact hx; cases hx)⟩
set_option maxHeartbeats 4000000 in
theorem jobs1_any (v0 v2 v3 v4 v5 : Value) (z pr : Int) (g : Nat) (W : World) (hc : W.cell? ⟨g, 1, none⟩ = some (.int .i64 pr)) :
    Calls Tryz.prog 57 #[.agg #[v0, .int .i64 z, v2, v3, v4, v5], .pointer (some ⟨g, 0, none⟩)] W fun e W' => e = .returned (.bool (z == pr)) ∧ Kept No W W' := by
  have HK : Hid (Kept No W (W.alloc (.cells #[v0, .int .i64 z, v2, v3, v4, v5] 47))) := (Kept.refl No W).alloc _
  have c1 := HK.out.cell hc (fun h => h)
  have e1 : (W.alloc (.cells #[v0, .int .i64 z, v2, v3, v4, v5] 47)).cell? ⟨W.heap.size, 1, none⟩ = some (.int .i64 z) := by simp
  go_enter Tryz.func57, Tryz.ntmps57
  go_wp2
  go_ret
  exact ⟨by by_cases h : z = pr <;> simp [h], HK.out⟩

set_option maxHeartbeats 8000000 in
theorem haveJobs_any (F : Nat → Prop) (a : Option Addr) (n c : Nat) (xs : List Prc) (w : World) (h : Ls 6 elPrc w F a n c xs) :
    Calls Tryz.prog 26 #[.slice a n c] w fun e w' => e = .returned (.bool (hjB xs n)) ∧ Kept No w w' := by
  have H : Hid (Ls 6 elPrc w F a n c xs) := h
  have hlen := h.len
  have hmax := h.max
  have hcap := h.cap
  have hen : Enters Tryz.prog 57 := enters_of Tryz.func57 (by kernel_rfl) rfl
  unfold Enters at hen
  clear h
  go_enter Tryz.func26, Tryz.ntmps26
  go_wp2
  go_loopw [7] (fun x wr => ∃ k : Nat, k ≤ n ∧ x = .int .i64 k ∧ Kept No w wr ∧ hjB xs k = true) (fun x _ => n - (intOf x).toNat)
  case atStart => exact ⟨0, by omega, rfl, Kept.refl _ _, rfl⟩
  case round =>
    obtain ⟨k, hk, rfl, hkr, hj⟩ := hrel
    by_cases hlt : k < n
    · have hx : xs[k]? = some (xs.getD k dPrc) := by rw [List.getD, List.getElem?_eq_getElem (by rw [hlen]; exact hlt)]; rfl
      obtain ⟨b, o, cs, rfl, hb, hl, hr, he, hok⟩ := H.out.at' k _ hx
      have HJ : Hid (hjB xs (k + 1) = (job1 (xs.getD k dPrc) && !((xs.take k).any (fun o => o.pr == (xs.getD k dPrc).pr)))) := by
        show (hjB xs k && _) = _
        rw [hj]; rfl
      have HLT : Hid (Ls 6 elPrc w F (some ⟨b, o, none⟩) k c (xs.take k)) := lsPrc_take H.out k hk
      generalize xs.getD k dPrc = y at *
      have h1 : ∀ v ∈ cs, v.oneCell' = true := by
        rw [he]
        simp [Value.oneCell']
      generalize wr = wo at *
      obtain ⟨w2, hst, hrg, hk2⟩ := box_Prc wo cs hl h1
      have HLD : Hid ((Instr.loadAt 47 (.pointer (some ⟨b, o + k * 6, none⟩))).run Tryz.prog wo = .ok (.agg cs.toArray) wo) := run_loadAt_mid wo b (o + k * 6) _ cs _ (rangeAt_kept hr hkr (fun h => h)) Tryz.underlying47 rfl (by rw [hl]; exact sizeEPrc)
      have HST : Hid ((Instr.storeAt 47 (.pointer (some ⟨wo.heap.size, 0, none⟩)) (.agg cs.toArray)).run Tryz.prog (wo.alloc (.cells #[.int .i64 0, .int .i64 0, .int .i64 0, .int .i64 0, .int .i64 0, .bool false] 47)) = .ok () w2) := hst
      rw [he] at hrg
      have r1 := hrg 1 _ rfl
      have r2 := hrg 2 _ rfl
      have r3 := hrg 3 _ rfl
      have r4 := hrg 4 _ rfl
      have r5 := hrg 5 _ rfl
      simp only [Nat.zero_add] at r1 r2 r3 r4 r5
      have HKK : Hid (Kept No w w2) := hkr.trans hk2 (fun _ h => h.elim)
      have hn' : n ≤ 9223372036854775807 := by omega
      clear hkr hr hl h1 hst hrg hk2 hx hb he hok
      generalize Value.agg cs.toArray = av at *
      go_upto_region 3 with fail
      refine wp_region_lit ?_
      refine l_take 9 rfl rfl (er_mv _ rfl (.int .i64 k) rfl) ?_
      simp only [Act.put, List.setIfInBounds_toArray, List.set_cons_zero, List.set_cons_succ]
      refine l_take 10 rfl rfl (er_idxPrc _ _ rfl b o n c k hlt hn' rfl rfl) ?_
      simp only [Act.put, List.setIfInBounds_toArray, List.set_cons_zero, List.set_cons_succ]
      refine l_take 11 rfl rfl (er_ld _ _ rfl _ _ rfl HLD.out) ?_
      simp only [Act.put, List.setIfInBounds_toArray, List.set_cons_zero, List.set_cons_succ]
      refine l_make 4 rfl rfl (er_alPrc rfl) ?_
      simp only [Act.put, List.setIfInBounds_toArray, List.set_cons_zero, List.set_cons_succ]
      refine l_take 3 rfl rfl (er_as _ rfl (.int .i64 k) rfl) ?_
      simp only [Act.put, List.setIfInBounds_toArray, List.set_cons_zero, List.set_cons_succ]
      refine l_turn rfl rfl (er_st _ _ _ rfl _ _ rfl rfl HST.out) ?_
      clear HST HLD
      have r1h : Hid (w2.cell? ⟨wo.heap.size, 1, none⟩ = some (.int .i64 y.pr)) := r1
      have fin0 : job1 y = false → Hid (hjB xs n = false) := fun hf => hjB_no hlt (by rw [HJ.out, hf]; rfl)
      obtain ⟨ye, yp, yt, yl, yc, ya⟩ := y
      simp only at *
      cases ya with
      | false =>
        have HF := fin0 rfl
        clear fin0
        go_wp2
        go_ret
        exact ⟨by rw [HF.out]; rfl, HKK.out⟩
      | true =>
        by_cases z2 : yt = 0
        · subst z2
          have HF := fin0 rfl
          clear fin0
          go_wp2
          go_ret
          exact ⟨by rw [HF.out]; rfl, HKK.out⟩
        by_cases z3 : yl = 0
        · subst z3
          have HF := fin0 (by simp [job1])
          clear fin0
          go_wp2
          go_ret
          exact ⟨by rw [HF.out]; rfl, HKK.out⟩
        by_cases z4 : yc = 0
        · subst z4
          have HF := fin0 (by simp [job1])
          clear fin0
          go_wp2
          go_ret
          exact ⟨by rw [HF.out]; rfl, HKK.out⟩
        clear fin0
        have y2 : (yt == 0) = false := by simpa using z2
        have y3 : (yl == 0) = false := by simpa using z3
        have y4 : (yc == 0) = false := by simpa using z4
        have hJ1 : job1 ⟨ye, yp, yt, yl, yc, true⟩ = true := by simp [job1, z2, z3, z4]
        have hH := HJ.out
        rw [hJ1] at hH
        have cc := containsP_any (p := fun o => o.pr == yp) hen w2 (lb := #[.pointer (some ⟨wo.heap.size, 0, none⟩)]) (fun W x hx K => jobs1_any _ _ _ _ _ x.pr yp wo.heap.size W (K.cell r1h.out (fun h => h))) (HLT.out.kept HKK.out (fun _ _ h => h) (elPrc_kept HKK.out (fun _ _ h => h)))
        have hkc : (k : Int) ≤ c := by omega
        cases hq : (xs.take k).any (fun o => o.pr == yp) with
        | true =>
          rw [hq] at cc hH
          have HF : Hid (hjB xs n = false) := hjB_no hlt (by rw [hH]; rfl)
          clear hH HJ
          go_wp2_with (go_at_call 56; refine cc.mono ?_; rintro e w5 ⟨rfl, k5⟩)
          go_ret
          exact ⟨by rw [HF.out]; rfl, HKK.out.trans k5 (fun _ h => h.elim)⟩
        | false =>
          rw [hq] at cc hH
          have HF : Hid (hjB xs (k + 1) = true) := by rw [hH]; rfl
          clear hH HJ
          go_wp2_with (go_at_call 56; refine cc.mono ?_; rintro e w5 ⟨rfl, k5⟩)
          go_roundw
          case rel => exact ⟨k + 1, by omega, by go_num, HKK.out.trans k5 (fun _ h => h.elim), HF.out⟩
          case measure => simp [intOf]; omega
    · have hke : k = n := by omega
      subst hke
      go_wp2
      go_ret
      exact ⟨by rw [hj]; rfl, hkr⟩
end Go.Proofs.YtknobeiggmghoaaGreatDoor

namespace Go.Proofs.YtknobeiggmghoaaGreatDoor
open Go.RowKit
set_option linter.unusedVariables false
set_option maxRecDepth 100000

set_option maxHeartbeats 4000000 in
theorem findsSm_alone_true (err : Int) (k : Nat) (caps : Array Value) (v0 v1 : Value) (aa : Option Addr) (an ac : Nat) (w : World) (hen : Enters Tryz.prog k)
    (hc : ∀ w', Kept No w w' → Calls Tryz.prog k (#[(.agg #[v0, v1])] ++ caps) w' fun e w'' => e = .returned (.bool true) ∧ Kept No w' w'') :
    Calls Tryz.prog 148 #[.agg #[.int .i64 err, .func (.func k) #[] caps, .nilFunc, .nilFunc], (.agg #[v0, v1]), .slice aa an ac] w fun e w' => e = .returned (.int .i64 0) ∧ Kept No w w' := by
  have HK : Hid (Kept No w ((w.alloc (.cells #[.int .i64 err, .func (.func k) #[] caps, .nilFunc, .nilFunc] 224)).alloc (.cells #[v0, v1] 145))) := ((Kept.refl No w).alloc _).alloc _
  have hc1 := hc _ HK.out
  have HM : Hid (∀ w', Kept No ((w.alloc (.cells #[.int .i64 err, .func (.func k) #[] caps, .nilFunc, .nilFunc] 224)).alloc (.cells #[v0, v1] 145)) w' → w'.cell? ⟨w.heap.size, 0, none⟩ = some (.int .i64 err) ∧ w'.cell? ⟨w.heap.size, 1, none⟩ = some (.func (.func k) #[] caps) ∧ w'.cell? ⟨w.heap.size, 2, none⟩ = some (.nilFunc) ∧ w'.cell? ⟨w.heap.size, 3, none⟩ = some (.nilFunc)) := fun w' k => ⟨k.cell (by simp) (fun h => h), k.cell (by simp) (fun h => h), k.cell (by simp) (fun h => h), k.cell (by simp) (fun h => h)⟩
  clear hc
  unfold Enters at hen
  have q1 : ∀ w : World, (binOp .neq 220 (.func (.func k) #[] caps) .nilFunc).run Tryz.prog w = .ok (.bool true) w := fun w => by kernel_rfl
  have q2 : ∀ w : World, (binOp .neq 221 (.nilFunc) .nilFunc).run Tryz.prog w = .ok (.bool false) w := fun w => by kernel_rfl
  have q3 : ∀ w : World, (binOp .neq 222 .nilFunc .nilFunc).run Tryz.prog w = .ok (.bool false) w := fun w => by kernel_rfl
  go_enter Tryz.func148, Tryz.ntmps148
  go_wp2_with (go_at_fn k; refine hc1.mono ?_; rintro e w' ⟨rfl, hk⟩; have HK2 : Hid (Kept No w w') := HK.out.trans hk (fun _ h => h.elim); obtain ⟨m0, m1, m2, m3⟩ := HM.out _ hk; clear hk)
  go_ret
  exact ⟨rfl, HK2.out⟩

set_option maxHeartbeats 4000000 in
theorem findsSm_alone_false (err : Int) (k : Nat) (caps : Array Value) (v0 v1 : Value) (aa : Option Addr) (an ac : Nat) (w : World) (hen : Enters Tryz.prog k)
    (hc : ∀ w', Kept No w w' → Calls Tryz.prog k (#[(.agg #[v0, v1])] ++ caps) w' fun e w'' => e = .returned (.bool false) ∧ Kept No w' w'') :
    Calls Tryz.prog 148 #[.agg #[.int .i64 err, .func (.func k) #[] caps, .nilFunc, .nilFunc], (.agg #[v0, v1]), .slice aa an ac] w fun e w' => e = .returned (.int .i64 err) ∧ Kept No w w' := by
  have HK : Hid (Kept No w ((w.alloc (.cells #[.int .i64 err, .func (.func k) #[] caps, .nilFunc, .nilFunc] 224)).alloc (.cells #[v0, v1] 145))) := ((Kept.refl No w).alloc _).alloc _
  have hc1 := hc _ HK.out
  have HM : Hid (∀ w', Kept No ((w.alloc (.cells #[.int .i64 err, .func (.func k) #[] caps, .nilFunc, .nilFunc] 224)).alloc (.cells #[v0, v1] 145)) w' → w'.cell? ⟨w.heap.size, 0, none⟩ = some (.int .i64 err) ∧ w'.cell? ⟨w.heap.size, 1, none⟩ = some (.func (.func k) #[] caps) ∧ w'.cell? ⟨w.heap.size, 2, none⟩ = some (.nilFunc) ∧ w'.cell? ⟨w.heap.size, 3, none⟩ = some (.nilFunc)) := fun w' k => ⟨k.cell (by simp) (fun h => h), k.cell (by simp) (fun h => h), k.cell (by simp) (fun h => h), k.cell (by simp) (fun h => h)⟩
  clear hc
  unfold Enters at hen
  have q1 : ∀ w : World, (binOp .neq 220 (.func (.func k) #[] caps) .nilFunc).run Tryz.prog w = .ok (.bool true) w := fun w => by kernel_rfl
  have q2 : ∀ w : World, (binOp .neq 221 (.nilFunc) .nilFunc).run Tryz.prog w = .ok (.bool false) w := fun w => by kernel_rfl
  have q3 : ∀ w : World, (binOp .neq 222 .nilFunc .nilFunc).run Tryz.prog w = .ok (.bool false) w := fun w => by kernel_rfl
  go_enter Tryz.func148, Tryz.ntmps148
  go_wp2_with (go_at_fn k; refine hc1.mono ?_; rintro e w' ⟨rfl, hk⟩; have HK2 : Hid (Kept No w w') := HK.out.trans hk (fun _ h => h.elim); obtain ⟨m0, m1, m2, m3⟩ := HM.out _ hk; clear hk)
  go_ret
  exact ⟨rfl, HK2.out⟩

theorem findsSm_alone (err : Int) (k : Nat) (caps : Array Value) (v0 v1 : Value) (aa : Option Addr) (an ac : Nat) (w : World) (hen : Enters Tryz.prog k) (b : Bool)
    (hc : ∀ w', Kept No w w' → Calls Tryz.prog k (#[(.agg #[v0, v1])] ++ caps) w' fun e w'' => e = .returned (.bool b) ∧ Kept No w' w'') :
    Calls Tryz.prog 148 #[.agg #[.int .i64 err, .func (.func k) #[] caps, .nilFunc, .nilFunc], (.agg #[v0, v1]), .slice aa an ac] w fun e w' => e = .returned (.int .i64 (if b then 0 else err)) ∧ Kept No w w' := by
  cases b
  · exact findsSm_alone_false err k caps v0 v1 aa an ac w hen hc
  · exact findsSm_alone_true err k caps v0 v1 aa an ac w hen hc

set_option maxHeartbeats 4000000 in
theorem findsSm_behind_true (err : Int) (k : Nat) (caps : Array Value) (v0 v1 : Value) (aa : Option Addr) (an ac : Nat) (w : World) (hen : Enters Tryz.prog k)
    (hc : ∀ w', Kept No w w' → Calls Tryz.prog k (#[(.agg #[v0, v1]), .slice aa an ac] ++ caps) w' fun e w'' => e = .returned (.bool true) ∧ Kept No w' w'') :
    Calls Tryz.prog 148 #[.agg #[.int .i64 err, .nilFunc, .func (.func k) #[] caps, .nilFunc], (.agg #[v0, v1]), .slice aa an ac] w fun e w' => e = .returned (.int .i64 0) ∧ Kept No w w' := by
  have HK : Hid (Kept No w ((w.alloc (.cells #[.int .i64 err, .nilFunc, .func (.func k) #[] caps, .nilFunc] 224)).alloc (.cells #[v0, v1] 145))) := ((Kept.refl No w).alloc _).alloc _
  have hc1 := hc _ HK.out
  have HM : Hid (∀ w', Kept No ((w.alloc (.cells #[.int .i64 err, .nilFunc, .func (.func k) #[] caps, .nilFunc] 224)).alloc (.cells #[v0, v1] 145)) w' → w'.cell? ⟨w.heap.size, 0, none⟩ = some (.int .i64 err) ∧ w'.cell? ⟨w.heap.size, 1, none⟩ = some (.nilFunc) ∧ w'.cell? ⟨w.heap.size, 2, none⟩ = some (.func (.func k) #[] caps) ∧ w'.cell? ⟨w.heap.size, 3, none⟩ = some (.nilFunc)) := fun w' k => ⟨k.cell (by simp) (fun h => h), k.cell (by simp) (fun h => h), k.cell (by simp) (fun h => h), k.cell (by simp) (fun h => h)⟩
  clear hc
  unfold Enters at hen
  have q1 : ∀ w : World, (binOp .neq 220 (.nilFunc) .nilFunc).run Tryz.prog w = .ok (.bool false) w := fun w => by kernel_rfl
  have q2 : ∀ w : World, (binOp .neq 221 (.func (.func k) #[] caps) .nilFunc).run Tryz.prog w = .ok (.bool true) w := fun w => by kernel_rfl
  have q3 : ∀ w : World, (binOp .neq 222 .nilFunc .nilFunc).run Tryz.prog w = .ok (.bool false) w := fun w => by kernel_rfl
  go_enter Tryz.func148, Tryz.ntmps148
  go_wp2_with (go_at_fn k; refine hc1.mono ?_; rintro e w' ⟨rfl, hk⟩; have HK2 : Hid (Kept No w w') := HK.out.trans hk (fun _ h => h.elim); obtain ⟨m0, m1, m2, m3⟩ := HM.out _ hk; clear hk)
  go_ret
  exact ⟨rfl, HK2.out⟩

set_option maxHeartbeats 4000000 in
theorem findsSm_behind_false (err : Int) (k : Nat) (caps : Array Value) (v0 v1 : Value) (aa : Option Addr) (an ac : Nat) (w : World) (hen : Enters Tryz.prog k)
    (hc : ∀ w', Kept No w w' → Calls Tryz.prog k (#[(.agg #[v0, v1]), .slice aa an ac] ++ caps) w' fun e w'' => e = .returned (.bool false) ∧ Kept No w' w'') :
    Calls Tryz.prog 148 #[.agg #[.int .i64 err, .nilFunc, .func (.func k) #[] caps, .nilFunc], (.agg #[v0, v1]), .slice aa an ac] w fun e w' => e = .returned (.int .i64 err) ∧ Kept No w w' := by
  have HK : Hid (Kept No w ((w.alloc (.cells #[.int .i64 err, .nilFunc, .func (.func k) #[] caps, .nilFunc] 224)).alloc (.cells #[v0, v1] 145))) := ((Kept.refl No w).alloc _).alloc _
  have hc1 := hc _ HK.out
  have HM : Hid (∀ w', Kept No ((w.alloc (.cells #[.int .i64 err, .nilFunc, .func (.func k) #[] caps, .nilFunc] 224)).alloc (.cells #[v0, v1] 145)) w' → w'.cell? ⟨w.heap.size, 0, none⟩ = some (.int .i64 err) ∧ w'.cell? ⟨w.heap.size, 1, none⟩ = some (.nilFunc) ∧ w'.cell? ⟨w.heap.size, 2, none⟩ = some (.func (.func k) #[] caps) ∧ w'.cell? ⟨w.heap.size, 3, none⟩ = some (.nilFunc)) := fun w' k => ⟨k.cell (by simp) (fun h => h), k.cell (by simp) (fun h => h), k.cell (by simp) (fun h => h), k.cell (by simp) (fun h => h)⟩
  clear hc
  unfold Enters at hen
  have q1 : ∀ w : World, (binOp .neq 220 (.nilFunc) .nilFunc).run Tryz.prog w = .ok (.bool false) w := fun w => by kernel_rfl
  have q2 : ∀ w : World, (binOp .neq 221 (.func (.func k) #[] caps) .nilFunc).run Tryz.prog w = .ok (.bool true) w := fun w => by kernel_rfl
  have q3 : ∀ w : World, (binOp .neq 222 .nilFunc .nilFunc).run Tryz.prog w = .ok (.bool false) w := fun w => by kernel_rfl
  go_enter Tryz.func148, Tryz.ntmps148
  go_wp2_with (go_at_fn k; refine hc1.mono ?_; rintro e w' ⟨rfl, hk⟩; have HK2 : Hid (Kept No w w') := HK.out.trans hk (fun _ h => h.elim); obtain ⟨m0, m1, m2, m3⟩ := HM.out _ hk; clear hk)
  go_ret
  exact ⟨rfl, HK2.out⟩

theorem findsSm_behind (err : Int) (k : Nat) (caps : Array Value) (v0 v1 : Value) (aa : Option Addr) (an ac : Nat) (w : World) (hen : Enters Tryz.prog k) (b : Bool)
    (hc : ∀ w', Kept No w w' → Calls Tryz.prog k (#[(.agg #[v0, v1]), .slice aa an ac] ++ caps) w' fun e w'' => e = .returned (.bool b) ∧ Kept No w' w'') :
    Calls Tryz.prog 148 #[.agg #[.int .i64 err, .nilFunc, .func (.func k) #[] caps, .nilFunc], (.agg #[v0, v1]), .slice aa an ac] w fun e w' => e = .returned (.int .i64 (if b then 0 else err)) ∧ Kept No w w' := by
  cases b
  · exact findsSm_behind_false err k caps v0 v1 aa an ac w hen hc
  · exact findsSm_behind_true err k caps v0 v1 aa an ac w hen hc

end Go.Proofs.YtknobeiggmghoaaGreatDoor

namespace Go.Proofs.YtknobeiggmghoaaGreatDoor
open Go.RowKit
set_option linter.unusedVariables false
set_option maxRecDepth 100000

set_option maxHeartbeats 4000000 in
theorem findsBf_alone_true (err : Int) (k : Nat) (caps : Array Value) (v0 v1 : Value) (aa : Option Addr) (an ac : Nat) (w : World) (hen : Enters Tryz.prog k)
    (hc : ∀ w', Kept No w w' → Calls Tryz.prog k (#[(.agg #[v0, v1])] ++ caps) w' fun e w'' => e = .returned (.bool true) ∧ Kept No w' w'') :
    Calls Tryz.prog 151 #[.agg #[.int .i64 err, .func (.func k) #[] caps, .nilFunc, .nilFunc], (.agg #[v0, v1]), .slice aa an ac] w fun e w' => e = .returned (.int .i64 0) ∧ Kept No w w' := by
  have HK : Hid (Kept No w ((w.alloc (.cells #[.int .i64 err, .func (.func k) #[] caps, .nilFunc, .nilFunc] 230)).alloc (.cells #[v0, v1] 150))) := ((Kept.refl No w).alloc _).alloc _
  have hc1 := hc _ HK.out
  have HM : Hid (∀ w', Kept No ((w.alloc (.cells #[.int .i64 err, .func (.func k) #[] caps, .nilFunc, .nilFunc] 230)).alloc (.cells #[v0, v1] 150)) w' → w'.cell? ⟨w.heap.size, 0, none⟩ = some (.int .i64 err) ∧ w'.cell? ⟨w.heap.size, 1, none⟩ = some (.func (.func k) #[] caps) ∧ w'.cell? ⟨w.heap.size, 2, none⟩ = some (.nilFunc) ∧ w'.cell? ⟨w.heap.size, 3, none⟩ = some (.nilFunc)) := fun w' k => ⟨k.cell (by simp) (fun h => h), k.cell (by simp) (fun h => h), k.cell (by simp) (fun h => h), k.cell (by simp) (fun h => h)⟩
  clear hc
  unfold Enters at hen
  have q1 : ∀ w : World, (binOp .neq 226 (.func (.func k) #[] caps) .nilFunc).run Tryz.prog w = .ok (.bool true) w := fun w => by kernel_rfl
  have q2 : ∀ w : World, (binOp .neq 227 (.nilFunc) .nilFunc).run Tryz.prog w = .ok (.bool false) w := fun w => by kernel_rfl
  have q3 : ∀ w : World, (binOp .neq 228 .nilFunc .nilFunc).run Tryz.prog w = .ok (.bool false) w := fun w => by kernel_rfl
  go_enter Tryz.func151, Tryz.ntmps151
  go_wp2_with (go_at_fn k; refine hc1.mono ?_; rintro e w' ⟨rfl, hk⟩; have HK2 : Hid (Kept No w w') := HK.out.trans hk (fun _ h => h.elim); obtain ⟨m0, m1, m2, m3⟩ := HM.out _ hk; clear hk)
  go_ret
  exact ⟨rfl, HK2.out⟩

set_option maxHeartbeats 4000000 in
theorem findsBf_alone_false (err : Int) (k : Nat) (caps : Array Value) (v0 v1 : Value) (aa : Option Addr) (an ac : Nat) (w : World) (hen : Enters Tryz.prog k)
    (hc : ∀ w', Kept No w w' → Calls Tryz.prog k (#[(.agg #[v0, v1])] ++ caps) w' fun e w'' => e = .returned (.bool false) ∧ Kept No w' w'') :
    Calls Tryz.prog 151 #[.agg #[.int .i64 err, .func (.func k) #[] caps, .nilFunc, .nilFunc], (.agg #[v0, v1]), .slice aa an ac] w fun e w' => e = .returned (.int .i64 err) ∧ Kept No w w' := by
  have HK : Hid (Kept No w ((w.alloc (.cells #[.int .i64 err, .func (.func k) #[] caps, .nilFunc, .nilFunc] 230)).alloc (.cells #[v0, v1] 150))) := ((Kept.refl No w).alloc _).alloc _
  have hc1 := hc _ HK.out
  have HM : Hid (∀ w', Kept No ((w.alloc (.cells #[.int .i64 err, .func (.func k) #[] caps, .nilFunc, .nilFunc] 230)).alloc (.cells #[v0, v1] 150)) w' → w'.cell? ⟨w.heap.size, 0, none⟩ = some (.int .i64 err) ∧ w'.cell? ⟨w.heap.size, 1, none⟩ = some (.func (.func k) #[] caps) ∧ w'.cell? ⟨w.heap.size, 2, none⟩ = some (.nilFunc) ∧ w'.cell? ⟨w.heap.size, 3, none⟩ = some (.nilFunc)) := fun w' k => ⟨k.cell (by simp) (fun h => h), k.cell (by simp) (fun h => h), k.cell (by simp) (fun h => h), k.cell (by simp) (fun h => h)⟩
  clear hc
  unfold Enters at hen
  have q1 : ∀ w : World, (binOp .neq 226 (.func (.func k) #[] caps) .nilFunc).run Tryz.prog w = .ok (.bool true) w := fun w => by kernel_rfl
  have q2 : ∀ w : World, (binOp .neq 227 (.nilFunc) .nilFunc).run Tryz.prog w = .ok (.bool false) w := fun w => by kernel_rfl
  have q3 : ∀ w : World, (binOp .neq 228 .nilFunc .nilFunc).run Tryz.prog w = .ok (.bool false) w := fun w => by kernel_rfl
  go_enter Tryz.func151, Tryz.ntmps151
  go_wp2_with (go_at_fn k; refine hc1.mono ?_; rintro e w' ⟨rfl, hk⟩; have HK2 : Hid (Kept No w w') := HK.out.trans hk (fun _ h => h.elim); obtain ⟨m0, m1, m2, m3⟩ := HM.out _ hk; clear hk)
  go_ret
  exact ⟨rfl, HK2.out⟩

theorem findsBf_alone (err : Int) (k : Nat) (caps : Array Value) (v0 v1 : Value) (aa : Option Addr) (an ac : Nat) (w : World) (hen : Enters Tryz.prog k) (b : Bool)
    (hc : ∀ w', Kept No w w' → Calls Tryz.prog k (#[(.agg #[v0, v1])] ++ caps) w' fun e w'' => e = .returned (.bool b) ∧ Kept No w' w'') :
    Calls Tryz.prog 151 #[.agg #[.int .i64 err, .func (.func k) #[] caps, .nilFunc, .nilFunc], (.agg #[v0, v1]), .slice aa an ac] w fun e w' => e = .returned (.int .i64 (if b then 0 else err)) ∧ Kept No w w' := by
  cases b
  · exact findsBf_alone_false err k caps v0 v1 aa an ac w hen hc
  · exact findsBf_alone_true err k caps v0 v1 aa an ac w hen hc

set_option maxHeartbeats 4000000 in
theorem findsBf_behind_true (err : Int) (k : Nat) (caps : Array Value) (v0 v1 : Value) (aa : Option Addr) (an ac : Nat) (w : World) (hen : Enters Tryz.prog k)
    (hc : ∀ w', Kept No w w' → Calls Tryz.prog k (#[(.agg #[v0, v1]), .slice aa an ac] ++ caps) w' fun e w'' => e = .returned (.bool true) ∧ Kept No w' w'') :
    Calls Tryz.prog 151 #[.agg #[.int .i64 err, .nilFunc, .func (.func k) #[] caps, .nilFunc], (.agg #[v0, v1]), .slice aa an ac] w fun e w' => e = .returned (.int .i64 0) ∧ Kept No w w' := by
  have HK : Hid (Kept No w ((w.alloc (.cells #[.int .i64 err, .nilFunc, .func (.func k) #[] caps, .nilFunc] 230)).alloc (.cells #[v0, v1] 150))) := ((Kept.refl No w).alloc _).alloc _
  have hc1 := hc _ HK.out
  have HM : Hid (∀ w', Kept No ((w.alloc (.cells #[.int .i64 err, .nilFunc, .func (.func k) #[] caps, .nilFunc] 230)).alloc (.cells #[v0, v1] 150)) w' → w'.cell? ⟨w.heap.size, 0, none⟩ = some (.int .i64 err) ∧ w'.cell? ⟨w.heap.size, 1, none⟩ = some (.nilFunc) ∧ w'.cell? ⟨w.heap.size, 2, none⟩ = some (.func (.func k) #[] caps) ∧ w'.cell? ⟨w.heap.size, 3, none⟩ = some (.nilFunc)) := fun w' k => ⟨k.cell (by simp) (fun h => h), k.cell (by simp) (fun h => h), k.cell (by simp) (fun h => h), k.cell (by simp) (fun h => h)⟩
  clear hc
  unfold Enters at hen
  have q1 : ∀ w : World, (binOp .neq 226 (.nilFunc) .nilFunc).run Tryz.prog w = .ok (.bool false) w := fun w => by kernel_rfl
  have q2 : ∀ w : World, (binOp .neq 227 (.func (.func k) #[] caps) .nilFunc).run Tryz.prog w = .ok (.bool true) w := fun w => by kernel_rfl
  have q3 : ∀ w : World, (binOp .neq 228 .nilFunc .nilFunc).run Tryz.prog w = .ok (.bool false) w := fun w => by kernel_rfl
  go_enter Tryz.func151, Tryz.ntmps151
  go_wp2_with (go_at_fn k; refine hc1.mono ?_; rintro e w' ⟨rfl, hk⟩; have HK2 : Hid (Kept No w w') := HK.out.trans hk (fun _ h => h.elim); obtain ⟨m0, m1, m2, m3⟩ := HM.out _ hk; clear hk)
  go_ret
  exact ⟨rfl, HK2.out⟩

set_option maxHeartbeats 4000000 in
theorem findsBf_behind_false (err : Int) (k : Nat) (caps : Array Value) (v0 v1 : Value) (aa : Option Addr) (an ac : Nat) (w : World) (hen : Enters Tryz.prog k)
    (hc : ∀ w', Kept No w w' → Calls Tryz.prog k (#[(.agg #[v0, v1]), .slice aa an ac] ++ caps) w' fun e w'' => e = .returned (.bool false) ∧ Kept No w' w'') :
    Calls Tryz.prog 151 #[.agg #[.int .i64 err, .nilFunc, .func (.func k) #[] caps, .nilFunc], (.agg #[v0, v1]), .slice aa an ac] w fun e w' => e = .returned (.int .i64 err) ∧ Kept No w w' := by
  have HK : Hid (Kept No w ((w.alloc (.cells #[.int .i64 err, .nilFunc, .func (.func k) #[] caps, .nilFunc] 230)).alloc (.cells #[v0, v1] 150))) := ((Kept.refl No w).alloc _).alloc _
  have hc1 := hc _ HK.out
  have HM : Hid (∀ w', Kept No ((w.alloc (.cells #[.int .i64 err, .nilFunc, .func (.func k) #[] caps, .nilFunc] 230)).alloc (.cells #[v0, v1] 150)) w' → w'.cell? ⟨w.heap.size, 0, none⟩ = some (.int .i64 err) ∧ w'.cell? ⟨w.heap.size, 1, none⟩ = some (.nilFunc) ∧ w'.cell? ⟨w.heap.size, 2, none⟩ = some (.func (.func k) #[] caps) ∧ w'.cell? ⟨w.heap.size, 3, none⟩ = some (.nilFunc)) := fun w' k => ⟨k.cell (by simp) (fun h => h), k.cell (by simp) (fun h => h), k.cell (by simp) (fun h => h), k.cell (by simp) (fun h => h)⟩
  clear hc
  unfold Enters at hen
  have q1 : ∀ w : World, (binOp .neq 226 (.nilFunc) .nilFunc).run Tryz.prog w = .ok (.bool false) w := fun w => by kernel_rfl
  have q2 : ∀ w : World, (binOp .neq 227 (.func (.func k) #[] caps) .nilFunc).run Tryz.prog w = .ok (.bool true) w := fun w => by kernel_rfl
  have q3 : ∀ w : World, (binOp .neq 228 .nilFunc .nilFunc).run Tryz.prog w = .ok (.bool false) w := fun w => by kernel_rfl
  go_enter Tryz.func151, Tryz.ntmps151
  go_wp2_with (go_at_fn k; refine hc1.mono ?_; rintro e w' ⟨rfl, hk⟩; have HK2 : Hid (Kept No w w') := HK.out.trans hk (fun _ h => h.elim); obtain ⟨m0, m1, m2, m3⟩ := HM.out _ hk; clear hk)
  go_ret
  exact ⟨rfl, HK2.out⟩

theorem findsBf_behind (err : Int) (k : Nat) (caps : Array Value) (v0 v1 : Value) (aa : Option Addr) (an ac : Nat) (w : World) (hen : Enters Tryz.prog k) (b : Bool)
    (hc : ∀ w', Kept No w w' → Calls Tryz.prog k (#[(.agg #[v0, v1]), .slice aa an ac] ++ caps) w' fun e w'' => e = .returned (.bool b) ∧ Kept No w' w'') :
    Calls Tryz.prog 151 #[.agg #[.int .i64 err, .nilFunc, .func (.func k) #[] caps, .nilFunc], (.agg #[v0, v1]), .slice aa an ac] w fun e w' => e = .returned (.int .i64 (if b then 0 else err)) ∧ Kept No w w' := by
  cases b
  · exact findsBf_behind_false err k caps v0 v1 aa an ac w hen hc
  · exact findsBf_behind_true err k caps v0 v1 aa an ac w hen hc

end Go.Proofs.YtknobeiggmghoaaGreatDoor
