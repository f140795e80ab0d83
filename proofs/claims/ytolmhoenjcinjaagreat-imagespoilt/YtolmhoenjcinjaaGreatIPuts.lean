/-
  One text: IPutPrc, IPutSm, IPutBf, IPutPo.
-/
import Derived.Test.YtolmhoenjcinjaaGreatITells
namespace Go.Proofs.YtolmhoenjcinjaaGreat
open Go.RowKit
set_option linter.unusedVariables false
set_option maxRecDepth 100000

set_option maxHeartbeats 1000000 in
theorem gate_putPrc (q0 q1 q2 q3 : Value) (p : Nat) (w : World) (R : World → Prop) (e1 : Int) (c1 : w.cell? ⟨p, 1, none⟩ = some (.int .i64 0))
    (hdo : Calls Tryz.prog 165 #[q0, q1, q2, q3] w fun ex w1 => ex = .returned (.int .i64 e1) ∧ R w1) (hR : ∀ w1, R w1 → (∃ u, w1.cell? ⟨p, 1, none⟩ = some (.int .i64 u)) ∧ w1.frozen? ⟨p, 1, none⟩ = false) :
    Calls Tryz.prog 56 #[.pointer (some ⟨p, 0, none⟩), .func (.func 165) #[] #[q0, q1, q2, q3]] w fun ex w' => ex = .returned (.tuple #[]) ∧ ∃ w1, R w1 ∧ w' = w1.setCell ⟨p, 1, none⟩ (.int .i64 e1) := by
  have HR : Hid (∀ w1, R w1 → (∃ u, w1.cell? ⟨p, 1, none⟩ = some (.int .i64 u)) ∧ w1.frozen? ⟨p, 1, none⟩ = false) := hR
  clear hR
  go_enter Tryz.func56, Tryz.ntmps56
  go_wp2_with (go_at_call 165; refine hdo.mono ?_; rintro ex w1 ⟨rfl, hr⟩; obtain ⟨⟨u, c11⟩, f11⟩ := HR.out w1 hr)
  go_end0
  exact ⟨rfl, w1, hr, rfl⟩

set_option maxHeartbeats 4000000 in
theorem putList1_Prc (F G : Nat → Prop) (p : Nat) (bs : List Nat) (a : Option Addr) (n c : Nat) (xs : List Prc) (most : Int) (w : World) (b1 b2 b3 b4 : Nat) (h : Wr w F p bs 0) (hZ : Ls 6 elPrc w G a n c xs) (hGF : ∀ k, G k → ¬ F k ∧ k < w.heap.size) (hm0 : most ≤ 1048576) (hsz : bs.length ≤ 100000000000)
    (hn3 : ¬ F b3) (hn4 : ¬ F b4)
    (d1 : w.cell? ⟨b1, 0, none⟩ = some (.slice a n c)) (d2 : w.cell? ⟨b2, 0, none⟩ = some (.int .i64 most)) (d3 : w.cell? ⟨b3, 0, none⟩ = some (.pointer (some ⟨p, 0, none⟩))) (d4 : w.cell? ⟨b4, 0, none⟩ = some (.func (.func 92) #[] #[])) (hn1 : ¬ F b1) :
    Calls Tryz.prog 165 #[.pointer (some ⟨b1, 0, none⟩), .pointer (some ⟨b2, 0, none⟩), .pointer (some ⟨b3, 0, none⟩), .pointer (some ⟨b4, 0, none⟩)] w fun ex w' => ex = .returned (.int .i64 (wl tlPrc (bs, 0) xs most).2) ∧ ∃ e1, WrDid F p (wl tlPrc (bs, 0) xs most).1 e1 w w' := by
  have hl := hZ.len
  have HL : Hid (xs.length = n) := hl
  have HZ : Hid (Ls 6 elPrc w G a n c xs) := hZ
  have HGF : Hid (∀ k, G k → ¬ F k ∧ k < w.heap.size) := hGF
  have HW : Hid (Wr w F p bs 0) := h
  clear hZ hGF h hl
  by_cases hm : most < (n : Int)
  · have e1 : wl tlPrc (bs, 0) xs most = (bs, 1) := by unfold wl; rw [if_neg (by simp), if_pos (by rw [HL.out]; exact hm)]
    rw [e1]
    clear e1
    go_enter Tryz.func165, Tryz.ntmps165
    go_wp2
    go_ret
    exact ⟨rfl, 0, WrDid.still HW.out (Kept.refl _ _)⟩
  · obtain ⟨s0, hs0⟩ : ∃ s0 : St, s0 = (bs ++ be n 4, 0) := ⟨_, rfl⟩
    have e1 : wl tlPrc (bs, 0) xs most = xs.foldl tlPrc s0 := by unfold wl; rw [if_neg (by simp), if_neg (by rw [HL.out]; exact hm), HL.out, hs0]
    have c47 := u32_any F p bs 0 n w HW.out (by omega) (by omega)
    have hfit := num_fit bs n 4 (by omega) (by omega)
    rw [hfit.1, hfit.2, Int.toNat_natCast] at c47
    have e2 : bs ++ be n 4 = s0.1 := by rw [hs0]
    have e3 : (0 : Int) = s0.2 := by rw [hs0]
    have hs0l : s0.1.length ≤ bs.length + 4 := by rw [← e2, List.length_append, be_length]; omega
    rw [e1]
    rw [e2] at c47
    rw [show WrDid F p s0.1 0 = WrDid F p s0.1 s0.2 by rw [← e3]] at c47
    obtain ⟨fin, hfin⟩ : ∃ fin, fin = xs.foldl tlPrc s0 := ⟨_, rfl⟩
    have HFIN : Hid (fin = xs.foldl tlPrc s0) := hfin
    rw [← hfin]
    clear e1 e2 e3 hs0 hfin hfit
    go_enter Tryz.func165, Tryz.ntmps165
    go_upto_region 4 with (go_at_call 60; refine c47.mono ?_; rintro ex w1 ⟨rfl, hd⟩)
    obtain ⟨F1, hw1, hk1, hf1⟩ := hd
    have D1 : w1.cell? ⟨b1, 0, none⟩ = some (.slice a n c) := hk1.cell d1 hn1
    have HW1 : Hid (Wr w1 F1 p s0.1 s0.2 ∧ Went F w w1 F1) := ⟨hw1, hk1, hf1⟩
    clear hw1 hk1 hf1 c47
    go_wp2
    go_loopw [17] (fun i wr => ∃ k : Nat, k ≤ n ∧ i = .int .i64 k ∧ ∃ F', Wr wr F' p ((xs.take k).foldl tlPrc s0).1 ((xs.take k).foldl tlPrc s0).2 ∧ Went F w wr F') (fun i _ => n - (intOf i).toNat)
    case atStart => exact ⟨0, by omega, rfl, F1, HW1.out.1, HW1.out.2⟩
    case round =>
      obtain ⟨k, hk, rfl, F', hwr, hwent⟩ := hrel
      clear HW1 D1
      have hfl := fold_few tfPrc.tl (xs.take k) s0
      have hfl2 : ((xs.take k).foldl tlPrc s0).1.length ≤ 1000000000000 := by
        rw [List.length_take] at hfl
        have hq : 48 * min k xs.length ≤ 48 * 1048576 := Nat.mul_le_mul_left _ (by omega)
        omega
      have HWENT : Hid (Went F w wr F') := hwent
      by_cases hlt : k < n
      · obtain ⟨x, hx⟩ : ∃ x, xs[k]? = some x := ⟨_, List.getElem?_eq_getElem (by rw [HL.out]; exact hlt)⟩
        obtain ⟨b, o, cs, rfl, hGb, hcl, hr, hE⟩ := HZ.out.at' k x hx
        have hGF' : ∀ k, G k → ¬ F' k ∧ k < wr.heap.size := fun j hj => ⟨fun hf => by rcases hwent.2 j hf with h1 | h1; exact (HGF.out j hj).1 h1; have := (HGF.out j hj).2; omega, by have := (HGF.out j hj).2; have := hwent.1.size; omega⟩
        have HE : Hid (elPrc wr G cs x) := elPrc_kept hwent.1 (fun b hb => (HGF.out b hb).1) cs x hE
        have hcs := hE.1
        subst hcs
        have r0 : wr.cell? ⟨b, o + k * 6, none⟩ = some (.int .i64 x.en) := hwent.1.cell (hr 0 _ rfl) (HGF.out b hGb).1
        have r1 : wr.cell? ⟨b, o + k * 6 + 1, none⟩ = some (.int .i64 x.pr) := hwent.1.cell (hr 1 _ rfl) (HGF.out b hGb).1
        have r2 : wr.cell? ⟨b, o + k * 6 + 2, none⟩ = some (.int .i64 x.pe) := hwent.1.cell (hr 2 _ rfl) (HGF.out b hGb).1
        have r3 : wr.cell? ⟨b, o + k * 6 + 3, none⟩ = some (.int .i64 x.li) := hwent.1.cell (hr 3 _ rfl) (HGF.out b hGb).1
        have r4 : wr.cell? ⟨b, o + k * 6 + 4, none⟩ = some (.int .i64 x.ca) := hwent.1.cell (hr 4 _ rfl) (HGF.out b hGb).1
        have r5 : wr.cell? ⟨b, o + k * 6 + 5, none⟩ = some (.bool x.auto) := hwent.1.cell (hr 5 _ rfl) (HGF.out b hGb).1
        have hst := fold_take tlPrc xs s0 k x hx
        have hrest := fold_rest tfPrc.tl.stuck xs s0 k
        obtain ⟨S, hS⟩ : ∃ S, S = (xs.take k).foldl tlPrc s0 := ⟨_, rfl⟩
        rw [← hS] at hst hrest hwr hfl2
        obtain ⟨sb, se⟩ := S
        simp only at hst hrest hwr hfl2
        have HST : Hid ((xs.take (k + 1)).foldl tlPrc s0 = tlPrc (sb, se) x) := hst
        have HRS : Hid (se ≠ 0 → fin = (sb, se)) := fun h => HFIN.out.trans (hrest h)
        have HWR : Hid (Wr wr F' p sb se) := hwr
        have HG2 : Hid (∀ k, G k → ¬ F' k ∧ k < wr.heap.size) := hGF'
        have D3 : Hid (wr.cell? ⟨b3, 0, none⟩ = some (.pointer (some ⟨p, 0, none⟩))) := hwent.1.cell d3 hn3
        have D4 : Hid (wr.cell? ⟨b4, 0, none⟩ = some (.func (.func 92) #[] #[])) := hwent.1.cell d4 hn4
        clear hst hS hwent hx hrest hwr hr hcl hE hGF' hfl

        have hk2 : Kept No wr (wr.alloc (.cells #[.int .i64 x.en, .int .i64 x.pr, .int .i64 x.pe, .int .i64 x.li, .int .i64 x.ca, .bool x.auto] 124)) := (Kept.refl No wr).alloc _
        have HK2 : Hid (Kept No wr (wr.alloc (.cells #[.int .i64 x.en, .int .i64 x.pr, .int .i64 x.pe, .int .i64 x.li, .int .i64 x.ca, .bool x.auto] 124))) := hk2
        have HB : Hid ((wr.alloc (.cells #[.int .i64 x.en, .int .i64 x.pr, .int .i64 x.pe, .int .i64 x.li, .int .i64 x.ca, .bool x.auto] 124)).heap[wr.heap.size]? = some (.cells #[.int .i64 x.en, .int .i64 x.pr, .int .i64 x.pe, .int .i64 x.li, .int .i64 x.ca, .bool x.auto] 124 (0, 0))) := heap_alloc_new wr _
        clear hk2
        go_upto_region 7 with fail
        generalize hW2 : wr.alloc (.cells #[.int .i64 x.en, .int .i64 x.pr, .int .i64 x.pe, .int .i64 x.li, .int .i64 x.ca, .bool x.auto] 124) = w2 at *
        clear r0 r1 r2 r3 r4 r5
        have r0 : w2.cell? ⟨wr.heap.size, 0, none⟩ = some (.int .i64 x.en) := by simp [World.cell?, HB.out]
        have r1 : w2.cell? ⟨wr.heap.size, 1, none⟩ = some (.int .i64 x.pr) := by simp [World.cell?, HB.out]
        have r2 : w2.cell? ⟨wr.heap.size, 2, none⟩ = some (.int .i64 x.pe) := by simp [World.cell?, HB.out]
        have r3 : w2.cell? ⟨wr.heap.size, 3, none⟩ = some (.int .i64 x.li) := by simp [World.cell?, HB.out]
        have r4 : w2.cell? ⟨wr.heap.size, 4, none⟩ = some (.int .i64 x.ca) := by simp [World.cell?, HB.out]
        have r5 : w2.cell? ⟨wr.heap.size, 5, none⟩ = some (.bool x.auto) := by simp [World.cell?, HB.out]
        have d3' : w2.cell? ⟨b3, 0, none⟩ = some (.pointer (some ⟨p, 0, none⟩)) := HK2.out.cell D3.out (fun h => h)
        have d4' : w2.cell? ⟨b4, 0, none⟩ = some (.func (.func 92) #[] #[]) := HK2.out.cell D4.out (fun h => h)
        have hwr2 : Wr w2 F' p sb se := HWR.out.kept HK2.out (fun _ _ h => h)
        have hfc1 := hwr2.c1
        by_cases hse : se = 0
        · subst hse
          have cp := tellPrc F' G p sb 0 x w2 hwr2 (elPrc_kept HK2.out (fun _ _ h => h) _ x HE.out) (fun j hj => ⟨(HG2.out j hj).1, Nat.lt_of_lt_of_le (HG2.out j hj).2 HK2.out.size⟩) (by omega)
          clear hwr2
          go_wp2_with (go_at_call 92; refine cp.mono ?_; rintro ex w3 ⟨rfl, hd2⟩)
          go_roundw
          case rel =>
            obtain ⟨F2, hw2, hwe2⟩ := hd2.ahead HK2.out
            refine ⟨k + 1, by omega, by go_num, F2, ?_, HWENT.out.trans hwe2⟩
            rw [HST.out]; exact hw2
          case measure => simp [intOf]; omega
        · have hse2 : (se == 0) = false := by simpa using hse
          have hff : fin = (sb, se) := HRS.out hse
          subst hff
          clear hwr2 hse
          go_wp2
          go_ret
          exact ⟨rfl, se, F', HWR.out.kept HK2.out (fun _ _ h => h), HWENT.out.1.trans HK2.out (fun _ h => h.elim), HWENT.out.2⟩
      · have hkn : k = n := by omega
        subst hkn
        have hff : fin = (xs.take k).foldl tlPrc s0 := HFIN.out.trans (by rw [List.take_of_length_le (by rw [HL.out]; omega)])
        rw [← hff] at hwr
        obtain ⟨sb, se⟩ := fin
        simp only at hwr ⊢
        have hfc1 := hwr.c1
        have d3' : wr.cell? ⟨b3, 0, none⟩ = some (.pointer (some ⟨p, 0, none⟩)) := hwent.1.cell d3 hn3
        have HWR : Hid (Wr wr F' p sb se) := hwr
        clear hwr hff hfl hwent hfl2
        go_wp2
        go_ret
        exact ⟨rfl, se, F', HWR.out, HWENT.out⟩


set_option maxHeartbeats 1000000 in
theorem putList_Prc (F G : Nat → Prop) (p : Nat) (bs : List Nat) (e : Int) (a : Option Addr) (n c : Nat) (xs : List Prc) (most : Int) (w : World) (h : Wr w F p bs e) (hZ : Ls 6 elPrc w G a n c xs) (hGF : ∀ k, G k → ¬ F k ∧ k < w.heap.size) (hm0 : most ≤ 1048576) (hsz : bs.length ≤ 100000000000) :
    Calls Tryz.prog 139 #[.pointer (some ⟨p, 0, none⟩), .slice a n c, .int .i64 most, .func (.func 92) #[] #[]] w fun ex w' => ex = .returned (.tuple #[]) ∧ WrDid F p (wl tlPrc (bs, e) xs most).1 (wl tlPrc (bs, e) xs most).2 w w' := by
  have hmf : ∀ (fn : Fn) (first cap : Array Value) (w : World), (Instr.makeFunc fn first cap).run Tryz.prog w = .ok (.func fn first cap) w := fun _ _ _ _ => rfl
  have H : Hid (Wr w F p bs e) := h
  have hflt : ∀ k, F k → k < w.heap.size := by obtain ⟨v, hv⟩ := h; exact hv.flt
  clear h
  have kp : ∀ o1 o2 o3 o4 : Obj, Kept No w ((((w.alloc o1).alloc o2).alloc o3).alloc o4) := fun o1 o2 o3 o4 => ((((Kept.refl No w).alloc _).alloc _).alloc _).alloc _
  by_cases he : e = 0
  · subst he
    obtain ⟨W, hW⟩ : ∃ W, W = ((((w.alloc (.cells #[.pointer (some ⟨p, 0, none⟩)] 49)).alloc (.cells #[.slice a n c] 60)).alloc (.cells #[.int .i64 most] 3)).alloc (.cells #[.func (.func 92) #[] #[]] 150)) := ⟨_, rfl⟩
    have d4 : W.cell? ⟨w.heap.size + 1 + 1 + 1, 0, none⟩ = some (.func (.func 92) #[] #[]) := by rw [hW]; exact cell_new _ _ _ _ (by simp)
    have d2 : W.cell? ⟨w.heap.size + 1 + 1, 0, none⟩ = some (.int .i64 most) := by rw [hW, cell_old _ _ _ (by simp)]; exact cell_new _ _ _ _ (by simp)
    have d1 : W.cell? ⟨w.heap.size + 1, 0, none⟩ = some (.slice a n c) := by rw [hW, cell_old _ _ _ (by simp <;> omega), cell_old _ _ _ (by simp)]; exact cell_new _ _ _ _ (by simp)
    have d3 : W.cell? ⟨w.heap.size, 0, none⟩ = some (.pointer (some ⟨p, 0, none⟩)) := by rw [hW, cell_old _ _ _ (by simp <;> omega), cell_old _ _ _ (by simp <;> omega), cell_old _ _ _ (by simp)]; exact cell_new _ _ _ _ rfl
    have hkW : Kept No w W := by rw [hW]; exact kp _ _ _ _
    have hWr : Wr W F p bs 0 := H.out.kept hkW (fun _ _ h => h)
    have hZW : Ls 6 elPrc W G a n c xs := hZ.kept hkW (fun _ _ h => h) (elPrc_kept hkW (fun _ _ h => h))
    have cc := gate_putPrc _ _ _ _ p _ (fun w' => ∃ e1, WrDid F p (wl tlPrc (bs, 0) xs most).1 e1 W w') (wl tlPrc (bs, 0) xs most).2 hWr.c1 (putList1_Prc F G p bs a n c xs most _ _ _ _ _ hWr hZW (fun j hj => ⟨(hGF j hj).1, Nat.lt_of_lt_of_le (hGF j hj).2 hkW.size⟩) hm0 hsz (fun hf => by have := hflt _ hf; omega) (fun hf => by have := hflt _ hf; omega) d1 d2 d3 d4 (fun hf => by have := hflt _ hf; omega)) (fun _ ⟨_, h⟩ => h.cells)
    rw [hW] at cc
    have HK : Hid (Kept No w ((((w.alloc (.cells #[.pointer (some ⟨p, 0, none⟩)] 49)).alloc (.cells #[.slice a n c] 60)).alloc (.cells #[.int .i64 most] 3)).alloc (.cells #[.func (.func 92) #[] #[]] 150))) := kp _ _ _ _
    clear d1 d2 d3 d4 hWr hW hZW hkW hflt kp hGF hZ
    go_enter Tryz.func139, Tryz.ntmps139
    go_wp2_with (go_at_call 56; refine cc.mono ?_; rintro ex w1 ⟨rfl, w2, ⟨e1, hd⟩, rfl⟩)
    go_end0
    exact ⟨rfl, (hd.put1 _).ahead HK.out⟩
  · have he2 : (e == 0) = false := by simpa using he
    rw [show wl tlPrc (bs, e) xs most = (bs, e) from if_pos he]
    have c1 : ∀ o1 o2 o3 o4 : Obj, ((((w.alloc o1).alloc o2).alloc o3).alloc o4).cell? ⟨p, 1, none⟩ = some (.int .i64 e) := fun o1 o2 o3 o4 => (H.out.kept (kp o1 o2 o3 o4) (fun _ _ h => h)).c1
    have KP : Hid (∀ o1 o2 o3 o4 : Obj, Kept No w ((((w.alloc o1).alloc o2).alloc o3).alloc o4)) := kp
    clear hZ hGF hflt kp
    go_enter Tryz.func139, Tryz.ntmps139
    go_wp2_with (go_at_call 56; refine (gate_no _ p e _ (c1 _ _ _ _) he2).mono ?_; rintro ex w1 ⟨rfl, rfl⟩)
    go_end0
    exact ⟨rfl, WrDid.still H.out (KP.out _ _ _ _)⟩

set_option maxHeartbeats 1000000 in
theorem put_Prc (F G : Nat → Prop) (p : Nat) (bs : List Nat) (e : Int) (a : Option Addr) (n c : Nat) (xs : List Prc) (w : World) (h : Wr w F p bs e) (hZ : Ls 6 elPrc w G a n c xs) (hGF : ∀ k, G k → ¬ F k ∧ k < w.heap.size) (hsz : bs.length ≤ 100000000000) :
    Calls Tryz.prog 91 #[.pointer (some ⟨p, 0, none⟩), .slice a n c, .func (.func 92) #[] #[]] w fun ex w' => ex = .returned (.tuple #[]) ∧ WrDid F p (wp tlPrc (bs, e) xs).1 (wp tlPrc (bs, e) xs).2 w w' := by
  have cl := len_any F p bs e w h
  have cc := putList_Prc F G p bs e a n c xs (1048576 - (bs.length : Int)) w h hZ hGF (by omega) hsz
  clear h hZ hGF
  unfold wp
  dsimp only
  go_enter Tryz.func91, Tryz.ntmps91
  go_wp2_with (first
    | (go_at_call 84; refine cl.mono ?_; rintro ex w1 ⟨rfl, hw1⟩; obtain rfl := hw1.symm)
    | (go_at_call 139; refine cc.mono ?_; rintro ex w1 ⟨rfl, hd⟩))
  go_end0
  exact ⟨rfl, hd⟩

end Go.Proofs.YtolmhoenjcinjaaGreat

namespace Go.Proofs.YtolmhoenjcinjaaGreat
open Go.RowKit
set_option linter.unusedVariables false
set_option maxRecDepth 100000

set_option maxHeartbeats 1000000 in
theorem gate_putSm (q0 q1 q2 q3 : Value) (p : Nat) (w : World) (R : World → Prop) (e1 : Int) (c1 : w.cell? ⟨p, 1, none⟩ = some (.int .i64 0))
    (hdo : Calls Tryz.prog 166 #[q0, q1, q2, q3] w fun ex w1 => ex = .returned (.int .i64 e1) ∧ R w1) (hR : ∀ w1, R w1 → (∃ u, w1.cell? ⟨p, 1, none⟩ = some (.int .i64 u)) ∧ w1.frozen? ⟨p, 1, none⟩ = false) :
    Calls Tryz.prog 56 #[.pointer (some ⟨p, 0, none⟩), .func (.func 166) #[] #[q0, q1, q2, q3]] w fun ex w' => ex = .returned (.tuple #[]) ∧ ∃ w1, R w1 ∧ w' = w1.setCell ⟨p, 1, none⟩ (.int .i64 e1) := by
  have HR : Hid (∀ w1, R w1 → (∃ u, w1.cell? ⟨p, 1, none⟩ = some (.int .i64 u)) ∧ w1.frozen? ⟨p, 1, none⟩ = false) := hR
  clear hR
  go_enter Tryz.func56, Tryz.ntmps56
  go_wp2_with (go_at_call 166; refine hdo.mono ?_; rintro ex w1 ⟨rfl, hr⟩; obtain ⟨⟨u, c11⟩, f11⟩ := HR.out w1 hr)
  go_end0
  exact ⟨rfl, w1, hr, rfl⟩

set_option maxHeartbeats 4000000 in
theorem putList1_Sm (F G : Nat → Prop) (p : Nat) (bs : List Nat) (a : Option Addr) (n c : Nat) (xs : List Sm) (most : Int) (w : World) (b1 b2 b3 b4 : Nat) (h : Wr w F p bs 0) (hZ : Ls 2 elSm w G a n c xs) (hGF : ∀ k, G k → ¬ F k ∧ k < w.heap.size) (hm0 : most ≤ 1048576) (hsz : bs.length ≤ 100000000000)
    (hn3 : ¬ F b3) (hn4 : ¬ F b4)
    (d1 : w.cell? ⟨b1, 0, none⟩ = some (.slice a n c)) (d2 : w.cell? ⟨b2, 0, none⟩ = some (.int .i64 most)) (d3 : w.cell? ⟨b3, 0, none⟩ = some (.pointer (some ⟨p, 0, none⟩))) (d4 : w.cell? ⟨b4, 0, none⟩ = some (.func (.func 94) #[] #[])) (hn1 : ¬ F b1) :
    Calls Tryz.prog 166 #[.pointer (some ⟨b1, 0, none⟩), .pointer (some ⟨b2, 0, none⟩), .pointer (some ⟨b3, 0, none⟩), .pointer (some ⟨b4, 0, none⟩)] w fun ex w' => ex = .returned (.int .i64 (wl tlSm (bs, 0) xs most).2) ∧ ∃ e1, WrDid F p (wl tlSm (bs, 0) xs most).1 e1 w w' := by
  have hl := hZ.len
  have HL : Hid (xs.length = n) := hl
  have HZ : Hid (Ls 2 elSm w G a n c xs) := hZ
  have HGF : Hid (∀ k, G k → ¬ F k ∧ k < w.heap.size) := hGF
  have HW : Hid (Wr w F p bs 0) := h
  clear hZ hGF h hl
  by_cases hm : most < (n : Int)
  · have e1 : wl tlSm (bs, 0) xs most = (bs, 1) := by unfold wl; rw [if_neg (by simp), if_pos (by rw [HL.out]; exact hm)]
    rw [e1]
    clear e1
    go_enter Tryz.func166, Tryz.ntmps166
    go_wp2
    go_ret
    exact ⟨rfl, 0, WrDid.still HW.out (Kept.refl _ _)⟩
  · obtain ⟨s0, hs0⟩ : ∃ s0 : St, s0 = (bs ++ be n 4, 0) := ⟨_, rfl⟩
    have e1 : wl tlSm (bs, 0) xs most = xs.foldl tlSm s0 := by unfold wl; rw [if_neg (by simp), if_neg (by rw [HL.out]; exact hm), HL.out, hs0]
    have c47 := u32_any F p bs 0 n w HW.out (by omega) (by omega)
    have hfit := num_fit bs n 4 (by omega) (by omega)
    rw [hfit.1, hfit.2, Int.toNat_natCast] at c47
    have e2 : bs ++ be n 4 = s0.1 := by rw [hs0]
    have e3 : (0 : Int) = s0.2 := by rw [hs0]
    have hs0l : s0.1.length ≤ bs.length + 4 := by rw [← e2, List.length_append, be_length]; omega
    rw [e1]
    rw [e2] at c47
    rw [show WrDid F p s0.1 0 = WrDid F p s0.1 s0.2 by rw [← e3]] at c47
    obtain ⟨fin, hfin⟩ : ∃ fin, fin = xs.foldl tlSm s0 := ⟨_, rfl⟩
    have HFIN : Hid (fin = xs.foldl tlSm s0) := hfin
    rw [← hfin]
    clear e1 e2 e3 hs0 hfin hfit
    go_enter Tryz.func166, Tryz.ntmps166
    go_upto_region 4 with (go_at_call 60; refine c47.mono ?_; rintro ex w1 ⟨rfl, hd⟩)
    obtain ⟨F1, hw1, hk1, hf1⟩ := hd
    have D1 : w1.cell? ⟨b1, 0, none⟩ = some (.slice a n c) := hk1.cell d1 hn1
    have HW1 : Hid (Wr w1 F1 p s0.1 s0.2 ∧ Went F w w1 F1) := ⟨hw1, hk1, hf1⟩
    clear hw1 hk1 hf1 c47
    go_wp2
    go_loopw [17] (fun i wr => ∃ k : Nat, k ≤ n ∧ i = .int .i64 k ∧ ∃ F', Wr wr F' p ((xs.take k).foldl tlSm s0).1 ((xs.take k).foldl tlSm s0).2 ∧ Went F w wr F') (fun i _ => n - (intOf i).toNat)
    case atStart => exact ⟨0, by omega, rfl, F1, HW1.out.1, HW1.out.2⟩
    case round =>
      obtain ⟨k, hk, rfl, F', hwr, hwent⟩ := hrel
      clear HW1 D1
      have hfl := fold_few tfSm.tl (xs.take k) s0
      have hfl2 : ((xs.take k).foldl tlSm s0).1.length ≤ 1000000000000 := by
        rw [List.length_take] at hfl
        have hq : 48 * min k xs.length ≤ 48 * 1048576 := Nat.mul_le_mul_left _ (by omega)
        omega
      have HWENT : Hid (Went F w wr F') := hwent
      by_cases hlt : k < n
      · obtain ⟨x, hx⟩ : ∃ x, xs[k]? = some x := ⟨_, List.getElem?_eq_getElem (by rw [HL.out]; exact hlt)⟩
        obtain ⟨b, o, cs, rfl, hGb, hcl, hr, hE⟩ := HZ.out.at' k x hx
        have hGF' : ∀ k, G k → ¬ F' k ∧ k < wr.heap.size := fun j hj => ⟨fun hf => by rcases hwent.2 j hf with h1 | h1; exact (HGF.out j hj).1 h1; have := (HGF.out j hj).2; omega, by have := (HGF.out j hj).2; have := hwent.1.size; omega⟩
        have HE : Hid (elSm wr G cs x) := elSm_kept hwent.1 (fun b hb => (HGF.out b hb).1) cs x hE
        have hcs := hE.1
        subst hcs
        have r0 : wr.cell? ⟨b, o + k * 2, none⟩ = some (.int .i64 x.st) := hwent.1.cell (hr 0 _ rfl) (HGF.out b hGb).1
        have r1 : wr.cell? ⟨b, o + k * 2 + 1, none⟩ = some (.int .i64 x.mx) := hwent.1.cell (hr 1 _ rfl) (HGF.out b hGb).1
        have hst := fold_take tlSm xs s0 k x hx
        have hrest := fold_rest tfSm.tl.stuck xs s0 k
        obtain ⟨S, hS⟩ : ∃ S, S = (xs.take k).foldl tlSm s0 := ⟨_, rfl⟩
        rw [← hS] at hst hrest hwr hfl2
        obtain ⟨sb, se⟩ := S
        simp only at hst hrest hwr hfl2
        have HST : Hid ((xs.take (k + 1)).foldl tlSm s0 = tlSm (sb, se) x) := hst
        have HRS : Hid (se ≠ 0 → fin = (sb, se)) := fun h => HFIN.out.trans (hrest h)
        have HWR : Hid (Wr wr F' p sb se) := hwr
        have HG2 : Hid (∀ k, G k → ¬ F' k ∧ k < wr.heap.size) := hGF'
        have D3 : Hid (wr.cell? ⟨b3, 0, none⟩ = some (.pointer (some ⟨p, 0, none⟩))) := hwent.1.cell d3 hn3
        have D4 : Hid (wr.cell? ⟨b4, 0, none⟩ = some (.func (.func 94) #[] #[])) := hwent.1.cell d4 hn4
        clear hst hS hwent hx hrest hwr hr hcl hE hGF' hfl

        have hk2 : Kept No wr (wr.alloc (.cells #[.int .i64 x.st, .int .i64 x.mx] 126)) := (Kept.refl No wr).alloc _
        have HK2 : Hid (Kept No wr (wr.alloc (.cells #[.int .i64 x.st, .int .i64 x.mx] 126))) := hk2
        have HB : Hid ((wr.alloc (.cells #[.int .i64 x.st, .int .i64 x.mx] 126)).heap[wr.heap.size]? = some (.cells #[.int .i64 x.st, .int .i64 x.mx] 126 (0, 0))) := heap_alloc_new wr _
        clear hk2
        go_upto_region 7 with fail
        generalize hW2 : wr.alloc (.cells #[.int .i64 x.st, .int .i64 x.mx] 126) = w2 at *
        clear r0 r1
        have r0 : w2.cell? ⟨wr.heap.size, 0, none⟩ = some (.int .i64 x.st) := by simp [World.cell?, HB.out]
        have r1 : w2.cell? ⟨wr.heap.size, 1, none⟩ = some (.int .i64 x.mx) := by simp [World.cell?, HB.out]
        have d3' : w2.cell? ⟨b3, 0, none⟩ = some (.pointer (some ⟨p, 0, none⟩)) := HK2.out.cell D3.out (fun h => h)
        have d4' : w2.cell? ⟨b4, 0, none⟩ = some (.func (.func 94) #[] #[]) := HK2.out.cell D4.out (fun h => h)
        have hwr2 : Wr w2 F' p sb se := HWR.out.kept HK2.out (fun _ _ h => h)
        have hfc1 := hwr2.c1
        by_cases hse : se = 0
        · subst hse
          have cp := tellSm F' G p sb 0 x w2 hwr2 (elSm_kept HK2.out (fun _ _ h => h) _ x HE.out) (fun j hj => ⟨(HG2.out j hj).1, Nat.lt_of_lt_of_le (HG2.out j hj).2 HK2.out.size⟩) (by omega)
          clear hwr2
          go_wp2_with (go_at_call 94; refine cp.mono ?_; rintro ex w3 ⟨rfl, hd2⟩)
          go_roundw
          case rel =>
            obtain ⟨F2, hw2, hwe2⟩ := hd2.ahead HK2.out
            refine ⟨k + 1, by omega, by go_num, F2, ?_, HWENT.out.trans hwe2⟩
            rw [HST.out]; exact hw2
          case measure => simp [intOf]; omega
        · have hse2 : (se == 0) = false := by simpa using hse
          have hff : fin = (sb, se) := HRS.out hse
          subst hff
          clear hwr2 hse
          go_wp2
          go_ret
          exact ⟨rfl, se, F', HWR.out.kept HK2.out (fun _ _ h => h), HWENT.out.1.trans HK2.out (fun _ h => h.elim), HWENT.out.2⟩
      · have hkn : k = n := by omega
        subst hkn
        have hff : fin = (xs.take k).foldl tlSm s0 := HFIN.out.trans (by rw [List.take_of_length_le (by rw [HL.out]; omega)])
        rw [← hff] at hwr
        obtain ⟨sb, se⟩ := fin
        simp only at hwr ⊢
        have hfc1 := hwr.c1
        have d3' : wr.cell? ⟨b3, 0, none⟩ = some (.pointer (some ⟨p, 0, none⟩)) := hwent.1.cell d3 hn3
        have HWR : Hid (Wr wr F' p sb se) := hwr
        clear hwr hff hfl hwent hfl2
        go_wp2
        go_ret
        exact ⟨rfl, se, F', HWR.out, HWENT.out⟩


set_option maxHeartbeats 1000000 in
theorem putList_Sm (F G : Nat → Prop) (p : Nat) (bs : List Nat) (e : Int) (a : Option Addr) (n c : Nat) (xs : List Sm) (most : Int) (w : World) (h : Wr w F p bs e) (hZ : Ls 2 elSm w G a n c xs) (hGF : ∀ k, G k → ¬ F k ∧ k < w.heap.size) (hm0 : most ≤ 1048576) (hsz : bs.length ≤ 100000000000) :
    Calls Tryz.prog 140 #[.pointer (some ⟨p, 0, none⟩), .slice a n c, .int .i64 most, .func (.func 94) #[] #[]] w fun ex w' => ex = .returned (.tuple #[]) ∧ WrDid F p (wl tlSm (bs, e) xs most).1 (wl tlSm (bs, e) xs most).2 w w' := by
  have hmf : ∀ (fn : Fn) (first cap : Array Value) (w : World), (Instr.makeFunc fn first cap).run Tryz.prog w = .ok (.func fn first cap) w := fun _ _ _ _ => rfl
  have H : Hid (Wr w F p bs e) := h
  have hflt : ∀ k, F k → k < w.heap.size := by obtain ⟨v, hv⟩ := h; exact hv.flt
  clear h
  have kp : ∀ o1 o2 o3 o4 : Obj, Kept No w ((((w.alloc o1).alloc o2).alloc o3).alloc o4) := fun o1 o2 o3 o4 => ((((Kept.refl No w).alloc _).alloc _).alloc _).alloc _
  by_cases he : e = 0
  · subst he
    obtain ⟨W, hW⟩ : ∃ W, W = ((((w.alloc (.cells #[.pointer (some ⟨p, 0, none⟩)] 49)).alloc (.cells #[.slice a n c] 62)).alloc (.cells #[.int .i64 most] 3)).alloc (.cells #[.func (.func 94) #[] #[]] 152)) := ⟨_, rfl⟩
    have d4 : W.cell? ⟨w.heap.size + 1 + 1 + 1, 0, none⟩ = some (.func (.func 94) #[] #[]) := by rw [hW]; exact cell_new _ _ _ _ (by simp)
    have d2 : W.cell? ⟨w.heap.size + 1 + 1, 0, none⟩ = some (.int .i64 most) := by rw [hW, cell_old _ _ _ (by simp)]; exact cell_new _ _ _ _ (by simp)
    have d1 : W.cell? ⟨w.heap.size + 1, 0, none⟩ = some (.slice a n c) := by rw [hW, cell_old _ _ _ (by simp <;> omega), cell_old _ _ _ (by simp)]; exact cell_new _ _ _ _ (by simp)
    have d3 : W.cell? ⟨w.heap.size, 0, none⟩ = some (.pointer (some ⟨p, 0, none⟩)) := by rw [hW, cell_old _ _ _ (by simp <;> omega), cell_old _ _ _ (by simp <;> omega), cell_old _ _ _ (by simp)]; exact cell_new _ _ _ _ rfl
    have hkW : Kept No w W := by rw [hW]; exact kp _ _ _ _
    have hWr : Wr W F p bs 0 := H.out.kept hkW (fun _ _ h => h)
    have hZW : Ls 2 elSm W G a n c xs := hZ.kept hkW (fun _ _ h => h) (elSm_kept hkW (fun _ _ h => h))
    have cc := gate_putSm _ _ _ _ p _ (fun w' => ∃ e1, WrDid F p (wl tlSm (bs, 0) xs most).1 e1 W w') (wl tlSm (bs, 0) xs most).2 hWr.c1 (putList1_Sm F G p bs a n c xs most _ _ _ _ _ hWr hZW (fun j hj => ⟨(hGF j hj).1, Nat.lt_of_lt_of_le (hGF j hj).2 hkW.size⟩) hm0 hsz (fun hf => by have := hflt _ hf; omega) (fun hf => by have := hflt _ hf; omega) d1 d2 d3 d4 (fun hf => by have := hflt _ hf; omega)) (fun _ ⟨_, h⟩ => h.cells)
    rw [hW] at cc
    have HK : Hid (Kept No w ((((w.alloc (.cells #[.pointer (some ⟨p, 0, none⟩)] 49)).alloc (.cells #[.slice a n c] 62)).alloc (.cells #[.int .i64 most] 3)).alloc (.cells #[.func (.func 94) #[] #[]] 152))) := kp _ _ _ _
    clear d1 d2 d3 d4 hWr hW hZW hkW hflt kp hGF hZ
    go_enter Tryz.func140, Tryz.ntmps140
    go_wp2_with (go_at_call 56; refine cc.mono ?_; rintro ex w1 ⟨rfl, w2, ⟨e1, hd⟩, rfl⟩)
    go_end0
    exact ⟨rfl, (hd.put1 _).ahead HK.out⟩
  · have he2 : (e == 0) = false := by simpa using he
    rw [show wl tlSm (bs, e) xs most = (bs, e) from if_pos he]
    have c1 : ∀ o1 o2 o3 o4 : Obj, ((((w.alloc o1).alloc o2).alloc o3).alloc o4).cell? ⟨p, 1, none⟩ = some (.int .i64 e) := fun o1 o2 o3 o4 => (H.out.kept (kp o1 o2 o3 o4) (fun _ _ h => h)).c1
    have KP : Hid (∀ o1 o2 o3 o4 : Obj, Kept No w ((((w.alloc o1).alloc o2).alloc o3).alloc o4)) := kp
    clear hZ hGF hflt kp
    go_enter Tryz.func140, Tryz.ntmps140
    go_wp2_with (go_at_call 56; refine (gate_no _ p e _ (c1 _ _ _ _) he2).mono ?_; rintro ex w1 ⟨rfl, rfl⟩)
    go_end0
    exact ⟨rfl, WrDid.still H.out (KP.out _ _ _ _)⟩

set_option maxHeartbeats 1000000 in
theorem put_Sm (F G : Nat → Prop) (p : Nat) (bs : List Nat) (e : Int) (a : Option Addr) (n c : Nat) (xs : List Sm) (w : World) (h : Wr w F p bs e) (hZ : Ls 2 elSm w G a n c xs) (hGF : ∀ k, G k → ¬ F k ∧ k < w.heap.size) (hsz : bs.length ≤ 100000000000) :
    Calls Tryz.prog 93 #[.pointer (some ⟨p, 0, none⟩), .slice a n c, .func (.func 94) #[] #[]] w fun ex w' => ex = .returned (.tuple #[]) ∧ WrDid F p (wp tlSm (bs, e) xs).1 (wp tlSm (bs, e) xs).2 w w' := by
  have cl := len_any F p bs e w h
  have cc := putList_Sm F G p bs e a n c xs (1048576 - (bs.length : Int)) w h hZ hGF (by omega) hsz
  clear h hZ hGF
  unfold wp
  dsimp only
  go_enter Tryz.func93, Tryz.ntmps93
  go_wp2_with (first
    | (go_at_call 84; refine cl.mono ?_; rintro ex w1 ⟨rfl, hw1⟩; obtain rfl := hw1.symm)
    | (go_at_call 140; refine cc.mono ?_; rintro ex w1 ⟨rfl, hd⟩))
  go_end0
  exact ⟨rfl, hd⟩

end Go.Proofs.YtolmhoenjcinjaaGreat

namespace Go.Proofs.YtolmhoenjcinjaaGreat
open Go.RowKit
set_option linter.unusedVariables false
set_option maxRecDepth 100000

set_option maxHeartbeats 1000000 in
theorem gate_putBf (q0 q1 q2 q3 : Value) (p : Nat) (w : World) (R : World → Prop) (e1 : Int) (c1 : w.cell? ⟨p, 1, none⟩ = some (.int .i64 0))
    (hdo : Calls Tryz.prog 167 #[q0, q1, q2, q3] w fun ex w1 => ex = .returned (.int .i64 e1) ∧ R w1) (hR : ∀ w1, R w1 → (∃ u, w1.cell? ⟨p, 1, none⟩ = some (.int .i64 u)) ∧ w1.frozen? ⟨p, 1, none⟩ = false) :
    Calls Tryz.prog 56 #[.pointer (some ⟨p, 0, none⟩), .func (.func 167) #[] #[q0, q1, q2, q3]] w fun ex w' => ex = .returned (.tuple #[]) ∧ ∃ w1, R w1 ∧ w' = w1.setCell ⟨p, 1, none⟩ (.int .i64 e1) := by
  have HR : Hid (∀ w1, R w1 → (∃ u, w1.cell? ⟨p, 1, none⟩ = some (.int .i64 u)) ∧ w1.frozen? ⟨p, 1, none⟩ = false) := hR
  clear hR
  go_enter Tryz.func56, Tryz.ntmps56
  go_wp2_with (go_at_call 167; refine hdo.mono ?_; rintro ex w1 ⟨rfl, hr⟩; obtain ⟨⟨u, c11⟩, f11⟩ := HR.out w1 hr)
  go_end0
  exact ⟨rfl, w1, hr, rfl⟩

set_option maxHeartbeats 4000000 in
theorem putList1_Bf (F G : Nat → Prop) (p : Nat) (bs : List Nat) (a : Option Addr) (n c : Nat) (xs : List Bf) (most : Int) (w : World) (b1 b2 b3 b4 : Nat) (h : Wr w F p bs 0) (hZ : Ls 2 elBf w G a n c xs) (hGF : ∀ k, G k → ¬ F k ∧ k < w.heap.size) (hm0 : most ≤ 1048576) (hsz : bs.length ≤ 100000000000)
    (hn3 : ¬ F b3) (hn4 : ¬ F b4)
    (d1 : w.cell? ⟨b1, 0, none⟩ = some (.slice a n c)) (d2 : w.cell? ⟨b2, 0, none⟩ = some (.int .i64 most)) (d3 : w.cell? ⟨b3, 0, none⟩ = some (.pointer (some ⟨p, 0, none⟩))) (d4 : w.cell? ⟨b4, 0, none⟩ = some (.func (.func 98) #[] #[])) (hn1 : ¬ F b1) :
    Calls Tryz.prog 167 #[.pointer (some ⟨b1, 0, none⟩), .pointer (some ⟨b2, 0, none⟩), .pointer (some ⟨b3, 0, none⟩), .pointer (some ⟨b4, 0, none⟩)] w fun ex w' => ex = .returned (.int .i64 (wl tlBf (bs, 0) xs most).2) ∧ ∃ e1, WrDid F p (wl tlBf (bs, 0) xs most).1 e1 w w' := by
  have hl := hZ.len
  have HL : Hid (xs.length = n) := hl
  have HZ : Hid (Ls 2 elBf w G a n c xs) := hZ
  have HGF : Hid (∀ k, G k → ¬ F k ∧ k < w.heap.size) := hGF
  have HW : Hid (Wr w F p bs 0) := h
  clear hZ hGF h hl
  by_cases hm : most < (n : Int)
  · have e1 : wl tlBf (bs, 0) xs most = (bs, 1) := by unfold wl; rw [if_neg (by simp), if_pos (by rw [HL.out]; exact hm)]
    rw [e1]
    clear e1
    go_enter Tryz.func167, Tryz.ntmps167
    go_wp2
    go_ret
    exact ⟨rfl, 0, WrDid.still HW.out (Kept.refl _ _)⟩
  · obtain ⟨s0, hs0⟩ : ∃ s0 : St, s0 = (bs ++ be n 4, 0) := ⟨_, rfl⟩
    have e1 : wl tlBf (bs, 0) xs most = xs.foldl tlBf s0 := by unfold wl; rw [if_neg (by simp), if_neg (by rw [HL.out]; exact hm), HL.out, hs0]
    have c47 := u32_any F p bs 0 n w HW.out (by omega) (by omega)
    have hfit := num_fit bs n 4 (by omega) (by omega)
    rw [hfit.1, hfit.2, Int.toNat_natCast] at c47
    have e2 : bs ++ be n 4 = s0.1 := by rw [hs0]
    have e3 : (0 : Int) = s0.2 := by rw [hs0]
    have hs0l : s0.1.length ≤ bs.length + 4 := by rw [← e2, List.length_append, be_length]; omega
    rw [e1]
    rw [e2] at c47
    rw [show WrDid F p s0.1 0 = WrDid F p s0.1 s0.2 by rw [← e3]] at c47
    obtain ⟨fin, hfin⟩ : ∃ fin, fin = xs.foldl tlBf s0 := ⟨_, rfl⟩
    have HFIN : Hid (fin = xs.foldl tlBf s0) := hfin
    rw [← hfin]
    clear e1 e2 e3 hs0 hfin hfit
    go_enter Tryz.func167, Tryz.ntmps167
    go_upto_region 4 with (go_at_call 60; refine c47.mono ?_; rintro ex w1 ⟨rfl, hd⟩)
    obtain ⟨F1, hw1, hk1, hf1⟩ := hd
    have D1 : w1.cell? ⟨b1, 0, none⟩ = some (.slice a n c) := hk1.cell d1 hn1
    have HW1 : Hid (Wr w1 F1 p s0.1 s0.2 ∧ Went F w w1 F1) := ⟨hw1, hk1, hf1⟩
    clear hw1 hk1 hf1 c47
    go_wp2
    go_loopw [17] (fun i wr => ∃ k : Nat, k ≤ n ∧ i = .int .i64 k ∧ ∃ F', Wr wr F' p ((xs.take k).foldl tlBf s0).1 ((xs.take k).foldl tlBf s0).2 ∧ Went F w wr F') (fun i _ => n - (intOf i).toNat)
    case atStart => exact ⟨0, by omega, rfl, F1, HW1.out.1, HW1.out.2⟩
    case round =>
      obtain ⟨k, hk, rfl, F', hwr, hwent⟩ := hrel
      clear HW1 D1
      have hfl := fold_few tfBf.tl (xs.take k) s0
      have hfl2 : ((xs.take k).foldl tlBf s0).1.length ≤ 1000000000000 := by
        rw [List.length_take] at hfl
        have hq : 48 * min k xs.length ≤ 48 * 1048576 := Nat.mul_le_mul_left _ (by omega)
        omega
      have HWENT : Hid (Went F w wr F') := hwent
      by_cases hlt : k < n
      · obtain ⟨x, hx⟩ : ∃ x, xs[k]? = some x := ⟨_, List.getElem?_eq_getElem (by rw [HL.out]; exact hlt)⟩
        obtain ⟨b, o, cs, rfl, hGb, hcl, hr, hE⟩ := HZ.out.at' k x hx
        have hGF' : ∀ k, G k → ¬ F' k ∧ k < wr.heap.size := fun j hj => ⟨fun hf => by rcases hwent.2 j hf with h1 | h1; exact (HGF.out j hj).1 h1; have := (HGF.out j hj).2; omega, by have := (HGF.out j hj).2; have := hwent.1.size; omega⟩
        have HE : Hid (elBf wr G cs x) := elBf_kept hwent.1 (fun b hb => (HGF.out b hb).1) cs x hE
        have hcs := hE.1
        subst hcs
        have r0 : wr.cell? ⟨b, o + k * 2, none⟩ = some (.int .i64 x.sz) := hwent.1.cell (hr 0 _ rfl) (HGF.out b hGb).1
        have r1 : wr.cell? ⟨b, o + k * 2 + 1, none⟩ = some (.int .i64 x.dp) := hwent.1.cell (hr 1 _ rfl) (HGF.out b hGb).1
        have hst := fold_take tlBf xs s0 k x hx
        have hrest := fold_rest tfBf.tl.stuck xs s0 k
        obtain ⟨S, hS⟩ : ∃ S, S = (xs.take k).foldl tlBf s0 := ⟨_, rfl⟩
        rw [← hS] at hst hrest hwr hfl2
        obtain ⟨sb, se⟩ := S
        simp only at hst hrest hwr hfl2
        have HST : Hid ((xs.take (k + 1)).foldl tlBf s0 = tlBf (sb, se) x) := hst
        have HRS : Hid (se ≠ 0 → fin = (sb, se)) := fun h => HFIN.out.trans (hrest h)
        have HWR : Hid (Wr wr F' p sb se) := hwr
        have HG2 : Hid (∀ k, G k → ¬ F' k ∧ k < wr.heap.size) := hGF'
        have D3 : Hid (wr.cell? ⟨b3, 0, none⟩ = some (.pointer (some ⟨p, 0, none⟩))) := hwent.1.cell d3 hn3
        have D4 : Hid (wr.cell? ⟨b4, 0, none⟩ = some (.func (.func 98) #[] #[])) := hwent.1.cell d4 hn4
        clear hst hS hwent hx hrest hwr hr hcl hE hGF' hfl

        have hk2 : Kept No wr (wr.alloc (.cells #[.int .i64 x.sz, .int .i64 x.dp] 128)) := (Kept.refl No wr).alloc _
        have HK2 : Hid (Kept No wr (wr.alloc (.cells #[.int .i64 x.sz, .int .i64 x.dp] 128))) := hk2
        have HB : Hid ((wr.alloc (.cells #[.int .i64 x.sz, .int .i64 x.dp] 128)).heap[wr.heap.size]? = some (.cells #[.int .i64 x.sz, .int .i64 x.dp] 128 (0, 0))) := heap_alloc_new wr _
        clear hk2
        go_upto_region 7 with fail
        generalize hW2 : wr.alloc (.cells #[.int .i64 x.sz, .int .i64 x.dp] 128) = w2 at *
        clear r0 r1
        have r0 : w2.cell? ⟨wr.heap.size, 0, none⟩ = some (.int .i64 x.sz) := by simp [World.cell?, HB.out]
        have r1 : w2.cell? ⟨wr.heap.size, 1, none⟩ = some (.int .i64 x.dp) := by simp [World.cell?, HB.out]
        have d3' : w2.cell? ⟨b3, 0, none⟩ = some (.pointer (some ⟨p, 0, none⟩)) := HK2.out.cell D3.out (fun h => h)
        have d4' : w2.cell? ⟨b4, 0, none⟩ = some (.func (.func 98) #[] #[]) := HK2.out.cell D4.out (fun h => h)
        have hwr2 : Wr w2 F' p sb se := HWR.out.kept HK2.out (fun _ _ h => h)
        have hfc1 := hwr2.c1
        by_cases hse : se = 0
        · subst hse
          have cp := tellBf F' G p sb 0 x w2 hwr2 (elBf_kept HK2.out (fun _ _ h => h) _ x HE.out) (fun j hj => ⟨(HG2.out j hj).1, Nat.lt_of_lt_of_le (HG2.out j hj).2 HK2.out.size⟩) (by omega)
          clear hwr2
          go_wp2_with (go_at_call 98; refine cp.mono ?_; rintro ex w3 ⟨rfl, hd2⟩)
          go_roundw
          case rel =>
            obtain ⟨F2, hw2, hwe2⟩ := hd2.ahead HK2.out
            refine ⟨k + 1, by omega, by go_num, F2, ?_, HWENT.out.trans hwe2⟩
            rw [HST.out]; exact hw2
          case measure => simp [intOf]; omega
        · have hse2 : (se == 0) = false := by simpa using hse
          have hff : fin = (sb, se) := HRS.out hse
          subst hff
          clear hwr2 hse
          go_wp2
          go_ret
          exact ⟨rfl, se, F', HWR.out.kept HK2.out (fun _ _ h => h), HWENT.out.1.trans HK2.out (fun _ h => h.elim), HWENT.out.2⟩
      · have hkn : k = n := by omega
        subst hkn
        have hff : fin = (xs.take k).foldl tlBf s0 := HFIN.out.trans (by rw [List.take_of_length_le (by rw [HL.out]; omega)])
        rw [← hff] at hwr
        obtain ⟨sb, se⟩ := fin
        simp only at hwr ⊢
        have hfc1 := hwr.c1
        have d3' : wr.cell? ⟨b3, 0, none⟩ = some (.pointer (some ⟨p, 0, none⟩)) := hwent.1.cell d3 hn3
        have HWR : Hid (Wr wr F' p sb se) := hwr
        clear hwr hff hfl hwent hfl2
        go_wp2
        go_ret
        exact ⟨rfl, se, F', HWR.out, HWENT.out⟩


set_option maxHeartbeats 1000000 in
theorem putList_Bf (F G : Nat → Prop) (p : Nat) (bs : List Nat) (e : Int) (a : Option Addr) (n c : Nat) (xs : List Bf) (most : Int) (w : World) (h : Wr w F p bs e) (hZ : Ls 2 elBf w G a n c xs) (hGF : ∀ k, G k → ¬ F k ∧ k < w.heap.size) (hm0 : most ≤ 1048576) (hsz : bs.length ≤ 100000000000) :
    Calls Tryz.prog 142 #[.pointer (some ⟨p, 0, none⟩), .slice a n c, .int .i64 most, .func (.func 98) #[] #[]] w fun ex w' => ex = .returned (.tuple #[]) ∧ WrDid F p (wl tlBf (bs, e) xs most).1 (wl tlBf (bs, e) xs most).2 w w' := by
  have hmf : ∀ (fn : Fn) (first cap : Array Value) (w : World), (Instr.makeFunc fn first cap).run Tryz.prog w = .ok (.func fn first cap) w := fun _ _ _ _ => rfl
  have H : Hid (Wr w F p bs e) := h
  have hflt : ∀ k, F k → k < w.heap.size := by obtain ⟨v, hv⟩ := h; exact hv.flt
  clear h
  have kp : ∀ o1 o2 o3 o4 : Obj, Kept No w ((((w.alloc o1).alloc o2).alloc o3).alloc o4) := fun o1 o2 o3 o4 => ((((Kept.refl No w).alloc _).alloc _).alloc _).alloc _
  by_cases he : e = 0
  · subst he
    obtain ⟨W, hW⟩ : ∃ W, W = ((((w.alloc (.cells #[.pointer (some ⟨p, 0, none⟩)] 49)).alloc (.cells #[.slice a n c] 64)).alloc (.cells #[.int .i64 most] 3)).alloc (.cells #[.func (.func 98) #[] #[]] 155)) := ⟨_, rfl⟩
    have d4 : W.cell? ⟨w.heap.size + 1 + 1 + 1, 0, none⟩ = some (.func (.func 98) #[] #[]) := by rw [hW]; exact cell_new _ _ _ _ (by simp)
    have d2 : W.cell? ⟨w.heap.size + 1 + 1, 0, none⟩ = some (.int .i64 most) := by rw [hW, cell_old _ _ _ (by simp)]; exact cell_new _ _ _ _ (by simp)
    have d1 : W.cell? ⟨w.heap.size + 1, 0, none⟩ = some (.slice a n c) := by rw [hW, cell_old _ _ _ (by simp <;> omega), cell_old _ _ _ (by simp)]; exact cell_new _ _ _ _ (by simp)
    have d3 : W.cell? ⟨w.heap.size, 0, none⟩ = some (.pointer (some ⟨p, 0, none⟩)) := by rw [hW, cell_old _ _ _ (by simp <;> omega), cell_old _ _ _ (by simp <;> omega), cell_old _ _ _ (by simp)]; exact cell_new _ _ _ _ rfl
    have hkW : Kept No w W := by rw [hW]; exact kp _ _ _ _
    have hWr : Wr W F p bs 0 := H.out.kept hkW (fun _ _ h => h)
    have hZW : Ls 2 elBf W G a n c xs := hZ.kept hkW (fun _ _ h => h) (elBf_kept hkW (fun _ _ h => h))
    have cc := gate_putBf _ _ _ _ p _ (fun w' => ∃ e1, WrDid F p (wl tlBf (bs, 0) xs most).1 e1 W w') (wl tlBf (bs, 0) xs most).2 hWr.c1 (putList1_Bf F G p bs a n c xs most _ _ _ _ _ hWr hZW (fun j hj => ⟨(hGF j hj).1, Nat.lt_of_lt_of_le (hGF j hj).2 hkW.size⟩) hm0 hsz (fun hf => by have := hflt _ hf; omega) (fun hf => by have := hflt _ hf; omega) d1 d2 d3 d4 (fun hf => by have := hflt _ hf; omega)) (fun _ ⟨_, h⟩ => h.cells)
    rw [hW] at cc
    have HK : Hid (Kept No w ((((w.alloc (.cells #[.pointer (some ⟨p, 0, none⟩)] 49)).alloc (.cells #[.slice a n c] 64)).alloc (.cells #[.int .i64 most] 3)).alloc (.cells #[.func (.func 98) #[] #[]] 155))) := kp _ _ _ _
    clear d1 d2 d3 d4 hWr hW hZW hkW hflt kp hGF hZ
    go_enter Tryz.func142, Tryz.ntmps142
    go_wp2_with (go_at_call 56; refine cc.mono ?_; rintro ex w1 ⟨rfl, w2, ⟨e1, hd⟩, rfl⟩)
    go_end0
    exact ⟨rfl, (hd.put1 _).ahead HK.out⟩
  · have he2 : (e == 0) = false := by simpa using he
    rw [show wl tlBf (bs, e) xs most = (bs, e) from if_pos he]
    have c1 : ∀ o1 o2 o3 o4 : Obj, ((((w.alloc o1).alloc o2).alloc o3).alloc o4).cell? ⟨p, 1, none⟩ = some (.int .i64 e) := fun o1 o2 o3 o4 => (H.out.kept (kp o1 o2 o3 o4) (fun _ _ h => h)).c1
    have KP : Hid (∀ o1 o2 o3 o4 : Obj, Kept No w ((((w.alloc o1).alloc o2).alloc o3).alloc o4)) := kp
    clear hZ hGF hflt kp
    go_enter Tryz.func142, Tryz.ntmps142
    go_wp2_with (go_at_call 56; refine (gate_no _ p e _ (c1 _ _ _ _) he2).mono ?_; rintro ex w1 ⟨rfl, rfl⟩)
    go_end0
    exact ⟨rfl, WrDid.still H.out (KP.out _ _ _ _)⟩

set_option maxHeartbeats 1000000 in
theorem put_Bf (F G : Nat → Prop) (p : Nat) (bs : List Nat) (e : Int) (a : Option Addr) (n c : Nat) (xs : List Bf) (w : World) (h : Wr w F p bs e) (hZ : Ls 2 elBf w G a n c xs) (hGF : ∀ k, G k → ¬ F k ∧ k < w.heap.size) (hsz : bs.length ≤ 100000000000) :
    Calls Tryz.prog 97 #[.pointer (some ⟨p, 0, none⟩), .slice a n c, .func (.func 98) #[] #[]] w fun ex w' => ex = .returned (.tuple #[]) ∧ WrDid F p (wp tlBf (bs, e) xs).1 (wp tlBf (bs, e) xs).2 w w' := by
  have cl := len_any F p bs e w h
  have cc := putList_Bf F G p bs e a n c xs (1048576 - (bs.length : Int)) w h hZ hGF (by omega) hsz
  clear h hZ hGF
  unfold wp
  dsimp only
  go_enter Tryz.func97, Tryz.ntmps97
  go_wp2_with (first
    | (go_at_call 84; refine cl.mono ?_; rintro ex w1 ⟨rfl, hw1⟩; obtain rfl := hw1.symm)
    | (go_at_call 142; refine cc.mono ?_; rintro ex w1 ⟨rfl, hd⟩))
  go_end0
  exact ⟨rfl, hd⟩

end Go.Proofs.YtolmhoenjcinjaaGreat

namespace Go.Proofs.YtolmhoenjcinjaaGreat
open Go.RowKit
set_option linter.unusedVariables false
set_option maxRecDepth 100000

set_option maxHeartbeats 1000000 in
theorem gate_putPo (q0 q1 q2 q3 : Value) (p : Nat) (w : World) (R : World → Prop) (e1 : Int) (c1 : w.cell? ⟨p, 1, none⟩ = some (.int .i64 0))
    (hdo : Calls Tryz.prog 143 #[q0, q1, q2, q3] w fun ex w1 => ex = .returned (.int .i64 e1) ∧ R w1) (hR : ∀ w1, R w1 → (∃ u, w1.cell? ⟨p, 1, none⟩ = some (.int .i64 u)) ∧ w1.frozen? ⟨p, 1, none⟩ = false) :
    Calls Tryz.prog 56 #[.pointer (some ⟨p, 0, none⟩), .func (.func 143) #[] #[q0, q1, q2, q3]] w fun ex w' => ex = .returned (.tuple #[]) ∧ ∃ w1, R w1 ∧ w' = w1.setCell ⟨p, 1, none⟩ (.int .i64 e1) := by
  have HR : Hid (∀ w1, R w1 → (∃ u, w1.cell? ⟨p, 1, none⟩ = some (.int .i64 u)) ∧ w1.frozen? ⟨p, 1, none⟩ = false) := hR
  clear hR
  go_enter Tryz.func56, Tryz.ntmps56
  go_wp2_with (go_at_call 143; refine hdo.mono ?_; rintro ex w1 ⟨rfl, hr⟩; obtain ⟨⟨u, c11⟩, f11⟩ := HR.out w1 hr)
  go_end0
  exact ⟨rfl, w1, hr, rfl⟩

set_option maxHeartbeats 4000000 in
theorem putList1_Po (F G : Nat → Prop) (p : Nat) (bs : List Nat) (a : Option Addr) (n c : Nat) (xs : List Po) (most : Int) (w : World) (b1 b2 b3 b4 : Nat) (h : Wr w F p bs 0) (hZ : Ls 6 elPo w G a n c xs) (hGF : ∀ k, G k → ¬ F k ∧ k < w.heap.size) (hm0 : most ≤ 1048576) (hsz : bs.length ≤ 100000000000)
    (hn3 : ¬ F b3) (hn4 : ¬ F b4)
    (d1 : w.cell? ⟨b1, 0, none⟩ = some (.slice a n c)) (d2 : w.cell? ⟨b2, 0, none⟩ = some (.int .i64 most)) (d3 : w.cell? ⟨b3, 0, none⟩ = some (.pointer (some ⟨p, 0, none⟩))) (d4 : w.cell? ⟨b4, 0, none⟩ = some (.func (.func 52) #[] #[])) (hn1 : ¬ F b1) :
    Calls Tryz.prog 143 #[.pointer (some ⟨b1, 0, none⟩), .pointer (some ⟨b2, 0, none⟩), .pointer (some ⟨b3, 0, none⟩), .pointer (some ⟨b4, 0, none⟩)] w fun ex w' => ex = .returned (.int .i64 (wl tlPo (bs, 0) xs most).2) ∧ ∃ e1, WrDid F p (wl tlPo (bs, 0) xs most).1 e1 w w' := by
  have hl := hZ.len
  have HL : Hid (xs.length = n) := hl
  have HZ : Hid (Ls 6 elPo w G a n c xs) := hZ
  have HGF : Hid (∀ k, G k → ¬ F k ∧ k < w.heap.size) := hGF
  have HW : Hid (Wr w F p bs 0) := h
  clear hZ hGF h hl
  by_cases hm : most < (n : Int)
  · have e1 : wl tlPo (bs, 0) xs most = (bs, 1) := by unfold wl; rw [if_neg (by simp), if_pos (by rw [HL.out]; exact hm)]
    rw [e1]
    clear e1
    go_enter Tryz.func143, Tryz.ntmps143
    go_wp2
    go_ret
    exact ⟨rfl, 0, WrDid.still HW.out (Kept.refl _ _)⟩
  · obtain ⟨s0, hs0⟩ : ∃ s0 : St, s0 = (bs ++ be n 4, 0) := ⟨_, rfl⟩
    have e1 : wl tlPo (bs, 0) xs most = xs.foldl tlPo s0 := by unfold wl; rw [if_neg (by simp), if_neg (by rw [HL.out]; exact hm), HL.out, hs0]
    have c47 := u32_any F p bs 0 n w HW.out (by omega) (by omega)
    have hfit := num_fit bs n 4 (by omega) (by omega)
    rw [hfit.1, hfit.2, Int.toNat_natCast] at c47
    have e2 : bs ++ be n 4 = s0.1 := by rw [hs0]
    have e3 : (0 : Int) = s0.2 := by rw [hs0]
    have hs0l : s0.1.length ≤ bs.length + 4 := by rw [← e2, List.length_append, be_length]; omega
    rw [e1]
    rw [e2] at c47
    rw [show WrDid F p s0.1 0 = WrDid F p s0.1 s0.2 by rw [← e3]] at c47
    obtain ⟨fin, hfin⟩ : ∃ fin, fin = xs.foldl tlPo s0 := ⟨_, rfl⟩
    have HFIN : Hid (fin = xs.foldl tlPo s0) := hfin
    rw [← hfin]
    clear e1 e2 e3 hs0 hfin hfit
    go_enter Tryz.func143, Tryz.ntmps143
    go_upto_region 4 with (go_at_call 60; refine c47.mono ?_; rintro ex w1 ⟨rfl, hd⟩)
    obtain ⟨F1, hw1, hk1, hf1⟩ := hd
    have D1 : w1.cell? ⟨b1, 0, none⟩ = some (.slice a n c) := hk1.cell d1 hn1
    have HW1 : Hid (Wr w1 F1 p s0.1 s0.2 ∧ Went F w w1 F1) := ⟨hw1, hk1, hf1⟩
    clear hw1 hk1 hf1 c47
    go_wp2
    go_loopw [17] (fun i wr => ∃ k : Nat, k ≤ n ∧ i = .int .i64 k ∧ ∃ F', Wr wr F' p ((xs.take k).foldl tlPo s0).1 ((xs.take k).foldl tlPo s0).2 ∧ Went F w wr F') (fun i _ => n - (intOf i).toNat)
    case atStart => exact ⟨0, by omega, rfl, F1, HW1.out.1, HW1.out.2⟩
    case round =>
      obtain ⟨k, hk, rfl, F', hwr, hwent⟩ := hrel
      clear HW1 D1
      have hfl := fold_few tfPo.tl (xs.take k) s0
      have hfl2 : ((xs.take k).foldl tlPo s0).1.length ≤ 1000000000000 := by
        rw [List.length_take] at hfl
        have hq : 48 * min k xs.length ≤ 48 * 1048576 := Nat.mul_le_mul_left _ (by omega)
        omega
      have HWENT : Hid (Went F w wr F') := hwent
      by_cases hlt : k < n
      · obtain ⟨x, hx⟩ : ∃ x, xs[k]? = some x := ⟨_, List.getElem?_eq_getElem (by rw [HL.out]; exact hlt)⟩
        obtain ⟨b, o, cs, rfl, hGb, hcl, hr, hE⟩ := HZ.out.at' k x hx
        have hGF' : ∀ k, G k → ¬ F' k ∧ k < wr.heap.size := fun j hj => ⟨fun hf => by rcases hwent.2 j hf with h1 | h1; exact (HGF.out j hj).1 h1; have := (HGF.out j hj).2; omega, by have := (HGF.out j hj).2; have := hwent.1.size; omega⟩
        have HE : Hid (elPo wr G cs x) := elPo_kept hwent.1 (fun b hb => (HGF.out b hb).1) cs x hE
        have hcs := hE.1
        subst hcs
        have r0 : wr.cell? ⟨b, o + k * 6, none⟩ = some (.int .i64 x.pt) := hwent.1.cell (hr 0 _ rfl) (HGF.out b hGb).1
        have r1 : wr.cell? ⟨b, o + k * 6 + 1, none⟩ = some (.int .i64 x.kd) := hwent.1.cell (hr 1 _ rfl) (HGF.out b hGb).1
        have r2 : wr.cell? ⟨b, o + k * 6 + 2, none⟩ = some (.bool x.out) := hwent.1.cell (hr 2 _ rfl) (HGF.out b hGb).1
        have r3 : wr.cell? ⟨b, o + k * 6 + 3, none⟩ = some (.int .i64 x.sz) := hwent.1.cell (hr 3 _ rfl) (HGF.out b hGb).1
        have r4 : wr.cell? ⟨b, o + k * 6 + 4, none⟩ = some (.int .i64 x.dp) := hwent.1.cell (hr 4 _ rfl) (HGF.out b hGb).1
        have r5 : wr.cell? ⟨b, o + k * 6 + 5, none⟩ = some (.int .i64 x.rf) := hwent.1.cell (hr 5 _ rfl) (HGF.out b hGb).1
        have hst := fold_take tlPo xs s0 k x hx
        have hrest := fold_rest tfPo.tl.stuck xs s0 k
        obtain ⟨S, hS⟩ : ∃ S, S = (xs.take k).foldl tlPo s0 := ⟨_, rfl⟩
        rw [← hS] at hst hrest hwr hfl2
        obtain ⟨sb, se⟩ := S
        simp only at hst hrest hwr hfl2
        have HST : Hid ((xs.take (k + 1)).foldl tlPo s0 = tlPo (sb, se) x) := hst
        have HRS : Hid (se ≠ 0 → fin = (sb, se)) := fun h => HFIN.out.trans (hrest h)
        have HWR : Hid (Wr wr F' p sb se) := hwr
        have HG2 : Hid (∀ k, G k → ¬ F' k ∧ k < wr.heap.size) := hGF'
        have D3 : Hid (wr.cell? ⟨b3, 0, none⟩ = some (.pointer (some ⟨p, 0, none⟩))) := hwent.1.cell d3 hn3
        have D4 : Hid (wr.cell? ⟨b4, 0, none⟩ = some (.func (.func 52) #[] #[])) := hwent.1.cell d4 hn4
        clear hst hS hwent hx hrest hwr hr hcl hE hGF' hfl

        have hk2 : Kept No wr (wr.alloc (.cells #[.int .i64 x.pt, .int .i64 x.kd, .bool x.out, .int .i64 x.sz, .int .i64 x.dp, .int .i64 x.rf] 70)) := (Kept.refl No wr).alloc _
        have HK2 : Hid (Kept No wr (wr.alloc (.cells #[.int .i64 x.pt, .int .i64 x.kd, .bool x.out, .int .i64 x.sz, .int .i64 x.dp, .int .i64 x.rf] 70))) := hk2
        have HB : Hid ((wr.alloc (.cells #[.int .i64 x.pt, .int .i64 x.kd, .bool x.out, .int .i64 x.sz, .int .i64 x.dp, .int .i64 x.rf] 70)).heap[wr.heap.size]? = some (.cells #[.int .i64 x.pt, .int .i64 x.kd, .bool x.out, .int .i64 x.sz, .int .i64 x.dp, .int .i64 x.rf] 70 (0, 0))) := heap_alloc_new wr _
        clear hk2
        go_upto_region 7 with fail
        generalize hW2 : wr.alloc (.cells #[.int .i64 x.pt, .int .i64 x.kd, .bool x.out, .int .i64 x.sz, .int .i64 x.dp, .int .i64 x.rf] 70) = w2 at *
        clear r0 r1 r2 r3 r4 r5
        have r0 : w2.cell? ⟨wr.heap.size, 0, none⟩ = some (.int .i64 x.pt) := by simp [World.cell?, HB.out]
        have r1 : w2.cell? ⟨wr.heap.size, 1, none⟩ = some (.int .i64 x.kd) := by simp [World.cell?, HB.out]
        have r2 : w2.cell? ⟨wr.heap.size, 2, none⟩ = some (.bool x.out) := by simp [World.cell?, HB.out]
        have r3 : w2.cell? ⟨wr.heap.size, 3, none⟩ = some (.int .i64 x.sz) := by simp [World.cell?, HB.out]
        have r4 : w2.cell? ⟨wr.heap.size, 4, none⟩ = some (.int .i64 x.dp) := by simp [World.cell?, HB.out]
        have r5 : w2.cell? ⟨wr.heap.size, 5, none⟩ = some (.int .i64 x.rf) := by simp [World.cell?, HB.out]
        have d3' : w2.cell? ⟨b3, 0, none⟩ = some (.pointer (some ⟨p, 0, none⟩)) := HK2.out.cell D3.out (fun h => h)
        have d4' : w2.cell? ⟨b4, 0, none⟩ = some (.func (.func 52) #[] #[]) := HK2.out.cell D4.out (fun h => h)
        have hwr2 : Wr w2 F' p sb se := HWR.out.kept HK2.out (fun _ _ h => h)
        have hfc1 := hwr2.c1
        by_cases hse : se = 0
        · subst hse
          have cp := tellPo F' G p sb 0 x w2 hwr2 (elPo_kept HK2.out (fun _ _ h => h) _ x HE.out) (fun j hj => ⟨(HG2.out j hj).1, Nat.lt_of_lt_of_le (HG2.out j hj).2 HK2.out.size⟩) (by omega)
          clear hwr2
          go_wp2_with (go_at_call 52; refine cp.mono ?_; rintro ex w3 ⟨rfl, hd2⟩)
          go_roundw
          case rel =>
            obtain ⟨F2, hw2, hwe2⟩ := hd2.ahead HK2.out
            refine ⟨k + 1, by omega, by go_num, F2, ?_, HWENT.out.trans hwe2⟩
            rw [HST.out]; exact hw2
          case measure => simp [intOf]; omega
        · have hse2 : (se == 0) = false := by simpa using hse
          have hff : fin = (sb, se) := HRS.out hse
          subst hff
          clear hwr2 hse
          go_wp2
          go_ret
          exact ⟨rfl, se, F', HWR.out.kept HK2.out (fun _ _ h => h), HWENT.out.1.trans HK2.out (fun _ h => h.elim), HWENT.out.2⟩
      · have hkn : k = n := by omega
        subst hkn
        have hff : fin = (xs.take k).foldl tlPo s0 := HFIN.out.trans (by rw [List.take_of_length_le (by rw [HL.out]; omega)])
        rw [← hff] at hwr
        obtain ⟨sb, se⟩ := fin
        simp only at hwr ⊢
        have hfc1 := hwr.c1
        have d3' : wr.cell? ⟨b3, 0, none⟩ = some (.pointer (some ⟨p, 0, none⟩)) := hwent.1.cell d3 hn3
        have HWR : Hid (Wr wr F' p sb se) := hwr
        clear hwr hff hfl hwent hfl2
        go_wp2
        go_ret
        exact ⟨rfl, se, F', HWR.out, HWENT.out⟩


set_option maxHeartbeats 1000000 in
theorem putList_Po (F G : Nat → Prop) (p : Nat) (bs : List Nat) (e : Int) (a : Option Addr) (n c : Nat) (xs : List Po) (most : Int) (w : World) (h : Wr w F p bs e) (hZ : Ls 6 elPo w G a n c xs) (hGF : ∀ k, G k → ¬ F k ∧ k < w.heap.size) (hm0 : most ≤ 1048576) (hsz : bs.length ≤ 100000000000) :
    Calls Tryz.prog 99 #[.pointer (some ⟨p, 0, none⟩), .slice a n c, .int .i64 most, .func (.func 52) #[] #[]] w fun ex w' => ex = .returned (.tuple #[]) ∧ WrDid F p (wl tlPo (bs, e) xs most).1 (wl tlPo (bs, e) xs most).2 w w' := by
  have hmf : ∀ (fn : Fn) (first cap : Array Value) (w : World), (Instr.makeFunc fn first cap).run Tryz.prog w = .ok (.func fn first cap) w := fun _ _ _ _ => rfl
  have H : Hid (Wr w F p bs e) := h
  have hflt : ∀ k, F k → k < w.heap.size := by obtain ⟨v, hv⟩ := h; exact hv.flt
  clear h
  have kp : ∀ o1 o2 o3 o4 : Obj, Kept No w ((((w.alloc o1).alloc o2).alloc o3).alloc o4) := fun o1 o2 o3 o4 => ((((Kept.refl No w).alloc _).alloc _).alloc _).alloc _
  by_cases he : e = 0
  · subst he
    obtain ⟨W, hW⟩ : ∃ W, W = ((((w.alloc (.cells #[.pointer (some ⟨p, 0, none⟩)] 49)).alloc (.cells #[.slice a n c] 23)).alloc (.cells #[.int .i64 most] 3)).alloc (.cells #[.func (.func 52) #[] #[]] 104)) := ⟨_, rfl⟩
    have d4 : W.cell? ⟨w.heap.size + 1 + 1 + 1, 0, none⟩ = some (.func (.func 52) #[] #[]) := by rw [hW]; exact cell_new _ _ _ _ (by simp)
    have d2 : W.cell? ⟨w.heap.size + 1 + 1, 0, none⟩ = some (.int .i64 most) := by rw [hW, cell_old _ _ _ (by simp)]; exact cell_new _ _ _ _ (by simp)
    have d1 : W.cell? ⟨w.heap.size + 1, 0, none⟩ = some (.slice a n c) := by rw [hW, cell_old _ _ _ (by simp <;> omega), cell_old _ _ _ (by simp)]; exact cell_new _ _ _ _ (by simp)
    have d3 : W.cell? ⟨w.heap.size, 0, none⟩ = some (.pointer (some ⟨p, 0, none⟩)) := by rw [hW, cell_old _ _ _ (by simp <;> omega), cell_old _ _ _ (by simp <;> omega), cell_old _ _ _ (by simp)]; exact cell_new _ _ _ _ rfl
    have hkW : Kept No w W := by rw [hW]; exact kp _ _ _ _
    have hWr : Wr W F p bs 0 := H.out.kept hkW (fun _ _ h => h)
    have hZW : Ls 6 elPo W G a n c xs := hZ.kept hkW (fun _ _ h => h) (elPo_kept hkW (fun _ _ h => h))
    have cc := gate_putPo _ _ _ _ p _ (fun w' => ∃ e1, WrDid F p (wl tlPo (bs, 0) xs most).1 e1 W w') (wl tlPo (bs, 0) xs most).2 hWr.c1 (putList1_Po F G p bs a n c xs most _ _ _ _ _ hWr hZW (fun j hj => ⟨(hGF j hj).1, Nat.lt_of_lt_of_le (hGF j hj).2 hkW.size⟩) hm0 hsz (fun hf => by have := hflt _ hf; omega) (fun hf => by have := hflt _ hf; omega) d1 d2 d3 d4 (fun hf => by have := hflt _ hf; omega)) (fun _ ⟨_, h⟩ => h.cells)
    rw [hW] at cc
    have HK : Hid (Kept No w ((((w.alloc (.cells #[.pointer (some ⟨p, 0, none⟩)] 49)).alloc (.cells #[.slice a n c] 23)).alloc (.cells #[.int .i64 most] 3)).alloc (.cells #[.func (.func 52) #[] #[]] 104))) := kp _ _ _ _
    clear d1 d2 d3 d4 hWr hW hZW hkW hflt kp hGF hZ
    go_enter Tryz.func99, Tryz.ntmps99
    go_wp2_with (go_at_call 56; refine cc.mono ?_; rintro ex w1 ⟨rfl, w2, ⟨e1, hd⟩, rfl⟩)
    go_end0
    exact ⟨rfl, (hd.put1 _).ahead HK.out⟩
  · have he2 : (e == 0) = false := by simpa using he
    rw [show wl tlPo (bs, e) xs most = (bs, e) from if_pos he]
    have c1 : ∀ o1 o2 o3 o4 : Obj, ((((w.alloc o1).alloc o2).alloc o3).alloc o4).cell? ⟨p, 1, none⟩ = some (.int .i64 e) := fun o1 o2 o3 o4 => (H.out.kept (kp o1 o2 o3 o4) (fun _ _ h => h)).c1
    have KP : Hid (∀ o1 o2 o3 o4 : Obj, Kept No w ((((w.alloc o1).alloc o2).alloc o3).alloc o4)) := kp
    clear hZ hGF hflt kp
    go_enter Tryz.func99, Tryz.ntmps99
    go_wp2_with (go_at_call 56; refine (gate_no _ p e _ (c1 _ _ _ _) he2).mono ?_; rintro ex w1 ⟨rfl, rfl⟩)
    go_end0
    exact ⟨rfl, WrDid.still H.out (KP.out _ _ _ _)⟩

set_option maxHeartbeats 1000000 in
theorem put_Po (F G : Nat → Prop) (p : Nat) (bs : List Nat) (e : Int) (a : Option Addr) (n c : Nat) (xs : List Po) (w : World) (h : Wr w F p bs e) (hZ : Ls 6 elPo w G a n c xs) (hGF : ∀ k, G k → ¬ F k ∧ k < w.heap.size) (hsz : bs.length ≤ 100000000000) :
    Calls Tryz.prog 51 #[.pointer (some ⟨p, 0, none⟩), .slice a n c, .func (.func 52) #[] #[]] w fun ex w' => ex = .returned (.tuple #[]) ∧ WrDid F p (wp tlPo (bs, e) xs).1 (wp tlPo (bs, e) xs).2 w w' := by
  have cl := len_any F p bs e w h
  have cc := putList_Po F G p bs e a n c xs (1048576 - (bs.length : Int)) w h hZ hGF (by omega) hsz
  clear h hZ hGF
  unfold wp
  dsimp only
  go_enter Tryz.func51, Tryz.ntmps51
  go_wp2_with (first
    | (go_at_call 84; refine cl.mono ?_; rintro ex w1 ⟨rfl, hw1⟩; obtain rfl := hw1.symm)
    | (go_at_call 99; refine cc.mono ?_; rintro ex w1 ⟨rfl, hd⟩))
  go_end0
  exact ⟨rfl, hd⟩

end Go.Proofs.YtolmhoenjcinjaaGreat
