/-
  PutList and put of bool.
-/
import Derived.Test.YtolmhoenjcinjaaGreatIMem
namespace Go.Proofs.YtolmhoenjcinjaaGreat
open Go.RowKit
set_option linter.unusedVariables false
set_option maxRecDepth 100000

set_option maxHeartbeats 1000000 in
theorem gate_putB (q0 q1 q2 q3 : Value) (p : Nat) (w : World) (R : World → Prop) (e1 : Int) (c1 : w.cell? ⟨p, 1, none⟩ = some (.int .i64 0))
    (hdo : Calls Tryz.prog 141 #[q0, q1, q2, q3] w fun ex w1 => ex = .returned (.int .i64 e1) ∧ R w1) (hR : ∀ w1, R w1 → (∃ u, w1.cell? ⟨p, 1, none⟩ = some (.int .i64 u)) ∧ w1.frozen? ⟨p, 1, none⟩ = false) :
    Calls Tryz.prog 56 #[.pointer (some ⟨p, 0, none⟩), .func (.func 141) #[] #[q0, q1, q2, q3]] w fun ex w' => ex = .returned (.tuple #[]) ∧ ∃ w1, R w1 ∧ w' = w1.setCell ⟨p, 1, none⟩ (.int .i64 e1) := by
  have HR : Hid (∀ w1, R w1 → (∃ u, w1.cell? ⟨p, 1, none⟩ = some (.int .i64 u)) ∧ w1.frozen? ⟨p, 1, none⟩ = false) := hR
  clear hR
  go_enter Tryz.func56, Tryz.ntmps56
  go_wp2_with (go_at_call 141; refine hdo.mono ?_; rintro ex w1 ⟨rfl, hr⟩; obtain ⟨⟨u, c11⟩, f11⟩ := HR.out w1 hr)
  go_end0
  exact ⟨rfl, w1, hr, rfl⟩

set_option maxHeartbeats 4000000 in
theorem putList1_B (F G : Nat → Prop) (p : Nat) (bs : List Nat) (a : Option Addr) (n c : Nat) (xs : List Bool) (most : Int) (w : World) (b1 b2 b3 b4 : Nat) (h : Wr w F p bs 0) (hZ : Ls 1 elB w G a n c xs) (hGF : ∀ k, G k → ¬ F k ∧ k < w.heap.size) (hm0 : most ≤ 1048576) (hsz : bs.length ≤ 100000000000)
    (hn3 : ¬ F b3) (hn4 : ¬ F b4)
    (d1 : w.cell? ⟨b1, 0, none⟩ = some (.slice a n c)) (d2 : w.cell? ⟨b2, 0, none⟩ = some (.int .i64 most)) (d3 : w.cell? ⟨b3, 0, none⟩ = some (.pointer (some ⟨p, 0, none⟩))) (d4 : w.cell? ⟨b4, 0, none⟩ = some (.func (.func 49) #[] #[])) (hn1 : ¬ F b1) :
    Calls Tryz.prog 141 #[.pointer (some ⟨b1, 0, none⟩), .pointer (some ⟨b2, 0, none⟩), .pointer (some ⟨b3, 0, none⟩), .pointer (some ⟨b4, 0, none⟩)] w fun ex w' => ex = .returned (.int .i64 (wl tlB (bs, 0) xs most).2) ∧ ∃ e1, WrDid F p (wl tlB (bs, 0) xs most).1 e1 w w' := by
  have hl := hZ.len
  have HL : Hid (xs.length = n) := hl
  have HZ : Hid (Ls 1 elB w G a n c xs) := hZ
  have HGF : Hid (∀ k, G k → ¬ F k ∧ k < w.heap.size) := hGF
  have HW : Hid (Wr w F p bs 0) := h
  clear hZ hGF h hl
  by_cases hm : most < (n : Int)
  · have e1 : wl tlB (bs, 0) xs most = (bs, 1) := by unfold wl; rw [if_neg (by simp), if_pos (by rw [HL.out]; exact hm)]
    rw [e1]
    clear e1
    go_enter Tryz.func141, Tryz.ntmps141
    go_wp2
    go_ret
    exact ⟨rfl, 0, WrDid.still HW.out (Kept.refl _ _)⟩
  · obtain ⟨s0, hs0⟩ : ∃ s0 : St, s0 = (bs ++ be n 4, 0) := ⟨_, rfl⟩
    have e1 : wl tlB (bs, 0) xs most = xs.foldl tlB s0 := by unfold wl; rw [if_neg (by simp), if_neg (by rw [HL.out]; exact hm), HL.out, hs0]
    have c47 := u32_any F p bs 0 n w HW.out (by omega) (by omega)
    have hfit := num_fit bs n 4 (by omega) (by omega)
    rw [hfit.1, hfit.2, Int.toNat_natCast] at c47
    have e2 : bs ++ be n 4 = s0.1 := by rw [hs0]
    have e3 : (0 : Int) = s0.2 := by rw [hs0]
    have hs0l : s0.1.length ≤ bs.length + 4 := by rw [← e2, List.length_append, be_length]; omega
    rw [e1]
    rw [e2] at c47
    rw [show WrDid F p s0.1 0 = WrDid F p s0.1 s0.2 by rw [← e3]] at c47
    obtain ⟨fin, hfin⟩ : ∃ fin, fin = xs.foldl tlB s0 := ⟨_, rfl⟩
    have HFIN : Hid (fin = xs.foldl tlB s0) := hfin
    rw [← hfin]
    clear e1 e2 e3 hs0 hfin hfit
    go_enter Tryz.func141, Tryz.ntmps141
    go_upto_region 4 with (go_at_call 60; refine c47.mono ?_; rintro ex w1 ⟨rfl, hd⟩)
    obtain ⟨F1, hw1, hk1, hf1⟩ := hd
    have D1 : w1.cell? ⟨b1, 0, none⟩ = some (.slice a n c) := hk1.cell d1 hn1
    have HW1 : Hid (Wr w1 F1 p s0.1 s0.2 ∧ Went F w w1 F1) := ⟨hw1, hk1, hf1⟩
    clear hw1 hk1 hf1 c47
    go_wp2
    go_loopw [17] (fun i wr => ∃ k : Nat, k ≤ n ∧ i = .int .i64 k ∧ ∃ F', Wr wr F' p ((xs.take k).foldl tlB s0).1 ((xs.take k).foldl tlB s0).2 ∧ Went F w wr F') (fun i _ => n - (intOf i).toNat)
    case atStart => exact ⟨0, by omega, rfl, F1, HW1.out.1, HW1.out.2⟩
    case round =>
      obtain ⟨k, hk, rfl, F', hwr, hwent⟩ := hrel
      clear HW1 D1
      have hfl := fold_few tfB.tl (xs.take k) s0
      have hfl2 : ((xs.take k).foldl tlB s0).1.length ≤ 1000000000000 := by
        rw [List.length_take] at hfl
        have hq : 48 * min k xs.length ≤ 48 * 1048576 := Nat.mul_le_mul_left _ (by omega)
        omega
      have HWENT : Hid (Went F w wr F') := hwent
      by_cases hlt : k < n
      · obtain ⟨x, hx⟩ : ∃ x, xs[k]? = some x := ⟨_, List.getElem?_eq_getElem (by rw [HL.out]; exact hlt)⟩
        obtain ⟨b, o, cs, rfl, hGb, hcl, hr, hE⟩ := HZ.out.at' k x hx
        have hGF' : ∀ k, G k → ¬ F' k ∧ k < wr.heap.size := fun j hj => ⟨fun hf => by rcases hwent.2 j hf with h1 | h1; exact (HGF.out j hj).1 h1; have := (HGF.out j hj).2; omega, by have := (HGF.out j hj).2; have := hwent.1.size; omega⟩
        have HE : Hid (elB wr G cs x) := elB_kept hwent.1 (fun b hb => (HGF.out b hb).1) cs x hE
        have hcs := hE
        unfold elB at hcs
        subst hcs
        have r0 : wr.cell? ⟨b, o + k, none⟩ = some (.bool x) := by have := hwent.1.cell (hr 0 _ rfl) (HGF.out b hGb).1; rw [Nat.mul_one, Nat.add_zero] at this; exact this
        have hst := fold_take tlB xs s0 k x hx
        have hrest := fold_rest tfB.tl.stuck xs s0 k
        obtain ⟨S, hS⟩ : ∃ S, S = (xs.take k).foldl tlB s0 := ⟨_, rfl⟩
        rw [← hS] at hst hrest hwr hfl2
        obtain ⟨sb, se⟩ := S
        simp only at hst hrest hwr hfl2
        have HST : Hid ((xs.take (k + 1)).foldl tlB s0 = tlB (sb, se) x) := hst
        have HRS : Hid (se ≠ 0 → fin = (sb, se)) := fun h => HFIN.out.trans (hrest h)
        have HWR : Hid (Wr wr F' p sb se) := hwr
        have HG2 : Hid (∀ k, G k → ¬ F' k ∧ k < wr.heap.size) := hGF'
        have D3 : Hid (wr.cell? ⟨b3, 0, none⟩ = some (.pointer (some ⟨p, 0, none⟩))) := hwent.1.cell d3 hn3
        have D4 : Hid (wr.cell? ⟨b4, 0, none⟩ = some (.func (.func 49) #[] #[])) := hwent.1.cell d4 hn4
        clear hst hS hwent hx hrest hwr hr hcl hE hGF' hfl

        have d3' : wr.cell? ⟨b3, 0, none⟩ = some (.pointer (some ⟨p, 0, none⟩)) := D3.out
        have d4' : wr.cell? ⟨b4, 0, none⟩ = some (.func (.func 49) #[] #[]) := D4.out
        have hwr2 : Wr wr F' p sb se := HWR.out
        have hfc1 := hwr2.c1
        by_cases hse : se = 0
        · subst hse
          have cp := bool_any F' p sb 0 x wr hwr2 (by omega)
          clear hwr2
          go_wp2_with (go_at_call 49; refine cp.mono ?_; rintro ex w3 ⟨rfl, hd2⟩)
          go_roundw
          case rel =>
            obtain ⟨F2, hw2, hwe2⟩ := hd2
            refine ⟨k + 1, by omega, by go_num, F2, ?_, HWENT.out.trans hwe2⟩
            rw [HST.out]; exact hw2
          case measure => simp [intOf]; omega
        · have hse2 : (se == 0) = false := by simpa using hse
          have hff : fin = (sb, se) := HRS.out hse
          subst hff
          clear hwr2 hse
          go_wp2
          go_ret
          exact ⟨rfl, se, F', HWR.out, HWENT.out⟩
      · have hkn : k = n := by omega
        subst hkn
        have hff : fin = (xs.take k).foldl tlB s0 := HFIN.out.trans (by rw [List.take_of_length_le (by rw [HL.out]; omega)])
        rw [← hff] at hwr
        obtain ⟨sb, se⟩ := fin
        simp only at hwr ⊢
        have hfc1 := hwr.c1
        have d3' : wr.cell? ⟨b3, 0, none⟩ = some (.pointer (some ⟨p, 0, none⟩)) := hwent.1.cell d3 hn3
        have HWR : Hid (Wr wr F' p sb se) := hwr
        clear hwr hff hfl hwent hfl2
        go_wp2
        go_ret
        exact ⟨rfl, se, F', HWR.out, HWENT.out⟩


set_option maxHeartbeats 1000000 in
theorem putList_B (F G : Nat → Prop) (p : Nat) (bs : List Nat) (e : Int) (a : Option Addr) (n c : Nat) (xs : List Bool) (most : Int) (w : World) (h : Wr w F p bs e) (hZ : Ls 1 elB w G a n c xs) (hGF : ∀ k, G k → ¬ F k ∧ k < w.heap.size) (hm0 : most ≤ 1048576) (hsz : bs.length ≤ 100000000000) :
    Calls Tryz.prog 95 #[.pointer (some ⟨p, 0, none⟩), .slice a n c, .int .i64 most, .func (.func 49) #[] #[]] w fun ex w' => ex = .returned (.tuple #[]) ∧ WrDid F p (wl tlB (bs, e) xs most).1 (wl tlB (bs, e) xs most).2 w w' := by
  have hmf : ∀ (fn : Fn) (first cap : Array Value) (w : World), (Instr.makeFunc fn first cap).run Tryz.prog w = .ok (.func fn first cap) w := fun _ _ _ _ => rfl
  have H : Hid (Wr w F p bs e) := h
  have hflt : ∀ k, F k → k < w.heap.size := by obtain ⟨v, hv⟩ := h; exact hv.flt
  clear h
  have kp : ∀ o1 o2 o3 o4 : Obj, Kept No w ((((w.alloc o1).alloc o2).alloc o3).alloc o4) := fun o1 o2 o3 o4 => ((((Kept.refl No w).alloc _).alloc _).alloc _).alloc _
  by_cases he : e = 0
  · subst he
    obtain ⟨W, hW⟩ : ∃ W, W = ((((w.alloc (.cells #[.pointer (some ⟨p, 0, none⟩)] 49)).alloc (.cells #[.slice a n c] 63)).alloc (.cells #[.int .i64 most] 3)).alloc (.cells #[.func (.func 49) #[] #[]] 99)) := ⟨_, rfl⟩
    have d4 : W.cell? ⟨w.heap.size + 1 + 1 + 1, 0, none⟩ = some (.func (.func 49) #[] #[]) := by rw [hW]; exact cell_new _ _ _ _ (by simp)
    have d2 : W.cell? ⟨w.heap.size + 1 + 1, 0, none⟩ = some (.int .i64 most) := by rw [hW, cell_old _ _ _ (by simp)]; exact cell_new _ _ _ _ (by simp)
    have d1 : W.cell? ⟨w.heap.size + 1, 0, none⟩ = some (.slice a n c) := by rw [hW, cell_old _ _ _ (by simp <;> omega), cell_old _ _ _ (by simp)]; exact cell_new _ _ _ _ (by simp)
    have d3 : W.cell? ⟨w.heap.size, 0, none⟩ = some (.pointer (some ⟨p, 0, none⟩)) := by rw [hW, cell_old _ _ _ (by simp <;> omega), cell_old _ _ _ (by simp <;> omega), cell_old _ _ _ (by simp)]; exact cell_new _ _ _ _ rfl
    have hkW : Kept No w W := by rw [hW]; exact kp _ _ _ _
    have hWr : Wr W F p bs 0 := H.out.kept hkW (fun _ _ h => h)
    have hZW : Ls 1 elB W G a n c xs := hZ.kept hkW (fun _ _ h => h) (elB_kept hkW (fun _ _ h => h))
    have cc := gate_putB _ _ _ _ p _ (fun w' => ∃ e1, WrDid F p (wl tlB (bs, 0) xs most).1 e1 W w') (wl tlB (bs, 0) xs most).2 hWr.c1 (putList1_B F G p bs a n c xs most _ _ _ _ _ hWr hZW (fun j hj => ⟨(hGF j hj).1, Nat.lt_of_lt_of_le (hGF j hj).2 hkW.size⟩) hm0 hsz (fun hf => by have := hflt _ hf; omega) (fun hf => by have := hflt _ hf; omega) d1 d2 d3 d4 (fun hf => by have := hflt _ hf; omega)) (fun _ ⟨_, h⟩ => h.cells)
    rw [hW] at cc
    have HK : Hid (Kept No w ((((w.alloc (.cells #[.pointer (some ⟨p, 0, none⟩)] 49)).alloc (.cells #[.slice a n c] 63)).alloc (.cells #[.int .i64 most] 3)).alloc (.cells #[.func (.func 49) #[] #[]] 99))) := kp _ _ _ _
    clear d1 d2 d3 d4 hWr hW hZW hkW hflt kp hGF hZ
    go_enter Tryz.func95, Tryz.ntmps95
    go_wp2_with (go_at_call 56; refine cc.mono ?_; rintro ex w1 ⟨rfl, w2, ⟨e1, hd⟩, rfl⟩)
    go_end0
    exact ⟨rfl, (hd.put1 _).ahead HK.out⟩
  · have he2 : (e == 0) = false := by simpa using he
    rw [show wl tlB (bs, e) xs most = (bs, e) from if_pos he]
    have c1 : ∀ o1 o2 o3 o4 : Obj, ((((w.alloc o1).alloc o2).alloc o3).alloc o4).cell? ⟨p, 1, none⟩ = some (.int .i64 e) := fun o1 o2 o3 o4 => (H.out.kept (kp o1 o2 o3 o4) (fun _ _ h => h)).c1
    have KP : Hid (∀ o1 o2 o3 o4 : Obj, Kept No w ((((w.alloc o1).alloc o2).alloc o3).alloc o4)) := kp
    clear hZ hGF hflt kp
    go_enter Tryz.func95, Tryz.ntmps95
    go_wp2_with (go_at_call 56; refine (gate_no _ p e _ (c1 _ _ _ _) he2).mono ?_; rintro ex w1 ⟨rfl, rfl⟩)
    go_end0
    exact ⟨rfl, WrDid.still H.out (KP.out _ _ _ _)⟩

set_option maxHeartbeats 1000000 in
theorem put_B (F G : Nat → Prop) (p : Nat) (bs : List Nat) (e : Int) (a : Option Addr) (n c : Nat) (xs : List Bool) (w : World) (h : Wr w F p bs e) (hZ : Ls 1 elB w G a n c xs) (hGF : ∀ k, G k → ¬ F k ∧ k < w.heap.size) (hsz : bs.length ≤ 100000000000) :
    Calls Tryz.prog 48 #[.pointer (some ⟨p, 0, none⟩), .slice a n c, .func (.func 49) #[] #[]] w fun ex w' => ex = .returned (.tuple #[]) ∧ WrDid F p (wp tlB (bs, e) xs).1 (wp tlB (bs, e) xs).2 w w' := by
  have cl := len_any F p bs e w h
  have cc := putList_B F G p bs e a n c xs (1048576 - (bs.length : Int)) w h hZ hGF (by omega) hsz
  clear h hZ hGF
  unfold wp
  dsimp only
  go_enter Tryz.func48, Tryz.ntmps48
  go_wp2_with (first
    | (go_at_call 84; refine cl.mono ?_; rintro ex w1 ⟨rfl, hw1⟩; obtain rfl := hw1.symm)
    | (go_at_call 95; refine cc.mono ?_; rintro ex w1 ⟨rfl, hd⟩))
  go_end0
  exact ⟨rfl, hd⟩

end Go.Proofs.YtolmhoenjcinjaaGreat
