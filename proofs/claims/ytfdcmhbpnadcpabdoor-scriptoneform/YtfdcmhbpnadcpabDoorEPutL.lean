/-
  codec.PutList of inputs; script.Encode.
-/
import Derived.Test.YtfdcmhbpnadcpabDoorEPutN
namespace Go.Proofs.YtfdcmhbpnadcpabDoor
open Go.RowKit
set_option linter.unusedVariables false
set_option linter.unusedSimpArgs false
set_option maxRecDepth 100000

set_option maxHeartbeats 1000000 in
theorem gate_putN (q0 q1 q2 q3 : Value) (p : Nat) (w : World) (R : World → Prop) (e1 : Int) (c1 : w.cell? ⟨p, 1, none⟩ = some (.int .i64 0))
    (hdo : Calls Tryd.prog 36 #[q0, q1, q2, q3] w fun ex w1 => ex = .returned (.int .i64 e1) ∧ R w1) (hR : ∀ w1, R w1 → (∃ u, w1.cell? ⟨p, 1, none⟩ = some (.int .i64 u)) ∧ w1.frozen? ⟨p, 1, none⟩ = false) :
    Calls Tryd.prog 35 #[.pointer (some ⟨p, 0, none⟩), .func (.func 36) #[] #[q0, q1, q2, q3]] w fun ex w' => ex = .returned (.tuple #[]) ∧ ∃ w1, R w1 ∧ w' = w1.setCell ⟨p, 1, none⟩ (.int .i64 e1) := by
  have HR : Hid (∀ w1, R w1 → (∃ u, w1.cell? ⟨p, 1, none⟩ = some (.int .i64 u)) ∧ w1.frozen? ⟨p, 1, none⟩ = false) := hR
  clear hR
  go_enter Tryd.func35, Tryd.ntmps35
  go_wp2_with (go_at_call 36; refine hdo.mono ?_; rintro ex w1 ⟨rfl, hr⟩; obtain ⟨⟨u, c11⟩, f11⟩ := HR.out w1 hr)
  go_end0
  exact ⟨rfl, w1, hr, rfl⟩
/-- inputs, of which so many may be -/
def plS (bs : List Nat) (xs : List Inp) : List Nat × Int := if 65536 < xs.length then (bs, 1) else xs.foldl tlN (bs ++ be xs.length 4, 0)
theorem fold_take {xs : List Inp} {k : Nat} {x : Inp} (s : List Nat × Int) (h : xs[k]? = some x) : (xs.take (k + 1)).foldl tlN s = tlN ((xs.take k).foldl tlN s) x := by
  rw [List.take_add_one, h]
  simp
theorem fold_rest {xs : List Inp} {k : Nat} (s : List Nat × Int) (h : ((xs.take k).foldl tlN s).2 ≠ 0) : xs.foldl tlN s = (xs.take k).foldl tlN s := by
  have : xs.foldl tlN s = (xs.drop k).foldl tlN ((xs.take k).foldl tlN s) := by rw [← List.foldl_append, List.take_append_drop]
  rw [this, fold_stuck h]
set_option maxHeartbeats 8000000 in
theorem putList1_N (F G : Nat → Prop) (p : Nat) (bs : List Nat) (a : Option Addr) (n c : Nat) (xs : List Inp) (w : World) (b1 b2 b3 b4 : Nat) (h : Wr w F p bs 0) (hZ : Il w G a n c xs) (hGF : ∀ k, G k → ¬ F k ∧ k < w.heap.size) (hsz : bs.length ≤ 1000)
    (hn1 : ¬ F b1) (hn3 : ¬ F b3) (hn4 : ¬ F b4)
    (d1 : w.cell? ⟨b1, 0, none⟩ = some (.slice a n c)) (d2 : w.cell? ⟨b2, 0, none⟩ = some (.int .i64 65536)) (d3 : w.cell? ⟨b3, 0, none⟩ = some (.pointer (some ⟨p, 0, none⟩))) (d4 : w.cell? ⟨b4, 0, none⟩ = some (.func (.func 20) #[] #[])) :
    Calls Tryd.prog 36 #[.pointer (some ⟨b1, 0, none⟩), .pointer (some ⟨b2, 0, none⟩), .pointer (some ⟨b3, 0, none⟩), .pointer (some ⟨b4, 0, none⟩)] w fun ex w' => ex = .returned (.int .i64 (plS bs xs).2) ∧ ∃ e1, WrDid F p (plS bs xs).1 e1 w w' := by
  have hl := hZ.len
  have hcp := hZ.cap
  have hcm := hZ.max
  have HZ := hid (And.intro hZ (And.intro hGF h))
  clear hZ hGF h
  by_cases hm : 65536 < n
  · have hmz : (65536 : Int) < (n : Int) := by omega
    rw [show plS bs xs = (bs, 1) by unfold plS; rw [if_pos (by rw [hl]; exact hm)]]
    go_enter Tryd.func36, Tryd.ntmps36
    go_wp2
    go_ret
    exact ⟨rfl, 0, WrDid.still HZ.out.2.2 (Kept.refl _ _)⟩
  · have hmz : ¬ (65536 : Int) < (n : Int) := by omega
    obtain ⟨s0, hs0⟩ : ∃ s0 : List Nat × Int, s0 = (bs ++ be n 4, 0) := ⟨_, rfl⟩
    have e2 : plS bs xs = xs.foldl tlN s0 := by unfold plS; rw [if_neg (by rw [hl]; exact hm), hl, hs0]
    have hs0l : s0.1.length ≤ 1004 := by rw [hs0]; show (bs ++ be n 4).length ≤ 1004; rw [List.length_append, be_length]; omega
    have hlen0 : ∀ k, ((xs.take k).foldl tlN s0).1.length ≤ 8000000 := fun k => by
      have h1 := fold_len (xs.take k) s0.1
      rw [show (s0.1, (0 : Int)) = s0 by rw [hs0]] at h1
      rw [List.length_take] at h1
      omega
    rw [e2]
    have cU := u32_any F p bs 0 n w HZ.out.2.2 (by omega) (by omega)
    rw [(num_fit4 bs n (by omega)).1, (num_fit4 bs n (by omega)).2] at cU
    have es1 : bs ++ be n 4 = s0.1 := by rw [hs0]
    have es2 : (0 : Int) = s0.2 := by rw [hs0]
    rw [es1] at cU
    have HS := hid (And.intro es2 hlen0)
    obtain ⟨fin, hfin⟩ : ∃ fin, fin = xs.foldl tlN s0 := ⟨_, rfl⟩
    rw [← hfin]
    have HFIN := hid hfin
    clear e2 es1 es2 hlen0 hs0 hfin hs0l
    go_enter Tryd.func36, Tryd.ntmps36
    go_upto_region 4 with (go_at_call 37; refine cU.mono ?_; rintro ex w1 ⟨rfl, hd⟩)
    obtain ⟨F1, hw1, hk1, hf1⟩ := hd
    have D1 : w1.cell? ⟨b1, 0, none⟩ = some (.slice a n c) := hk1.cell d1 hn1
    have HW1 := hid (And.intro hw1 (show Went F w w1 F1 from ⟨hk1, hf1⟩))
    clear hw1 hk1 hf1 cU
    go_wp2
    go_loopw [17] (fun i wr => ∃ k : Nat, k ≤ n ∧ i = .int .i64 k ∧ ∃ F', Wr wr F' p ((xs.take k).foldl tlN s0).1 ((xs.take k).foldl tlN s0).2 ∧ Went F w wr F') (fun i _ => n - (intOf i).toNat)
    case atStart => exact ⟨0, by omega, rfl, F1, by rw [List.take_zero, List.foldl_nil, ← HS.out.1]; exact HW1.out.1, HW1.out.2⟩
    case round =>
      obtain ⟨k, hk, rfl, F', hwr, hwent⟩ := hrel
      clear HW1 D1
      have hlen := HS.out.2 k
      by_cases hlt : k < n
      · obtain ⟨x, hx⟩ : ∃ x, xs[k]? = some x := ⟨_, List.getElem?_eq_getElem (by omega)⟩
        obtain ⟨b, o, da, dc, rfl, hGb, hc, ir⟩ := HZ.out.1.at' k x hx
        have hst := fold_take s0 hx
        have hrs := fold_rest (xs := xs) (k := k) s0
        obtain ⟨S, hS⟩ : ∃ S, S = (xs.take k).foldl tlN s0 := ⟨_, rfl⟩
        rw [← hS] at hst hwr hlen hrs
        obtain ⟨sb, se⟩ := S
        simp only at hst hwr hlen hrs
        have LD := hid (ldI (fun j v hv => hwent.1.cell (hc j v hv) (HZ.out.2.1 b hGb).1))
        have hflt : ∀ k, F' k → k < wr.heap.size := by obtain ⟨v, hv⟩ := hwr; exact hv.flt
        have HG := hid (And.intro hwr (And.intro hwent (And.intro (ir.kept hwent.1 (fun j hj hf => (HZ.out.2.1 j hj).1 hf)) (And.intro hflt (And.intro hst (fun h => HFIN.out.trans (hrs h)))))))
        have hGF' : Hid (∀ j, G j → ¬ F' j ∧ j < wr.heap.size) := fun j hj => ⟨fun hf => by
          rcases hwent.2 j hf with h1 | h1
          · exact (HZ.out.2.1 j hj).1 h1
          · have := (HZ.out.2.1 j hj).2; omega, by have h1 := (HZ.out.2.1 j hj).2; have h2 := hwent.1.size; omega⟩
        clear hwr hwent ir hc hx hst hflt hS hrs
        go_upto_region 6 with fail
        go_cut [6] (fun u wd => ∃ pb, u = .pointer (some ⟨pb, 0, none⟩) ∧ wd.heap[pb]? = some (.cells (x.val da dc) 34) ∧ Kept No wr wd)
        case first =>
          go_wp2_with (first
            | (refine l_take 20 rfl rfl (er_ldX 34 (.tmp 19) rfl (.pointer (some ⟨b, o + k * 4, none⟩)) (.agg (x.val da dc)) rfl LD.out) ?_)
            | (refine l_make 6 rfl rfl (er_alI rfl) ?_)
            | (refine l_turn rfl rfl (er_stI _ _ rfl wr.heap.size (x.val da dc) _ rfl rfl (alloc_new wr _) rfl rfl (x.val_one da dc)) ?_))
          go_meet
          exact ⟨wr.heap.size, rfl, setRow_heap _ _ _ _ _ (0, 0) (alloc_new wr _), ((Kept.refl No wr).alloc _).setRow (.inr (Nat.le_refl _)) _⟩
        case rest =>
        rename World => w3
        obtain ⟨pb, rfl, hpb, k3⟩ := hcut
        have d3' : w3.cell? ⟨b3, 0, none⟩ = some (.pointer (some ⟨p, 0, none⟩)) := k3.cell (HG.out.2.1.1.cell d3 hn3) (fun e => e)
        have d4' : w3.cell? ⟨b4, 0, none⟩ = some (.func (.func 20) #[] #[]) := k3.cell (HG.out.2.1.1.cell d4 hn4) (fun e => e)
        have hw3 : Wr w3 F' p sb se := HG.out.1.kept k3 (fun _ _ e => e)
        have hfc := hw3.c1
        by_cases hse : se = 0
        · subst hse
          have LP := hid (ldI (w := w3) (b := pb) (o := 0) (x := x) (da := da) (dc := dc) (fun j v hv => by rw [Nat.zero_add, cell_blk hpb, ← Array.getElem?_toList]; exact hv))
          have cp := hid (putInput_any F' G p sb 0 x da dc w3 hw3 (HG.out.2.2.1.keep k3) (fun j hj => ⟨(hGF'.out j hj).1, Nat.lt_of_lt_of_le (hGF'.out j hj).2 k3.size⟩) (by omega))
          have K3 := hid k3
          clear k3 hpb hw3 LD
          go_wp2_with (first
            | (refine l_take 28 rfl rfl (er_ldX 34 (.tmp 6) rfl (.pointer (some ⟨pb, 0, none⟩)) (.agg (x.val da dc)) rfl LP.out) ?_)
            | (go_at_call 20; refine cp.out.mono ?_; rintro ex w4 ⟨rfl, hd4⟩))
          obtain ⟨F4, hw4, hwe4⟩ := hd4.ahead K3.out
          refine ⟨⟨k + 1, by omega, by go_num, F4, ?_, HG.out.2.1.trans hwe4⟩, ?_⟩
          · rw [HG.out.2.2.2.2.1]; exact hw4
          · simp [intOf]; omega
        · have hse2 : (se == 0) = false := by simpa using hse
          obtain rfl := HG.out.2.2.2.2.2 hse
          have H3 := hid (And.intro hw3 k3)
          clear k3 hpb hw3 LD hse
          go_wp2
          go_ret
          exact ⟨rfl, se, F', H3.out.1, ⟨HG.out.2.1.1.trans H3.out.2 (fun _ e => e.elim), HG.out.2.1.2⟩⟩
      · obtain rfl : k = n := by omega
        rw [List.take_of_length_le (by omega), ← HFIN.out] at hwr
        obtain ⟨sb, se⟩ := fin
        simp only at hwr ⊢
        have d3' : wr.cell? ⟨b3, 0, none⟩ = some (.pointer (some ⟨p, 0, none⟩)) := hwent.1.cell d3 hn3
        have hfc := hwr.c1
        have HWR := hid (And.intro hwr hwent)
        clear hwr hwent hlen
        go_wp2
        go_ret
        exact ⟨rfl, se, F', HWR.out.1, HWR.out.2⟩
set_option maxHeartbeats 1000000 in
theorem putList_N (F G : Nat → Prop) (p : Nat) (bs : List Nat) (a : Option Addr) (n c : Nat) (xs : List Inp) (w : World) (h : Wr w F p bs 0) (hZ : Il w G a n c xs) (hGF : ∀ k, G k → ¬ F k ∧ k < w.heap.size) (hsz : bs.length ≤ 1000) :
    Calls Tryd.prog 19 #[.pointer (some ⟨p, 0, none⟩), .slice a n c, .int .i64 65536, .func (.func 20) #[] #[]] w fun ex w' => ex = .returned (.tuple #[]) ∧ WrDid F p (plS bs xs).1 (plS bs xs).2 w w' := by
  have hmf : ∀ (fn : Fn) (first cap : Array Value) (w : World), (Instr.makeFunc fn first cap).run Tryd.prog w = .ok (.func fn first cap) w := fun _ _ _ _ => rfl
  have H : Hid (Wr w F p bs 0) := h
  have hflt : ∀ k, F k → k < w.heap.size := by obtain ⟨v, hv⟩ := h; exact hv.flt
  clear h
  have kp : ∀ o1 o2 o3 o4 : Obj, Kept No w ((((w.alloc o1).alloc o2).alloc o3).alloc o4) := fun o1 o2 o3 o4 => ((((Kept.refl No w).alloc _).alloc _).alloc _).alloc _
  obtain ⟨W, hW⟩ : ∃ W, W = ((((w.alloc (.cells #[.pointer (some ⟨p, 0, none⟩)] 48)).alloc (.cells #[.slice a n c] 23)).alloc (.cells #[.int .i64 65536] 3)).alloc (.cells #[.func (.func 20) #[] #[]] 51)) := ⟨_, rfl⟩
  have d4 : W.cell? ⟨w.heap.size + 1 + 1 + 1, 0, none⟩ = some (.func (.func 20) #[] #[]) := by rw [hW]; exact cell_new _ _ _ _ (by simp)
  have d2 : W.cell? ⟨w.heap.size + 1 + 1, 0, none⟩ = some (.int .i64 65536) := by rw [hW, cell_old _ _ _ (by simp)]; exact cell_new _ _ _ _ (by simp)
  have d1 : W.cell? ⟨w.heap.size + 1, 0, none⟩ = some (.slice a n c) := by rw [hW, cell_old _ _ _ (by simp <;> omega), cell_old _ _ _ (by simp)]; exact cell_new _ _ _ _ (by simp)
  have d3 : W.cell? ⟨w.heap.size, 0, none⟩ = some (.pointer (some ⟨p, 0, none⟩)) := by rw [hW, cell_old _ _ _ (by simp <;> omega), cell_old _ _ _ (by simp <;> omega), cell_old _ _ _ (by simp)]; exact cell_new _ _ _ _ rfl
  have hkW : Kept No w W := by rw [hW]; exact kp _ _ _ _
  have hWr : Wr W F p bs 0 := H.out.kept hkW (fun _ _ h => h)
  have cc := gate_putN _ _ _ _ p _ (fun w' => ∃ e1, WrDid F p (plS bs xs).1 e1 W w') (plS bs xs).2 hWr.c1 (putList1_N F G p bs a n c xs _ _ _ _ _ hWr (hZ.keep hkW) (fun j hj => ⟨(hGF j hj).1, Nat.lt_of_lt_of_le (hGF j hj).2 hkW.size⟩) hsz (fun hf => by have := hflt _ hf; omega) (fun hf => by have := hflt _ hf; omega) (fun hf => by have := hflt _ hf; omega) d1 d2 d3 d4) (fun w1 ⟨_, h1⟩ => h1.cells)
  rw [hW] at cc
  have HK : Hid (Kept No w ((((w.alloc (.cells #[.pointer (some ⟨p, 0, none⟩)] 48)).alloc (.cells #[.slice a n c] 23)).alloc (.cells #[.int .i64 65536] 3)).alloc (.cells #[.func (.func 20) #[] #[]] 51))) := kp _ _ _ _
  clear d1 d2 d3 d4 hWr hW hkW hflt kp hGF hZ
  go_enter Tryd.func19, Tryd.ntmps19
  go_wp2_with (go_at_call 35; refine cc.mono ?_; rintro ex w1 ⟨rfl, w2, ⟨e1, hd⟩, rfl⟩)
  go_end0
  exact ⟨rfl, (hd.put1 _).ahead HK.out⟩
end Go.Proofs.YtfdcmhbpnadcpabDoor
