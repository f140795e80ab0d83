/-
  codec.PutList of events that go.
-/
import Derived.Test.YtjhhldgbllbbhaaGreatDoorBPut
namespace Go.Proofs.YtjhhldgbllbbhaaGreatDoor
open Go.RowKit
set_option linter.unusedVariables false
set_option linter.unusedSimpArgs false
set_option maxRecDepth 100000

theorem num_fit4 (bs : List Nat) (n : Nat) (h : n < 4294967296) : numBs bs 0 (n : Int) 4 = bs ++ be n 4 ∧ numE 0 (n : Int) 4 = 0 := by
  unfold numBs numE
  have h2 : ¬ ((n : Int) < 0 ∨ (2 : Int) ^ (8 * 4) ≤ (n : Int)) := by simp; omega
  rw [if_neg (by simp), if_neg h2, if_neg (by simp), if_neg h2, Int.toNat_natCast]
  exact ⟨rfl, rfl⟩
theorem evsB_snoc (xs : List Ev) (x : Ev) : evsB (xs ++ [x]) = evsB xs ++ evB x := by simp [evsB]
/-- how many words there are -/
def wds (xs : List Ev) : Nat := (xs.map (fun x => x.d.length)).sum
theorem evsB_len (xs : List Ev) : (evsB xs).length = 28 * xs.length + 8 * wds xs := by
  induction xs with
  | nil => rfl
  | cons x xs ih => simp [evsB, wds, evB_len] at ih ⊢; omega
theorem wds_take (xs : List Ev) (k : Nat) : wds (xs.take k) ≤ wds xs := by
  induction xs generalizing k with
  | nil => simp
  | cons x xs ih =>
    cases k with
    | zero => simp [wds]
    | succ k => have := ih k; simp [wds] at this ⊢; omega
set_option maxHeartbeats 1000000 in
theorem gate_putE (q0 q1 q2 q3 : Value) (p : Nat) (w : World) (R : World → Prop) (e1 : Int) (c1 : w.cell? ⟨p, 1, none⟩ = some (.int .i64 0))
    (hdo : Calls Tryz.prog 40 #[q0, q1, q2, q3] w fun ex w1 => ex = .returned (.int .i64 e1) ∧ R w1) (hR : ∀ w1, R w1 → (∃ u, w1.cell? ⟨p, 1, none⟩ = some (.int .i64 u)) ∧ w1.frozen? ⟨p, 1, none⟩ = false) :
    Calls Tryz.prog 39 #[.pointer (some ⟨p, 0, none⟩), .func (.func 40) #[] #[q0, q1, q2, q3]] w fun ex w' => ex = .returned (.tuple #[]) ∧ ∃ w1, R w1 ∧ w' = w1.setCell ⟨p, 1, none⟩ (.int .i64 e1) := by
  have HR : Hid (∀ w1, R w1 → (∃ u, w1.cell? ⟨p, 1, none⟩ = some (.int .i64 u)) ∧ w1.frozen? ⟨p, 1, none⟩ = false) := hR
  clear hR
  go_enter Tryz.func39, Tryz.ntmps39
  go_wp2_with (go_at_call 40; refine hdo.mono ?_; rintro ex w1 ⟨rfl, hr⟩; obtain ⟨⟨u, c11⟩, f11⟩ := HR.out w1 hr)
  go_end0
  exact ⟨rfl, w1, hr, rfl⟩
set_option maxHeartbeats 8000000 in
theorem putList1_E (F G : Nat → Prop) (p : Nat) (a : Option Addr) (n c : Nat) (xs : List Ev) (w : World) (b1 b2 b3 b4 : Nat) (h : Wr w F p [] 0) (hZ : Il w G a n c xs) (hgo : ∀ x ∈ xs, x.Go) (hsm : n + wds xs ≤ 5000) (hGF : ∀ k, G k → ¬ F k ∧ k < w.heap.size)
    (hn1 : ¬ F b1) (hn3 : ¬ F b3) (hn4 : ¬ F b4)
    (d1 : w.cell? ⟨b1, 0, none⟩ = some (.slice a n c)) (d2 : w.cell? ⟨b2, 0, none⟩ = some (.int .i64 149796)) (d3 : w.cell? ⟨b3, 0, none⟩ = some (.pointer (some ⟨p, 0, none⟩))) (d4 : w.cell? ⟨b4, 0, none⟩ = some (.func (.func 22) #[] #[])) :
    Calls Tryz.prog 40 #[.pointer (some ⟨b1, 0, none⟩), .pointer (some ⟨b2, 0, none⟩), .pointer (some ⟨b3, 0, none⟩), .pointer (some ⟨b4, 0, none⟩)] w fun ex w' => ex = .returned (.int .i64 0) ∧ ∃ e1, WrDid F p (be n 4 ++ evsB xs) e1 w w' := by
  have hl := hZ.len
  have hcp := hZ.cap
  have hcm := hZ.max
  have HZ := hid (And.intro hZ (And.intro hGF h))
  have HGO := hid hgo
  have hmz : ¬ (149796 : Int) < (n : Int) := by omega
  have hlen0 : ∀ k, (be n 4 ++ evsB (xs.take k)).length ≤ 8000000 := fun k => by
    rw [List.length_append, be_length, evsB_len, List.length_take]
    have := wds_take xs k
    omega
  have cU := u32_any F p [] 0 n w h (by simp) (by omega)
  rw [(num_fit4 [] n (by omega)).1, (num_fit4 [] n (by omega)).2, List.nil_append] at cU
  have HS := hid hlen0
  clear hZ hGF h hlen0 hgo
  go_enter Tryz.func40, Tryz.ntmps40
  go_upto_region 4 with (go_at_call 41; refine cU.mono ?_; rintro ex w1 ⟨rfl, hd⟩)
  obtain ⟨F1, hw1, hk1, hf1⟩ := hd
  have D1 : w1.cell? ⟨b1, 0, none⟩ = some (.slice a n c) := hk1.cell d1 hn1
  have HW1 := hid (And.intro hw1 (show Went F w w1 F1 from ⟨hk1, hf1⟩))
  clear hw1 hk1 hf1 cU
  go_wp2
  go_loopw [17] (fun i wr => ∃ k : Nat, k ≤ n ∧ i = .int .i64 k ∧ ∃ F', Wr wr F' p (be n 4 ++ evsB (xs.take k)) 0 ∧ Went F w wr F') (fun i _ => n - (intOf i).toNat)
  case atStart => exact ⟨0, by omega, rfl, F1, by rw [List.take_zero, show evsB [] = [] from rfl, List.append_nil]; exact HW1.out.1, HW1.out.2⟩
  case round =>
    obtain ⟨k, hk, rfl, F', hwr, hwent⟩ := hrel
    clear HW1 D1
    have hlen := HS.out k
    by_cases hlt : k < n
    · obtain ⟨x, hx⟩ : ∃ x, xs[k]? = some x := ⟨_, List.getElem?_eq_getElem (by omega)⟩
      obtain ⟨b, o, da, dc, rfl, hGb, hc, ir⟩ := HZ.out.1.at' k x hx
      have hst0 : be n 4 ++ evsB (xs.take (k + 1)) = (be n 4 ++ evsB (xs.take k)) ++ evB x := by rw [take_snoc hx, evsB_snoc, List.append_assoc]
      have hst := hid hst0
      clear hst0
      have hxg : Hid x.Go := HGO.out x (List.mem_of_getElem? hx)
      obtain ⟨sb, hS⟩ : ∃ S, S = be n 4 ++ evsB (xs.take k) := ⟨_, rfl⟩
      rw [← hS] at hst hwr hlen
      have LD := hid (ldI (fun j v hv => hwent.1.cell (hc j v hv) (HZ.out.2.1 b hGb).1))
      have hflt : ∀ k, F' k → k < wr.heap.size := by obtain ⟨v, hv⟩ := hwr; exact hv.flt
      have HG := hid (And.intro hwr (And.intro hwent (And.intro (ir.kept hwent.1 (fun j hj hf => (HZ.out.2.1 j hj).1 hf)) hflt)))
      have hGF' : Hid (∀ j, G j → ¬ F' j ∧ j < wr.heap.size) := fun j hj => ⟨fun hf => by
        rcases hwent.2 j hf with h1 | h1
        · exact (HZ.out.2.1 j hj).1 h1
        · have := (HZ.out.2.1 j hj).2; omega, by have h1 := (HZ.out.2.1 j hj).2; have h2 := hwent.1.size; omega⟩
      clear hwr hwent ir hc hx hflt hS
      go_upto_region 6 with fail
      go_cut [6] (fun u wd => ∃ pb, u = .pointer (some ⟨pb, 0, none⟩) ∧ wd.heap[pb]? = some (.cells (x.val da dc) 25) ∧ Kept No wr wd)
      case first =>
        go_wp2_with (first
          | (refine l_take 20 rfl rfl (er_ldX 25 (.tmp 19) rfl (.pointer (some ⟨b, o + k * 7, none⟩)) (.agg (x.val da dc)) rfl LD.out) ?_)
          | (refine l_make 6 rfl rfl (er_alI rfl) ?_)
          | (refine l_turn rfl rfl (er_stI _ _ rfl wr.heap.size (x.val da dc) _ rfl rfl (alloc_new wr _) rfl rfl (x.val_one da dc)) ?_))
        go_meet
        exact ⟨wr.heap.size, rfl, setRow_heap _ _ _ _ _ (0, 0) (alloc_new wr _), ((Kept.refl No wr).alloc _).setRow (.inr (Nat.le_refl _)) _⟩
      case rest =>
      rename World => w3
      obtain ⟨pb, rfl, hpb, k3⟩ := hcut
      have d3' : w3.cell? ⟨b3, 0, none⟩ = some (.pointer (some ⟨p, 0, none⟩)) := k3.cell (HG.out.2.1.1.cell d3 hn3) (fun e => e)
      have d4' : w3.cell? ⟨b4, 0, none⟩ = some (.func (.func 22) #[] #[]) := k3.cell (HG.out.2.1.1.cell d4 hn4) (fun e => e)
      have hw3 : Wr w3 F' p sb 0 := HG.out.1.kept k3 (fun _ _ e => e)
      have hfc := hw3.c1
      have LP := hid (ldI (w := w3) (b := pb) (o := 0) (x := x) (da := da) (dc := dc) (fun j v hv => by rw [Nat.zero_add, cell_blk hpb, ← Array.getElem?_toList]; exact hv))
      have cp := hid (putEvent_yes F' G p sb x da dc w3 hw3 (HG.out.2.2.1.keep k3) hxg.out (fun j hj => ⟨(hGF'.out j hj).1, Nat.lt_of_lt_of_le (hGF'.out j hj).2 k3.size⟩) (by omega))
      have K3 := hid k3
      clear k3 hpb hw3 LD
      go_wp2_with (first
        | (refine l_take 28 rfl rfl (er_ldX 25 (.tmp 6) rfl (.pointer (some ⟨pb, 0, none⟩)) (.agg (x.val da dc)) rfl LP.out) ?_)
        | (go_at_call 22; refine cp.out.mono ?_; rintro ex w4 ⟨rfl, hd4⟩))
      obtain ⟨F4, hw4, hwe4⟩ := hd4.ahead K3.out
      refine ⟨⟨k + 1, by omega, by go_num, F4, ?_, HG.out.2.1.trans hwe4⟩, ?_⟩
      · rw [hst.out]; exact hw4
      · simp [intOf]; omega
    · obtain rfl : k = n := by omega
      rw [List.take_of_length_le (by omega)] at hwr
      have d3' : wr.cell? ⟨b3, 0, none⟩ = some (.pointer (some ⟨p, 0, none⟩)) := hwent.1.cell d3 hn3
      have hfc := hwr.c1
      have HWR := hid (And.intro hwr hwent)
      clear hwr hwent hlen
      go_wp2
      go_ret
      exact ⟨rfl, 0, F', HWR.out.1, HWR.out.2⟩
set_option maxHeartbeats 1000000 in
theorem putList_E (F G : Nat → Prop) (p : Nat) (a : Option Addr) (n c : Nat) (xs : List Ev) (w : World) (h : Wr w F p [] 0) (hZ : Il w G a n c xs) (hgo : ∀ x ∈ xs, x.Go) (hsm : n + wds xs ≤ 5000) (hGF : ∀ k, G k → ¬ F k ∧ k < w.heap.size) :
    Calls Tryz.prog 21 #[.pointer (some ⟨p, 0, none⟩), .slice a n c, .int .i64 149796, .func (.func 22) #[] #[]] w fun ex w' => ex = .returned (.tuple #[]) ∧ WrDid F p (be n 4 ++ evsB xs) 0 w w' := by
  have hmf : ∀ (fn : Fn) (first cap : Array Value) (w : World), (Instr.makeFunc fn first cap).run Tryz.prog w = .ok (.func fn first cap) w := fun _ _ _ _ => rfl
  have H : Hid (Wr w F p [] 0) := h
  have hflt : ∀ k, F k → k < w.heap.size := by obtain ⟨v, hv⟩ := h; exact hv.flt
  clear h
  have kp : ∀ o1 o2 o3 o4 : Obj, Kept No w ((((w.alloc o1).alloc o2).alloc o3).alloc o4) := fun o1 o2 o3 o4 => ((((Kept.refl No w).alloc _).alloc _).alloc _).alloc _
  obtain ⟨W, hW⟩ : ∃ W, W = ((((w.alloc (.cells #[.pointer (some ⟨p, 0, none⟩)] 49)).alloc (.cells #[.slice a n c] 22)).alloc (.cells #[.int .i64 149796] 3)).alloc (.cells #[.func (.func 22) #[] #[]] 52)) := ⟨_, rfl⟩
  have d4 : W.cell? ⟨w.heap.size + 1 + 1 + 1, 0, none⟩ = some (.func (.func 22) #[] #[]) := by rw [hW]; exact cell_new _ _ _ _ (by simp)
  have d2 : W.cell? ⟨w.heap.size + 1 + 1, 0, none⟩ = some (.int .i64 149796) := by rw [hW, cell_old _ _ _ (by simp)]; exact cell_new _ _ _ _ (by simp)
  have d1 : W.cell? ⟨w.heap.size + 1, 0, none⟩ = some (.slice a n c) := by rw [hW, cell_old _ _ _ (by simp <;> omega), cell_old _ _ _ (by simp)]; exact cell_new _ _ _ _ (by simp)
  have d3 : W.cell? ⟨w.heap.size, 0, none⟩ = some (.pointer (some ⟨p, 0, none⟩)) := by rw [hW, cell_old _ _ _ (by simp <;> omega), cell_old _ _ _ (by simp <;> omega), cell_old _ _ _ (by simp)]; exact cell_new _ _ _ _ rfl
  have hkW : Kept No w W := by rw [hW]; exact kp _ _ _ _
  have hWr : Wr W F p [] 0 := H.out.kept hkW (fun _ _ h => h)
  have cc := gate_putE _ _ _ _ p _ (fun w' => ∃ e1, WrDid F p (be n 4 ++ evsB xs) e1 W w') 0 hWr.c1 (putList1_E F G p a n c xs _ _ _ _ _ hWr (hZ.keep hkW) hgo hsm (fun j hj => ⟨(hGF j hj).1, Nat.lt_of_lt_of_le (hGF j hj).2 hkW.size⟩) (fun hf => by have := hflt _ hf; omega) (fun hf => by have := hflt _ hf; omega) (fun hf => by have := hflt _ hf; omega) d1 d2 d3 d4) (fun w1 ⟨_, h1⟩ => h1.cells)
  rw [hW] at cc
  have HK : Hid (Kept No w ((((w.alloc (.cells #[.pointer (some ⟨p, 0, none⟩)] 49)).alloc (.cells #[.slice a n c] 22)).alloc (.cells #[.int .i64 149796] 3)).alloc (.cells #[.func (.func 22) #[] #[]] 52))) := kp _ _ _ _
  clear d1 d2 d3 d4 hWr hW hkW hflt kp hGF hZ
  go_enter Tryz.func21, Tryz.ntmps21
  go_wp2_with (go_at_call 39; refine cc.mono ?_; rintro ex w1 ⟨rfl, w2, ⟨e1, hd⟩, rfl⟩)
  go_end0
  exact ⟨rfl, (hd.put1 _).ahead HK.out⟩
end Go.Proofs.YtjhhldgbllbbhaaGreatDoor
